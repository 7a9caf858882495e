/- Stage 12, the document's side: grammars in memory; frames. -/
import Derived.Test.YtagohbpbgjelaaaGreatDoorChecked
import Derived.RowKit3
import Derived.WalkKit
import Derived.Below
import Derived.OwnWalk
import Derived.OneCell
import Derived.Laws.OwnMore
import Derived.Laws.AppendOwn
import Derived.Laws.MakeOwn
import Derived.Laws.Strings
import Derived.Deep.OwnRows
import Derived.Deep.RegionHeld3
import Derived.Deep.QuietTactic
import Derived.BigQuiet
import Derived.KernelRfl
namespace Go.Proofs.YtagohbpbgjelaaaGreatDoor
open Go.RowKit

theorem hide {p:Prop} (h:p):Hid p:=h
theorem unhide {p:Prop} (h:Hid p):p:=h
theorem ret_bool {a b:Bool} (h:a = b):Ending.returned (.bool a) = .returned (.bool b):=by rw [h]
theorem below_le {B B':Nat} {w w':World} (h:Below B w w') (hB:B' ≤ B):Below B' w w':=h.mono hB
theorem below_drewN {B:Nat} {w w':World} (h:Below B w w') (n:Nat):Below B w (w'.drewN n):=⟨h.os,h.tape,h.output,h.size,h.block⟩
theorem own_form {w:World} {B:Nat} {e:TypeId} {size:Nat} {v:Value} {n:Nat} {xs:List Value} (h:w.ownsRow B e size v n xs):∃ a c,v = .slice a n c:=by
 rcases h.2 with ⟨rfl,rfl⟩ | ⟨g,cap,cur,rfl,_⟩
 · exact ⟨_,_,rfl⟩
 · exact ⟨_,_,rfl⟩

/-- All blocks that were there, but some, are as they were. -/
def Fr (O:Nat → Prop) (w w':World):Prop:=w.heap.size ≤ w'.heap.size ∧ (∀ k,k < w.heap.size → ¬ O k → w'.heap[k]? = w.heap[k]?) ∧ w'.os = w.os ∧ w'.tape = w.tape ∧ w'.output = w.output
theorem fr_refl (O:Nat → Prop) (w:World):Fr O w w:=⟨Nat.le_refl _,fun _ _ _ => rfl,rfl,rfl,rfl⟩
theorem fr_t {O:Nat → Prop} {a b c:World} (h:Fr O a b) (k:Fr O b c):Fr O a c:=⟨Nat.le_trans h.1 k.1,fun i hi ho => (k.2.1 i (Nat.lt_of_lt_of_le hi h.1) ho).trans (h.2.1 i hi ho),k.2.2.1.trans h.2.2.1,k.2.2.2.1.trans h.2.2.2.1,k.2.2.2.2.trans h.2.2.2.2⟩
theorem fr_mono {O O':Nat → Prop} {a b:World} (h:Fr O a b) (hO:∀ k,k < a.heap.size → O k → O' k):Fr O' a b:=⟨h.1,fun k hk ho => h.2.1 k hk (fun h' => ho (hO k hk h')),h.2.2⟩
theorem fr_set {O:Nat → Prop} {a b:World} (h:Fr O a b) {p:Addr} (hp:O p.block) (u:Value):Fr O a (b.setCell p u) :=
 fr_t h ⟨by simp [World.setCell],fun k _ ho => Below.heap_setCell _ _ _ _ (fun e => ho (e ▸ hp)),rfl,rfl,rfl⟩
theorem fr_below {B:Nat} {O:Nat → Prop} {a b:World} (h:Fr O a b) (hB:B ≤ a.heap.size) (hO:∀ k,O k → B ≤ k):Below B a b :=
 ⟨h.2.2.1,h.2.2.2.1,h.2.2.2.2,h.1,fun k hk => h.2.1 k (by omega) (fun ho => by have:=hO k ho; omega)⟩
theorem below_fr {O:Nat → Prop} {a b:World} (h:Below a.heap.size a b):Fr O a b:=⟨h.size,fun k hk _ => h.block k hk,h.os,h.tape,h.output⟩
theorem fr_new {O:Nat → Prop} {a b c:World} (h:Fr O a b) (k:Below b.heap.size b c):Fr O a c:=fr_t h (below_fr k)

/-- A text, of its bytes. -/
def bs (l:List UInt8):ByteArray:=⟨⟨l⟩⟩
theorem bs_toList (l:List UInt8):(bs l).toList = l:=by rw [ByteArray.toList_eq]; rfl
theorem bs_ne {a b:List UInt8} (h:a ≠ b):((bs a).toList == (bs b).toList) = false:=by
 rw [beq_eq_false_iff_ne,bs_toList,bs_toList]; exact h

/-- A row of texts, of numbers, of levels lies there, in blocks below B. -/
def SRow (B:Nat) (w:World) (a:Option Addr) (l:List (List UInt8)):Prop :=
 l = [] ∨ ∃ b off,a = some ⟨b,off,none⟩ ∧ b < B ∧ ∀ j,j < l.length → w.cell? ⟨b,off + j,none⟩ = some (.string (bs (l.getD j [])))
def NRow (B:Nat) (w:World) (a:Option Addr) (l:List Int):Prop :=
 l = [] ∨ ∃ b off,a = some ⟨b,off,none⟩ ∧ b < B ∧ ∀ j,j < l.length → w.cell? ⟨b,off + j,none⟩ = some (.int .i64 (l.getD j 0))
def LRow (B:Nat) (w:World) (a:Option Addr) (l:List (Int × Int)):Prop :=
 l = [] ∨ ∃ b off,a = some ⟨b,off,none⟩ ∧ b < B ∧ ∀ j,j < l.length → w.cell? ⟨b,off + j * 2,none⟩ = some (.int .i64 (l.getD j (0,0)).1) ∧ w.cell? ⟨b,off + j * 2 + 1,none⟩ = some (.int .i64 (l.getD j (0,0)).2)
inductive Ac where
 | mk (kind pick:Int) (name:List UInt8) (kids:List Ac)
mutual
/-- An action lies there. -/
def AcAt (B:Nat) (w:World):Ac → Value → Value → Value → Value → Prop
 | .mk k p n ks,v0,v1,v2,v3 => v0 = .int .i64 k ∧ v1 = .int .i64 p ∧ v2 = .string (bs n) ∧ ∃ a c vs,v3 = .slice a ks.length c ∧ AcTs B w ks vs ∧ (ks = [] ∨ ∃ b off,a = some ⟨b,off,none⟩ ∧ b < B ∧ ∀ j u,vs[j]? = some u → w.cell? ⟨b,off + j,none⟩ = some u)
def AcTs (B:Nat) (w:World):List Ac → List Value → Prop
 | [],vs => vs = []
 | t :: ts,vs => ∃ u0 u1 u2 u3 rest,vs = u0 :: u1 :: u2 :: u3 :: rest ∧ AcAt B w t u0 u1 u2 u3 ∧ AcTs B w ts rest
end
structure Pd where
 left:Int
 right:List Int
 level:Int
 act:Ac
def ac0:Ac:=.mk 0 0 [] []
def pd0:Pd:=⟨0,[],0,ac0⟩
structure Gm where
 kinds:List (List UInt8)
 precs:List (Int × Int)
 rules:List (List UInt8)
 prods:List Pd
 start:Int
/-- A production lies there. -/
def PdAt (B:Nat) (w:World) (p:Pd) (v0 v1 v2 v3 v4 v5 v6:Value):Prop :=
 v0 = .int .i64 p.left ∧ (∃ a c,v1 = .slice a p.right.length c ∧ NRow B w a p.right ∧ p.right.length ≤ c) ∧ v2 = .int .i64 p.level ∧ AcAt B w p.act v3 v4 v5 v6
def QRow (B : Nat) (w : World) (a : Option Addr) (l : List Pd) : Prop :=
 l = [] ∨ ∃ b off, a = some ⟨b, off, none⟩ ∧ b < B ∧ ∀ j, j < l.length → ∃ v0 v1 v2 v3 v4 v5 v6, PdAt B w (l.getD j pd0) v0 v1 v2 v3 v4 v5 v6 ∧
   w.cell? ⟨b,off + j * 7,none⟩ = some v0 ∧ w.cell? ⟨b,off + j * 7 + 1,none⟩ = some v1 ∧ w.cell? ⟨b,off + j * 7 + 2,none⟩ = some v2 ∧ w.cell? ⟨b,off + j * 7 + 3,none⟩ = some v3 ∧ w.cell? ⟨b,off + j * 7 + 4,none⟩ = some v4 ∧ w.cell? ⟨b,off + j * 7 + 5,none⟩ = some v5 ∧ w.cell? ⟨b,off + j * 7 + 6,none⟩ = some v6
/-- A grammar lies there. -/
def tzT:List Nat:=[0,1,56,2,57,49,28,3,61,58,42,50,38,29,17,4,62,47,59,36,45,43,51,22,53,39,33,30,24,18,12,5,63,55,48,27,60,41,37,16,46,35,44,21,52,32,23,11,54,26,40,15,34,20,31,10,25,14,19,9,13,8,7,6]
/-- The table of math/bits lies where the program has laid it. -/
def Tb (B:Nat) (w:World):Prop:=0 < B ∧ ∀ j,j < 64 → w.cell? ⟨0,j,none⟩ = some (.int .u8 (tzT.getD j 0:Nat))
theorem tb_kept {B:Nat} {w w':World} (hb:Below B w w') (h:Tb B w):Tb B w':=⟨h.1,fun j hj => (hb.cell (p:=⟨0,j,none⟩) h.1).trans (h.2 j hj)⟩
theorem tb_up {B:Nat} {w w':World} (h:Tb B w) (hB:B ≤ w.heap.size) (hb:Below B w w'):Tb w'.heap.size w':=⟨by have:=h.1; have:=hb.size; omega,(tb_kept hb h).2⟩
structure GIn (B:Nat) (w:World) (G:Gm) (ka pa ra qa:Option Addr):Prop where
 kinds:SRow B w ka G.kinds
 precs:LRow B w pa G.precs
 rules:SRow B w ra G.rules
 prods:QRow B w qa G.prods
 tab:Tb B w

theorem srow_kept {B:Nat} {w w':World} {a:Option Addr} {l:List (List UInt8)} (hb:Below B w w') (h:SRow B w a l):SRow B w' a l:=by
 rcases h with rfl | ⟨b,off,rfl,hlt,hc⟩
 · exact .inl rfl
 · exact .inr ⟨b,off,rfl,hlt,fun j hj => (hb.cell hlt).trans (hc j hj)⟩
theorem nrow_kept {B:Nat} {w w':World} {a:Option Addr} {l:List Int} (hb:Below B w w') (h:NRow B w a l):NRow B w' a l:=by
 rcases h with rfl | ⟨b,off,rfl,hlt,hc⟩
 · exact .inl rfl
 · exact .inr ⟨b,off,rfl,hlt,fun j hj => (hb.cell hlt).trans (hc j hj)⟩
theorem lrow_kept {B:Nat} {w w':World} {a:Option Addr} {l:List (Int × Int)} (hb:Below B w w') (h:LRow B w a l):LRow B w' a l:=by
 rcases h with rfl | ⟨b,off,rfl,hlt,hc⟩
 · exact .inl rfl
 · exact .inr ⟨b,off,rfl,hlt,fun j hj => ⟨(hb.cell hlt).trans (hc j hj).1,(hb.cell hlt).trans (hc j hj).2⟩⟩
mutual
theorem acAt_kept {B:Nat} {w w':World} (hb:Below B w w'):∀ (t:Ac) (v0 v1 v2 v3:Value),AcAt B w t v0 v1 v2 v3 → AcAt B w' t v0 v1 v2 v3
 | .mk k p n ks, v0, v1, v2, v3, h => by
   unfold AcAt at h ⊢
   obtain ⟨h0,h1,h2,a,c,vs,h3,hts,hc⟩:=h
   refine ⟨h0,h1,h2,a,c,vs,h3,acTs_kept hb ks vs hts,?_⟩
   rcases hc with h | ⟨b,off,h,hlt,hcs⟩
   · exact .inl h
   · exact .inr ⟨b,off,h,hlt,fun j u hj => (hb.cell hlt).trans (hcs j u hj)⟩
theorem acTs_kept {B:Nat} {w w':World} (hb:Below B w w'):∀ (ts:List Ac) (vs:List Value),AcTs B w ts vs → AcTs B w' ts vs
 | [],vs,h => by unfold AcTs at h ⊢; exact h
 | t :: ts, vs, h => by
   unfold AcTs at h ⊢
   obtain ⟨u0,u1,u2,u3,rest,rfl,h1,h2⟩:=h
   exact ⟨u0,u1,u2,u3,rest,rfl,acAt_kept hb t _ _ _ _ h1,acTs_kept hb ts rest h2⟩
end
theorem pdAt_kept {B:Nat} {w w':World} (hb:Below B w w') {p:Pd} {v0 v1 v2 v3 v4 v5 v6:Value} (h:PdAt B w p v0 v1 v2 v3 v4 v5 v6):PdAt B w' p v0 v1 v2 v3 v4 v5 v6:=by
 obtain ⟨h0,⟨a,c,h1,hn,hcl⟩,h2,h3⟩:=h
 exact ⟨h0,⟨a,c,h1,nrow_kept hb hn,hcl⟩,h2,acAt_kept hb _ _ _ _ _ h3⟩
theorem qrow_kept {B:Nat} {w w':World} {a:Option Addr} {l:List Pd} (hb:Below B w w') (h:QRow B w a l):QRow B w' a l:=by
 rcases h with rfl | ⟨b,off,rfl,hlt,hc⟩
 · exact .inl rfl
 · refine .inr ⟨b,off,rfl,hlt,fun j hj => ?_⟩
   obtain ⟨v0,v1,v2,v3,v4,v5,v6,hp,e0,e1,e2,e3,e4,e5,e6⟩:=hc j hj
   exact ⟨v0,v1,v2,v3,v4,v5,v6,pdAt_kept hb hp,(hb.cell hlt).trans e0,(hb.cell hlt).trans e1,(hb.cell hlt).trans e2,(hb.cell hlt).trans e3,(hb.cell hlt).trans e4,(hb.cell hlt).trans e5,(hb.cell hlt).trans e6⟩
theorem gin_kept {B:Nat} {w w':World} {G:Gm} {ka pa ra qa:Option Addr} (hb:Below B w w') (h:GIn B w G ka pa ra qa):GIn B w' G ka pa ra qa :=
 ⟨srow_kept hb h.kinds,lrow_kept hb h.precs,srow_kept hb h.rules,qrow_kept hb h.prods,tb_kept hb h.tab⟩
theorem srow_at {B:Nat} {w:World} {a:Option Addr} {l:List (List UInt8)} (h:SRow B w a l) {k:Nat} (hk:k < l.length):∃ b off,a = some ⟨b,off,none⟩ ∧ b < B ∧ w.cell? ⟨b,off + k,none⟩ = some (.string (bs (l.getD k []))):=by
 rcases h with rfl | ⟨b,off,h1,h2,h3⟩
 · simp at hk
 · exact ⟨b,off,h1,h2,h3 k hk⟩
theorem nrow_at {B:Nat} {w:World} {a:Option Addr} {l:List Int} (h:NRow B w a l) {k:Nat} (hk:k < l.length):∃ b off,a = some ⟨b,off,none⟩ ∧ b < B ∧ w.cell? ⟨b,off + k,none⟩ = some (.int .i64 (l.getD k 0)):=by
 rcases h with rfl | ⟨b,off,h1,h2,h3⟩
 · simp at hk
 · exact ⟨b,off,h1,h2,h3 k hk⟩
theorem lrow_at {B:Nat} {w:World} {a:Option Addr} {l:List (Int × Int)} (h:LRow B w a l) {k:Nat} (hk:k < l.length):∃ b off,a = some ⟨b,off,none⟩ ∧ b < B ∧ w.cell? ⟨b,off + k * 2,none⟩ = some (.int .i64 (l.getD k (0,0)).1) ∧ w.cell? ⟨b,off + k * 2 + 1,none⟩ = some (.int .i64 (l.getD k (0,0)).2):=by
 rcases h with rfl | ⟨b,off,h1,h2,h3⟩
 · simp at hk
 · exact ⟨b,off,h1,h2,(h3 k hk).1,(h3 k hk).2⟩
theorem acAt_form {B:Nat} {w:World} {t:Ac} {v0 v1 v2 v3:Value} (h:AcAt B w t v0 v1 v2 v3):∃ (k p:Int) (s:ByteArray) (a:Option Addr) (n c:Nat),v0 = .int .i64 k ∧ v1 = .int .i64 p ∧ v2 = .string s ∧ v3 = .slice a n c:=by
 cases t
 unfold AcAt at h
 obtain ⟨rfl,rfl,rfl,a,c,vs,rfl,-⟩:=h
 exact ⟨_,_,_,_,_,_,rfl,rfl,rfl,rfl⟩
theorem qrow_at2 {B:Nat} {w:World} {a:Option Addr} {l:List Pd} (h:QRow B w a l) {k:Nat} (hk:k < l.length):∃ b off,a = some ⟨b,off,none⟩ ∧ b < B ∧ ∃ (ra:Option Addr) (rc:Nat) (x3 x4:Int) (x5:ByteArray) (x6:Option Addr) (n6 c6:Nat),(l.getD k pd0).right.length ≤ rc ∧ NRow B w ra (l.getD k pd0).right ∧ AcAt B w (l.getD k pd0).act (.int .i64 x3) (.int .i64 x4) (.string x5) (.slice x6 n6 c6) ∧
   w.cell? ⟨b,off + k * 7,none⟩ = some (.int .i64 (l.getD k pd0).left) ∧ w.cell? ⟨b,off + k * 7 + 1,none⟩ = some (.slice ra (l.getD k pd0).right.length rc) ∧ w.cell? ⟨b,off + k * 7 + 2,none⟩ = some (.int .i64 (l.getD k pd0).level) ∧ w.cell? ⟨b,off + k * 7 + 3,none⟩ = some (.int .i64 x3) ∧ w.cell? ⟨b,off + k * 7 + 4,none⟩ = some (.int .i64 x4) ∧ w.cell? ⟨b,off + k * 7 + 5,none⟩ = some (.string x5) ∧ w.cell? ⟨b,off + k * 7 + 6,none⟩ = some (.slice x6 n6 c6):=by
 rcases h with rfl | ⟨b,off,h1,h2,h3⟩
 · simp at hk
 · obtain ⟨v0,v1,v2,v3,v4,v5,v6,⟨rfl,⟨ra,rc,rfl,hn,hcl⟩,rfl,ha⟩,e0,e1,e2,e3,e4,e5,e6⟩:=h3 k hk
   obtain ⟨x3,x4,x5,x6,n6,c6,rfl,rfl,rfl,rfl⟩:=acAt_form ha
   exact ⟨b,off,h1,h2,ra,rc,x3,x4,x5,x6,n6,c6,hcl,hn,ha,e0,e1,e2,e3,e4,e5,e6⟩
theorem qrow_at {B:Nat} {w:World} {a:Option Addr} {l:List Pd} (h:QRow B w a l) {k:Nat} (hk:k < l.length):∃ b off,a = some ⟨b,off,none⟩ ∧ b < B ∧ ∃ (ra:Option Addr) (rc:Nat) (x3 x4:Int) (x5:ByteArray) (x6:Option Addr) (n6 c6:Nat),NRow B w ra (l.getD k pd0).right ∧ AcAt B w (l.getD k pd0).act (.int .i64 x3) (.int .i64 x4) (.string x5) (.slice x6 n6 c6) ∧
   w.cell? ⟨b,off + k * 7,none⟩ = some (.int .i64 (l.getD k pd0).left) ∧ w.cell? ⟨b,off + k * 7 + 1,none⟩ = some (.slice ra (l.getD k pd0).right.length rc) ∧ w.cell? ⟨b,off + k * 7 + 2,none⟩ = some (.int .i64 (l.getD k pd0).level) ∧ w.cell? ⟨b,off + k * 7 + 3,none⟩ = some (.int .i64 x3) ∧ w.cell? ⟨b,off + k * 7 + 4,none⟩ = some (.int .i64 x4) ∧ w.cell? ⟨b,off + k * 7 + 5,none⟩ = some (.string x5) ∧ w.cell? ⟨b,off + k * 7 + 6,none⟩ = some (.slice x6 n6 c6):=by
 obtain ⟨b,off,h1,h2,ra,rc,x3,x4,x5,x6,n6,c6,-,h⟩:=qrow_at2 h hk
 exact ⟨b,off,h1,h2,ra,rc,x3,x4,x5,x6,n6,c6,h⟩
theorem run_not (x:Bool) (w:World):(Op.unary .not (.bool x)).run Tryz.prog w = .ok (.bool (!x)) w:=rfl
theorem wN (r:Nat) (h:r ≤ 281474976710656):IntKind.i64.wrap (r:Int) = r:=by rw [IntKind.wrap_i64]; omega

/-- A grammar's box, new. -/
theorem boxG (w:World) (v0 v1 v2 v3 v4:Value) (t:TypeId):(w.alloc (.cells #[v0,v1,v2,v3,v4] t)).cell? ⟨w.heap.size,0,none⟩ = some v0 ∧ (w.alloc (.cells #[v0,v1,v2,v3,v4] t)).cell? ⟨w.heap.size,1,none⟩ = some v1 ∧ (w.alloc (.cells #[v0,v1,v2,v3,v4] t)).cell? ⟨w.heap.size,2,none⟩ = some v2 ∧ (w.alloc (.cells #[v0,v1,v2,v3,v4] t)).cell? ⟨w.heap.size,3,none⟩ = some v3 ∧ (w.alloc (.cells #[v0,v1,v2,v3,v4] t)).cell? ⟨w.heap.size,4,none⟩ = some v4 ∧ (w.alloc (.cells #[v0,v1,v2,v3,v4] t)).heap.size = w.heap.size + 1 ∧ Below w.heap.size w (w.alloc (.cells #[v0,v1,v2,v3,v4] t)):=by
 refine ⟨?_,?_,?_,?_,?_,by simp,(Below.refl _ _).alloc (Nat.le_refl _) _⟩ <;> (unfold World.cell?; rw [Go.Deep.blk_alloc_new]; rfl)
/-- A production's box, new. -/
theorem boxP (w:World) (v0 v1 v2 v3 v4 v5 v6:Value) (t:TypeId):(w.alloc (.cells #[v0,v1,v2,v3,v4,v5,v6] t)).cell? ⟨w.heap.size,0,none⟩ = some v0 ∧ (w.alloc (.cells #[v0,v1,v2,v3,v4,v5,v6] t)).cell? ⟨w.heap.size,1,none⟩ = some v1 ∧ (w.alloc (.cells #[v0,v1,v2,v3,v4,v5,v6] t)).cell? ⟨w.heap.size,2,none⟩ = some v2 ∧ (w.alloc (.cells #[v0,v1,v2,v3,v4,v5,v6] t)).cell? ⟨w.heap.size,3,none⟩ = some v3 ∧ (w.alloc (.cells #[v0,v1,v2,v3,v4,v5,v6] t)).cell? ⟨w.heap.size,4,none⟩ = some v4 ∧ (w.alloc (.cells #[v0,v1,v2,v3,v4,v5,v6] t)).cell? ⟨w.heap.size,5,none⟩ = some v5 ∧ (w.alloc (.cells #[v0,v1,v2,v3,v4,v5,v6] t)).cell? ⟨w.heap.size,6,none⟩ = some v6 ∧ (w.alloc (.cells #[v0,v1,v2,v3,v4,v5,v6] t)).heap.size = w.heap.size + 1 ∧ Below w.heap.size w (w.alloc (.cells #[v0,v1,v2,v3,v4,v5,v6] t)):=by
 refine ⟨?_,?_,?_,?_,?_,?_,?_,by simp,(Below.refl _ _).alloc (Nat.le_refl _) _⟩ <;> (unfold World.cell?; rw [Go.Deep.blk_alloc_new]; rfl)

/-- A grammar lies there, and its box. -/
structure GSt (B:Nat) (w:World) (G:Gm) (ka:Option Addr) (kc:Nat) (pa:Option Addr) (pc:Nat) (ra:Option Addr) (rc:Nat) (qa:Option Addr) (qc gb:Nat):Prop where
 gin:GIn B w G ka pa ra qa
 c0:w.cell? ⟨gb,0,none⟩ = some (.slice ka G.kinds.length kc)
 c1:w.cell? ⟨gb,1,none⟩ = some (.slice pa G.precs.length pc)
 c2:w.cell? ⟨gb,2,none⟩ = some (.slice ra G.rules.length rc)
 c3:w.cell? ⟨gb,3,none⟩ = some (.slice qa G.prods.length qc)
 c4:w.cell? ⟨gb,4,none⟩ = some (.int .i64 G.start)
theorem gst_kept {B:Nat} {w w':World} {G:Gm} {ka pa ra qa:Option Addr} {kc pc rc qc gb:Nat} (hb:Below (gb + 1) w w') (hB:B ≤ gb) (h:GSt B w G ka kc pa pc ra rc qa qc gb):GSt B w' G ka kc pa pc ra rc qa qc gb :=
 ⟨gin_kept (below_le hb (by omega)) h.gin,(hb.cell (Nat.lt_succ_self _)).trans h.c0,(hb.cell (Nat.lt_succ_self _)).trans h.c1,(hb.cell (Nat.lt_succ_self _)).trans h.c2,(hb.cell (Nat.lt_succ_self _)).trans h.c3,(hb.cell (Nat.lt_succ_self _)).trans h.c4⟩
theorem gst_new {B:Nat} {w:World} {G:Gm} {ka pa ra qa:Option Addr} {kc pc rc qc:Nat} (hB:B ≤ w.heap.size) (h:GIn B w G ka pa ra qa) (t:TypeId) :
   GSt B (w.alloc (.cells #[.slice ka G.kinds.length kc,.slice pa G.precs.length pc,.slice ra G.rules.length rc,.slice qa G.prods.length qc,.int .i64 G.start] t)) G ka kc pa pc ra rc qa qc w.heap.size:=by
 obtain ⟨g0,g1,g2,g3,g4,-,hb⟩:=boxG w (.slice ka G.kinds.length kc) (.slice pa G.precs.length pc) (.slice ra G.rules.length rc) (.slice qa G.prods.length qc) (.int .i64 G.start) t
 exact ⟨gin_kept (below_le hb hB) h,g0,g1,g2,g3,g4⟩

/-- Are all symbols of a row nullable? -/
def emptyB (nk:Nat) (null:Nat → Bool) (row:List Int):Bool:=row.all fun x => decide ((nk:Int) ≤ x) && null (x - nk).toNat
def symsIn (n:Nat) (row:List Int):Prop:=∀ x,x ∈ row → 1 ≤ x ∧ x < n
theorem mem_getD {l:List Int} {i:Nat} (h:i < l.length):l.getD i 0 ∈ l:=by
 rw [List.getD_eq_getElem?_getD,List.getElem?_eq_getElem h]; exact List.getElem_mem h
theorem take_snoc {α:Type} (l:List α) (i:Nat) (d:α) (h:i < l.length):l.take (i + 1) = l.take i ++ [l.getD i d]:=by
 rw [List.take_add_one,List.getD_eq_getElem?_getD,List.getElem?_eq_getElem h]; rfl
end Go.Proofs.YtagohbpbgjelaaaGreatDoor

/- Plain mathematics: what is known of a grammar, by definition; counting marks. -/
namespace Go.Proofs.YtagohbpbgjelaaaGreatDoor
open Go.RowKit

abbrev Gm.nk (G:Gm):Nat:=G.kinds.length
abbrev Gm.nr (G:Gm):Nat:=G.rules.length
/-- What the analyses want of a grammar. -/
structure GOk (G:Gm):Prop where
 k2:2 ≤ G.nk
 k3:G.nk ≤ 1024
 r1:1 ≤ G.nr
 r2:G.nr ≤ 2048
 s0:0 ≤ G.start
 s1:G.start < G.nr
 ps:G.prods.length ≤ 4096
 pl:∀ p,p ∈ G.prods → 0 ≤ p.left ∧ p.left < G.nr
 pr:∀ p,p ∈ G.prods → p.right.length ≤ 64
 py:∀ p,p ∈ G.prods → symsIn (G.nk + G.nr) p.right

theorem mem_getP {l:List Pd} {i:Nat} (h:i < l.length):l.getD i pd0 ∈ l:=by
 rw [List.getD_eq_getElem?_getD,List.getElem?_eq_getElem h]; exact List.getElem_mem h
theorem ex_getP {l:List Pd} {p:Pd} (h:p ∈ l):∃ i,i < l.length ∧ l.getD i pd0 = p:=by
 obtain ⟨i,hi,rfl⟩:=List.getElem_of_mem h
 exact ⟨i,hi,by rw [List.getD_eq_getElem?_getD,List.getElem?_eq_getElem hi]; rfl⟩

/-! ### Counting marks -/
/-- How many of the first n have no mark. -/
def cntF (f:Nat → Bool):Nat → Nat
 | 0 => 0
 | n + 1 => cntF f n + if f n then 0 else 1
theorem cntF_congr {f g:Nat → Bool}:∀ n,(∀ i,i < n → f i = g i) → cntF f n = cntF g n
 | 0,_ => rfl
 | n + 1,h => by unfold cntF; rw [cntF_congr n (fun i hi => h i (by omega)),h n (by omega)]
def bitOf:Value → Nat | .bool true => 1 | _ => 0

/-! ### Nullable -/
inductive Null (G:Gm):Nat → Prop
 | mk (p:Pd) (hp:p ∈ G.prods) (h1:∀ x,x ∈ p.right → (G.nk:Int) ≤ x) (h2:∀ x,x ∈ p.right → Null G (x - G.nk).toNat):Null G p.left.toNat
open Classical in
noncomputable def nullF (G:Gm):Nat → Bool:=fun r => decide (Null G r)
theorem nullF_is (G:Gm) (r:Nat):nullF G r = true ↔ Null G r:=by unfold nullF; simp
theorem emptyB_iff {nk:Nat} {f:Nat → Bool} {row:List Int}:emptyB nk f row = true ↔ ∀ x,x ∈ row → (nk:Int) ≤ x ∧ f (x - nk).toNat = true:=by
 unfold emptyB
 rw [List.all_eq_true]
 constructor
 · intro h x hx
   have:=h x hx
   rw [Bool.and_eq_true,decide_eq_true_eq] at this
   exact this
 · intro h x hx
   rw [Bool.and_eq_true,decide_eq_true_eq]
   exact h x hx
/-- Marks that are right so far. -/
def NullSound (G:Gm) (f:Nat → Bool):Prop:=∀ r,f r = true → Null G r
def nullStep (G:Gm) (f:Nat → Bool) (p:Pd):Bool:=!f p.left.toNat && emptyB G.nk f p.right
def NullShut (G:Gm) (f:Nat → Bool):Prop:=∀ i,i < G.prods.length → nullStep G f (G.prods.getD i pd0) = false
theorem null_done {G:Gm} {f:Nat → Bool} (h:NullSound G f) (hs:NullShut G f):f = nullF G:=by
 funext r
 rw [Bool.eq_iff_iff,nullF_is]
 refine ⟨h r,fun hn => ?_⟩
 induction hn with
 | mk p hp h1 h2 ih =>
   obtain ⟨i,hi,rfl⟩:=ex_getP hp
   have:=hs i hi
   unfold nullStep at this
   rw [Bool.and_eq_false_iff] at this
   rcases this with h | h
   · simpa using h
   · rw [emptyB_iff.2 (fun x hx => ⟨h1 x hx,ih x hx⟩)] at h
     cases h
end Go.Proofs.YtagohbpbgjelaaaGreatDoor

/- The document's length. -/
namespace Go.Proofs.YtagohbpbgjelaaaGreatDoor
open Go.RowKit

/-- The length of a row, by the lengths of rules; -1: not known; cut at one more than the longest. -/
def lenR (nk:Nat) (f:Nat → Int):List Int → Int → Int
 | [],acc => acc
 | x :: xs,acc => if (nk:Int) ≤ x then (if f (x - nk).toNat < 0 then -1 else lenR nk f xs (min (acc + f (x - nk).toNat) 65537)) else lenR nk f xs (min (acc + 1) 65537)
theorem cut_min (y:Int):(if 65537 < y then (65537:Int) else y) = min y 65537:=by split <;> omega
theorem dropN {row:List Int} {i:Nat} (h:i < row.length):row.drop i = row.getD i 0 :: row.drop (i + 1):=by
 rw [List.drop_eq_getElem_cons h,List.getD_eq_getElem?_getD,List.getElem?_eq_getElem h]; rfl

set_option maxHeartbeats 2000000 in
set_option maxRecDepth 100000 in
theorem rLength_any (ka pa ra qa : Option Addr) (nk kc pn pc nr rc qn qc : Nat) (st : Int) (lb lc : Nat) (f : Nat → Int) (ro : Option Addr) (rowc : Nat) (row : List Int) (B : Nat) (w : World)
   (hB:B ≤ w.heap.size) (hnr:nr ≤ 2048) (hrl:row.length ≤ 281474976710656) (hrow:NRow B w ro row) (hs:symsIn (nk + nr) row) (hn:w.rowIs lb 3 nr (fun r => .int .i64 (f r))) (hf:∀ r,r < nr → -1 ≤ f r ∧ f r ≤ 65537) :
   Calls Tryz.prog 110 #[.agg #[.slice ka nk kc,.slice pa pn pc,.slice ra nr rc,.slice qa qn qc,.int .i64 st],.slice (some ⟨lb,0,none⟩) nr lc,.slice ro row.length rowc] w fun e w' => e = .returned (.int .i64 (lenR nk f row 0)) ∧ Below w.heap.size w w':=by
 have Hrow:=hide hrow; have Hs:=hide hs; have Hn:=hide hn; have Hf:=hide hf
 clear hrow hs hn hf
 generalize hR:lenR nk f row 0 = R
 have HR:=hide hR
 clear hR
 obtain ⟨g0,-,-,-,-,hw1,hb1⟩:=boxG w (.slice ka nk kc) (.slice pa pn pc) (.slice ra nr rc) (.slice qa qn qc) (.int .i64 st) 26
 go_enter Tryz.func110,Tryz.ntmps110
 go_wp2
 generalize w.alloc (.cells #[.slice ka nk kc,.slice pa pn pc,.slice ra nr rc,.slice qa qn qc,.int .i64 st] 26) = w1 at *
 have Hg0:=hide g0; have Hb1:=hide hb1
 clear g0 hb1
 go_loopw [7,8,9] (fun a x _ wr => ∃ (k:Nat) (acc:Int),a = .int .i64 acc ∧ x = .int .i64 k ∧ k ≤ row.length ∧ 0 ≤ acc ∧ acc ≤ 65537 ∧ lenR nk f (row.drop k) acc = R ∧ Below w1.heap.size w1 wr) (fun _ x _ _ => row.length - (intOf x).toNat)
 case atStart => exact ⟨0,0,rfl,rfl,Nat.zero_le _,Int.le_refl _,by omega,unhide HR,Below.refl _ _⟩
 case round =>
   obtain ⟨k,acc,rfl,rfl,hk,ha0,ha1,hl,hb⟩:=hrel
   have hb2:=(unhide Hb1).trans (below_le hb (by omega))
   have g0:=(hb.cell (p:=⟨w.heap.size,0,none⟩) (by show w.heap.size < w1.heap.size; omega)).trans (unhide Hg0)
   have Hl:=hide hl; have Hb:=hide hb; have Hb2:=hide hb2
   clear hl hb hb2
   by_cases hlt:k < row.length
   · have hlt':(k:Int) < row.length:=by omega
     obtain ⟨b,off,rfl,hbB,hc⟩:=nrow_at (nrow_kept (below_le (unhide Hb2) hB) (unhide Hrow)) hlt
     have hx:=unhide Hs _ (mem_getD hlt)
     rw [dropN hlt,lenR] at Hl
     generalize row.getD k 0 = x at *
     by_cases hxk:x < nk
     · have hx2:decide ((nk:Int) ≤ x) = false:=by rw [decide_eq_false_iff_not]; omega
       rw [if_neg (by omega)] at Hl
       have hmw:IntKind.i64.wrap (acc + 1) = acc + 1:=by rw [IntKind.wrap_i64]; omega
       go_wp2
       go_quiet (fail)
       go_wp2
       go_roundw
       case rel => exact ⟨k + 1,min (acc + 1) 65537,by rw [cut_min],by go_num,by omega,by omega,by omega,unhide Hl,below_drewN (unhide Hb) _⟩
       case measure => simp [intOf]; omega
     · obtain ⟨r,hxr⟩:∃ r:Nat,x - (nk:Int) = r:=⟨(x - nk).toNat,by omega⟩
       have hrr:r < nr:=by omega
       have hrr':(r:Int) < nr:=by omega
       have hwr:=wN r (by omega)
       have hx2:decide ((nk:Int) ≤ x) = true:=by rw [decide_eq_true_eq]; omega
       rw [if_pos (by omega),hxr,Int.toNat_natCast] at Hl
       have cn:wr.cell? ⟨lb,r,none⟩ = some (.int .i64 (f r)):=((unhide Hb2).cell (p:=⟨lb,r,none⟩) (unhide Hn).lt).trans ((unhide Hn).cell hrr)
       have hfr:=unhide Hf r hrr
       generalize f r = v at *
       go_wp2
       go_quiet (fail)
       have g0':(wr.drewN nq).cell? _ = _:=g0
       have hc':(wr.drewN nq).cell? _ = _:=hc
       have cn':(wr.drewN nq).cell? _ = _:=cn
       have HbD:=hide (below_drewN (unhide Hb) nq)
       have Hb2D:=hide (below_drewN (unhide Hb2) nq)
       clear g0 hc cn Hb Hb2
       generalize wr.drewN nq = wd at *
       by_cases hv:v < 0
       · rw [if_pos hv] at Hl
         go_wp2
         go_quiet (fail)
         go_wp2
         go_ret
         rw [← unhide Hl]
         exact ⟨rfl,below_drewN (unhide Hb2D) _⟩
       · rw [if_neg hv] at Hl
         have hmw:IntKind.i64.wrap (acc + v) = acc + v:=by rw [IntKind.wrap_i64]; omega
         go_wp2
         go_quiet (fail)
         go_wp2
         go_roundw
         case rel => exact ⟨k + 1,min (acc + v) 65537,by rw [cut_min],by go_num,by omega,by omega,by omega,unhide Hl,below_drewN (unhide HbD) _⟩
         case measure => simp [intOf]; omega
   · obtain rfl:k = row.length:=by omega
     rw [List.drop_length,lenR] at Hl
     go_wp2
     go_ret
     rw [← unhide Hl]
     exact ⟨rfl,unhide Hb2⟩
end Go.Proofs.YtagohbpbgjelaaaGreatDoor

/- The document's name, Kinds (layer 7's). -/
namespace Go.Proofs.YtagohbpbgjelaaaGreatDoor
open Go.RowKit

/-- The byte at i, as a number; 0 behind the end. -/
def bt (s:ByteArray) (i:Nat):Nat:=(s.get! i).toNat
theorem bt_get (s:ByteArray) (i:Nat) (h:i < s.size):bt s i = (s[i]'h).toNat:=by
 have:s.get! i = s[i]'h:=by simp [ByteArray.get!,getElem!_pos,h]; rfl
 rw [bt,this]
theorem srow_all {B:Nat} {w:World} {a:Option Addr} {l:List (List UInt8)} (h:SRow B w a l) (hB:B ≤ w.heap.size) {k:Nat} (hk:k < l.length):∃ b off,a = some ⟨b,off,none⟩ ∧ b < w.heap.size ∧ ∀ j,j < l.length → w.cell? ⟨b,off + j,none⟩ = some (.string (bs (l.getD j []))):=by
 rcases h with rfl | ⟨b,off,h1,h2,h3⟩
 · simp at hk
 · exact ⟨b,off,h1,by omega,h3⟩
theorem index_bt (s:ByteArray) (j:Nat) (h:j < s.size) (w:World):(Instr.index 9 (.string s) (.int .i64 (j:Int))).run Tryz.prog w = .ok (.int .u8 (bt s j:Int)) w:=by
 rw [run_index_string w 9 s .i64 (j:Int) Tryz.underlying9,dif_pos (by omega)]
 simp [bt_get s j h]

def letB (c:Nat):Bool:=decide ((65 ≤ c ∧ c ≤ 90) ∨ (97 ≤ c ∧ c ≤ 122) ∨ c = 95)
def digB (c:Nat):Bool:=decide (48 ≤ c ∧ c ≤ 57)
def allTo (s:ByteArray) (k:Nat):Prop:=∀ i,i < k → letB (bt s i) = true ∨ digB (bt s i) = true
instance (s:ByteArray) (k:Nat):Decidable (allTo s k):=by unfold allTo; infer_instance
def nameB (s:ByteArray):Bool:=decide (1 ≤ s.size ∧ s.size ≤ 64 ∧ digB (bt s 0) = false ∧ allTo s s.size)

theorem nameB_of {s:ByteArray} (h1:1 ≤ s.size) (h2:s.size ≤ 64):nameB s = decide (digB (bt s 0) = false ∧ allTo s s.size):=by
 unfold nameB; rw [decide_eq_decide]; exact ⟨fun h => h.2.2,fun h => ⟨h1,h2,h⟩⟩
/-- What the document's name has seen to be right. -/
def docTo (s:ByteArray) (k:Nat):Prop:=∀ i,i < k → letB (bt s i) = true ∨ (i ≠ 0 ∧ digB (bt s i) = true)
theorem let_dig (c:Nat):letB c = true → digB c = false:=by
 simp only [letB,digB,decide_eq_true_eq,decide_eq_false_iff_not]; omega
theorem docTo_iff {s:ByteArray} (h:1 ≤ s.size):docTo s s.size ↔ digB (bt s 0) = false ∧ allTo s s.size:=by
 constructor
 · intro hd
   refine ⟨?_,fun i hi => ?_⟩
   · rcases hd 0 (by omega) with h | h
     · exact let_dig _ h
     · exact absurd rfl h.1
   · rcases hd i hi with h | h
     · exact .inl h
     · exact .inr h.2
 · rintro ⟨h0,ha⟩ i hi
   rcases ha i hi with h | h
   · exact .inl h
   · by_cases e:i = 0
     · subst e; rw [h0] at h; cases h
     · exact .inr ⟨e,h⟩

set_option maxHeartbeats 4000000 in
set_option maxRecDepth 100000 in
theorem rName_any (s : ByteArray) (w : World) : Calls Tryz.prog 96 #[.string s] w fun e w' => e = .returned (.bool (nameB s)) ∧ w = w' := by
 by_cases h0:s.size < 1
 · rw [show nameB s = false by unfold nameB; rw [decide_eq_false_iff_not]; omega]
   have h0':(s.size:Int) < 1:=by omega
   go_enter Tryz.func96,Tryz.ntmps96
   go_wp2
   go_ret
   exact ⟨rfl,rfl⟩
 have h0':¬ (s.size:Int) < 1:=by omega
 by_cases h1:64 < s.size
 · rw [show nameB s = false by unfold nameB; rw [decide_eq_false_iff_not]; omega]
   have h1':(64:Int) < s.size:=by omega
   go_enter Tryz.func96,Tryz.ntmps96
   go_wp2
   go_ret
   exact ⟨rfl,rfl⟩
 have h1':¬ (64:Int) < s.size:=by omega
 have Hyes:=hide (fun (h:docTo s s.size) => show nameB s = true by rw [nameB_of (by omega) (by omega)]; exact decide_eq_true ((docTo_iff (by omega)).1 h))
 have Hno:=hide (fun (h:¬ docTo s s.size) => show nameB s = false by rw [nameB_of (by omega) (by omega)]; exact decide_eq_false (fun k => h ((docTo_iff (by omega)).2 k)))
 generalize nameB s = R at *
 go_enter Tryz.func96,Tryz.ntmps96
 go_wp2
 go_loop [3] (fun x => ∃ k:Nat,x = .int .i64 k ∧ k ≤ s.size ∧ docTo s k) (fun x => s.size - (intOf x).toNat)
 case atStart => exact ⟨0,rfl,Nat.zero_le _,fun i hi => absurd hi (Nat.not_lt_zero _)⟩
 case round =>
   obtain ⟨k,rfl,hk,hall⟩:=hrel
   have Hall:=hide hall
   clear hall
   by_cases hlt:k < s.size
   · have hlt' : (k : Int) < s.size := by omega
     have ik:=index_bt s k hlt
     have Hs:=hide (fun (h:letB (bt s k) = true ∨ (k ≠ 0 ∧ digB (bt s k) = true)) => show docTo s (k + 1) from fun i hi => by
       by_cases e:i = k
       · subst e; exact h
       · exact unhide Hall i (by omega))
     have Hn:=hide (fun (h:¬ (letB (bt s k) = true ∨ (k ≠ 0 ∧ digB (bt s k) = true))) => unhide Hno (fun hd => h (hd k hlt)))
     have Hl:=hide (show letB (bt s k) = decide ((65 ≤ bt s k ∧ bt s k ≤ 90) ∨ (97 ≤ bt s k ∧ bt s k ≤ 122) ∨ bt s k = 95) from rfl)
     have Hd:=hide (show digB (bt s k) = decide (48 ≤ bt s k ∧ bt s k ≤ 57) from rfl)
     generalize bt s k = c at *
     go_wp2
     all_goals first
       | (go_ret; rw [unhide Hn (by rw [unhide Hl,unhide Hd]; simp only [decide_eq_true_eq]; first | omega | (simp at *; omega))]; exact ⟨rfl,rfl⟩)
       | (go_round
          case rel => exact ⟨k + 1,by go_num,by omega,unhide Hs (by rw [unhide Hl,unhide Hd]; simp only [decide_eq_true_eq]; first | omega | (simp at *; omega))⟩
          case measure => simp [intOf]; omega)
   · obtain rfl:k = s.size:=by omega
     have Hr:=hide (unhide Hyes (unhide Hall))
     go_wp2
     go_ret
     rw [unhide Hr]
     exact ⟨rfl,rfl⟩
def endS:List UInt8:=[101,110,100]
def errS:List UInt8:=[101,114,114,111,114]
def goodTo (ns:List (List UInt8)) (k:Nat):Prop:=∀ j,j < k → nameB (bs (ns.getD j [])) = true
instance (ns:List (List UInt8)) (k:Nat):Decidable (goodTo ns k):=by unfold goodTo; infer_instance
def kindsB (ns:List (List UInt8)):Bool:=decide (2 ≤ ns.length ∧ ns.length ≤ 1024 ∧ ns.getD 0 [] = endS ∧ ns.getD 1 [] = errS ∧ goodTo ns ns.length ∧ ns.Nodup)
theorem kinds_no {ns:List (List UInt8)} (h:¬ (2 ≤ ns.length ∧ ns.length ≤ 1024 ∧ ns.getD 0 [] = endS ∧ ns.getD 1 [] = errS ∧ goodTo ns ns.length ∧ ns.Nodup)):kindsB ns = false:=decide_eq_false h
theorem nameB_le {s:ByteArray} (h:nameB s = true):s.size ≤ 64:=(of_decide_eq_true h).2.1

def apartTo (ns:List (List UInt8)) (i k:Nat):Prop:=∀ j,j < k → ns.getD j [] ≠ ns.getD i []
def distTo (ns:List (List UInt8)) (k:Nat):Prop:=∀ i,i < k → apartTo ns i i
theorem dist_nodup {ns:List (List UInt8)} (h:distTo ns ns.length):ns.Nodup:=by
 rw [List.Nodup,List.pairwise_iff_getElem]
 intro i j hi hj hij
 have:=h j hj i hij
 rwa [List.getD_eq_getElem?_getD,List.getD_eq_getElem?_getD,List.getElem?_eq_getElem hi,List.getElem?_eq_getElem hj] at this
theorem nodup_dist {ns:List (List UInt8)} (h:ns.Nodup):distTo ns ns.length:=by
 rw [List.Nodup,List.pairwise_iff_getElem] at h
 intro i hi j hj
 have:=h j i (by omega) hi hj
 rwa [List.getD_eq_getElem?_getD,List.getD_eq_getElem?_getD,List.getElem?_eq_getElem hi,List.getElem?_eq_getElem (by omega:j < ns.length)]

set_option maxHeartbeats 4000000 in
set_option maxRecDepth 100000 in
theorem rKinds_any (a : Option Addr) (cap : Nat) (ns : List (List UInt8)) (B : Nat) (w : World) (hB : B ≤ w.heap.size) (hrow : SRow B w a ns) :
   Calls Tryz.prog 51 #[.slice a ns.length cap] w fun e w' => e = .returned (.bool (kindsB ns)) ∧ Below w.heap.size w w':=by
 by_cases h0:ns.length < 2
 · rw [show kindsB ns = false from kinds_no (by omega)]
   have h0':(ns.length:Int) < 2:=by omega
   go_enter Tryz.func51,Tryz.ntmps51
   go_wp2
   go_ret
   exact ⟨rfl,Below.refl _ _⟩
 have h0':¬ (ns.length:Int) < 2:=by omega
 by_cases h1:1024 < ns.length
 · rw [show kindsB ns = false from kinds_no (by omega)]
   have h1':(1024:Int) < ns.length:=by omega
   go_enter Tryz.func51,Tryz.ntmps51
   go_wp2
   go_ret
   exact ⟨rfl,Below.refl _ _⟩
 have h1':¬ (1024:Int) < ns.length:=by omega
 obtain ⟨b,off,rfl,hb,hc⟩:=srow_all hrow hB (k:=0) (by omega)
 have c0:=hc 0 (by omega)
 have c1:=hc 1 (by omega)
 have i0:(0:Int) < ns.length:=by omega
 have i1:(1:Int) < ns.length:=by omega
 by_cases h2:ns.getD 0 [] = endS
 · rw [h2] at c0
   by_cases h3:ns.getD 1 [] = errS
   · rw [h3] at c1
     have c0':w.cell? ⟨b,off,none⟩ = some (.string ⟨#[101,110,100]⟩):=c0
     have c1':w.cell? ⟨b,off + 1,none⟩ = some (.string ⟨#[101,114,114,111,114]⟩):=c1
     have Hyes:Hid (goodTo ns ns.length ∧ distTo ns ns.length → kindsB ns = true):=hide fun h => decide_eq_true ⟨by omega,by omega,h2,h3,h.1,dist_nodup h.2⟩
     have Hno:Hid (¬ (goodTo ns ns.length ∧ distTo ns ns.length) → kindsB ns = false):=hide fun h => kinds_no (fun k => h ⟨k.2.2.2.2.1,nodup_dist k.2.2.2.2.2⟩)
     have Hc:=hide hc
     generalize kindsB ns = R at *
     clear hrow hc c0 c1 h2 h3
     go_enter Tryz.func51,Tryz.ntmps51
     go_wp2
     go_loopw [3] (fun x wr => ∃ k:Nat,x = .int .i64 k ∧ k ≤ ns.length ∧ goodTo ns k ∧ distTo ns k ∧ Below w.heap.size w wr) (fun x _ => ns.length - (intOf x).toNat)
     case atStart => exact ⟨0,rfl,Nat.zero_le _,(fun i hi => absurd hi (Nat.not_lt_zero _)),(fun i hi => absurd hi (Nat.not_lt_zero _)),Below.refl _ _⟩
     case round =>
       obtain ⟨k,rfl,hk,hgood,hdist,hbel⟩:=hrel
       have Hg:=hide hgood; have Hd:=hide hdist; have Hbel:=hide hbel
       clear hgood hdist hbel c0' c1'
       by_cases hlt:k < ns.length
       · have hlt' : (k : Int) < ns.length := by omega
         have ck:=((unhide Hbel).cell (p:=⟨b,off + k,none⟩) hb).trans (unhide Hc k hlt)
         have HN:=hide (rName_any (bs (ns.getD k [])))
         cases hn:nameB (bs (ns.getD k []))
         · rw [hn] at HN
           have Hr:Hid (R = false):=hide (unhide Hno (by
             intro h; have:=h.1 k hlt; rw [hn] at this; cases this))
           clear hn
           generalize bs (ns.getD k []) = s at *
           go_wp2_with fail
           refine (unhide HN _).mono ?_
           rintro e w' ⟨rfl,rfl⟩
           go_wp2
           go_ret
           rw [unhide Hr]
           exact ⟨rfl,unhide Hbel⟩
         · rw [hn] at HN
           have Hg':Hid (goodTo ns (k + 1)):=hide (by
             intro i hi
             by_cases e:i = k
             · subst e; exact hn
             · exact unhide Hg i (by omega))
           clear hn
           generalize bs (ns.getD k []) = s at *
           go_wp2_with fail
           refine (unhide HN _).mono ?_
           rintro e w' ⟨rfl,rfl⟩
           clear ck HN
           go_wp2
           go_loopw [4] (fun y W => ∃ i:Nat,y = .int .i64 i ∧ i ≤ k ∧ apartTo ns k i ∧ Below w.heap.size w W) (fun y _ => k - (intOf y).toNat)
           case atStart => exact ⟨0,rfl,Nat.zero_le _,(fun i hi => absurd hi (Nat.not_lt_zero _)),unhide Hbel⟩
           case round =>
             obtain ⟨i,rfl,hi,hap,hbel2⟩:=hrel
             have Hap:=hide hap; have Hb2:=hide hbel2
             clear hap hbel2
             by_cases hil:i < k
             · have hil':(i:Int) < k:=by omega
               have hin:(i:Int) < ns.length:=by omega
               have ck:=((unhide Hb2).cell (p:=⟨b,off + k,none⟩) hb).trans (unhide Hc k hlt)
               have ci:=((unhide Hb2).cell (p:=⟨b,off + i,none⟩) hb).trans (unhide Hc i (by omega))
               by_cases he:ns.getD i [] = ns.getD k []
               · have Hr:Hid (R = false):=hide (unhide Hno (fun h => h.2 k hlt i hil he))
                 rw [he] at ci
                 clear he
                 generalize bs (ns.getD k []) = s at *
                 go_wp2
                 go_quiet (fail)
                 go_wp2
                 go_ret
                 rw [unhide Hr]
                 exact ⟨rfl,below_drewN (unhide Hb2) _⟩
               · have Ha':Hid (apartTo ns k (i + 1)):=hide (by
                   intro j hj
                   by_cases e:j = i
                   · subst e; exact he
                   · exact unhide Hap j (by omega))
                 have hne:=bs_ne he
                 clear he
                 generalize bs (ns.getD k []) = s at *
                 generalize bs (ns.getD i []) = s2 at *
                 go_wp2
                 go_quiet (fail)
                 go_wp2
                 go_roundw
                 case rel => exact ⟨i + 1,by go_num,by omega,unhide Ha',below_drewN (unhide Hb2) _⟩
                 case measure => simp [intOf]; omega
             · obtain rfl:i = k:=by omega
               have Hd':Hid (distTo ns (i + 1)):=hide (by
                 intro j hj
                 by_cases e:j = i
                 · subst e; exact unhide Hap
                 · exact unhide Hd j (by omega))
               go_wp2
               go_roundw
               case rel => exact ⟨i + 1,by go_num,by omega,unhide Hg',unhide Hd',unhide Hb2⟩
               case measure => simp [intOf]; omega
       · obtain rfl:k = ns.length:=by omega
         have Hr:Hid (R = true):=hide (unhide Hyes ⟨unhide Hg,unhide Hd⟩)
         go_wp2
         go_ret
         rw [unhide Hr]
         exact ⟨rfl,unhide Hbel⟩
   · rw [show kindsB ns = false from kinds_no (fun h => h3 h.2.2.2.1)]
     have c0':w.cell? ⟨b,off,none⟩ = some (.string ⟨#[101,110,100]⟩):=c0
     have hne:((bs (ns.getD 1 [])).toList == [101,114,114,111,114]) = false:=by rw [bs_toList,beq_eq_false_iff_ne]; exact h3
     clear hc c0 hrow h2 h3
     generalize bs (ns.getD 1 []) = s at *
     go_enter Tryz.func51,Tryz.ntmps51
     go_wp2
     go_ret
     exact ⟨rfl,Below.refl _ _⟩
 · rw [show kindsB ns = false from kinds_no (fun h => h2 h.2.2.1)]
   have hne:((bs (ns.getD 0 [])).toList == [101,110,100]) = false:=by rw [bs_toList,beq_eq_false_iff_ne]; exact h2
   clear hc hrow h2 c1
   rw [Nat.add_zero] at c0
   generalize bs (ns.getD 0 []) = s at *
   go_enter Tryz.func51,Tryz.ntmps51
   go_wp2
   go_ret
   exact ⟨rfl,Below.refl _ _⟩
end Go.Proofs.YtagohbpbgjelaaaGreatDoor

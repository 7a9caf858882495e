/- Stage 12, the document's side: grammars in memory; frames. -/
import Derived.Test.YtagohbpbgjelaaaGreatDoorChecked
import Derived.RowKit3
import Derived.WalkKit
import Derived.Below
import Derived.OwnWalk
import Derived.OneCell
import Derived.Laws.OwnMore
import Derived.Laws.AppendOwn
import Derived.Laws.MakeOwn
import Derived.Laws.Strings
import Derived.Deep.OwnRows
import Derived.Deep.RegionHeld3
import Derived.Deep.QuietTactic
import Derived.BigQuiet
import Derived.KernelRfl
namespace Go.Proofs.YtagohbpbgjelaaaGreatDoor
open Go.RowKit

theorem zsA {α : Type _} (l : List α) (i : Nat) (x : α) : l.toArray.setIfInBounds i x = (l.set i x).toArray := List.setIfInBounds_toArray ..
theorem zsB {α : Type _} (a : α) (l : List α) (x : α) : (a :: l).set 0 x = x :: l := rfl
theorem zsC {α : Type _} (a : α) (l : List α) (n : Nat) (x : α) : (a :: l).set (n + 1) x = a :: l.set n x := rfl
theorem hide {p:Prop} (h:p):Hid p:=h
theorem uh {p:Prop} (h:Hid p):p:=h
theorem ret_bool {a b:Bool} (h:a=b):Ending.returned (.bool a)=.returned (.bool b):=by rw[h]
theorem below_le {B B':Nat} {w w':World} (h:Below B w w') (hB:B'≤B):Below B' w w':=h.mono hB
theorem below_drewN {B:Nat} {w w':World} (h:Below B w w') (n:Nat):Below B w (w'.drewN n):=⟨h.os,h.tape,h.output,h.size,h.block⟩
theorem own_form {w:World} {B:Nat} {e:TypeId} {size:Nat} {v:Value} {n:Nat} {xs:List Value} (h:w.ownsRow B e size v n xs):∃ a c,v=.slice a n c:=by
 rcases h.2 with ⟨rfl,rfl⟩ | ⟨g,cap,cur,rfl,_⟩
 · exact⟨_,_,rfl⟩
 · exact⟨_,_,rfl⟩

def Fr (O:Nat→Prop) (w w':World):Prop:=w.heap.size≤w'.heap.size∧(∀ k,k<w.heap.size→¬ O k→w'.heap[k]? = w.heap[k]?)∧w'.os=w.os∧w'.tape=w.tape∧w'.output=w.output
theorem fr_refl (O:Nat→Prop) (w:World):Fr O w w:=⟨Nat.le_refl _,fun _ _ _=>rfl,rfl,rfl,rfl⟩
theorem fr_t {O:Nat→Prop} {a b c:World} (h:Fr O a b) (k:Fr O b c):Fr O a c:=⟨Nat.le_trans h.1 k.1,fun i hi ho=>(k.2.1 i (Nat.lt_of_lt_of_le hi h.1) ho).trans (h.2.1 i hi ho),k.2.2.1.trans h.2.2.1,k.2.2.2.1.trans h.2.2.2.1,k.2.2.2.2.trans h.2.2.2.2⟩
theorem fr_mono {O O':Nat→Prop} {a b:World} (h:Fr O a b) (hO:∀ k,k<a.heap.size→O k→O' k):Fr O' a b:=⟨h.1,fun k hk ho=>h.2.1 k hk (fun h'=>ho (hO k hk h')),h.2.2⟩
theorem fr_set {O:Nat→Prop} {a b:World} (h:Fr O a b) {p:Addr} (hp:O p.block) (u:Value):Fr O a (b.setCell p u) :=
 fr_t h ⟨by simp[World.setCell],fun k _ ho=>Below.heap_setCell _ _ _ _ (fun e=>ho (e▸hp)),rfl,rfl,rfl⟩
theorem fr_below {B:Nat} {O:Nat→Prop} {a b:World} (h:Fr O a b) (hB:B≤a.heap.size) (hO:∀ k,O k→B≤k):Below B a b :=
 ⟨h.2.2.1,h.2.2.2.1,h.2.2.2.2,h.1,fun k hk=>h.2.1 k (by omega) (fun ho=>by have:=hO k ho;omega)⟩
theorem below_fr {O:Nat→Prop} {a b:World} (h:Below a.heap.size a b):Fr O a b:=⟨h.size,fun k hk _=>h.block k hk,h.os,h.tape,h.output⟩
theorem fr_new {O:Nat→Prop} {a b c:World} (h:Fr O a b) (k:Below b.heap.size b c):Fr O a c:=fr_t h (below_fr k)

def bs (l:List UInt8):ByteArray:=⟨⟨l⟩⟩
theorem bs_toList (l:List UInt8):(bs l).toList=l:=by rw[ByteArray.toList_eq];rfl
theorem bs_ne {a b:List UInt8} (h:a≠b):((bs a).toList == (bs b).toList)=false:=by
 rw[beq_eq_false_iff_ne,bs_toList,bs_toList];exact h

def SRow (B:Nat) (w:World) (a:Option Addr) (l:List (List UInt8)):Prop :=
 l=[]∨∃ b off,a=some ⟨b,off,none⟩∧b<B∧∀ j,j<l.length→w.cell? ⟨b,off+j,none⟩=some (.string (bs (l.getD j [])))
def NRow (B:Nat) (w:World) (a:Option Addr) (l:List Int):Prop :=
 l=[]∨∃ b off,a=some ⟨b,off,none⟩∧b<B∧∀ j,j<l.length→w.cell? ⟨b,off+j,none⟩=some (.int .i64 (l.getD j 0))
def LRow (B:Nat) (w:World) (a:Option Addr) (l:List (Int × Int)):Prop :=
 l=[]∨∃ b off,a=some ⟨b,off,none⟩∧b<B∧∀ j,j<l.length→w.cell? ⟨b,off+j * 2,none⟩=some (.int .i64 (l.getD j (0,0)).1)∧w.cell? ⟨b,off+j * 2+1,none⟩=some (.int .i64 (l.getD j (0,0)).2)
inductive Ac where
 | mk (kind pick:Int) (name:List UInt8) (kids:List Ac)
mutual
def AcAt (B:Nat) (w:World):Ac→Value→Value→Value→Value→Prop
 | .mk k p n ks,v0,v1,v2,v3=>v0=.int .i64 k∧v1=.int .i64 p∧v2=.string (bs n)∧∃ a c vs,v3=.slice a ks.length c∧AcTs B w ks vs∧(ks=[]∨∃ b off,a=some ⟨b,off,none⟩∧b<B∧∀ j u,vs[j]? = some u→w.cell? ⟨b,off+j,none⟩=some u)
def AcTs (B:Nat) (w:World):List Ac→List Value→Prop
 | [],vs=>vs=[]
 | t::ts,vs=>∃ u0 u1 u2 u3 rest,vs=u0::u1::u2::u3::rest∧AcAt B w t u0 u1 u2 u3∧AcTs B w ts rest
end
structure Pd where
 left:Int
 right:List Int
 level:Int
 act:Ac
def ac0:Ac:=.mk 0 0 [] []
def pd0:Pd:=⟨0,[],0,ac0⟩
structure Gm where
 kinds:List (List UInt8)
 precs:List (Int × Int)
 rules:List (List UInt8)
 prods:List Pd
 start:Int
def PdAt (B:Nat) (w:World) (p:Pd) (v0 v1 v2 v3 v4 v5 v6:Value):Prop :=
 v0=.int .i64 p.left∧(∃ a c,v1=.slice a p.right.length c∧NRow B w a p.right∧p.right.length≤c)∧v2=.int .i64 p.level∧AcAt B w p.act v3 v4 v5 v6
def QRow (B : Nat) (w : World) (a : Option Addr) (l : List Pd) : Prop :=
 l = [] ∨ ∃ b off, a = some ⟨b, off, none⟩ ∧ b < B ∧ ∀ j, j < l.length → ∃ v0 v1 v2 v3 v4 v5 v6, PdAt B w (l.getD j pd0) v0 v1 v2 v3 v4 v5 v6 ∧
   w.cell? ⟨b,off+j * 7,none⟩=some v0∧w.cell? ⟨b,off+j * 7+1,none⟩=some v1∧w.cell? ⟨b,off+j * 7+2,none⟩=some v2∧w.cell? ⟨b,off+j * 7+3,none⟩=some v3∧w.cell? ⟨b,off+j * 7+4,none⟩=some v4∧w.cell? ⟨b,off+j * 7+5,none⟩=some v5∧w.cell? ⟨b,off+j * 7+6,none⟩=some v6
def tzT:List Nat:=[0,1,56,2,57,49,28,3,61,58,42,50,38,29,17,4,62,47,59,36,45,43,51,22,53,39,33,30,24,18,12,5,63,55,48,27,60,41,37,16,46,35,44,21,52,32,23,11,54,26,40,15,34,20,31,10,25,14,19,9,13,8,7,6]
def Tb (B:Nat) (w:World):Prop:=0<B∧∀ j,j<64→w.cell? ⟨0,j,none⟩=some (.int .u8 (tzT.getD j 0:Nat))
theorem tb_kept {B:Nat} {w w':World} (hb:Below B w w') (h:Tb B w):Tb B w':=⟨h.1,fun j hj=>(hb.cell (p:=⟨0,j,none⟩) h.1).trans (h.2 j hj)⟩
theorem tb_up {B:Nat} {w w':World} (h:Tb B w) (hB:B≤w.heap.size) (hb:Below B w w'):Tb w'.heap.size w':=⟨by have:=h.1;have:=hb.size;omega,(tb_kept hb h).2⟩
structure GIn (B:Nat) (w:World) (G:Gm) (ka pa ra qa:Option Addr):Prop where
 kinds:SRow B w ka G.kinds
 precs:LRow B w pa G.precs
 rules:SRow B w ra G.rules
 prods:QRow B w qa G.prods
 tab:Tb B w

theorem srow_kept {B:Nat} {w w':World} {a:Option Addr} {l:List (List UInt8)} (hb:Below B w w') (h:SRow B w a l):SRow B w' a l:=by
 rcases h with rfl | ⟨b,off,rfl,hlt,hc⟩
 · exact .inl rfl
 · exact .inr ⟨b,off,rfl,hlt,fun j hj=>(hb.cell hlt).trans (hc j hj)⟩
theorem nrow_kept {B:Nat} {w w':World} {a:Option Addr} {l:List Int} (hb:Below B w w') (h:NRow B w a l):NRow B w' a l:=by
 rcases h with rfl | ⟨b,off,rfl,hlt,hc⟩
 · exact .inl rfl
 · exact .inr ⟨b,off,rfl,hlt,fun j hj=>(hb.cell hlt).trans (hc j hj)⟩
theorem lrow_kept {B:Nat} {w w':World} {a:Option Addr} {l:List (Int × Int)} (hb:Below B w w') (h:LRow B w a l):LRow B w' a l:=by
 rcases h with rfl | ⟨b,off,rfl,hlt,hc⟩
 · exact .inl rfl
 · exact .inr ⟨b,off,rfl,hlt,fun j hj=>⟨(hb.cell hlt).trans (hc j hj).1,(hb.cell hlt).trans (hc j hj).2⟩⟩
mutual
theorem acAt_kept {B:Nat} {w w':World} (hb:Below B w w'):∀ (t:Ac) (v0 v1 v2 v3:Value),AcAt B w t v0 v1 v2 v3→AcAt B w' t v0 v1 v2 v3
 | .mk k p n ks, v0, v1, v2, v3, h => by
   unfold AcAt at h ⊢
   obtain⟨h0,h1,h2,a,c,vs,h3,hts,hc⟩:=h
   refine⟨h0,h1,h2,a,c,vs,h3,acTs_kept hb ks vs hts,?_⟩
   rcases hc with h | ⟨b,off,h,hlt,hcs⟩
   · exact .inl h
   · exact .inr ⟨b,off,h,hlt,fun j u hj=>(hb.cell hlt).trans (hcs j u hj)⟩
theorem acTs_kept {B:Nat} {w w':World} (hb:Below B w w'):∀ (ts:List Ac) (vs:List Value),AcTs B w ts vs→AcTs B w' ts vs
 | [],vs,h=>by unfold AcTs at h ⊢;exact h
 | t :: ts, vs, h => by
   unfold AcTs at h ⊢
   obtain⟨u0,u1,u2,u3,rest,rfl,h1,h2⟩:=h
   exact⟨u0,u1,u2,u3,rest,rfl,acAt_kept hb t _ _ _ _ h1,acTs_kept hb ts rest h2⟩
end
theorem pdAt_kept {B:Nat} {w w':World} (hb:Below B w w') {p:Pd} {v0 v1 v2 v3 v4 v5 v6:Value} (h:PdAt B w p v0 v1 v2 v3 v4 v5 v6):PdAt B w' p v0 v1 v2 v3 v4 v5 v6:=by
 obtain⟨h0,⟨a,c,h1,hn,hcl⟩,h2,h3⟩:=h
 exact⟨h0,⟨a,c,h1,nrow_kept hb hn,hcl⟩,h2,acAt_kept hb _ _ _ _ _ h3⟩
theorem qrow_kept {B:Nat} {w w':World} {a:Option Addr} {l:List Pd} (hb:Below B w w') (h:QRow B w a l):QRow B w' a l:=by
 rcases h with rfl | ⟨b,off,rfl,hlt,hc⟩
 · exact .inl rfl
 · refine .inr ⟨b,off,rfl,hlt,fun j hj=>?_⟩
   obtain⟨v0,v1,v2,v3,v4,v5,v6,hp,e0,e1,e2,e3,e4,e5,e6⟩:=hc j hj
   exact⟨v0,v1,v2,v3,v4,v5,v6,pdAt_kept hb hp,(hb.cell hlt).trans e0,(hb.cell hlt).trans e1,(hb.cell hlt).trans e2,(hb.cell hlt).trans e3,(hb.cell hlt).trans e4,(hb.cell hlt).trans e5,(hb.cell hlt).trans e6⟩
theorem gin_kept {B:Nat} {w w':World} {G:Gm} {ka pa ra qa:Option Addr} (hb:Below B w w') (h:GIn B w G ka pa ra qa):GIn B w' G ka pa ra qa :=
 ⟨srow_kept hb h.kinds,lrow_kept hb h.precs,srow_kept hb h.rules,qrow_kept hb h.prods,tb_kept hb h.tab⟩
theorem srow_at {B:Nat} {w:World} {a:Option Addr} {l:List (List UInt8)} (h:SRow B w a l) {k:Nat} (hk:k<l.length):∃ b off,a=some ⟨b,off,none⟩∧b<B∧w.cell? ⟨b,off+k,none⟩=some (.string (bs (l.getD k []))):=by
 rcases h with rfl | ⟨b,off,h1,h2,h3⟩
 · simp at hk
 · exact⟨b,off,h1,h2,h3 k hk⟩
theorem nrow_at {B:Nat} {w:World} {a:Option Addr} {l:List Int} (h:NRow B w a l) {k:Nat} (hk:k<l.length):∃ b off,a=some ⟨b,off,none⟩∧b<B∧w.cell? ⟨b,off+k,none⟩=some (.int .i64 (l.getD k 0)):=by
 rcases h with rfl | ⟨b,off,h1,h2,h3⟩
 · simp at hk
 · exact⟨b,off,h1,h2,h3 k hk⟩
theorem lrow_at {B:Nat} {w:World} {a:Option Addr} {l:List (Int × Int)} (h:LRow B w a l) {k:Nat} (hk:k<l.length):∃ b off,a=some ⟨b,off,none⟩∧b<B∧w.cell? ⟨b,off+k * 2,none⟩=some (.int .i64 (l.getD k (0,0)).1)∧w.cell? ⟨b,off+k * 2+1,none⟩=some (.int .i64 (l.getD k (0,0)).2):=by
 rcases h with rfl | ⟨b,off,h1,h2,h3⟩
 · simp at hk
 · exact⟨b,off,h1,h2,(h3 k hk).1,(h3 k hk).2⟩
theorem acAt_form {B:Nat} {w:World} {t:Ac} {v0 v1 v2 v3:Value} (h:AcAt B w t v0 v1 v2 v3):∃ (k p:Int) (s:ByteArray) (a:Option Addr) (n c:Nat),v0=.int .i64 k∧v1=.int .i64 p∧v2=.string s∧v3=.slice a n c:=by
 cases t
 unfold AcAt at h
 obtain⟨rfl,rfl,rfl,a,c,vs,rfl,-⟩:=h
 exact⟨_,_,_,_,_,_,rfl,rfl,rfl,rfl⟩
theorem qrow_at2 {B:Nat} {w:World} {a:Option Addr} {l:List Pd} (h:QRow B w a l) {k:Nat} (hk:k<l.length):∃ b off,a=some ⟨b,off,none⟩∧b<B∧∃ (ra:Option Addr) (rc:Nat) (x3 x4:Int) (x5:ByteArray) (x6:Option Addr) (n6 c6:Nat),(l.getD k pd0).right.length≤rc∧NRow B w ra (l.getD k pd0).right∧AcAt B w (l.getD k pd0).act (.int .i64 x3) (.int .i64 x4) (.string x5) (.slice x6 n6 c6) ∧
   w.cell? ⟨b,off+k * 7,none⟩=some (.int .i64 (l.getD k pd0).left)∧w.cell? ⟨b,off+k * 7+1,none⟩=some (.slice ra (l.getD k pd0).right.length rc)∧w.cell? ⟨b,off+k * 7+2,none⟩=some (.int .i64 (l.getD k pd0).level)∧w.cell? ⟨b,off+k * 7+3,none⟩=some (.int .i64 x3)∧w.cell? ⟨b,off+k * 7+4,none⟩=some (.int .i64 x4)∧w.cell? ⟨b,off+k * 7+5,none⟩=some (.string x5)∧w.cell? ⟨b,off+k * 7+6,none⟩=some (.slice x6 n6 c6):=by
 rcases h with rfl | ⟨b,off,h1,h2,h3⟩
 · simp at hk
 · obtain⟨v0,v1,v2,v3,v4,v5,v6,⟨rfl,⟨ra,rc,rfl,hn,hcl⟩,rfl,ha⟩,e0,e1,e2,e3,e4,e5,e6⟩:=h3 k hk
   obtain⟨x3,x4,x5,x6,n6,c6,rfl,rfl,rfl,rfl⟩:=acAt_form ha
   exact⟨b,off,h1,h2,ra,rc,x3,x4,x5,x6,n6,c6,hcl,hn,ha,e0,e1,e2,e3,e4,e5,e6⟩
theorem qrow_at {B:Nat} {w:World} {a:Option Addr} {l:List Pd} (h:QRow B w a l) {k:Nat} (hk:k<l.length):∃ b off,a=some ⟨b,off,none⟩∧b<B∧∃ (ra:Option Addr) (rc:Nat) (x3 x4:Int) (x5:ByteArray) (x6:Option Addr) (n6 c6:Nat),NRow B w ra (l.getD k pd0).right∧AcAt B w (l.getD k pd0).act (.int .i64 x3) (.int .i64 x4) (.string x5) (.slice x6 n6 c6) ∧
   w.cell? ⟨b,off+k * 7,none⟩=some (.int .i64 (l.getD k pd0).left)∧w.cell? ⟨b,off+k * 7+1,none⟩=some (.slice ra (l.getD k pd0).right.length rc)∧w.cell? ⟨b,off+k * 7+2,none⟩=some (.int .i64 (l.getD k pd0).level)∧w.cell? ⟨b,off+k * 7+3,none⟩=some (.int .i64 x3)∧w.cell? ⟨b,off+k * 7+4,none⟩=some (.int .i64 x4)∧w.cell? ⟨b,off+k * 7+5,none⟩=some (.string x5)∧w.cell? ⟨b,off+k * 7+6,none⟩=some (.slice x6 n6 c6):=by
 obtain⟨b,off,h1,h2,ra,rc,x3,x4,x5,x6,n6,c6,-,h⟩:=qrow_at2 h hk
 exact⟨b,off,h1,h2,ra,rc,x3,x4,x5,x6,n6,c6,h⟩
theorem run_not (x:Bool) (w:World):(Op.unary .not (.bool x)).run Tryz.prog w=.ok (.bool (!x)) w:=rfl
theorem wN (r:Nat) (h:r≤281474976710656):IntKind.i64.wrap (r:Int)=r:=by rw[IntKind.wrap_i64];omega

theorem boxG (w:World) (v0 v1 v2 v3 v4:Value) (t:TypeId):(w.alloc (.cells #[v0,v1,v2,v3,v4] t)).cell? ⟨w.heap.size,0,none⟩=some v0∧(w.alloc (.cells #[v0,v1,v2,v3,v4] t)).cell? ⟨w.heap.size,1,none⟩=some v1∧(w.alloc (.cells #[v0,v1,v2,v3,v4] t)).cell? ⟨w.heap.size,2,none⟩=some v2∧(w.alloc (.cells #[v0,v1,v2,v3,v4] t)).cell? ⟨w.heap.size,3,none⟩=some v3∧(w.alloc (.cells #[v0,v1,v2,v3,v4] t)).cell? ⟨w.heap.size,4,none⟩=some v4∧(w.alloc (.cells #[v0,v1,v2,v3,v4] t)).heap.size=w.heap.size+1∧Below w.heap.size w (w.alloc (.cells #[v0,v1,v2,v3,v4] t)):=by
 refine⟨?_,?_,?_,?_,?_,by simp,(Below.refl _ _).alloc (Nat.le_refl _) _⟩ <;> (unfold World.cell?;rw[Go.Deep.blk_alloc_new];rfl)
theorem boxP (w:World) (v0 v1 v2 v3 v4 v5 v6:Value) (t:TypeId):(w.alloc (.cells #[v0,v1,v2,v3,v4,v5,v6] t)).cell? ⟨w.heap.size,0,none⟩=some v0∧(w.alloc (.cells #[v0,v1,v2,v3,v4,v5,v6] t)).cell? ⟨w.heap.size,1,none⟩=some v1∧(w.alloc (.cells #[v0,v1,v2,v3,v4,v5,v6] t)).cell? ⟨w.heap.size,2,none⟩=some v2∧(w.alloc (.cells #[v0,v1,v2,v3,v4,v5,v6] t)).cell? ⟨w.heap.size,3,none⟩=some v3∧(w.alloc (.cells #[v0,v1,v2,v3,v4,v5,v6] t)).cell? ⟨w.heap.size,4,none⟩=some v4∧(w.alloc (.cells #[v0,v1,v2,v3,v4,v5,v6] t)).cell? ⟨w.heap.size,5,none⟩=some v5∧(w.alloc (.cells #[v0,v1,v2,v3,v4,v5,v6] t)).cell? ⟨w.heap.size,6,none⟩=some v6∧(w.alloc (.cells #[v0,v1,v2,v3,v4,v5,v6] t)).heap.size=w.heap.size+1∧Below w.heap.size w (w.alloc (.cells #[v0,v1,v2,v3,v4,v5,v6] t)):=by
 refine⟨?_,?_,?_,?_,?_,?_,?_,by simp,(Below.refl _ _).alloc (Nat.le_refl _) _⟩ <;> (unfold World.cell?;rw[Go.Deep.blk_alloc_new];rfl)

structure GSt (B:Nat) (w:World) (G:Gm) (ka:Option Addr) (kc:Nat) (pa:Option Addr) (pc:Nat) (ra:Option Addr) (rc:Nat) (qa:Option Addr) (qc gb:Nat):Prop where
 gin:GIn B w G ka pa ra qa
 c0:w.cell? ⟨gb,0,none⟩=some (.slice ka G.kinds.length kc)
 c1:w.cell? ⟨gb,1,none⟩=some (.slice pa G.precs.length pc)
 c2:w.cell? ⟨gb,2,none⟩=some (.slice ra G.rules.length rc)
 c3:w.cell? ⟨gb,3,none⟩=some (.slice qa G.prods.length qc)
 c4:w.cell? ⟨gb,4,none⟩=some (.int .i64 G.start)
theorem gst_kept {B:Nat} {w w':World} {G:Gm} {ka pa ra qa:Option Addr} {kc pc rc qc gb:Nat} (hb:Below (gb+1) w w') (hB:B≤gb) (h:GSt B w G ka kc pa pc ra rc qa qc gb):GSt B w' G ka kc pa pc ra rc qa qc gb :=
 ⟨gin_kept (below_le hb (by omega)) h.gin,(hb.cell (Nat.lt_succ_self _)).trans h.c0,(hb.cell (Nat.lt_succ_self _)).trans h.c1,(hb.cell (Nat.lt_succ_self _)).trans h.c2,(hb.cell (Nat.lt_succ_self _)).trans h.c3,(hb.cell (Nat.lt_succ_self _)).trans h.c4⟩
theorem gst_new {B:Nat} {w:World} {G:Gm} {ka pa ra qa:Option Addr} {kc pc rc qc:Nat} (hB:B≤w.heap.size) (h:GIn B w G ka pa ra qa) (t:TypeId) :
   GSt B (w.alloc (.cells #[.slice ka G.kinds.length kc,.slice pa G.precs.length pc,.slice ra G.rules.length rc,.slice qa G.prods.length qc,.int .i64 G.start] t)) G ka kc pa pc ra rc qa qc w.heap.size:=by
 obtain⟨g0,g1,g2,g3,g4,-,hb⟩:=boxG w (.slice ka G.kinds.length kc) (.slice pa G.precs.length pc) (.slice ra G.rules.length rc) (.slice qa G.prods.length qc) (.int .i64 G.start) t
 exact⟨gin_kept (below_le hb hB) h,g0,g1,g2,g3,g4⟩

def emptyB (nk:Nat) (null:Nat→Bool) (row:List Int):Bool:=row.all fun x=>decide ((nk:Int)≤x) && null (x - nk).toNat
def symsIn (n:Nat) (row:List Int):Prop:=∀ x,x ∈ row→1≤x∧x<n
theorem mem_getD {l:List Int} {i:Nat} (h:i<l.length):l.getD i 0 ∈ l:=by
 rw[List.getD_eq_getElem?_getD,List.getElem?_eq_getElem h];exact List.getElem_mem h
theorem take_snoc {α:Type} (l:List α) (i:Nat) (d:α) (h:i<l.length):l.take (i+1)=l.take i ++ [l.getD i d]:=by
 rw[List.take_add_one,List.getD_eq_getElem?_getD,List.getElem?_eq_getElem h];rfl
end Go.Proofs.YtagohbpbgjelaaaGreatDoor

namespace Go.Proofs.YtagohbpbgjelaaaGreatDoor
open Go.RowKit

abbrev Gm.nk (G:Gm):Nat:=G.kinds.length
abbrev Gm.nr (G:Gm):Nat:=G.rules.length
structure GOk (G:Gm):Prop where
 k2:2≤G.nk
 k3:G.nk≤1024
 r1:1≤G.nr
 r2:G.nr≤2048
 s0:0≤G.start
 s1:G.start<G.nr
 ps:G.prods.length≤4096
 pl:∀ p,p ∈ G.prods→0≤p.left∧p.left<G.nr
 pr:∀ p,p ∈ G.prods→p.right.length≤64
 py:∀ p,p ∈ G.prods→symsIn (G.nk+G.nr) p.right

theorem mem_getP {l:List Pd} {i:Nat} (h:i<l.length):l.getD i pd0 ∈ l:=by
 rw[List.getD_eq_getElem?_getD,List.getElem?_eq_getElem h];exact List.getElem_mem h
theorem ex_getP {l:List Pd} {p:Pd} (h:p ∈ l):∃ i,i<l.length∧l.getD i pd0=p:=by
 obtain⟨i,hi,rfl⟩:=List.getElem_of_mem h
 exact⟨i,hi,by rw[List.getD_eq_getElem?_getD,List.getElem?_eq_getElem hi];rfl⟩

def upd (f:Nat→Bool) (i:Nat):Nat→Bool:=fun j=>if j=i then true else f j
theorem upd_self (f:Nat→Bool) (i:Nat):upd f i i=true:=by simp[upd]
theorem upd_of (f:Nat→Bool) (i j:Nat) (h:f j=true):upd f i j=true:=by unfold upd;split <;> simp_all
theorem upd_inv {f:Nat→Bool} {i j:Nat} (h:upd f i j=true):j=i∨f j=true:=by unfold upd at h;split at h <;> simp_all
def cntF (f:Nat→Bool):Nat→Nat
 | 0=>0
 | n+1=>cntF f n+if f n then 0 else 1
theorem cntF_le {f g:Nat→Bool}:∀ n,(∀ i,i<n→f i=true→g i=true)→cntF g n≤cntF f n
 | 0,_=>Nat.le_refl _
 | n + 1, h => by
   have:=cntF_le n (fun i hi=>h i (by omega))
   unfold cntF
   have h1:=h n (by omega)
   cases hf:f n <;> cases hg:g n <;> simp_all <;> omega
theorem cntF_lt {f g:Nat→Bool}:∀ n,(∀ i,i<n→f i=true→g i=true)→∀ i,i<n→f i=false→g i=true→cntF g n<cntF f n
 | 0,_,i,hi,_,_=>by omega
 | n + 1, h, i, hi, h0, h1 => by
   unfold cntF
   by_cases e:i=n
   · subst e
     have:=cntF_le i (fun j hj=>h j (by omega))
     rw[h0,h1]
     simp
     omega
   · have:=cntF_lt n (fun j hj=>h j (by omega)) i (by omega) h0 h1
     have h2:=h n (by omega)
     cases hf:f n <;> cases hg:g n <;> simp_all <;> omega
theorem cntF_upd {f:Nat→Bool} {i n:Nat} (hi:i<n) (h:f i=false):cntF (upd f i) n<cntF f n :=
 cntF_lt n (fun j _ hj=>upd_of f i j hj) i hi h (upd_self f i)
open Classical in
noncomputable def markW (w:World) (b:Nat):Nat→Bool:=fun r=>decide (w.cell? ⟨b,r,none⟩=some (.bool true))
theorem markW_is {w:World} {b t n:Nat} {f:Nat→Bool} (h:w.rowIs b t n (fun r=>.bool (f r))) (r:Nat) (hr:r<n):markW w b r=f r:=by
 unfold markW
 have:=h.cell hr
 rw[this]
 cases f r <;> simp
theorem cntF_congr {f g:Nat→Bool}:∀ n,(∀ i,i<n→f i=g i)→cntF f n=cntF g n
 | 0,_=>rfl
 | n+1,h=>by unfold cntF;rw[cntF_congr n (fun i hi=>h i (by omega)),h n (by omega)]
theorem cntW_is {w:World} {b t n:Nat} {f:Nat→Bool} (h:w.rowIs b t n (fun r=>.bool (f r))):cntF (markW w b) n=cntF f n :=
 cntF_congr n (fun r hr=>markW_is h r hr)
theorem rowIs_upd {w:World} {b t n:Nat} {f:Nat→Bool} (h:w.rowIs b t n (fun r=>.bool (f r))) (i:Nat):(w.setCell ⟨b,i,none⟩ (.bool true)).rowIs b t n (fun r=>.bool (upd f i r)) :=
 (h.set i (.bool true)).congr (fun j _=>by unfold upd;split <;> rfl)

def bitOf:Value→Nat | .bool true=>1 | _=>0

inductive Null (G:Gm):Nat→Prop
 | mk (p:Pd) (hp:p ∈ G.prods) (h1:∀ x,x ∈ p.right→(G.nk:Int)≤x) (h2:∀ x,x ∈ p.right→Null G (x - G.nk).toNat):Null G p.left.toNat
open Classical in
noncomputable def nullF (G:Gm):Nat→Bool:=fun r=>decide (Null G r)
theorem nullF_is (G:Gm) (r:Nat):nullF G r=true↔Null G r:=by unfold nullF;simp
theorem emptyB_iff {nk:Nat} {f:Nat→Bool} {row:List Int}:emptyB nk f row=true↔∀ x,x ∈ row→(nk:Int)≤x∧f (x - nk).toNat=true:=by
 unfold emptyB
 rw[List.all_eq_true]
 constructor
 · intro h x hx
   have:=h x hx
   rw[Bool.and_eq_true,decide_eq_true_eq] at this
   exact this
 · intro h x hx
   rw[Bool.and_eq_true,decide_eq_true_eq]
   exact h x hx
def NullSound (G:Gm) (f:Nat→Bool):Prop:=∀ r,f r=true→Null G r
def nullStep (G:Gm) (f:Nat→Bool) (p:Pd):Bool:=!f p.left.toNat && emptyB G.nk f p.right
def NullShut (G:Gm) (f:Nat→Bool):Prop:=∀ i,i<G.prods.length→nullStep G f (G.prods.getD i pd0)=false
theorem null_upd {G:Gm} {f:Nat→Bool} {i:Nat} (h:NullSound G f) (hi:i<G.prods.length) (hs:nullStep G f (G.prods.getD i pd0)=true):NullSound G (upd f (G.prods.getD i pd0).left.toNat):=by
 intro r hr
 rcases upd_inv hr with rfl | h1
 · unfold nullStep at hs
   rw[Bool.and_eq_true] at hs
   have:=emptyB_iff.1 hs.2
   exact .mk _ (mem_getP hi) (fun x hx=>(this x hx).1) (fun x hx=>h _ (this x hx).2)
 · exact h r h1
theorem null_done {G:Gm} {f:Nat→Bool} (h:NullSound G f) (hs:NullShut G f):f=nullF G:=by
 funext r
 rw[Bool.eq_iff_iff,nullF_is]
 refine⟨h r,fun hn=>?_⟩
 induction hn with
 | mk p hp h1 h2 ih =>
   obtain⟨i,hi,rfl⟩:=ex_getP hp
   have:=hs i hi
   unfold nullStep at this
   rw[Bool.and_eq_false_iff] at this
   rcases this with h | h
   · simpa using h
   · rw[emptyB_iff.2 (fun x hx=>⟨h1 x hx,ih x hx⟩)] at h
     cases h
end Go.Proofs.YtagohbpbgjelaaaGreatDoor

namespace Go.Proofs.YtagohbpbgjelaaaGreatDoor
open Go.RowKit

def joinTo (f g:Nat→Bool) (k:Nat):Nat→Bool:=fun r=>f r || (decide (r<k) && g r)
def newTo (f g:Nat→Bool):Nat→Bool
 | 0=>false
 | k+1=>newTo f g k || (g k && !f k)
theorem joinTo_zero (f g:Nat→Bool):joinTo f g 0=f:=by funext r;simp[joinTo]
theorem joinTo_at (f g:Nat→Bool) (k:Nat):joinTo f g k k=f k:=by simp[joinTo]
theorem joinTo_same {f g:Nat→Bool} {k:Nat} (h:(g k && !f k)=false):joinTo f g (k+1)=joinTo f g k:=by
 funext r
 unfold joinTo
 by_cases e:r=k
 · subst e;cases hf:f r <;> cases hg:g r <;> simp_all
 · have:decide (r<k+1)=decide (r<k):=by rw[decide_eq_decide];omega
   rw[this]
theorem joinTo_upd {f g:Nat→Bool} {k:Nat} (h:g k=true):joinTo f g (k+1)=upd (joinTo f g k) k:=by
 funext r
 unfold joinTo upd
 by_cases e:r=k
 · subst e;simp[h]
 · have:decide (r<k+1)=decide (r<k):=by rw[decide_eq_decide];omega
   rw[this,if_neg e]
theorem newTo_iff {f g : Nat → Bool} : ∀ {k : Nat}, newTo f g k = true ↔ ∃ r, r < k ∧ g r = true ∧ f r = false
 | 0=>by simp[newTo]
 | k + 1 => by
   unfold newTo
   rw[Bool.or_eq_true,newTo_iff (k:=k)]
   constructor
   · rintro(⟨r,h,h1⟩ | h)
     · exact⟨r,by omega,h1⟩
     · rw[Bool.and_eq_true,Bool.not_eq_true'] at h
       exact⟨k,by omega,h⟩
   · rintro⟨r,h,h1,h2⟩
     by_cases e:r=k
     · subst e;exact .inr (by simp[h1,h2])
     · exact .inl ⟨r,by omega,h1,h2⟩

set_option maxHeartbeats 1000000 in
set_option maxRecDepth 100000 in
theorem rJoined_any (tb fb n tc fc : Nat) (f g : Nat → Bool) (hn : n ≤ 1048576) (w : World) (ht : w.rowIs tb 4 n (fun r => .bool (f r))) (hf : w.rowIs fb 4 n (fun r => .bool (g r))) :
   Calls Tryz.prog 92 #[.slice (some ⟨tb,0,none⟩) n tc,.slice (some ⟨fb,0,none⟩) n fc] w fun e w'=>e=.returned (.bool (newTo f g n))∧w'.rowIs tb 4 n (fun r=>.bool (joinTo f g n r))∧Fr (· = tb) w w':=by
 have Ht:=hide ht;have Hf:=hide hf
 clear ht hf
 have hnot:=run_not
 go_enter Tryz.func92,Tryz.ntmps92
 go_wp2
 go_loopw [5,6] (fun x y wr=>∃ k:Nat,x=.bool (newTo f g k)∧y=.int .i64 k∧k≤n∧wr.rowIs tb 4 n (fun r=>.bool (joinTo f g k r))∧wr.rowIs fb 4 n (fun r=>.bool (g r))∧Fr (· = tb) w wr) (fun _ y _=>n - (intOf y).toNat)
 case atStart=>exact⟨0,rfl,rfl,Nat.zero_le _,by rw[joinTo_zero];exact uh Ht,uh Hf,fr_refl _ _⟩
 case round =>
   obtain⟨k,rfl,rfl,hk,hrt,hrf,hfr⟩:=hrel
   by_cases hlt:k<n
   · have hlt':(k:Int)<n:=by omega
     have ct:wr.cell? ⟨tb,k,none⟩=some (.bool (joinTo f g k k)):=hrt.cell hlt
     have cf:wr.cell? ⟨fb,k,none⟩=some (.bool (g k)):=hrf.cell hlt
     have ft:=hrt.frozen k
     rw[joinTo_at] at ct
     have Hne:Hid (g k=true→f k=false→fb≠tb):=hide (fun h1 h2 e=>by
       rw[h2] at ct;rw[h1,e,ct] at cf;cases cf)
     have Hn1:Hid (newTo f g (k+1)=(newTo f g k || (g k && !f k))):=hide rfl
     have Hrt:=hide hrt;have Hrf:=hide hrf;have Hfr:=hide hfr
     clear hrt hrf hfr
     cases hg:g k
     · have Hj:=hide (joinTo_same (f:=f) (g:=g) (k:=k) (by rw[hg];rfl))
       rw[hg] at cf Hn1
       simp only[Bool.false_and,Bool.or_false] at Hn1
       generalize newTo f g k=N at *
       clear Hne hg
       go_wp2
       go_roundw
       case rel=>exact⟨k+1,by rw[uh Hn1],by go_num,by omega,by rw[uh Hj];exact uh Hrt,uh Hrf,uh Hfr⟩
       case measure=>simp[intOf];omega
     · rw[hg] at cf Hn1
       cases hfk:f k
       · have Hj:=hide (joinTo_upd (f:=f) (k:=k) hg)
         have Hne2:=hide (uh Hne hg hfk)
         rw[hfk] at ct Hn1
         simp only[Bool.not_false,Bool.and_true,Bool.or_true] at Hn1
         clear hg hfk Hne
         generalize newTo f g k=N at *
         go_wp2
         go_roundw
         case rel=>exact⟨k+1,by rw[uh Hn1],by go_num,by omega,by rw[uh Hj];exact rowIs_upd (uh Hrt) k,(uh Hrf).setOther (uh Hne2) _,fr_set (uh Hfr) (by show tb=tb;rfl) _⟩
         case measure=>simp[intOf];omega
       · have Hj:=hide (joinTo_same (f:=f) (g:=g) (k:=k) (by rw[hfk];simp))
         rw[hfk] at ct Hn1
         simp only[Bool.not_true,Bool.and_false,Bool.or_false] at Hn1
         clear hg hfk Hne
         generalize newTo f g k=N at *
         go_wp2
         go_roundw
         case rel=>exact⟨k+1,by rw[uh Hn1],by go_num,by omega,by rw[uh Hj];exact uh Hrt,uh Hrf,uh Hfr⟩
         case measure=>simp[intOf];omega
   · obtain rfl:k=n:=by omega
     go_wp2
     go_ret
     exact⟨rfl,hrt,hfr⟩
end Go.Proofs.YtagohbpbgjelaaaGreatDoor

namespace Go.Proofs.YtagohbpbgjelaaaGreatDoor
open Go.RowKit

theorem emptyB_take {nk:Nat} {null:Nat→Bool} {row:List Int} {k:Nat} (h:k<row.length) (h1:emptyB nk null (row.take k)=true) (h2:(nk:Int)≤row.getD k 0) (h3:null (row.getD k 0 - nk).toNat=true):emptyB nk null (row.take (k+1))=true:=by
 unfold emptyB at *
 rw[take_snoc row k 0 h,List.all_append,h1]
 simp only[List.all_cons,List.all_nil,h3,decide_eq_true h2,Bool.and_true]
theorem emptyB_no {nk:Nat} {null:Nat→Bool} {row:List Int} {k:Nat} (h:k<row.length) (h2:(nk:Int)≤row.getD k 0→null (row.getD k 0 - nk).toNat=false):emptyB nk null row=false:=by
 unfold emptyB
 rw[Bool.eq_false_iff]
 intro h'
 rw[List.all_eq_true] at h'
 have:=h' _ (mem_getD h)
 rw[Bool.and_eq_true,decide_eq_true_eq] at this
 rw[h2 this.1] at this
 exact absurd this.2 (by simp)

set_option maxHeartbeats 1000000 in
set_option maxRecDepth 100000 in
theorem rEmpty_any (ka pa ra qa : Option Addr) (nk kc pn pc nr rc qn qc : Nat) (st : Int) (nb nc : Nat) (null : Nat → Bool) (ro : Option Addr) (rowc : Nat) (row : List Int) (B : Nat) (w : World)
   (hB:B≤w.heap.size) (hnr:nr≤2048) (hrl:row.length≤281474976710656) (hrow:NRow B w ro row) (hs:symsIn (nk+nr) row) (hn:w.rowIs nb 4 nr (fun r=>.bool (null r))) :
   Calls Tryz.prog 50 #[.agg #[.slice ka nk kc,.slice pa pn pc,.slice ra nr rc,.slice qa qn qc,.int .i64 st],.slice (some ⟨nb,0,none⟩) nr nc,.slice ro row.length rowc] w fun e w'=>e=.returned (.bool (emptyB nk null row))∧Below w.heap.size w w':=by
 have Hrow:=hide hrow;have Hs:=hide hs;have Hn:=hide hn
 clear hrow hs hn
 generalize hR:emptyB nk null row=R
 have HR:=hide hR
 clear hR
 obtain⟨g0,-,-,-,-,hw1,hb1⟩:=boxG w (.slice ka nk kc) (.slice pa pn pc) (.slice ra nr rc) (.slice qa qn qc) (.int .i64 st) 26
 have hnot:=run_not
 go_enter Tryz.func50,Tryz.ntmps50
 go_wp2
 generalize w.alloc (.cells #[.slice ka nk kc,.slice pa pn pc,.slice ra nr rc,.slice qa qn qc,.int .i64 st] 26)=w1 at *
 have Hg0:=hide g0;have Hb1:=hide hb1
 clear g0 hb1
 go_loopw [7] (fun x wr=>∃ k:Nat,x=.int .i64 k∧k≤row.length∧emptyB nk null (row.take k)=true∧Below w1.heap.size w1 wr) (fun x _=>row.length - (intOf x).toNat)
 case atStart=>exact⟨0,rfl,Nat.zero_le _,rfl,Below.refl _ _⟩
 case round =>
   obtain⟨k,rfl,hk,hem,hb⟩:=hrel
   have hb2:=(uh Hb1).trans (below_le hb (by omega))
   have Hem:=hide hem;have Hb2:=hide hb2
   have g0:=(hb.cell (p:=⟨w.heap.size,0,none⟩) (by show w.heap.size<w1.heap.size;omega)).trans (uh Hg0)
   have Hb:=hide hb
   clear hem hb hb2
   by_cases hlt:k<row.length
   · have hlt':(k:Int)<row.length:=by omega
     obtain⟨b,off,rfl,hbB,hc⟩:=nrow_at (nrow_kept (below_le (uh Hb2) hB) (uh Hrow)) hlt
     have hr:=uh Hs _ (mem_getD hlt)
     have Hlow:=hide (fun h2=>(uh HR).symm.trans (emptyB_no (null:=null) (nk:=nk) hlt h2))
     have Hup:=hide (fun h2 h3=>emptyB_take (null:=null) (nk:=nk) hlt (uh Hem) h2 h3)
     generalize row.getD k 0=x at *
     by_cases hx:x<nk
     · have Hlow2:=hide (uh Hlow (fun h=>by omega))
       go_wp2
       go_quiet (fail)
       go_wp2
       go_ret
       rw[uh Hlow2]
       exact⟨rfl,below_drewN (uh Hb2) _⟩
     · obtain⟨r,hxr⟩:∃ r:Nat,x - (nk:Int)=r:=⟨(x - nk).toNat,by omega⟩
       have hrr:r<nr:=by omega
       have hrr':(r:Int)<nr:=by omega
       have hwr:=wN r (by omega)
       rw[hxr,Int.toNat_natCast] at Hlow Hup
       have cn:wr.cell? ⟨nb,r,none⟩=some (.bool (null r)):=((uh Hb2).cell (p:=⟨nb,r,none⟩) (uh Hn).lt).trans ((uh Hn).cell hrr)
       cases hnr2:null r
       · rw[hnr2] at cn
         have Hlow2:=hide (uh Hlow (fun h=>hnr2))
         clear hnr2
         go_wp2
         go_quiet (fail)
         go_wp2
         go_ret
         rw[uh Hlow2]
         exact⟨rfl,below_drewN (uh Hb2) _⟩
       · rw[hnr2] at cn
         have Hup2:=hide (uh Hup (by omega) hnr2)
         clear hnr2
         go_wp2
         go_quiet (fail)
         go_wp2
         go_roundw
         case rel=>exact⟨k+1,by go_num,by omega,uh Hup2,below_drewN (uh Hb) _⟩
         case measure=>simp[intOf];omega
   · obtain rfl:k=row.length:=by omega
     go_wp2
     go_ret
     rw[List.take_length] at Hem
     rw[← uh HR,uh Hem]
     exact⟨rfl,uh Hb2⟩
end Go.Proofs.YtagohbpbgjelaaaGreatDoor

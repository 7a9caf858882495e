/- Stage 12, the document's side: grammars in memory; frames. -/
import Derived.Test.YtagohbpbgjelaaaGreatDoorChecked
import Derived.RowKit3
import Derived.WalkKit
import Derived.Below
import Derived.OwnWalk
import Derived.OneCell
import Derived.Laws.OwnMore
import Derived.Laws.AppendOwn
import Derived.Laws.MakeOwn
import Derived.Laws.Strings
import Derived.Deep.OwnRows
import Derived.Deep.RegionHeld3
import Derived.Deep.QuietTactic
import Derived.BigQuiet
import Derived.KernelRfl
namespace Go.Proofs.YtagohbpbgjelaaaGreatDoor
open Go.RowKit

theorem zsA {α : Type _} (l : List α) (i : Nat) (x : α) : l.toArray.setIfInBounds i x = (l.set i x).toArray := List.setIfInBounds_toArray ..
theorem zsB {α : Type _} (a : α) (l : List α) (x : α) : (a :: l).set 0 x = x :: l := rfl
theorem zsC {α : Type _} (a : α) (l : List α) (n : Nat) (x : α) : (a :: l).set (n + 1) x = a :: l.set n x := rfl
theorem zaa {p:Prop} (h:p):Hid p:=h
theorem uh {p:Prop} (h:Hid p):p:=h
theorem zbQ {a b:Bool} (h:a=b):Ending.returned (.bool a)=.returned (.bool b):=by rw[h]
theorem zab {B B':Nat} {w w':World} (h:Below B w w') (hB:B'≤B):Below B' w w':=h.mono hB
theorem zaq {B:Nat} {w w':World} (h:Below B w w') (n:Nat):Below B w (w'.drewN n):=⟨h.os,h.tape,h.output,h.size,h.block⟩
theorem zad {w:World} {B:Nat} {e:TypeId} {size:Nat} {v:Value} {n:Nat} {xs:List Value} (h:w.ownsRow B e size v n xs):∃ a c,v=.slice a n c:=by
 rcases h.2 with ⟨rfl,rfl⟩ | ⟨g,cap,cur,rfl,_⟩
 ·exact⟨_,_,rfl⟩
 ·exact⟨_,_,rfl⟩

def Fr (O:Nat→Prop) (w w':World):Prop:=w.heap.size≤w'.heap.size∧(∀ k,k<w.heap.size→¬ O k→w'.heap[k]? = w.heap[k]?)∧w'.os=w.os∧w'.tape=w.tape∧w'.output=w.output
theorem zav (O:Nat→Prop) (w:World):Fr O w w:=⟨Nat.le_refl _,fun _ _ _=>rfl,rfl,rfl,rfl⟩
theorem zfr {O:Nat→Prop} {a b c:World} (h:Fr O a b) (k:Fr O b c):Fr O a c:=⟨Nat.le_trans h.1 k.1,fun i hi ho=>(k.2.1 i (Nat.lt_of_lt_of_le hi h.1) ho).trans (h.2.1 i hi ho),k.2.2.1.trans h.2.2.1,k.2.2.2.1.trans h.2.2.2.1,k.2.2.2.2.trans h.2.2.2.2⟩
theorem zbE {O O':Nat→Prop} {a b:World} (h:Fr O a b) (hO:∀ k,k<a.heap.size→O k→O' k):Fr O' a b:=⟨h.1,fun k hk ho=>h.2.1 k hk (fun h'=>ho (hO k hk h')),h.2.2⟩
theorem zre {O:Nat→Prop} {a b:World} (h:Fr O a b) (n:Nat):Fr O a (b.drewN n):=h
theorem zbR {O:Nat→Prop} {a b:World} (h:Fr O a b) (o:Obj):Fr O a (b.alloc o):=zfr h ⟨by simp,fun k hk _=>Below.heap_alloc _ _ _ hk,rfl,rfl,rfl⟩
theorem zaz {O:Nat→Prop} {a b:World} (h:Fr O a b) {p:Addr} (hp:O p.block) (u:Value):Fr O a (b.setCell p u) :=
 zfr h ⟨by simp[World.setCell],fun k _ ho=>Below.heap_setCell _ _ _ _ (fun e=>ho (e▸hp)),rfl,rfl,rfl⟩
theorem zah {B:Nat} {O:Nat→Prop} {a b:World} (h:Fr O a b) (hB:B≤a.heap.size) (hO:∀ k,O k→B≤k):Below B a b :=
 ⟨h.2.2.1,h.2.2.2.1,h.2.2.2.2,h.1,fun k hk=>h.2.1 k (by omega) (fun ho=>by have:=hO k ho;omega)⟩
theorem za1 {O:Nat→Prop} {a b:World} (h:Below a.heap.size a b):Fr O a b:=⟨h.size,fun k hk _=>h.block k hk,h.os,h.tape,h.output⟩
theorem zb3 {O:Nat→Prop} {a b c:World} (h:Fr O a b) (k:Below b.heap.size b c):Fr O a c:=zfr h (za1 k)

def bs (l:List UInt8):ByteArray:=⟨⟨l⟩⟩
theorem zgx (l:List UInt8):(bs l).size=l.length:=rfl
theorem zbG (l:List UInt8):(bs l).toList=l:=by rw[ByteArray.toList_eq];rfl
theorem bs_ne {a b:List UInt8} (h:a≠b):((bs a).toList == (bs b).toList)=false:=by
 rw[beq_eq_false_iff_ne,zbG,zbG];exact h

def zez (B:Nat) (w:World) (a:Option Addr) (l:List (List UInt8)):Prop :=
 l=[]∨∃ b off,a=some ⟨b,off,none⟩∧b<B∧∀ j,j<l.length→w.cell? ⟨b,off+j,none⟩=some (.string (bs (l.getD j [])))
def NRow (B:Nat) (w:World) (a:Option Addr) (l:List Int):Prop :=
 l=[]∨∃ b off,a=some ⟨b,off,none⟩∧b<B∧∀ j,j<l.length→w.cell? ⟨b,off+j,none⟩=some (.int .i64 (l.getD j 0))
def zpY (B:Nat) (w:World) (a:Option Addr) (l:List (Int × Int)):Prop :=
 l=[]∨∃ b off,a=some ⟨b,off,none⟩∧b<B∧∀ j,j<l.length→w.cell? ⟨b,off+j * 2,none⟩=some (.int .i64 (l.getD j (0,0)).1)∧w.cell? ⟨b,off+j * 2+1,none⟩=some (.int .i64 (l.getD j (0,0)).2)
inductive Ac where
 | mk (kind pick:Int) (name:List UInt8) (kids:List Ac)
mutual
def zdh (B:Nat) (w:World):Ac→Value→Value→Value→Value→Prop
 | .mk k p n ks,v0,v1,v2,v3=>v0=.int .i64 k∧v1=.int .i64 p∧v2=.string (bs n)∧∃ a c vs,v3=.slice a ks.length c∧zgI B w ks vs∧(ks=[]∨∃ b off,a=some ⟨b,off,none⟩∧b<B∧∀ j u,vs[j]? = some u→w.cell? ⟨b,off+j,none⟩=some u)
def zgI (B:Nat) (w:World):List Ac→List Value→Prop
 | [],vs=>vs=[]
 | t::ts,vs=>∃ u0 u1 u2 u3 rest,vs=u0::u1::u2::u3::rest∧zdh B w t u0 u1 u2 u3∧zgI B w ts rest
end
structure Pd where
 left:Int
 right:List Int
 level:Int
 act:Ac
def ac0:Ac:=.mk 0 0 [] []
def pd0:Pd:=⟨0,[],0,ac0⟩
structure Gm where
 kinds:List (List UInt8)
 precs:List (Int × Int)
 rules:List (List UInt8)
 prods:List Pd
 start:Int
def PdAt (B:Nat) (w:World) (p:Pd) (v0 v1 v2 v3 v4 v5 v6:Value):Prop :=
 v0=.int .i64 p.left∧(∃ a c,v1=.slice a p.right.length c∧NRow B w a p.right∧p.right.length≤c)∧v2=.int .i64 p.level∧zdh B w p.act v3 v4 v5 v6
def zpV (B:Nat) (w:World) (a:Option Addr) (l:List Pd):Prop :=
 l=[]∨∃ b off,a=some ⟨b,off,none⟩∧b<B∧∀ j,j<l.length→∃ v0 v1 v2 v3 v4 v5 v6,PdAt B w (l.getD j pd0) v0 v1 v2 v3 v4 v5 v6 ∧
  w.cell? ⟨b,off+j * 7,none⟩=some v0∧w.cell? ⟨b,off+j * 7+1,none⟩=some v1∧w.cell? ⟨b,off+j * 7+2,none⟩=some v2∧w.cell? ⟨b,off+j * 7+3,none⟩=some v3∧w.cell? ⟨b,off+j * 7+4,none⟩=some v4∧w.cell? ⟨b,off+j * 7+5,none⟩=some v5∧w.cell? ⟨b,off+j * 7+6,none⟩=some v6
def tzT:List Nat:=[0,1,56,2,57,49,28,3,61,58,42,50,38,29,17,4,62,47,59,36,45,43,51,22,53,39,33,30,24,18,12,5,63,55,48,27,60,41,37,16,46,35,44,21,52,32,23,11,54,26,40,15,34,20,31,10,25,14,19,9,13,8,7,6]
def Tb (B:Nat) (w:World):Prop:=0<B∧∀ j,j<64→w.cell? ⟨0,j,none⟩=some (.int .u8 (tzT.getD j 0:Nat))
theorem zmh {B:Nat} {w w':World} (hb:Below B w w') (h:Tb B w):Tb B w':=⟨h.1,fun j hj=>(hb.cell (p:=⟨0,j,none⟩) h.1).trans (h.2 j hj)⟩
theorem ze6 {B:Nat} {w w':World} (h:Tb B w) (hB:B≤w.heap.size) (hb:Below B w w'):Tb w'.heap.size w':=⟨by have:=h.1;have:=hb.size;omega,(zmh hb h).2⟩
structure GIn (B:Nat) (w:World) (G:Gm) (ka pa ra qa:Option Addr):Prop where
 kinds:zez B w ka G.kinds
 precs:zpY B w pa G.precs
 rules:zez B w ra G.rules
 prods:zpV B w qa G.prods
 tab:Tb B w

theorem zfW {B:Nat} {w w':World} {a:Option Addr} {l:List (List UInt8)} (hb:Below B w w') (h:zez B w a l):zez B w' a l:=by
 rcases h with rfl | ⟨b,off,rfl,hlt,hc⟩
 ·exact .inl rfl
 ·exact .inr ⟨b,off,rfl,hlt,fun j hj=>(hb.cell hlt).trans (hc j hj)⟩
theorem zau {B:Nat} {w w':World} {a:Option Addr} {l:List Int} (hb:Below B w w') (h:NRow B w a l):NRow B w' a l:=by
 rcases h with rfl | ⟨b,off,rfl,hlt,hc⟩
 ·exact .inl rfl
 ·exact .inr ⟨b,off,rfl,hlt,fun j hj=>(hb.cell hlt).trans (hc j hj)⟩
theorem zeN {B:Nat} {w w':World} {a:Option Addr} {l:List (Int × Int)} (hb:Below B w w') (h:zpY B w a l):zpY B w' a l:=by
 rcases h with rfl | ⟨b,off,rfl,hlt,hc⟩
 ·exact .inl rfl
 ·exact .inr ⟨b,off,rfl,hlt,fun j hj=>⟨(hb.cell hlt).trans (hc j hj).1,(hb.cell hlt).trans (hc j hj).2⟩⟩
mutual
theorem zbd {B:Nat} {w w':World} (hb:Below B w w'):∀ (t:Ac) (v0 v1 v2 v3:Value),zdh B w t v0 v1 v2 v3→zdh B w' t v0 v1 v2 v3
 | .mk k p n ks,v0,v1,v2,v3,h=>by
   unfold zdh at h ⊢
   obtain⟨h0,h1,h2,a,c,vs,h3,hts,hc⟩:=h
   refine⟨h0,h1,h2,a,c,vs,h3,zdT hb ks vs hts,?_⟩
   rcases hc with h | ⟨b,off,h,hlt,hcs⟩
   ·exact .inl h
   ·exact .inr ⟨b,off,h,hlt,fun j u hj=>(hb.cell hlt).trans (hcs j u hj)⟩
theorem zdT {B:Nat} {w w':World} (hb:Below B w w'):∀ (ts:List Ac) (vs:List Value),zgI B w ts vs→zgI B w' ts vs
 | [],vs,h=>by unfold zgI at h ⊢;exact h
 | t::ts,vs,h=>by
   unfold zgI at h ⊢
   obtain⟨u0,u1,u2,u3,rest,rfl,h1,h2⟩:=h
   exact⟨u0,u1,u2,u3,rest,rfl,zbd hb t _ _ _ _ h1,zdT hb ts rest h2⟩
end
theorem zmL {B:Nat} {w w':World} (hb:Below B w w') {p:Pd} {v0 v1 v2 v3 v4 v5 v6:Value} (h:PdAt B w p v0 v1 v2 v3 v4 v5 v6):PdAt B w' p v0 v1 v2 v3 v4 v5 v6:=by
 obtain⟨h0,⟨a,c,h1,hn,hcl⟩,h2,h3⟩:=h
 exact⟨h0,⟨a,c,h1,zau hb hn,hcl⟩,h2,zbd hb _ _ _ _ _ h3⟩
theorem zf7 {B:Nat} {w w':World} {a:Option Addr} {l:List Pd} (hb:Below B w w') (h:zpV B w a l):zpV B w' a l:=by
 rcases h with rfl | ⟨b,off,rfl,hlt,hc⟩
 ·exact .inl rfl
 ·refine .inr ⟨b,off,rfl,hlt,fun j hj=>?_⟩
  obtain⟨v0,v1,v2,v3,v4,v5,v6,hp,e0,e1,e2,e3,e4,e5,e6⟩:=hc j hj
  exact⟨v0,v1,v2,v3,v4,v5,v6,zmL hb hp,(hb.cell hlt).trans e0,(hb.cell hlt).trans e1,(hb.cell hlt).trans e2,(hb.cell hlt).trans e3,(hb.cell hlt).trans e4,(hb.cell hlt).trans e5,(hb.cell hlt).trans e6⟩
theorem zeP {B:Nat} {w w':World} {G:Gm} {ka pa ra qa:Option Addr} (hb:Below B w w') (h:GIn B w G ka pa ra qa):GIn B w' G ka pa ra qa :=
 ⟨zfW hb h.kinds,zeN hb h.precs,zfW hb h.rules,zf7 hb h.prods,zmh hb h.tab⟩
theorem zcb {B:Nat} {w:World} {a:Option Addr} {l:List (List UInt8)} (h:zez B w a l) {k:Nat} (hk:k<l.length):∃ b off,a=some ⟨b,off,none⟩∧b<B∧w.cell? ⟨b,off+k,none⟩=some (.string (bs (l.getD k []))):=by
 rcases h with rfl | ⟨b,off,h1,h2,h3⟩
 ·simp at hk
 ·exact⟨b,off,h1,h2,h3 k hk⟩
theorem za3 {B:Nat} {w:World} {a:Option Addr} {l:List Int} (h:NRow B w a l) {k:Nat} (hk:k<l.length):∃ b off,a=some ⟨b,off,none⟩∧b<B∧w.cell? ⟨b,off+k,none⟩=some (.int .i64 (l.getD k 0)):=by
 rcases h with rfl | ⟨b,off,h1,h2,h3⟩
 ·simp at hk
 ·exact⟨b,off,h1,h2,h3 k hk⟩
theorem zfe {B:Nat} {w:World} {a:Option Addr} {l:List (Int × Int)} (h:zpY B w a l) {k:Nat} (hk:k<l.length):∃ b off,a=some ⟨b,off,none⟩∧b<B∧w.cell? ⟨b,off+k * 2,none⟩=some (.int .i64 (l.getD k (0,0)).1)∧w.cell? ⟨b,off+k * 2+1,none⟩=some (.int .i64 (l.getD k (0,0)).2):=by
 rcases h with rfl | ⟨b,off,h1,h2,h3⟩
 ·simp at hk
 ·exact⟨b,off,h1,h2,(h3 k hk).1,(h3 k hk).2⟩
theorem zdg {B:Nat} {w:World} {t:Ac} {v0 v1 v2 v3:Value} (h:zdh B w t v0 v1 v2 v3):∃ (k p:Int) (s:ByteArray) (a:Option Addr) (n c:Nat),v0=.int .i64 k∧v1=.int .i64 p∧v2=.string s∧v3=.slice a n c:=by
 cases t
 unfold zdh at h
 obtain⟨rfl,rfl,rfl,a,c,vs,rfl,-⟩:=h
 exact⟨_,_,_,_,_,_,rfl,rfl,rfl,rfl⟩
theorem zhx {B:Nat} {w:World} {a:Option Addr} {l:List Pd} (h:zpV B w a l) {k:Nat} (hk:k<l.length):∃ b off,a=some ⟨b,off,none⟩∧b<B∧∃ (ra:Option Addr) (rc:Nat) (x3 x4:Int) (x5:ByteArray) (x6:Option Addr) (n6 c6:Nat),(l.getD k pd0).right.length≤rc∧NRow B w ra (l.getD k pd0).right∧zdh B w (l.getD k pd0).act (.int .i64 x3) (.int .i64 x4) (.string x5) (.slice x6 n6 c6) ∧
 w.cell? ⟨b,off+k * 7,none⟩=some (.int .i64 (l.getD k pd0).left)∧w.cell? ⟨b,off+k * 7+1,none⟩=some (.slice ra (l.getD k pd0).right.length rc)∧w.cell? ⟨b,off+k * 7+2,none⟩=some (.int .i64 (l.getD k pd0).level)∧w.cell? ⟨b,off+k * 7+3,none⟩=some (.int .i64 x3)∧w.cell? ⟨b,off+k * 7+4,none⟩=some (.int .i64 x4)∧w.cell? ⟨b,off+k * 7+5,none⟩=some (.string x5)∧w.cell? ⟨b,off+k * 7+6,none⟩=some (.slice x6 n6 c6):=by
 rcases h with rfl | ⟨b,off,h1,h2,h3⟩
 ·simp at hk
 ·obtain⟨v0,v1,v2,v3,v4,v5,v6,⟨rfl,⟨ra,rc,rfl,hn,hcl⟩,rfl,ha⟩,e0,e1,e2,e3,e4,e5,e6⟩:=h3 k hk
  obtain⟨x3,x4,x5,x6,n6,c6,rfl,rfl,rfl,rfl⟩:=zdg ha
  exact⟨b,off,h1,h2,ra,rc,x3,x4,x5,x6,n6,c6,hcl,hn,ha,e0,e1,e2,e3,e4,e5,e6⟩
theorem zbz {B:Nat} {w:World} {a:Option Addr} {l:List Pd} (h:zpV B w a l) {k:Nat} (hk:k<l.length):∃ b off,a=some ⟨b,off,none⟩∧b<B∧∃ (ra:Option Addr) (rc:Nat) (x3 x4:Int) (x5:ByteArray) (x6:Option Addr) (n6 c6:Nat),NRow B w ra (l.getD k pd0).right∧zdh B w (l.getD k pd0).act (.int .i64 x3) (.int .i64 x4) (.string x5) (.slice x6 n6 c6) ∧
 w.cell? ⟨b,off+k * 7,none⟩=some (.int .i64 (l.getD k pd0).left)∧w.cell? ⟨b,off+k * 7+1,none⟩=some (.slice ra (l.getD k pd0).right.length rc)∧w.cell? ⟨b,off+k * 7+2,none⟩=some (.int .i64 (l.getD k pd0).level)∧w.cell? ⟨b,off+k * 7+3,none⟩=some (.int .i64 x3)∧w.cell? ⟨b,off+k * 7+4,none⟩=some (.int .i64 x4)∧w.cell? ⟨b,off+k * 7+5,none⟩=some (.string x5)∧w.cell? ⟨b,off+k * 7+6,none⟩=some (.slice x6 n6 c6):=by
 obtain⟨b,off,h1,h2,ra,rc,x3,x4,x5,x6,n6,c6,-,h⟩:=zhx h hk
 exact⟨b,off,h1,h2,ra,rc,x3,x4,x5,x6,n6,c6,h⟩
theorem zaG (x:Bool) (w:World):(Op.unary .not (.bool x)).run Tryz.prog w=.ok (.bool (!x)) w:=rfl
theorem wN (r:Nat) (h:r≤281474976710656):IntKind.i64.wrap (r:Int)=r:=by rw[IntKind.wrap_i64];omega

theorem zrE (w:World) (v0 v1 v2 v3 v4:Value) (t:TypeId):(w.alloc (.cells #[v0,v1,v2,v3,v4] t)).cell? ⟨w.heap.size,0,none⟩=some v0∧(w.alloc (.cells #[v0,v1,v2,v3,v4] t)).cell? ⟨w.heap.size,1,none⟩=some v1∧(w.alloc (.cells #[v0,v1,v2,v3,v4] t)).cell? ⟨w.heap.size,2,none⟩=some v2∧(w.alloc (.cells #[v0,v1,v2,v3,v4] t)).cell? ⟨w.heap.size,3,none⟩=some v3∧(w.alloc (.cells #[v0,v1,v2,v3,v4] t)).cell? ⟨w.heap.size,4,none⟩=some v4∧(w.alloc (.cells #[v0,v1,v2,v3,v4] t)).heap.size=w.heap.size+1∧Below w.heap.size w (w.alloc (.cells #[v0,v1,v2,v3,v4] t)):=by
 refine⟨?_,?_,?_,?_,?_,by simp,(Below.refl _ _).alloc (Nat.le_refl _) _⟩ <;> (unfold World.cell?;rw[Go.Deep.blk_alloc_new];rfl)
theorem zrD (w:World) (v0 v1 v2 v3 v4 v5 v6:Value) (t:TypeId):(w.alloc (.cells #[v0,v1,v2,v3,v4,v5,v6] t)).cell? ⟨w.heap.size,0,none⟩=some v0∧(w.alloc (.cells #[v0,v1,v2,v3,v4,v5,v6] t)).cell? ⟨w.heap.size,1,none⟩=some v1∧(w.alloc (.cells #[v0,v1,v2,v3,v4,v5,v6] t)).cell? ⟨w.heap.size,2,none⟩=some v2∧(w.alloc (.cells #[v0,v1,v2,v3,v4,v5,v6] t)).cell? ⟨w.heap.size,3,none⟩=some v3∧(w.alloc (.cells #[v0,v1,v2,v3,v4,v5,v6] t)).cell? ⟨w.heap.size,4,none⟩=some v4∧(w.alloc (.cells #[v0,v1,v2,v3,v4,v5,v6] t)).cell? ⟨w.heap.size,5,none⟩=some v5∧(w.alloc (.cells #[v0,v1,v2,v3,v4,v5,v6] t)).cell? ⟨w.heap.size,6,none⟩=some v6∧(w.alloc (.cells #[v0,v1,v2,v3,v4,v5,v6] t)).heap.size=w.heap.size+1∧Below w.heap.size w (w.alloc (.cells #[v0,v1,v2,v3,v4,v5,v6] t)):=by
 refine⟨?_,?_,?_,?_,?_,?_,?_,by simp,(Below.refl _ _).alloc (Nat.le_refl _) _⟩ <;> (unfold World.cell?;rw[Go.Deep.blk_alloc_new];rfl)

structure GSt (B:Nat) (w:World) (G:Gm) (ka:Option Addr) (kc:Nat) (pa:Option Addr) (pc:Nat) (ra:Option Addr) (rc:Nat) (qa:Option Addr) (qc gb:Nat):Prop where
 gin:GIn B w G ka pa ra qa
 c0:w.cell? ⟨gb,0,none⟩=some (.slice ka G.kinds.length kc)
 c1:w.cell? ⟨gb,1,none⟩=some (.slice pa G.precs.length pc)
 c2:w.cell? ⟨gb,2,none⟩=some (.slice ra G.rules.length rc)
 c3:w.cell? ⟨gb,3,none⟩=some (.slice qa G.prods.length qc)
 c4:w.cell? ⟨gb,4,none⟩=some (.int .i64 G.start)
theorem zan {B:Nat} {w w':World} {G:Gm} {ka pa ra qa:Option Addr} {kc pc rc qc gb:Nat} (hb:Below (gb+1) w w') (hB:B≤gb) (h:GSt B w G ka kc pa pc ra rc qa qc gb):GSt B w' G ka kc pa pc ra rc qa qc gb :=
 ⟨zeP (zab hb (by omega)) h.gin,(hb.cell (Nat.lt_succ_self _)).trans h.c0,(hb.cell (Nat.lt_succ_self _)).trans h.c1,(hb.cell (Nat.lt_succ_self _)).trans h.c2,(hb.cell (Nat.lt_succ_self _)).trans h.c3,(hb.cell (Nat.lt_succ_self _)).trans h.c4⟩
theorem zbt {B:Nat} {w:World} {G:Gm} {ka pa ra qa:Option Addr} {kc pc rc qc:Nat} (hB:B≤w.heap.size) (h:GIn B w G ka pa ra qa) (t:TypeId) :
 GSt B (w.alloc (.cells #[.slice ka G.kinds.length kc,.slice pa G.precs.length pc,.slice ra G.rules.length rc,.slice qa G.prods.length qc,.int .i64 G.start] t)) G ka kc pa pc ra rc qa qc w.heap.size:=by
 obtain⟨g0,g1,g2,g3,g4,-,hb⟩:=zrE w (.slice ka G.kinds.length kc) (.slice pa G.precs.length pc) (.slice ra G.rules.length rc) (.slice qa G.prods.length qc) (.int .i64 G.start) t
 exact⟨zeP (zab hb hB) h,g0,g1,g2,g3,g4⟩

def zaT (nk:Nat) (null:Nat→Bool) (row:List Int):Bool:=row.all fun x=>decide ((nk:Int)≤x) && null (x - nk).toNat
def zii (n:Nat) (row:List Int):Prop:=∀ x,x ∈ row→1≤x∧x<n
theorem za5 {l:List Int} {i:Nat} (h:i<l.length):l.getD i 0 ∈ l:=by
 rw[List.getD_eq_getElem?_getD,List.getElem?_eq_getElem h];exact List.getElem_mem h
theorem zbf {α:Type} (l:List α) (i:Nat) (d:α) (h:i<l.length):l.take (i+1)=l.take i ++ [l.getD i d]:=by
 rw[List.take_add_one,List.getD_eq_getElem?_getD,List.getElem?_eq_getElem h];rfl
end Go.Proofs.YtagohbpbgjelaaaGreatDoor

namespace Go.Proofs.YtagohbpbgjelaaaGreatDoor
open Go.RowKit

abbrev Gm.nk (G:Gm):Nat:=G.kinds.length
abbrev Gm.nr (G:Gm):Nat:=G.rules.length
structure GOk (G:Gm):Prop where
 k2:2≤G.nk
 k3:G.nk≤1024
 r1:1≤G.nr
 r2:G.nr≤2048
 s0:0≤G.start
 s1:G.start<G.nr
 ps:G.prods.length≤4096
 pl:∀ p,p ∈ G.prods→0≤p.left∧p.left<G.nr
 pr:∀ p,p ∈ G.prods→p.right.length≤64
 py:∀ p,p ∈ G.prods→zii (G.nk+G.nr) p.right

theorem zag {l:List Pd} {i:Nat} (h:i<l.length):l.getD i pd0 ∈ l:=by
 rw[List.getD_eq_getElem?_getD,List.getElem?_eq_getElem h];exact List.getElem_mem h
theorem zdN {l:List Pd} {p:Pd} (h:p ∈ l):∃ i,i<l.length∧l.getD i pd0=p:=by
 obtain⟨i,hi,rfl⟩:=List.getElem_of_mem h
 exact⟨i,hi,by rw[List.getD_eq_getElem?_getD,List.getElem?_eq_getElem hi];rfl⟩

def upd (f:Nat→Bool) (i:Nat):Nat→Bool:=fun j=>if j=i then true else f j
theorem zjY (f:Nat→Bool) (i:Nat):upd f i i=true:=by simp[upd]
theorem zl2 (f:Nat→Bool) (i j:Nat) (h:f j=true):upd f i j=true:=by unfold upd;split <;> simp_all
theorem zjc {f:Nat→Bool} {i j:Nat} (h:upd f i j=true):j=i∨f j=true:=by unfold upd at h;split at h <;> simp_all
def zcw (f:Nat→Bool):Nat→Nat
 | 0=>0
 | n+1=>zcw f n+if f n then 0 else 1
theorem znW {f g:Nat→Bool}:∀ n,(∀ i,i<n→f i=true→g i=true)→zcw g n≤zcw f n
 | 0,_=>Nat.le_refl _
 | n+1,h=>by
   have:=znW n (fun i hi=>h i (by omega))
   unfold zcw
   have h1:=h n (by omega)
   cases hf:f n <;> cases hg:g n <;> simp_all <;> omega
theorem znV {f g:Nat→Bool}:∀ n,(∀ i,i<n→f i=true→g i=true)→∀ i,i<n→f i=false→g i=true→zcw g n<zcw f n
 | 0,_,i,hi,_,_=>by omega
 | n+1,h,i,hi,h0,h1=>by
   unfold zcw
   by_cases e:i=n
   ·subst e
    have:=znW i (fun j hj=>h j (by omega))
    rw[h0,h1]
    simp
    omega
   ·have:=znV n (fun j hj=>h j (by omega)) i (by omega) h0 h1
    have h2:=h n (by omega)
    cases hf:f n <;> cases hg:g n <;> simp_all <;> omega
theorem zkP {f:Nat→Bool} {i n:Nat} (hi:i<n) (h:f i=false):zcw (upd f i) n<zcw f n :=
 znV n (fun j _ hj=>zl2 f i j hj) i hi h (zjY f i)
open Classical in
noncomputable def znc (w:World) (b:Nat):Nat→Bool:=fun r=>decide (w.cell? ⟨b,r,none⟩=some (.bool true))
theorem zpc {w:World} {b t n:Nat} {f:Nat→Bool} (h:w.rowIs b t n (fun r=>.bool (f r))) (r:Nat) (hr:r<n):znc w b r=f r:=by
 unfold znc
 have:=h.cell hr
 rw[this]
 cases f r <;> simp
theorem zhf {f g:Nat→Bool}:∀ n,(∀ i,i<n→f i=g i)→zcw f n=zcw g n
 | 0,_=>rfl
 | n+1,h=>by unfold zcw;rw[zhf n (fun i hi=>h i (by omega)),h n (by omega)]
theorem zh4 {w:World} {b t n:Nat} {f:Nat→Bool} (h:w.rowIs b t n (fun r=>.bool (f r))):zcw (znc w b) n=zcw f n :=
 zhf n (fun r hr=>zpc h r hr)
theorem zil {w:World} {b t n:Nat} {f:Nat→Bool} (h:w.rowIs b t n (fun r=>.bool (f r))) (i:Nat):(w.setCell ⟨b,i,none⟩ (.bool true)).rowIs b t n (fun r=>.bool (upd f i r)) :=
 (h.set i (.bool true)).congr (fun j _=>by unfold upd;split <;> rfl)

def ziX:Value→Nat | .bool true=>1 | _=>0

inductive Null (G:Gm):Nat→Prop
 | mk (p:Pd) (hp:p ∈ G.prods) (h1:∀ x,x ∈ p.right→(G.nk:Int)≤x) (h2:∀ x,x ∈ p.right→Null G (x - G.nk).toNat):Null G p.left.toNat
open Classical in
noncomputable def zaO (G:Gm):Nat→Bool:=fun r=>decide (Null G r)
theorem zhG (G:Gm) (r:Nat):zaO G r=true↔Null G r:=by unfold zaO;simp
theorem emptyB_iff {nk:Nat} {f:Nat→Bool} {row:List Int}:zaT nk f row=true↔∀ x,x ∈ row→(nk:Int)≤x∧f (x - nk).toNat=true:=by
 unfold zaT
 rw[List.all_eq_true]
 constructor
 ·intro h x hx
  have:=h x hx
  rw[Bool.and_eq_true,decide_eq_true_eq] at this
  exact this
 ·intro h x hx
  rw[Bool.and_eq_true,decide_eq_true_eq]
  exact h x hx
def zok (G:Gm) (f:Nat→Bool):Prop:=∀ r,f r=true→Null G r
def zhF (G:Gm) (f:Nat→Bool) (p:Pd):Bool:=!f p.left.toNat && zaT G.nk f p.right
def zpW (G:Gm) (f:Nat→Bool):Prop:=∀ i,i<G.prods.length→zhF G f (G.prods.getD i pd0)=false
theorem zmW {G:Gm} {f:Nat→Bool} (h:zok G f) (hs:zpW G f):f=zaO G:=by
 funext r
 rw[Bool.eq_iff_iff,zhG]
 refine⟨h r,fun hn=>?_⟩
 induction hn with
 | mk p hp h1 h2 ih =>
   obtain⟨i,hi,rfl⟩:=zdN hp
   have:=hs i hi
   unfold zhF at this
   rw[Bool.and_eq_false_iff] at this
   rcases this with h | h
   ·simpa using h
   ·rw[emptyB_iff.2 (fun x hx=>⟨h1 x hx,ih x hx⟩)] at h
    cases h
end Go.Proofs.YtagohbpbgjelaaaGreatDoor

namespace Go.Proofs.YtagohbpbgjelaaaGreatDoor
open Go.RowKit

def bt (s:ByteArray) (i:Nat):Nat:=(s.get! i).toNat
theorem bt_get (s:ByteArray) (i:Nat) (h:i<s.size):bt s i=(s[i]'h).toNat:=by
 have:s.get! i=s[i]'h:=by simp[ByteArray.get!,getElem!_pos,h];rfl
 rw[bt,this]
theorem zj4 {B:Nat} {w:World} {a:Option Addr} {l:List (List UInt8)} (h:zez B w a l) (hB:B≤w.heap.size) {k:Nat} (hk:k<l.length):∃ b off,a=some ⟨b,off,none⟩∧b<w.heap.size∧∀ j,j<l.length→w.cell? ⟨b,off+j,none⟩=some (.string (bs (l.getD j []))):=by
 rcases h with rfl | ⟨b,off,h1,h2,h3⟩
 ·simp at hk
 ·exact⟨b,off,h1,by omega,h3⟩
theorem zhZ (s:ByteArray) (j:Nat) (h:j<s.size) (w:World):(Instr.index 9 (.string s) (.int .i64 (j:Int))).run Tryz.prog w=.ok (.int .u8 (bt s j:Int)) w:=by
 rw[run_index_string w 9 s .i64 (j:Int) Tryz.underlying9,dif_pos (by omega)]
 simp[bt_get s j h]

def zoq (c:Nat):Bool:=decide ((65≤c∧c≤90)∨(97≤c∧c≤122)∨c=95)
def zkN (c:Nat):Bool:=decide (48≤c∧c≤57)
def zh9 (s:ByteArray) (k:Nat):Prop:=∀ i,i<k→zoq (bt s i)=true∨zkN (bt s i)=true
instance (s:ByteArray) (k:Nat):Decidable (zh9 s k):=by unfold zh9;infer_instance
def zcz (s:ByteArray):Bool:=decide (1≤s.size∧s.size≤64∧zkN (bt s 0)=false∧zh9 s s.size)

theorem zky {s:ByteArray} (h1:1≤s.size) (h2:s.size≤64):zcz s=decide (zkN (bt s 0)=false∧zh9 s s.size):=by
 unfold zcz;rw[decide_eq_decide];exact⟨fun h=>h.2.2,fun h=>⟨h1,h2,h⟩⟩
def znP (s:ByteArray) (k:Nat):Prop:=∀ i,i<k→zoq (bt s i)=true∨(i≠0∧zkN (bt s i)=true)
theorem zq2 (c:Nat):zoq c=true→zkN c=false:=by
 simp only[zoq,zkN,decide_eq_true_eq,decide_eq_false_iff_not];omega
theorem ziR {s:ByteArray} (h:1≤s.size):znP s s.size↔zkN (bt s 0)=false∧zh9 s s.size:=by
 constructor
 ·intro hd
  refine⟨?_,fun i hi=>?_⟩
  ·rcases hd 0 (by omega) with h | h
   ·exact zq2 _ h
   ·exact absurd rfl h.1
  ·rcases hd i hi with h | h
   ·exact .inl h
   ·exact .inr h.2
 ·rintro⟨h0,ha⟩ i hi
  rcases ha i hi with h | h
  ·exact .inl h
  ·by_cases e:i=0
   ·subst e;rw[h0] at h;cases h
   ·exact .inr ⟨e,h⟩

set_option maxHeartbeats 4000000 in
set_option maxRecDepth 100000 in
theorem zmF (s:ByteArray) (w:World):Calls Tryz.prog 96 #[.string s] w fun e w'=>e=.returned (.bool (zcz s))∧w=w':=by
 by_cases h0:s.size<1
 ·rw[show zcz s=false by unfold zcz;rw[decide_eq_false_iff_not];omega]
  have h0':(s.size:Int)<1:=by omega
  go_enter Tryz.func96,Tryz.ntmps96
  go_wp2
  go_ret
  exact⟨rfl,rfl⟩
 have h0':¬ (s.size:Int)<1:=by omega
 by_cases h1:64<s.size
 ·rw[show zcz s=false by unfold zcz;rw[decide_eq_false_iff_not];omega]
  have h1':(64:Int)<s.size:=by omega
  go_enter Tryz.func96,Tryz.ntmps96
  go_wp2
  go_ret
  exact⟨rfl,rfl⟩
 have h1':¬ (64:Int)<s.size:=by omega
 have Hyes:=zaa (fun(h:znP s s.size)=>show zcz s=true by rw[zky (by omega) (by omega)];exact decide_eq_true ((ziR (by omega)).1 h))
 have Hno:=zaa (fun(h:¬ znP s s.size)=>show zcz s=false by rw[zky (by omega) (by omega)];exact decide_eq_false (fun k=>h ((ziR (by omega)).2 k)))
 generalize zcz s=R at *
 go_enter Tryz.func96,Tryz.ntmps96
 go_wp2
 go_loop [3] (fun x=>∃ k:Nat,x=.int .i64 k∧k≤s.size∧znP s k) (fun x=>s.size - (intOf x).toNat)
 case atStart=>exact⟨0,rfl,Nat.zero_le _,fun i hi=>absurd hi (Nat.not_lt_zero _)⟩
 case round =>
  obtain⟨k,rfl,hk,hall⟩:=hrel
  have Hall:=zaa hall
  clear hall
  by_cases hlt:k<s.size
  ·have hlt':(k:Int)<s.size:=by omega
   have ik:=zhZ s k hlt
   have Hs:=zaa (fun(h:zoq (bt s k)=true∨(k≠0∧zkN (bt s k)=true))=>show znP s (k+1) from fun i hi=>by
    by_cases e:i=k
    ·subst e;exact h
    ·exact uh Hall i (by omega))
   have Hn:=zaa (fun(h:¬ (zoq (bt s k)=true∨(k≠0∧zkN (bt s k)=true)))=>uh Hno (fun hd=>h (hd k hlt)))
   have Hl:=zaa (show zoq (bt s k)=decide ((65≤bt s k∧bt s k≤90)∨(97≤bt s k∧bt s k≤122)∨bt s k=95) from rfl)
   have Hd:=zaa (show zkN (bt s k)=decide (48≤bt s k∧bt s k≤57) from rfl)
   generalize bt s k=c at *
   go_wp2
   all_goals first
    | (go_ret;rw[uh Hn (by rw[uh Hl,uh Hd];simp only[decide_eq_true_eq];first | omega | (simp at *;omega))];exact⟨rfl,rfl⟩)
    | (go_round
       case rel=>exact⟨k+1,by go_num,by omega,uh Hs (by rw[uh Hl,uh Hd];simp only[decide_eq_true_eq];first | omega | (simp at *;omega))⟩
       case measure=>simp[intOf];omega)
  ·obtain rfl:k=s.size:=by omega
   have Hr:=zaa (uh Hyes (uh Hall))
   go_wp2
   go_ret
   rw[uh Hr]
   exact⟨rfl,rfl⟩
def endS:List UInt8:=[101,110,100]
def errS:List UInt8:=[101,114,114,111,114]
def zdw (ns:List (List UInt8)) (k:Nat):Prop:=∀ j,j<k→zcz (bs (ns.getD j []))=true
instance (ns:List (List UInt8)) (k:Nat):Decidable (zdw ns k):=by unfold zdw;infer_instance
def zca (ns:List (List UInt8)):Bool:=decide (2≤ns.length∧ns.length≤1024∧ns.getD 0 []=endS∧ns.getD 1 []=errS∧zdw ns ns.length∧ns.Nodup)
theorem zcj {ns:List (List UInt8)} (h:¬ (2≤ns.length∧ns.length≤1024∧ns.getD 0 []=endS∧ns.getD 1 []=errS∧zdw ns ns.length∧ns.Nodup)):zca ns=false:=decide_eq_false h
theorem zkz {s:ByteArray} (h:zcz s=true):s.size≤64:=(of_decide_eq_true h).2.1

def zgA (ns:List (List UInt8)) (i k:Nat):Prop:=∀ j,j<k→ns.getD j []≠ns.getD i []
def zem (ns:List (List UInt8)) (k:Nat):Prop:=∀ i,i<k→zgA ns i i
theorem zhc {ns:List (List UInt8)} (h:zem ns ns.length):ns.Nodup:=by
 rw[List.Nodup,List.pairwise_iff_getElem]
 intro i j hi hj hij
 have:=h j hj i hij
 rwa [List.getD_eq_getElem?_getD,List.getD_eq_getElem?_getD,List.getElem?_eq_getElem hi,List.getElem?_eq_getElem hj] at this
theorem zg1 {ns:List (List UInt8)} (h:ns.Nodup):zem ns ns.length:=by
 rw[List.Nodup,List.pairwise_iff_getElem] at h
 intro i hi j hj
 have:=h j i (by omega) hi hj
 rwa [List.getD_eq_getElem?_getD,List.getD_eq_getElem?_getD,List.getElem?_eq_getElem hi,List.getElem?_eq_getElem (by omega:j<ns.length)]

set_option maxHeartbeats 4000000 in
set_option maxRecDepth 100000 in
theorem zlf (a : Option Addr) (cap : Nat) (ns : List (List UInt8)) (B : Nat) (w : World) (hB : B ≤ w.heap.size) (hrow : zez B w a ns) :
    Calls Tryz.prog 51 #[.slice a ns.length cap] w fun e w'=>e=.returned (.bool (zca ns))∧Below w.heap.size w w':=by
  by_cases h0:ns.length<2
  · rw[show zca ns=false from zcj (by omega)]
    have h0':(ns.length:Int)<2:=by omega
    go_enter Tryz.func51,Tryz.ntmps51
    go_wp2
    go_ret
    exact⟨rfl,Below.refl _ _⟩
  have h0':¬ (ns.length:Int)<2:=by omega
  by_cases h1:1024<ns.length
  · rw[show zca ns=false from zcj (by omega)]
    have h1':(1024:Int)<ns.length:=by omega
    go_enter Tryz.func51,Tryz.ntmps51
    go_wp2
    go_ret
    exact⟨rfl,Below.refl _ _⟩
  have h1':¬ (1024:Int)<ns.length:=by omega
  obtain⟨b,off,rfl,hb,hc⟩:=zj4 hrow hB (k:=0) (by omega)
  have c0:=hc 0 (by omega)
  have c1:=hc 1 (by omega)
  have i0:(0:Int)<ns.length:=by omega
  have i1:(1:Int)<ns.length:=by omega
  by_cases h2:ns.getD 0 []=endS
  · rw [h2] at c0
    by_cases h3:ns.getD 1 []=errS
    · rw [h3] at c1
      have c0':w.cell? ⟨b,off,none⟩=some (.string ⟨#[101,110,100]⟩):=c0
      have c1':w.cell? ⟨b,off+1,none⟩=some (.string ⟨#[101,114,114,111,114]⟩):=c1
      have Hyes:Hid (zdw ns ns.length∧zem ns ns.length→zca ns=true):=zaa fun h=>decide_eq_true ⟨by omega,by omega,h2,h3,h.1,zhc h.2⟩
      have Hno:Hid (¬ (zdw ns ns.length∧zem ns ns.length)→zca ns=false):=zaa fun h=>zcj (fun k=>h ⟨k.2.2.2.2.1,zg1 k.2.2.2.2.2⟩)
      have Hc:=zaa hc
      generalize zca ns=R at *
      clear hrow hc c0 c1 h2 h3
      go_enter Tryz.func51,Tryz.ntmps51
      go_wp2
      go_loopw [3] (fun x wr=>∃ k:Nat,x=.int .i64 k∧k≤ns.length∧zdw ns k∧zem ns k∧Below w.heap.size w wr) (fun x _=>ns.length - (intOf x).toNat)
      case atStart=>exact⟨0,rfl,Nat.zero_le _,(fun i hi=>absurd hi (Nat.not_lt_zero _)),(fun i hi=>absurd hi (Nat.not_lt_zero _)),Below.refl _ _⟩
      case round =>
        obtain⟨k,rfl,hk,hgood,hdist,hbel⟩:=hrel
        have Hg:=zaa hgood;have Hd:=zaa hdist;have Hbel:=zaa hbel
        clear hgood hdist hbel c0' c1'
        by_cases hlt:k<ns.length
        · have hlt':(k:Int)<ns.length:=by omega
          have ck:=((uh Hbel).cell (p:=⟨b,off+k,none⟩) hb).trans (uh Hc k hlt)
          have HN:=zaa (zmF (bs (ns.getD k [])))
          cases hn:zcz (bs (ns.getD k []))
          · rw[hn] at HN
            have Hr:Hid (R=false):=zaa (uh Hno (by
              intro h;have:=h.1 k hlt;rw[hn] at this;cases this))
            clear hn
            generalize bs (ns.getD k [])=s at *
            go_wp2_with fail
            refine(uh HN _).mono ?_
            rintro e w' ⟨rfl,rfl⟩
            go_wp2
            go_ret
            rw[uh Hr]
            exact⟨rfl,uh Hbel⟩
          · rw [hn] at HN
            have Hg':Hid (zdw ns (k+1)):=zaa (by
              intro i hi
              by_cases e:i=k
              · subst e;exact hn
              · exact uh Hg i (by omega))
            clear hn
            generalize bs (ns.getD k [])=s at *
            go_wp2_with fail
            refine(uh HN _).mono ?_
            rintro e w' ⟨rfl,rfl⟩
            clear ck HN
            go_wp2
            go_loopw [4] (fun y W=>∃ i:Nat,y=.int .i64 i∧i≤k∧zgA ns k i∧Below w.heap.size w W) (fun y _=>k - (intOf y).toNat)
            case atStart=>exact⟨0,rfl,Nat.zero_le _,(fun i hi=>absurd hi (Nat.not_lt_zero _)),uh Hbel⟩
            case round =>
              obtain⟨i,rfl,hi,hap,hbel2⟩:=hrel
              have Hap:=zaa hap;have Hb2:=zaa hbel2
              clear hap hbel2
              by_cases hil:i<k
              · have hil':(i:Int)<k:=by omega
                have hin:(i:Int)<ns.length:=by omega
                have ck:=((uh Hb2).cell (p:=⟨b,off+k,none⟩) hb).trans (uh Hc k hlt)
                have ci:=((uh Hb2).cell (p:=⟨b,off+i,none⟩) hb).trans (uh Hc i (by omega))
                by_cases he:ns.getD i []=ns.getD k []
                · have Hr:Hid (R=false):=zaa (uh Hno (fun h=>h.2 k hlt i hil he))
                  rw[he] at ci
                  clear he
                  generalize bs (ns.getD k [])=s at *
                  go_wp2
                  go_quiet (fail)
                  go_wp2
                  go_ret
                  rw[uh Hr]
                  exact⟨rfl,zaq (uh Hb2) _⟩
                · have Ha':Hid (zgA ns k (i+1)):=zaa (by
                    intro j hj
                    by_cases e:j=i
                    · subst e;exact he
                    · exact uh Hap j (by omega))
                  have hne:=bs_ne he
                  clear he
                  generalize bs (ns.getD k [])=s at *
                  generalize bs (ns.getD i [])=s2 at *
                  go_wp2
                  go_quiet (fail)
                  go_wp2
                  go_roundw
                  case rel=>exact⟨i+1,by go_num,by omega,uh Ha',zaq (uh Hb2) _⟩
                  case measure=>simp[intOf];omega
              · obtain rfl:i=k:=by omega
                have Hd':Hid (zem ns (i+1)):=zaa (by
                  intro j hj
                  by_cases e:j=i
                  · subst e;exact uh Hap
                  · exact uh Hd j (by omega))
                go_wp2
                go_roundw
                case rel=>exact⟨i+1,by go_num,by omega,uh Hg',uh Hd',uh Hb2⟩
                case measure=>simp[intOf];omega
        · obtain rfl:k=ns.length:=by omega
          have Hr:Hid (R=true):=zaa (uh Hyes ⟨uh Hg,uh Hd⟩)
          go_wp2
          go_ret
          rw[uh Hr]
          exact⟨rfl,uh Hbel⟩
    · rw[show zca ns=false from zcj (fun h=>h3 h.2.2.2.1)]
      have c0':w.cell? ⟨b,off,none⟩=some (.string ⟨#[101,110,100]⟩):=c0
      have hne:((bs (ns.getD 1 [])).toList == [101,114,114,111,114])=false:=by rw[zbG,beq_eq_false_iff_ne];exact h3
      clear hc c0 hrow h2 h3
      generalize bs (ns.getD 1 [])=s at *
      go_enter Tryz.func51,Tryz.ntmps51
      go_wp2
      go_ret
      exact⟨rfl,Below.refl _ _⟩
  · rw[show zca ns=false from zcj (fun h=>h2 h.2.2.1)]
    have hne:((bs (ns.getD 0 [])).toList == [101,110,100])=false:=by rw[zbG,beq_eq_false_iff_ne];exact h2
    clear hc hrow h2 c1
    rw[Nat.add_zero] at c0
    generalize bs (ns.getD 0 [])=s at *
    go_enter Tryz.func51,Tryz.ntmps51
    go_wp2
    go_ret
    exact⟨rfl,Below.refl _ _⟩
end Go.Proofs.YtagohbpbgjelaaaGreatDoor

namespace Go.Proofs.YtagohbpbgjelaaaGreatDoor
open Go.RowKit

def zgM (nk:Nat) (f:Nat→Int):List Int→Int→Int
  | [],acc=>acc
  | x::xs,acc=>if (nk:Int)≤x then(if f (x - nk).toNat<0 then -1 else zgM nk f xs (min (acc+f (x - nk).toNat) 65537)) else zgM nk f xs (min (acc+1) 65537)
end Go.Proofs.YtagohbpbgjelaaaGreatDoor

namespace Go.Proofs.YtagohbpbgjelaaaGreatDoor
open Go.RowKit

theorem zhU {nk:Nat} {f:Nat→Int}:∀ (row:List Int) (acc:Int),0≤acc→0≤zgM nk f row acc→∀ x,x ∈ row→(nk:Int)≤x→0≤f (x - nk).toNat
  | [],_,_,_,x,hx,_=>by simp at hx
  | y::ys,acc,h0,h,x,hx,hk=>by
    unfold zgM at h
    rw[List.mem_cons] at hx
    split at h
    · split at h
      · omega
      · rcases hx with rfl | hx
        · omega
        · exact zhU ys _ (by omega) h x hx hk
    · rcases hx with rfl | hx
      · omega
      · exact zhU ys _ (by omega) h x hx hk
theorem zgi {nk:Nat} {f g:Nat→Int}:∀ (row:List Int) (a b:Int),0≤a→a≤b→(∀ x,x ∈ row→(nk:Int)≤x→0≤f (x - nk).toNat∧f (x - nk).toNat≤g (x - nk).toNat)→0≤zgM nk f row a∧zgM nk f row a≤zgM nk g row b
  | [],a,b,h0,h1,_=>by unfold zgM;omega
  | x::xs,a,b,h0,h1,h=>by
    have hr:=fun y hy=>h y (List.mem_cons_of_mem _ hy)
    unfold zgM
    by_cases hk:(nk:Int)≤x
    · have:=h x (by simp) hk
      rw[if_pos hk,if_pos hk,if_neg (by omega),if_neg (by omega)]
      exact zgi xs _ _ (by omega) (by omega) hr
    · rw[if_neg hk,if_neg hk]
      exact zgi xs _ _ (by omega) (by omega) hr
inductive Lng (G:Gm):Nat→Int→Prop
  | mk (p:Pd) (hp:p ∈ G.prods) (g:Nat→Int) (hg:∀ x,x ∈ p.right→(G.nk:Int)≤x→Lng G (x - G.nk).toNat (g (x - G.nk).toNat)) (h0:0≤zgM G.nk g p.right 0):Lng G p.left.toNat (zgM G.nk g p.right 0)
def zkT (G:Gm) (f:Nat→Int):Prop:=∀ r,f r = -1∨(0≤f r∧f r≤65537∧Lng G r (f r))
def zhS (G:Gm) (f:Nat→Int) (p:Pd):Prop:=0≤zgM G.nk f p.right 0∧(f p.left.toNat<0∨zgM G.nk f p.right 0<f p.left.toNat)
instance (G:Gm) (f:Nat→Int) (p:Pd):Decidable (zhS G f p):=by unfold zhS;infer_instance
def zrQ (G:Gm) (f:Nat→Int):Prop:=∀ i,i<G.prods.length→¬ zhS G f (G.prods.getD i pd0)
def zfm (G:Gm) (f:Nat→Int):Prop:=zkT G f∧∀ r n,Lng G r n→0≤f r∧f r≤n
theorem zpk {G:Gm} {f:Nat→Int} (h:zkT G f) (hs:zrQ G f):zfm G f:=by
  refine⟨h,fun r n hn=>?_⟩
  induction hn with
  | mk p hp g hg h0 ih =>
    have hm:=zgi (nk:=G.nk) (f:=f) (g:=g) p.right 0 0 (Int.le_refl _) (Int.le_refl _) (fun x hx hk=>ih x hx hk)
    obtain⟨i,hi,rfl⟩:=zdN hp
    have:=hs i hi
    unfold zhS at this
    omega
def wt (v:Int):Nat:=if v<0 then 65538 else v.toNat
def zp9 (w:World) (b:Nat):Nat→Int:=fun r=>match w.cell? ⟨b,r,none⟩ with | some v=>intOf v | none=>0
theorem zhE {w:World} {b t n:Nat} {f:Nat→Int} (h:w.rowIs b t n (fun r=>.int .i64 (f r))) (r:Nat) (hr:r<n):zp9 w b r=f r:=by
  unfold zp9
  have:=h.cell hr
  rw[this]
  rfl
end Go.Proofs.YtagohbpbgjelaaaGreatDoor

namespace Go.Proofs.YtagohbpbgjelaaaGreatDoor
open Go.RowKit
mutual
def zb5:Ac→Prop
  | .mk _ _ _ ks=>ks.length≤281474976710656∧zcY ks
def zcY:List Ac→Prop
  | []=>True
  | t::ts=>zb5 t∧zcY ts
end
theorem zfu:∀ (ks:List Ac) (i:Nat),i<ks.length→zcY ks→zb5 (ks.getD i ac0)
  | [],i,h,_=>by simp at h
  | t::ts,0,_,h=>by unfold zcY at h;exact h.1
  | t::ts,i+1,h,hs=>by
    unfold zcY at hs
    exact zfu ts i (by simpa using h) hs.2
theorem zgE:∀ (ks:List Ac),(∀ t,t ∈ ks→zb5 t)→zcY ks
  | [],_=>by unfold zcY;trivial
  | t::ts,h=>by
    unfold zcY
    exact⟨h t (by simp),zgE ts (fun x hx=>h x (List.mem_cons_of_mem _ hx))⟩
end Go.Proofs.YtagohbpbgjelaaaGreatDoor

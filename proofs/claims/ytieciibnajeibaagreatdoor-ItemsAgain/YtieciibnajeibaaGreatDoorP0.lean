import Derived.Test.YtieciibnajeibaaGreatDoorChecked
import Derived.WalkKit
import Derived.Deep.OwnRows
import Derived.Deep.RegionHeld3
import Derived.BigQuiet
set_option maxHeartbeats 8000000
set_option maxRecDepth 100000
namespace Go.Proofs.YtieciibnajeibaaGreatDoor
open Go.RowKit
theorem zsE{α : Type _}{l : List α}{i : Nat}{a : α} : l.getD i a = l[i]?.getD a := List.getD_eq_getElem?_getD
theorem zsF{α : Type _}{l : List α}{i : Nat}(h : i < l.length) : l[i]? = some l[i] := List.getElem?_eq_getElem h
theorem zsG(n : Nat) : n <= n := Nat.le_refl n
theorem zsH(w : World)(o : Obj) : (w.alloc o).heap[w.heap.size]? = some o := Go.Deep.blk_alloc_new w o
theorem zsI{α : Type _}{l m : List α} : (l ++ m).length = l.length + m.length := List.length_append
theorem zsJ{n m k : Nat} : n < m->m <= k->n < k := Nat.lt_of_lt_of_le
theorem zsK(n : Nat) : 0 <= n := Nat.zero_le n
theorem zsL{w w' : World}{a : Addr} : w'.heap[a.block]? = w.heap[a.block]?->w'.cell? a = w.cell? a := World.cell?_of_block
theorem zsN{α : Type _}{l : List α} : List.take l.length l = l := List.take_length
theorem zsO{α : Type _}{i : Nat}{b : α}{xs : Array α} : xs[i]? = some b ↔ ∃ h : i < xs.size, xs[i] = b := Array.getElem?_eq_some_iff
theorem zsP{α : Type _}{i : Nat}{a : α}{l : List α} : l[i]? = some a ↔ ∃ h : i < l.length, l[i] = a := List.getElem?_eq_some_iff
theorem zsQ(w : World)(a : Addr){u : Value} : w.cell? a = some u->a.block < w.heap.size := World.block_lt_of_cell? w a
theorem zsS(n : Nat) : (n : Int).toNat = n := Int.toNat_natCast n
theorem zsT{α : Type _}{a : α}{l : List α} : a ∈ l ↔ ∃ (i : Nat) (h : i < l.length), l[i] = a := List.mem_iff_getElem
theorem zsU{α : Type _}{l : List α}{i : Nat} : List.take (i + 1) l = List.take i l ++ l[i]?.toList := List.take_add_one
theorem zsV{α : Type _}{i : Nat}{l : List α} : (List.take i l).length = min i l.length := List.length_take
theorem zsX{α : Type _}{l : List α} : l.length = 0->l = [] := List.eq_nil_of_length_eq_zero
theorem zsY(B : Nat)(w : World) : Below B w w := Below.refl B w
theorem zsZ(w : World)(o : Obj)(k : Nat)(h : k < w.heap.size) : (w.alloc o).heap[k]? = w.heap[k]? := Below.heap_alloc w o k h
theorem zsy{n m k : Nat} : n <= m->m <= k->n <= k := Nat.le_trans
theorem zsA{α : Type _}(l : List α)(i : Nat)(x : α) : l.toArray.setIfInBounds i x = (l.set i x).toArray := List.setIfInBounds_toArray ..
theorem zsB{α : Type _}(a : α)(l : List α)(x : α) : (a :: l).set 0 x = x :: l := rfl
theorem zsC{α : Type _}(a : α)(l : List α)(n : Nat)(x : α) : (a :: l).set (n + 1) x = a :: l.set n x := rfl
theorem zaa{p:Prop}(h:p):Hid p:=h
theorem uh{p:Prop}(h:Hid p):p:=h
theorem zbo{a b:Bool}(h:a=b):Ending.returned (.bool a)=.returned (.bool b):=by rw[h]
theorem zab{B B':Nat}{w w':World}(h:Below B w w')(hB:B'<=B):Below B' w w':=h.mono hB
theorem zap{B:Nat}{w w':World}(h:Below B w w')(n:Nat):Below B w (w'.drewN n):=⟨h.os,h.tape,h.output,h.size,h.block⟩
theorem zaf{w:World}{B:Nat}{e:TypeId}{size:Nat}{v:Value}{n:Nat}{xs:List Value}(h:w.ownsRow B e size v n xs):∃ a c,v=.slice a n c:=by
 rcases h.2 with ⟨rfl,rfl⟩ | ⟨g,cap,cur,rfl,_⟩
 ·exact⟨_,_,rfl⟩
 ·exact⟨_,_,rfl⟩
def Fr(O:Nat->Prop)(w w':World):Prop:=w.heap.size<=w'.heap.size/\(∀ k,k<w.heap.size->¬ O k->w'.heap[k]? = w.heap[k]?)/\w'.os=w.os/\w'.tape=w.tape/\w'.output=w.output
theorem zax(O:Nat->Prop)(w:World):Fr O w w:=⟨Nat.le_refl _,λ_ _ _=>rfl,rfl,rfl,rfl⟩
theorem zcK{O:Nat->Prop}{a b c:World}(h:Fr O a b)(k:Fr O b c):Fr O a c:=⟨Nat.le_trans h.1 k.1,λi hi ho=>(k.2.1 i (Nat.lt_of_lt_of_le hi h.1) ho).trans (h.2.1 i hi ho),k.2.2.1.trans h.2.2.1,k.2.2.2.1.trans h.2.2.2.1,k.2.2.2.2.trans h.2.2.2.2⟩
theorem zaj{O O':Nat->Prop}{a b:World}(h:Fr O a b)(hO:∀ k,k<a.heap.size->O k->O' k):Fr O' a b:=⟨h.1,λk hk ho=>h.2.1 k hk (λh'=>ho (hO k hk h')),h.2.2⟩
theorem zaD{O:Nat->Prop}{a b:World}(h:Fr O a b){p:Addr}(hp:O p.block)(u:Value):Fr O a (b.setCell p u) :=
 zcK h ⟨by simp[World.setCell],λk _ ho=>Below.heap_setCell _ _ _ _ (λe=>ho (e▸hp)),rfl,rfl,rfl⟩
theorem zau{B:Nat}{O:Nat->Prop}{a b:World}(h:Fr O a b)(hB:B<=a.heap.size)(hO:∀ k,O k->B<=k):Below B a b :=
 ⟨h.2.2.1,h.2.2.2.1,h.2.2.2.2,h.1,λk hk=>h.2.1 k (by omega) (λho=>by have:=hO k ho;omega)⟩
theorem zae{O:Nat->Prop}{a b:World}(h:Below a.heap.size a b):Fr O a b:=⟨h.size,λk hk _=>h.block k hk,h.os,h.tape,h.output⟩
theorem zdc{O:Nat->Prop}{a b c:World}(h:Fr O a b)(k:Below b.heap.size b c):Fr O a c:=zcK h (zae k)
def bs(l:List UInt8):ByteArray:=⟨⟨l⟩⟩
theorem zfs(l:List UInt8):(bs l).toList=l:=by rw[ByteArray.toList_eq];rfl
def zxt(B:Nat)(w:World)(a:Option Addr)(l:List (List UInt8)):Prop :=
 l=[]\/∃ b off,a=some ⟨b,off,none⟩/\b<B/\∀ j,j<l.length->w.cell? ⟨b,off+j,none⟩=some (.string (bs (l.getD j [])))
def NRow(B:Nat)(w:World)(a:Option Addr)(l:List Int):Prop :=
 l=[]\/∃ b off,a=some ⟨b,off,none⟩/\b<B/\∀ j,j<l.length->w.cell? ⟨b,off+j,none⟩=some (.int .i64 (l.getD j 0))
def zxH(B:Nat)(w:World)(a:Option Addr)(l:List (Int × Int)):Prop :=
 l=[]\/∃ b off,a=some ⟨b,off,none⟩/\b<B/\∀ j,j<l.length->w.cell? ⟨b,off+j * 2,none⟩=some (.int .i64 (l.getD j (0,0)).1)/\w.cell? ⟨b,off+j * 2+1,none⟩=some (.int .i64 (l.getD j (0,0)).2)
inductive Ac where
 | mk (kind pick:Int) (name:List UInt8) (kids:List Ac)
mutual
def zhx(B:Nat)(w:World):Ac->Value->Value->Value->Value->Prop
 | .mk k p n ks,v0,v1,v2,v3=>v0=.int .i64 k/\v1=.int .i64 p/\v2=.string (bs n)/\∃ a c vs,v3=.slice a ks.length c/\zjx B w ks vs/\(ks=[]\/∃ b off,a=some ⟨b,off,none⟩/\b<B/\∀ j u,vs[j]? = some u->w.cell? ⟨b,off+j,none⟩=some u)
def zjx(B:Nat)(w:World):List Ac->List Value->Prop
 | [],vs=>vs=[]
 | t::ts,vs=>∃ u0 u1 u2 u3 rest,vs=u0::u1::u2::u3::rest/\zhx B w t u0 u1 u2 u3/\zjx B w ts rest
end
structure Pd where
 left:Int
 right:List Int
 level:Int
 act:Ac
def ac0:Ac:=.mk 0 0 [] []
def pd0:Pd:=⟨0,[],0,ac0⟩
structure Gm where
 kinds:List (List UInt8)
 precs:List (Int × Int)
 rules:List (List UInt8)
 prods:List Pd
 start:Int
def PdAt(B:Nat)(w:World)(p:Pd)(v0 v1 v2 v3 v4 v5 v6:Value):Prop :=
 v0=.int .i64 p.left/\(∃ a c,v1=.slice a p.right.length c/\NRow B w a p.right/\p.right.length<=c)/\v2=.int .i64 p.level/\zhx B w p.act v3 v4 v5 v6
def zxG(B:Nat)(w:World)(a:Option Addr)(l:List Pd):Prop :=
 l=[]\/∃ b off,a=some ⟨b,off,none⟩/\b<B/\∀ j,j<l.length->∃ v0 v1 v2 v3 v4 v5 v6,PdAt B w (l.getD j pd0) v0 v1 v2 v3 v4 v5 v6 /\
  w.cell? ⟨b,off+j * 7,none⟩=some v0/\w.cell? ⟨b,off+j * 7+1,none⟩=some v1/\w.cell? ⟨b,off+j * 7+2,none⟩=some v2/\w.cell? ⟨b,off+j * 7+3,none⟩=some v3/\w.cell? ⟨b,off+j * 7+4,none⟩=some v4/\w.cell? ⟨b,off+j * 7+5,none⟩=some v5/\w.cell? ⟨b,off+j * 7+6,none⟩=some v6
def tzT:List Nat:=[0,1,56,2,57,49,28,3,61,58,42,50,38,29,17,4,62,47,59,36,45,43,51,22,53,39,33,30,24,18,12,5,63,55,48,27,60,41,37,16,46,35,44,21,52,32,23,11,54,26,40,15,34,20,31,10,25,14,19,9,13,8,7,6]
def Tb(B:Nat)(w:World):Prop:=0<B/\∀ j,j<64->w.cell? ⟨0,j,none⟩=some (.int .u8 (tzT.getD j 0:Nat))
theorem zoT{B:Nat}{w w':World}(hb:Below B w w')(h:Tb B w):Tb B w':=⟨h.1,λj hj=>(hb.cell (p:=⟨0,j,none⟩) h.1).trans (h.2 j hj)⟩
theorem zdz{B:Nat}{w w':World}(h:Tb B w)(hB:B<=w.heap.size)(hb:Below B w w'):Tb w'.heap.size w':=⟨by have:=h.1;have:=hb.size;omega,(zoT hb h).2⟩
structure GIn (B:Nat) (w:World) (G:Gm) (ka pa ra qa:Option Addr):Prop where
 kinds:zxt B w ka G.kinds
 precs:zxH B w pa G.precs
 rules:zxt B w ra G.rules
 prods:zxG B w qa G.prods
 tab:Tb B w
theorem zjI{B:Nat}{w w':World}{a:Option Addr}{l:List (List UInt8)}(hb:Below B w w')(h:zxt B w a l):zxt B w' a l:=by
 rcases h with rfl | ⟨b,off,rfl,hlt,hc⟩
 ·exact .inl rfl
 ·exact .inr ⟨b,off,rfl,hlt,λj hj=>(hb.cell hlt).trans (hc j hj)⟩
theorem zaS{B:Nat}{w w':World}{a:Option Addr}{l:List Int}(hb:Below B w w')(h:NRow B w a l):NRow B w' a l:=by
 rcases h with rfl | ⟨b,off,rfl,hlt,hc⟩
 ·exact .inl rfl
 ·exact .inr ⟨b,off,rfl,hlt,λj hj=>(hb.cell hlt).trans (hc j hj)⟩
theorem zgZ{B:Nat}{w w':World}{a:Option Addr}{l:List (Int × Int)}(hb:Below B w w')(h:zxH B w a l):zxH B w' a l:=by
 rcases h with rfl | ⟨b,off,rfl,hlt,hc⟩
 ·exact .inl rfl
 ·exact .inr ⟨b,off,rfl,hlt,λj hj=>⟨(hb.cell hlt).trans (hc j hj).1,(hb.cell hlt).trans (hc j hj).2⟩⟩
mutual
theorem zdg{B:Nat}{w w':World}(hb:Below B w w'):∀ (t:Ac) (v0 v1 v2 v3:Value),zhx B w t v0 v1 v2 v3->zhx B w' t v0 v1 v2 v3
 | .mk k p n ks,v0,v1,v2,v3,h=>by
   unfold zhx at h ⊢;obtain⟨h0,h1,h2,a,c,vs,h3,hts,hc⟩:=h;refine⟨h0,h1,h2,a,c,vs,h3,zfv hb ks vs hts,?_⟩;rcases hc with h | ⟨b,off,h,hlt,hcs⟩
   ·exact .inl h
   ·exact .inr ⟨b,off,h,hlt,λj u hj=>(hb.cell hlt).trans (hcs j u hj)⟩
theorem zfv{B:Nat}{w w':World}(hb:Below B w w'):∀ (ts:List Ac) (vs:List Value),zjx B w ts vs->zjx B w' ts vs
 | [],vs,h=>by unfold zjx at h ⊢;exact h
 | t::ts,vs,h=>by
   unfold zjx at h ⊢;obtain⟨u0,u1,u2,u3,rest,rfl,h1,h2⟩:=h;exact⟨u0,u1,u2,u3,rest,rfl,zdg hb t _ _ _ _ h1,zfv hb ts rest h2⟩
end
theorem zpu{B:Nat}{w w':World}(hb:Below B w w'){p:Pd}{v0 v1 v2 v3 v4 v5 v6:Value}(h:PdAt B w p v0 v1 v2 v3 v4 v5 v6):PdAt B w' p v0 v1 v2 v3 v4 v5 v6:=by
 obtain⟨h0,⟨a,c,h1,hn,hcl⟩,h2,h3⟩:=h;exact⟨h0,⟨a,c,h1,zaS hb hn,hcl⟩,h2,zdg hb _ _ _ _ _ h3⟩
theorem zpl{B:Nat}{w w':World}{a:Option Addr}{l:List Pd}(hb:Below B w w')(h:zxG B w a l):zxG B w' a l:=by
 rcases h with rfl | ⟨b,off,rfl,hlt,hc⟩
 ·exact .inl rfl
 ·refine .inr ⟨b,off,rfl,hlt,λj hj=>?_⟩;obtain⟨v0,v1,v2,v3,v4,v5,v6,hp,e0,e1,e2,e3,e4,e5,e6⟩:=hc j hj;exact⟨v0,v1,v2,v3,v4,v5,v6,zpu hb hp,(hb.cell hlt).trans e0,(hb.cell hlt).trans e1,(hb.cell hlt).trans e2,(hb.cell hlt).trans e3,(hb.cell hlt).trans e4,(hb.cell hlt).trans e5,(hb.cell hlt).trans e6⟩
theorem zem{B:Nat}{w w':World}{G:Gm}{ka pa ra qa:Option Addr}(hb:Below B w w')(h:GIn B w G ka pa ra qa):GIn B w' G ka pa ra qa :=
 ⟨zjI hb h.kinds,zgZ hb h.precs,zjI hb h.rules,zpl hb h.prods,zoT hb h.tab⟩
theorem zvj{B:Nat}{w:World}{a:Option Addr}{l:List (List UInt8)}(h:zxt B w a l){k:Nat}(hk:k<l.length):∃ b off,a=some ⟨b,off,none⟩/\b<B/\w.cell? ⟨b,off+k,none⟩=some (.string (bs (l.getD k []))):=by
 rcases h with rfl | ⟨b,off,h1,h2,h3⟩
 ·simp at hk
 ·exact⟨b,off,h1,h2,h3 k hk⟩
theorem zbf{B:Nat}{w:World}{a:Option Addr}{l:List Int}(h:NRow B w a l){k:Nat}(hk:k<l.length):∃ b off,a=some ⟨b,off,none⟩/\b<B/\w.cell? ⟨b,off+k,none⟩=some (.int .i64 (l.getD k 0)):=by
 rcases h with rfl | ⟨b,off,h1,h2,h3⟩
 ·simp at hk
 ·exact⟨b,off,h1,h2,h3 k hk⟩
theorem zv1{B:Nat}{w:World}{a:Option Addr}{l:List (Int × Int)}(h:zxH B w a l){k:Nat}(hk:k<l.length):∃ b off,a=some ⟨b,off,none⟩/\b<B/\w.cell? ⟨b,off+k * 2,none⟩=some (.int .i64 (l.getD k (0,0)).1)/\w.cell? ⟨b,off+k * 2+1,none⟩=some (.int .i64 (l.getD k (0,0)).2):=by
 rcases h with rfl | ⟨b,off,h1,h2,h3⟩
 ·simp at hk
 ·exact⟨b,off,h1,h2,(h3 k hk).1,(h3 k hk).2⟩
theorem zkJ{B:Nat}{w:World}{t:Ac}{v0 v1 v2 v3:Value}(h:zhx B w t v0 v1 v2 v3):∃ (k p:Int) (s:ByteArray) (a:Option Addr) (n c:Nat),v0=.int .i64 k/\v1=.int .i64 p/\v2=.string s/\v3=.slice a n c:=by
 cases t
 unfold zhx at h;obtain⟨rfl,rfl,rfl,a,c,vs,rfl,-⟩:=h;exact⟨_,_,_,_,_,_,rfl,rfl,rfl,rfl⟩
theorem zmk{B:Nat}{w:World}{a:Option Addr}{l:List Pd}(h:zxG B w a l){k:Nat}(hk:k<l.length):∃ b off,a=some ⟨b,off,none⟩/\b<B/\∃ (ra:Option Addr) (rc:Nat) (x3 x4:Int) (x5:ByteArray) (x6:Option Addr) (n6 c6:Nat),(l.getD k pd0).right.length<=rc/\NRow B w ra (l.getD k pd0).right/\zhx B w (l.getD k pd0).act (.int .i64 x3) (.int .i64 x4) (.string x5) (.slice x6 n6 c6) /\
 w.cell? ⟨b,off+k * 7,none⟩=some (.int .i64 (l.getD k pd0).left)/\w.cell? ⟨b,off+k * 7+1,none⟩=some (.slice ra (l.getD k pd0).right.length rc)/\w.cell? ⟨b,off+k * 7+2,none⟩=some (.int .i64 (l.getD k pd0).level)/\w.cell? ⟨b,off+k * 7+3,none⟩=some (.int .i64 x3)/\w.cell? ⟨b,off+k * 7+4,none⟩=some (.int .i64 x4)/\w.cell? ⟨b,off+k * 7+5,none⟩=some (.string x5)/\w.cell? ⟨b,off+k * 7+6,none⟩=some (.slice x6 n6 c6):=by
 rcases h with rfl | ⟨b,off,h1,h2,h3⟩
 ·simp at hk
 ·obtain⟨v0,v1,v2,v3,v4,v5,v6,⟨rfl,⟨ra,rc,rfl,hn,hcl⟩,rfl,ha⟩,e0,e1,e2,e3,e4,e5,e6⟩:=h3 k hk;obtain⟨x3,x4,x5,x6,n6,c6,rfl,rfl,rfl,rfl⟩:=zkJ ha;exact⟨b,off,h1,h2,ra,rc,x3,x4,x5,x6,n6,c6,hcl,hn,ha,e0,e1,e2,e3,e4,e5,e6⟩
theorem zdm{B:Nat}{w:World}{a:Option Addr}{l:List Pd}(h:zxG B w a l){k:Nat}(hk:k<l.length):∃ b off,a=some ⟨b,off,none⟩/\b<B/\∃ (ra:Option Addr) (rc:Nat) (x3 x4:Int) (x5:ByteArray) (x6:Option Addr) (n6 c6:Nat),NRow B w ra (l.getD k pd0).right/\zhx B w (l.getD k pd0).act (.int .i64 x3) (.int .i64 x4) (.string x5) (.slice x6 n6 c6) /\
 w.cell? ⟨b,off+k * 7,none⟩=some (.int .i64 (l.getD k pd0).left)/\w.cell? ⟨b,off+k * 7+1,none⟩=some (.slice ra (l.getD k pd0).right.length rc)/\w.cell? ⟨b,off+k * 7+2,none⟩=some (.int .i64 (l.getD k pd0).level)/\w.cell? ⟨b,off+k * 7+3,none⟩=some (.int .i64 x3)/\w.cell? ⟨b,off+k * 7+4,none⟩=some (.int .i64 x4)/\w.cell? ⟨b,off+k * 7+5,none⟩=some (.string x5)/\w.cell? ⟨b,off+k * 7+6,none⟩=some (.slice x6 n6 c6):=by
 obtain⟨b,off,h1,h2,ra,rc,x3,x4,x5,x6,n6,c6,-,h⟩:=zmk h hk;exact⟨b,off,h1,h2,ra,rc,x3,x4,x5,x6,n6,c6,h⟩
theorem zbl(x:Bool)(w:World):(Op.unary .not (.bool x)).run Tryz.prog w=.ok (.bool (!x)) w:=rfl
theorem boxG(w:World)(v0 v1 v2 v3 v4:Value)(t:TypeId):(w.alloc (.cells #[v0,v1,v2,v3,v4] t)).cell? ⟨w.heap.size,0,none⟩=some v0/\(w.alloc (.cells #[v0,v1,v2,v3,v4] t)).cell? ⟨w.heap.size,1,none⟩=some v1/\(w.alloc (.cells #[v0,v1,v2,v3,v4] t)).cell? ⟨w.heap.size,2,none⟩=some v2/\(w.alloc (.cells #[v0,v1,v2,v3,v4] t)).cell? ⟨w.heap.size,3,none⟩=some v3/\(w.alloc (.cells #[v0,v1,v2,v3,v4] t)).cell? ⟨w.heap.size,4,none⟩=some v4/\(w.alloc (.cells #[v0,v1,v2,v3,v4] t)).heap.size=w.heap.size+1/\Below w.heap.size w (w.alloc (.cells #[v0,v1,v2,v3,v4] t)):=by
 refine⟨?_,?_,?_,?_,?_,by simp,(Below.refl _ _).alloc (Nat.le_refl _) _⟩ <;> (unfold World.cell?;rw[Go.Deep.blk_alloc_new];rfl)
theorem boxP(w:World)(v0 v1 v2 v3 v4 v5 v6:Value)(t:TypeId):(w.alloc (.cells #[v0,v1,v2,v3,v4,v5,v6] t)).cell? ⟨w.heap.size,0,none⟩=some v0/\(w.alloc (.cells #[v0,v1,v2,v3,v4,v5,v6] t)).cell? ⟨w.heap.size,1,none⟩=some v1/\(w.alloc (.cells #[v0,v1,v2,v3,v4,v5,v6] t)).cell? ⟨w.heap.size,2,none⟩=some v2/\(w.alloc (.cells #[v0,v1,v2,v3,v4,v5,v6] t)).cell? ⟨w.heap.size,3,none⟩=some v3/\(w.alloc (.cells #[v0,v1,v2,v3,v4,v5,v6] t)).cell? ⟨w.heap.size,4,none⟩=some v4/\(w.alloc (.cells #[v0,v1,v2,v3,v4,v5,v6] t)).cell? ⟨w.heap.size,5,none⟩=some v5/\(w.alloc (.cells #[v0,v1,v2,v3,v4,v5,v6] t)).cell? ⟨w.heap.size,6,none⟩=some v6/\(w.alloc (.cells #[v0,v1,v2,v3,v4,v5,v6] t)).heap.size=w.heap.size+1/\Below w.heap.size w (w.alloc (.cells #[v0,v1,v2,v3,v4,v5,v6] t)):=by
 refine⟨?_,?_,?_,?_,?_,?_,?_,by simp,(Below.refl _ _).alloc (Nat.le_refl _) _⟩ <;> (unfold World.cell?;rw[Go.Deep.blk_alloc_new];rfl)
structure GSt (B:Nat) (w:World) (G:Gm) (ka:Option Addr) (kc:Nat) (pa:Option Addr) (pc:Nat) (ra:Option Addr) (rc:Nat) (qa:Option Addr) (qc gb:Nat):Prop where
 gin:GIn B w G ka pa ra qa
 c0:w.cell? ⟨gb,0,none⟩=some (.slice ka G.kinds.length kc)
 c1:w.cell? ⟨gb,1,none⟩=some (.slice pa G.precs.length pc)
 c2:w.cell? ⟨gb,2,none⟩=some (.slice ra G.rules.length rc)
 c3:w.cell? ⟨gb,3,none⟩=some (.slice qa G.prods.length qc)
 c4:w.cell? ⟨gb,4,none⟩=some (.int .i64 G.start)
theorem zb6{B:Nat}{w w':World}{G:Gm}{ka pa ra qa:Option Addr}{kc pc rc qc gb:Nat}(hb:Below (gb+1) w w')(hB:B<=gb)(h:GSt B w G ka kc pa pc ra rc qa qc gb):GSt B w' G ka kc pa pc ra rc qa qc gb :=
 ⟨zem (zab hb (by omega)) h.gin,(hb.cell (Nat.lt_succ_self _)).trans h.c0,(hb.cell (Nat.lt_succ_self _)).trans h.c1,(hb.cell (Nat.lt_succ_self _)).trans h.c2,(hb.cell (Nat.lt_succ_self _)).trans h.c3,(hb.cell (Nat.lt_succ_self _)).trans h.c4⟩
theorem zeO{B:Nat}{w:World}{G:Gm}{ka pa ra qa:Option Addr}{kc pc rc qc:Nat}(hB:B<=w.heap.size)(h:GIn B w G ka pa ra qa)(t:TypeId) :
 GSt B (w.alloc (.cells #[.slice ka G.kinds.length kc,.slice pa G.precs.length pc,.slice ra G.rules.length rc,.slice qa G.prods.length qc,.int .i64 G.start] t)) G ka kc pa pc ra rc qa qc w.heap.size:=by
 obtain⟨g0,g1,g2,g3,g4,-,hb⟩:=boxG w (.slice ka G.kinds.length kc) (.slice pa G.precs.length pc) (.slice ra G.rules.length rc) (.slice qa G.prods.length qc) (.int .i64 G.start) t;exact⟨zem (zab hb hB) h,g0,g1,g2,g3,g4⟩
def zar(nk:Nat)(null:Nat->Bool)(row:List Int):Bool:=row.all λx=>decide ((nk:Int)<=x) && null (x - nk).toNat
def zjE(n:Nat)(row:List Int):Prop:=∀ x,x ∈ row->1<=x/\x<n
theorem zbg{l:List Int}{i:Nat}(h:i<l.length):l.getD i 0 ∈ l:=by
 rw[List.getD_eq_getElem?_getD,List.getElem?_eq_getElem h];exact List.getElem_mem h
theorem zcB{α:Type}(l:List α)(i:Nat)(d:α)(h:i<l.length):l.take (i+1)=l.take i ++ [l.getD i d]:=by
 rw[List.take_add_one,List.getD_eq_getElem?_getD,List.getElem?_eq_getElem h];rfl
abbrev Gm.nk(G:Gm):Nat:=G.kinds.length
abbrev Gm.nr(G:Gm):Nat:=G.rules.length
structure GOk (G:Gm):Prop where
 k2:2<=G.nk
 k3:G.nk<=1024
 r1:1<=G.nr
 r2:G.nr<=2048
 s0:0<=G.start
 s1:G.start<G.nr
 ps:G.prods.length<=4096
 pl:∀ p,p ∈ G.prods->0<=p.left/\p.left<G.nr
 pr:∀ p,p ∈ G.prods->p.right.length<=64
 py:∀ p,p ∈ G.prods->zjE (G.nk+G.nr) p.right
theorem zan{l:List Pd}{i:Nat}(h:i<l.length):l.getD i pd0 ∈ l:=by
 rw[List.getD_eq_getElem?_getD,List.getElem?_eq_getElem h];exact List.getElem_mem h
theorem zfV{l:List Pd}{p:Pd}(h:p ∈ l):∃ i,i<l.length/\l.getD i pd0=p:=by
 obtain⟨i,hi,rfl⟩:=List.getElem_of_mem h;exact⟨i,hi,by rw[List.getD_eq_getElem?_getD,List.getElem?_eq_getElem hi];rfl⟩
def upd(f:Nat->Bool)(i:Nat):Nat->Bool:=λj=>if j=i then true else f j
theorem zgg(f:Nat->Bool)(i:Nat):upd f i i=true:=by simp[upd]
theorem zoE(f:Nat->Bool)(i j:Nat)(h:f j=true):upd f i j=true:=by unfold upd;split <;> simp_all
theorem zkX{f:Nat->Bool}{i j:Nat}(h:upd f i j=true):j=i\/f j=true:=by unfold upd at h;split at h <;> simp_all
def zkR(f:Nat->Bool):Nat->Nat
 | 0=>0
 | n+1=>zkR f n+if f n then 0 else 1
theorem zjf{f g:Nat->Bool}:∀ n,(∀ i,i<n->f i=true->g i=true)->zkR g n<=zkR f n
 | 0,_=>Nat.le_refl _
 | n+1,h=>by
   have:=zjf n (λi hi=>h i (by omega));unfold zkR;have h1:=h n (by omega)
   cases hf:f n <;> cases hg:g n <;> simp_all <;> omega
theorem zje{f g:Nat->Bool}:∀ n,(∀ i,i<n->f i=true->g i=true)->∀ i,i<n->f i=false->g i=true->zkR g n<zkR f n
 | 0,_,i,hi,_,_=>by omega
 | n+1,h,i,hi,h0,h1=>by
   unfold zkR;by_cases e:i=n
   ·subst e;have:=zjf i (λj hj=>h j (by omega));rw[h0,h1];simp;omega
   ·have:=zje n (λj hj=>h j (by omega)) i (by omega) h0 h1;have h2:=h n (by omega)
    cases hf:f n <;> cases hg:g n <;> simp_all <;> omega
theorem ztV{f:Nat->Bool}{i n:Nat}(hi:i<n)(h:f i=false):zkR (upd f i) n<zkR f n :=
 zje n (λj _ hj=>zoE f i j hj) i hi h (zgg f i)
inductive Null (G:Gm):Nat->Prop
 | mk (p:Pd) (hp:p ∈ G.prods) (h1:∀ x,x ∈ p.right->(G.nk:Int)<=x) (h2:∀ x,x ∈ p.right->Null G (x - G.nk).toNat):Null G p.left.toNat
open Classical in
noncomputable def zat(G:Gm):Nat->Bool:=λr=>decide (Null G r)
theorem zs1(G:Gm)(r:Nat):zat G r=true↔Null G r:=by unfold zat;simp
theorem emptyB_iff{nk:Nat}{f:Nat->Bool}{row:List Int}:zar nk f row=true↔∀ x,x ∈ row->(nk:Int)<=x/\f (x - nk).toNat=true:=by
 unfold zar;rw[List.all_eq_true];constructor
 ·intro h x hx;have:=h x hx;rw[Bool.and_eq_true,decide_eq_true_eq] at this;exact this
 ·intro h x hx;rw[Bool.and_eq_true,decide_eq_true_eq];exact h x hx
def zrD(G:Gm)(f:Nat->Bool):Prop:=∀ r,f r=true->Null G r
def ziK(G:Gm)(f:Nat->Bool)(p:Pd):Bool:=!f p.left.toNat && zar G.nk f p.right
def zul(G:Gm)(f:Nat->Bool):Prop:=∀ i,i<G.prods.length->ziK G f (G.prods.getD i pd0)=false
theorem zpH{G:Gm}{f:Nat->Bool}(h:zrD G f)(hs:zul G f):f=zat G:=by
 funext r;rw[Bool.eq_iff_iff,zs1];refine⟨h r,λhn=>?_⟩
 induction hn with
 | mk p hp h1 h2 ih =>
   obtain⟨i,hi,rfl⟩:=zfV hp;have:=hs i hi;unfold ziK at this;rw[Bool.and_eq_false_iff] at this;rcases this with h | h
   ·simpa using h
   ·rw[emptyB_iff.2 (λx hx=>⟨h1 x hx,ih x hx⟩)] at h
    cases h
end Go.Proofs.YtieciibnajeibaaGreatDoor
namespace Go.Proofs.YtieciibnajeibaaGreatDoor
open Go.RowKit
theorem zts:(Tryz.prog.info? 4).map (λi=>(i.zero,i.size,i.bytes))=some (some (.bool false),1,1):=by kernel_rfl
def bt(s:ByteArray)(i:Nat):Nat:=(s.get! i).toNat
theorem bt_get(s:ByteArray)(i:Nat)(h:i<s.size):bt s i=(s[i]'h).toNat:=by
 have:s.get! i=s[i]'h:=by simp[ByteArray.get!,getElem!_pos,h];rfl
 rw[bt,this]
theorem zmL(s:ByteArray)(j:Nat)(h:j<s.size)(w:World):(Instr.index 9 (.string s) (.int .i64 (j:Int))).run Tryz.prog w=.ok (.int .u8 (bt s j:Int)) w:=by
 rw[run_index_string w 9 s .i64 (j:Int) Tryz.underlying9,dif_pos (by omega)];simp[bt_get s j h]
def letB(c:Nat):Bool:=decide ((65<=c/\c<=90)\/(97<=c/\c<=122)\/c=95)
def zxF(c:Nat):Bool:=decide (48<=c/\c<=57)
def zlV(s:ByteArray)(k:Nat):Prop:=∀ i,i<k->letB (bt s i)=true\/zxF (bt s i)=true
instance (s:ByteArray) (k:Nat):Decidable (zlV s k):=by unfold zlV;infer_instance
def zfM(s:ByteArray):Bool:=decide (1<=s.size/\s.size<=64/\zxF (bt s 0)=false/\zlV s s.size)
def endS:List UInt8:=[101,110,100]
def errS:List UInt8:=[101,114,114,111,114]
def zf3(ns:List (List UInt8))(k:Nat):Prop:=∀ j,j<k->zfM (bs (ns.getD j []))=true
instance (ns:List (List UInt8)) (k:Nat):Decidable (zf3 ns k):=by unfold zf3;infer_instance
def zg4(ns:List (List UInt8)):Bool:=decide (2<=ns.length/\ns.length<=1024/\ns.getD 0 []=endS/\ns.getD 1 []=errS/\zf3 ns ns.length/\ns.Nodup)
theorem zfh{ns:List (List UInt8)}(h:¬ (2<=ns.length/\ns.length<=1024/\ns.getD 0 []=endS/\ns.getD 1 []=errS/\zf3 ns ns.length/\ns.Nodup)):zg4 ns=false:=decide_eq_false h
theorem zs8{s:ByteArray}(h:zfM s=true):s.size<=64:=(of_decide_eq_true h).2.1
def zg1(ns:List (List UInt8))(k:Nat):Prop:=∀ j,j<k->1<=(ns.getD j []).length/\(ns.getD j []).length<=4096
instance (ns:List (List UInt8)) (k:Nat):Decidable (zg1 ns k):=by unfold zg1;infer_instance
def zex(ns:List (List UInt8)):Bool:=decide (1<=ns.length/\ns.length<=2048/\zg1 ns ns.length/\ns.Nodup)
def lvlB(i:Nat)(p:Int × Int):Bool:=decide ((p.1=0/\p.2=0)\/(1<=p.1/\1<=p.2/\p.2<=3/\2<=i))
def zlo(l:List (Int × Int))(k:Nat):Prop:=∀ i,i<k->lvlB i (l.getD i (0,0))=true
instance (l:List (Int × Int)) (k:Nat):Decidable (zlo l k):=by unfold zlo;infer_instance
def zcj(l:List (Int × Int)):Bool:=decide (zlo l l.length)
def zvu(x y:Int):Bool:=decide ((y=0/\x=0)\/(1<=y/\y<=3/\0<x))
theorem zsj(x y:Int)(w:World):Calls Tryz.prog 188 #[.agg #[.int .i64 x,.int .i64 y]] w λe w'=>e=.returned (.bool (zvu x y))/\Below w.heap.size w w':=by
 have Hb:=zaa ((Below.refl w.heap.size w).alloc (Nat.le_refl _) (.cells #[.int .i64 x,.int .i64 y] 202));have hnot:=zbl;go_enter Tryz.func188,Tryz.ntmps188;go_wp2
 all_goals go_ret
 all_goals refine⟨zbo ?_,uh Hb⟩
 all_goals (unfold zvu;rw[Bool.eq_iff_iff];simp at *;omega)
theorem zh4(ka pa ra qa:Option Addr)(nk kc pn pc nr rc qn qc:Nat)(st x:Int)(w:World):Calls Tryz.prog 191 #[.agg #[.slice ka nk kc,.slice pa pn pc,.slice ra nr rc,.slice qa qn qc,.int .i64 st],.int .i64 x] w λe w'=>e=.returned (.bool (decide (0<=x/\x<nr)))/\Below w.heap.size w w':=by
 have Hb:=zaa ((Below.refl w.heap.size w).alloc (Nat.le_refl _) (.cells #[.slice ka nk kc,.slice pa pn pc,.slice ra nr rc,.slice qa qn qc,.int .i64 st] 26));have hnot:=zbl;go_enter Tryz.func191,Tryz.ntmps191;go_wp2
 all_goals go_ret
 all_goals refine⟨zbo ?_,uh Hb⟩
 all_goals (rw[Bool.eq_iff_iff];simp at *;omega)
theorem zpp(ka pa ra qa:Option Addr)(nk kc pc nr rc qn qc:Nat)(st:Int)(l:List (Int × Int))(hnk:nk<=281474976710656)(B:Nat)(w:World)(hB:B<=w.heap.size)(hrow:zxH B w pa l) :
 Calls Tryz.prog 144 #[.agg #[.slice ka nk kc,.slice pa l.length pc,.slice ra nr rc,.slice qa qn qc,.int .i64 st]] w λe w'=>e=.returned (.bool (decide (l.length=nk) && zcj l))/\Below w.heap.size w w':=by
 obtain⟨g0,g1,g2,g3,g4,hs1,hb1⟩:=boxG w (.slice ka nk kc) (.slice pa l.length pc) (.slice ra nr rc) (.slice qa qn qc) (.int .i64 st) 26;have hnot:=zbl;by_cases hl:l.length=nk
 ·subst hl;have hne:((l.length:Int) != l.length)=false:=by simp
  have Hyes:Hid (zlo l l.length->zcj l=true):=zaa λh=>decide_eq_true h;have Hno:Hid (¬ zlo l l.length->zcj l=false):=zaa λh=>decide_eq_false h;have hR:(decide (l.length=l.length) && zcj l)=zcj l:=by simp
  rw[hR];clear hR;generalize zcj l=R at *;have Hrow:=zaa (zgZ (zab hb1 hB) hrow);have Hb1:=zaa hb1;clear hrow hb1;go_enter Tryz.func144,Tryz.ntmps144;go_wp2;generalize w.alloc (.cells #[.slice ka l.length kc,.slice pa l.length pc,.slice ra nr rc,.slice qa qn qc,.int .i64 st] 26)=w1 at *;have hw1:w1.heap.size=w.heap.size+1:=hs1
  go_loopw [15] (λx wr=>∃ k:Nat,x=.int .i64 k/\k<=l.length/\zlo l k/\Below w1.heap.size w1 wr) (λx _=>l.length - (intOf x).toNat)
  case atStart=>exact⟨0,rfl,Nat.zero_le _,(λi hi=>absurd hi (Nat.not_lt_zero _)),Below.refl _ _⟩
  case round =>
   obtain⟨k,rfl,hk,hgood,hbel⟩:=hrel;have Hg:=zaa hgood;have Hbel:=zaa hbel;have hszr:=hbel.size;clear hgood hbel g0 g1 g2 g3 g4;by_cases hlt:k<l.length
   ·have hlt':(k:Int)<l.length:=by omega
    obtain⟨b,off,rfl,hb,c0,c1⟩:=zv1 (zgZ (zab (uh Hbel) (by omega)) (uh Hrow)) hlt
    have Hs:=zaa (λ(h:lvlB k (l.getD k (0,0))=true)=>show zlo l (k+1) from λi hi=>by
     by_cases e:i=k
     ·subst e;exact h
     ·exact uh Hg i (by omega))
    have Hn:=zaa (λ(h:lvlB k (l.getD k (0,0))=false)=>uh Hno (λhd=>by rw[hd k hlt] at h;cases h));generalize l.getD k (0,0)=p at *;obtain⟨x,y⟩:=p;simp only at c0 c1;have Hs2:=zaa (λ(h:(x=0/\y=0)\/(1<=x/\1<=y/\y<=3/\2<=k))=>uh Hs (decide_eq_true h));have Hn2:=zaa (λ(h:¬ ((x=0/\y=0)\/(1<=x/\1<=y/\y<=3/\2<=k)))=>uh Hn (decide_eq_false h));clear Hs Hn;go_wp2_with fail;refine(zsj x y _).mono ?_;rintro e w3 ⟨rfl,hb3⟩;have hb2:Below wr.heap.size wr (wr.alloc (.cells #[.int .i64 x,.int .i64 y] 202)):=(Below.refl _ _).alloc (Nat.le_refl _) _;have hb4:=hb2.trans (zab hb3 (by simp));have d0:w3.cell? ⟨wr.heap.size,0,none⟩=some (.int .i64 x):=(hb3.cell (p:=⟨wr.heap.size,0,none⟩) (by simp)).trans (by unfold World.cell?;rw[Go.Deep.blk_alloc_new];rfl);have Hb3:=zaa ((uh Hbel).trans (zab hb4 (by omega)));have Hb5:=zaa ((uh Hb1).trans (zab (uh Hb3) (by omega)));clear hb3 hb2 hb4
    cases hpr:zvu x y
    ·have h1:=of_decide_eq_false hpr;go_wp2;go_ret;rw[uh Hn2 (by omega)];exact⟨rfl,uh Hb5⟩
    ·have h1:=of_decide_eq_true hpr;go_wp2
     all_goals first
      | (go_ret;rw[uh Hn2 (by first | omega | (simp at *;omega))];exact⟨rfl,uh Hb5⟩)
      | (go_roundw
         case rel=>exact⟨k+1,by go_num,by omega,uh Hs2 (by first | omega | (simp at *;omega)),uh Hb3⟩
         case measure=>simp[intOf];omega)
   ·obtain rfl:k=l.length:=by omega
    have Hr:Hid (R=true):=zaa (uh Hyes (uh Hg));go_wp2;go_ret;rw[uh Hr];exact⟨rfl,(uh Hb1).trans (zab (uh Hbel) (by omega))⟩
 ·have hne:((l.length:Int) != nk)=true:=by simp;omega
  have hR:(decide (l.length=nk) && zcj l)=false:=by simp[hl]
  rw[hR];clear hR;go_enter Tryz.func144,Tryz.ntmps144;go_wp2;go_ret;exact⟨rfl,hb1⟩
def okA(k p:Int)(n:List UInt8)(m:Nat)(sy:Int):Prop:=(k=0/\p=0/\n=[]/\m=0)\/(k=1/\0<=p/\p<sy/\n=[]/\m=0)\/(k=3/\n.length<=4096/\p=0/\m=0)\/(k=2/\1<=n.length/\n.length<=32/\p=0)
instance (k p:Int) (n:List UInt8) (m:Nat) (sy:Int):Decidable (okA k p n m sy):=by unfold okA;infer_instance
mutual
def zbZ:Ac->Int->Int->Int
 | .mk k p n ks,sy,left=>if left - 1<0 then -1 else if okA k p n ks.length sy then zbY ks sy (left - 1) else -1
def zbY:List Ac->Int->Int->Int
 | [],_,l=>l
 | t::ts,sy,l=>if l<0 then l else zbY ts sy (zbZ t sy l)
end
mutual
theorem zmp:∀ (t:Ac) (sy l:Int),0<=l->-1<=zbZ t sy l/\zbZ t sy l<=l - 1
 | .mk k p n ks,sy,l,h=>by
   unfold zbZ
   split
   ·omega
   ·split
    ·exact zjT ks sy (l - 1) (by omega)
    ·omega
theorem zjT:∀ (ts:List Ac) (sy l:Int),-1<=l->-1<=zbY ts sy l/\zbY ts sy l<=l
 | [],sy,l,h=>by unfold zbY;omega
 | t::ts,sy,l,h=>by
   unfold zbY
   split
   ·omega
   ·have h1:=zmp t sy l (by omega);have h2:=zjT ts sy (zbZ t sy l) h1.1;omega
end
theorem znD(ts:List Ac)(sy l:Int)(h:l<0):zbY ts sy l=l:=by
 cases ts with
 | nil=>rfl
 | cons t ts=>unfold zbY;rw[if_pos h]
theorem dropA{ks:List Ac}{i:Nat}(hi:i<ks.length):ks.drop i=ks.getD i ac0::ks.drop (i+1):=by
 rw[List.drop_eq_getElem_cons hi,List.getD_eq_getElem?_getD,List.getElem?_eq_getElem hi];rfl
theorem znc{B:Nat}{w:World}:∀ (ts:List Ac) (vs:List Value),zjx B w ts vs->∀ i,i<ts.length->∃ u0 u1 u2 u3,vs[i * 4]? = some u0/\vs[i * 4+1]? = some u1/\vs[i * 4+2]? = some u2/\vs[i * 4+3]? = some u3/\zhx B w (ts.getD i ac0) u0 u1 u2 u3
 | [],_,_,i,hi=>by simp at hi
 | t::ts,vs,h,i,hi=>by
   unfold zjx at h;obtain⟨u0,u1,u2,u3,rest,rfl,h1,h2⟩:=h
   cases i with
   | zero=>exact⟨u0,u1,u2,u3,rfl,rfl,rfl,rfl,h1⟩
   | succ i =>
     obtain⟨x0,x1,x2,x3,e0,e1,e2,e3,hx⟩:=znc ts rest h2 i (by simpa using hi);exact⟨x0,x1,x2,x3,by rw[show (i+1) * 4=i * 4+1+1+1+1 by omega];exact e0,by rw[show (i+1) * 4+1=i * 4+1+1+1+1+1 by omega];exact e1,by rw[show (i+1) * 4+2=i * 4+2+1+1+1+1 by omega];exact e2,by rw[show (i+1) * 4+3=i * 4+3+1+1+1+1 by omega];exact e3,hx⟩
def zcn(n:Nat)(row:List Int)(k:Nat):Prop:=∀ j,j<k->1<=row.getD j 0/\row.getD j 0<n
instance (n:Nat) (row:List Int) (k:Nat):Decidable (zcn n row k):=by unfold zcn;infer_instance
def zhA(nk nr:Nat)(p:Pd):Bool:=decide (0<=p.left/\p.left<nr/\p.right.length<=64/\0<=p.level/\zcn (nk+nr) p.right p.right.length/\0<=zbZ p.act p.right.length 256)
theorem zhE(ka pa ra qa:Option Addr)(nk kc pn pc nr rc qn qc:Nat)(st:Int)(hn:nk+nr<=281474976710656)(ro:Option Addr)(rowc:Nat)(row:List Int)(hl:row.length<=281474976710656)(B:Nat)(w:World)(hB:B<=w.heap.size)(hrow:NRow B w ro row) :
 Calls Tryz.prog 222 #[.agg #[.slice ka nk kc,.slice pa pn pc,.slice ra nr rc,.slice qa qn qc,.int .i64 st],.slice ro row.length rowc] w λe w'=>e=.returned (.bool (decide (zcn (nk+nr) row row.length)))/\Below w.heap.size w w':=by
 obtain⟨g0,g1,g2,g3,g4,hs1,hb1⟩:=boxG w (.slice ka nk kc) (.slice pa pn pc) (.slice ra nr rc) (.slice qa qn qc) (.int .i64 st) 26;have hnot:=zbl;have Hyes:Hid (zcn (nk+nr) row row.length->decide (zcn (nk+nr) row row.length)=true):=zaa λh=>decide_eq_true h;have Hno:Hid (¬ zcn (nk+nr) row row.length->decide (zcn (nk+nr) row row.length)=false):=zaa λh=>decide_eq_false h;generalize decide (zcn (nk+nr) row row.length)=R at *;have Hrow:=zaa (zaS (zab hb1 hB) hrow);have Hb1:=zaa hb1;have Hg:=zaa (And.intro g0 g2);clear hrow hb1 g0 g1 g2 g3 g4;have hwn:IntKind.i64.wrap ((nk:Int)+nr)=nk+nr:=by rw[IntKind.wrap_i64];omega
 go_enter Tryz.func222,Tryz.ntmps222;go_wp2;generalize w.alloc (.cells #[.slice ka nk kc,.slice pa pn pc,.slice ra nr rc,.slice qa qn qc,.int .i64 st] 26)=w1 at *;have hw1:w1.heap.size=w.heap.size+1:=hs1
 go_loopw [9] (λx wr=>∃ k:Nat,x=.int .i64 k/\k<=row.length/\zcn (nk+nr) row k/\Below w1.heap.size w1 wr) (λx _=>row.length - (intOf x).toNat)
 case atStart=>exact⟨0,rfl,Nat.zero_le _,(λi hi=>absurd hi (Nat.not_lt_zero _)),Below.refl _ _⟩
 case round =>
  obtain⟨k,rfl,hk,hgood,hbel⟩:=hrel;have g0:=(hbel.cell (p:=⟨w.heap.size,0,none⟩) (by show w.heap.size<_;omega)).trans (uh Hg).1;have g2:=(hbel.cell (p:=⟨w.heap.size,2,none⟩) (by show w.heap.size<_;omega)).trans (uh Hg).2;have Hin:=zaa hgood;have Hbel:=zaa hbel;have hszr:=hbel.size;have Hb5:=zaa ((uh Hb1).trans (zab hbel (by omega)));clear hgood hbel;by_cases hlt:k<row.length
  ·have hlt':(k:Int)<row.length:=by omega
   obtain⟨b,off,rfl,hb,c0⟩:=zbf (zaS (zab (uh Hbel) (by omega)) (uh Hrow)) hlt
   have Hs:=zaa (λ(h:1<=row.getD k 0/\row.getD k 0<(nk+nr:Nat))=>show zcn (nk+nr) row (k+1) from λi hi=>by
    by_cases e:i=k
    ·subst e;exact h
    ·exact uh Hin i (by omega))
   have Hn:=zaa (λ(h:¬ (1<=row.getD k 0/\row.getD k 0<(nk+nr:Nat)))=>uh Hno (λhd=>h (hd k hlt)));generalize row.getD k 0=x at *;go_wp2
   all_goals first
    | (go_ret;rw[uh Hn (by first | omega | (simp at *;omega))];exact⟨rfl,uh Hb5⟩)
    | (go_roundw
       case rel=>exact⟨k+1,by go_num,by omega,uh Hs (by first | omega | (simp at *;omega)),uh Hbel⟩
       case measure=>simp[intOf];omega)
  ·obtain rfl:k=row.length:=by omega
   have Hr:Hid (R=true):=zaa (uh Hyes (uh Hin));go_wp2;go_ret;rw[uh Hr];exact⟨rfl,uh Hb5⟩
def zjy(nk:Nat)(f:Nat->Bool)(row:List Int):Bool:=row.all λx=>decide (x<(nk:Int)) || f (x - nk).toNat
theorem wholeB_iff{nk:Nat}{f:Nat->Bool}{row:List Int}:zjy nk f row=true↔∀ x,x ∈ row->(nk:Int)<=x->f (x - nk).toNat=true:=by
 unfold zjy;rw[List.all_eq_true];constructor
 ·intro h x hx hk;have:=h x hx;rw[Bool.or_eq_true,decide_eq_true_eq] at this;rcases this with h | h
  ·omega
  ·exact h
 ·intro h x hx;rw[Bool.or_eq_true,decide_eq_true_eq];by_cases e:x<nk
  ·exact .inl e
  ·exact .inr (h x hx (by omega))
inductive Prdv (G:Gm):Nat->Prop
 | mk (p:Pd) (hp:p ∈ G.prods) (h:∀ x,x ∈ p.right->(G.nk:Int)<=x->Prdv G (x - G.nk).toNat):Prdv G p.left.toNat
open Classical in
noncomputable def zsl(G:Gm):Nat->Bool:=λr=>decide (Prdv G r)
theorem zvv(G:Gm)(r:Nat):zsl G r=true↔Prdv G r:=by unfold zsl;simp
def zuk(G:Gm)(f:Nat->Bool):Prop:=∀ r,f r=true->Prdv G r
def zlc(G:Gm)(f:Nat->Bool)(p:Pd):Bool:=!f p.left.toNat && zjy G.nk f p.right
def zxv(G:Gm)(f:Nat->Bool):Prop:=∀ i,i<G.prods.length->zlc G f (G.prods.getD i pd0)=false
theorem zsk{G:Gm}{f:Nat->Bool}(h:zuk G f)(hs:zxv G f):f=zsl G:=by
 funext r;rw[Bool.eq_iff_iff,zvv];refine⟨h r,λhn=>?_⟩
 induction hn with
 | mk p hp h1 ih =>
   obtain⟨i,hi,rfl⟩:=zfV hp;have:=hs i hi;unfold zlc at this;rw[Bool.and_eq_false_iff] at this;rcases this with h | h
   ·simpa using h
   ·rw[wholeB_iff.2 (λx hx hk=>ih x hx hk)] at h
    cases h
inductive Rchd (G:Gm) (ok:Pd->Bool):Nat->Prop
 | start:Rchd G ok G.start.toNat
 | step (p:Pd) (hp:p ∈ G.prods) (ho:ok p=true) (h:Rchd G ok p.left.toNat) (x:Int) (hx:x ∈ p.right) (hk:(G.nk:Int)<=x):Rchd G ok (x - G.nk).toNat
open Classical in
noncomputable def zxB(G:Gm)(ok:Pd->Bool):Nat->Bool:=λr=>decide (Rchd G ok r)
theorem zvn(G:Gm)(ok:Pd->Bool)(r:Nat):zxB G ok r=true↔Rchd G ok r:=by unfold zxB;simp
def zuj(G:Gm)(ok:Pd->Bool)(f:Nat->Bool):Prop:=f G.start.toNat=true/\∀ r,f r=true->Rchd G ok r
def zvm(G:Gm)(ok:Pd->Bool)(f:Nat->Bool)(p:Pd):Prop:=f p.left.toNat=true->ok p=true->∀ x,x ∈ p.right->(G.nk:Int)<=x->f (x - G.nk).toNat=true
def zxu(G:Gm)(ok:Pd->Bool)(f:Nat->Bool):Prop:=∀ i,i<G.prods.length->zvm G ok f (G.prods.getD i pd0)
theorem zsb{G:Gm}{ok:Pd->Bool}{f:Nat->Bool}(h:zuj G ok f)(hs:zxu G ok f):f=zxB G ok:=by
 funext r;rw[Bool.eq_iff_iff,zvn];refine⟨h.2 r,λhn=>?_⟩
 induction hn with
 | start=>exact h.1
 | step p hp ho _ x hx hk ih =>
   obtain⟨i,hi,rfl⟩:=zfV hp;exact hs i hi ih ho x hx hk
end Go.Proofs.YtieciibnajeibaaGreatDoor
namespace Go.Proofs.YtieciibnajeibaaGreatDoor
open Go.RowKit
def lenR(nk:Nat)(f:Nat->Int):List Int->Int->Int
 | [],acc=>acc
 | x::xs,acc=>if (nk:Int)<=x then(if f (x - nk).toNat<0 then -1 else lenR nk f xs (min (acc+f (x - nk).toNat) 65537)) else lenR nk f xs (min (acc+1) 65537)
def wt(v:Int):Nat:=if v<0 then 65538 else v.toNat
def zxD(w:World)(b:Nat):Nat->Int:=λr=>match w.cell? ⟨b,r,none⟩ with | some v=>intOf v | none=>0
theorem zpF{w:World}{b t n:Nat}{f:Nat->Int}(h:w.rowIs b t n (λr=>.int .i64 (f r)))(r:Nat)(hr:r<n):zxD w b r=f r:=by
 unfold zxD;have:=h.cell hr;rw[this];rfl
mutual
def zdw:Ac->Prop
 | .mk _ _ _ ks=>ks.length<=281474976710656/\zfw ks
def zfw:List Ac->Prop
 | []=>True
 | t::ts=>zdw t/\zfw ts
end
theorem zhr:∀ (ks:List Ac),(∀ t,t ∈ ks->zdw t)->zfw ks
 | [],_=>by unfold zfw;trivial
 | t::ts,h=>by
   unfold zfw;exact⟨h t (by simp),zhr ts (λx hx=>h x (List.mem_cons_of_mem _ hx))⟩
mutual
theorem zjr{B B':Nat}{w:World}(hB:B<=B'):∀ (t:Ac) (v0 v1 v2 v3:Value),zhx B w t v0 v1 v2 v3->zhx B' w t v0 v1 v2 v3
 | .mk k p n ks,v0,v1,v2,v3,h=>by
   unfold zhx at h ⊢;obtain⟨h0,h1,h2,a,c,vs,h3,hts,hc⟩:=h;refine⟨h0,h1,h2,a,c,vs,h3,znb hB ks vs hts,?_⟩;rcases hc with h | ⟨b,off,h,hlt,hcs⟩
   ·exact .inl h
   ·exact .inr ⟨b,off,h,by omega,hcs⟩
theorem znb{B B':Nat}{w:World}(hB:B<=B'):∀ (ts:List Ac) (vs:List Value),zjx B w ts vs->zjx B' w ts vs
 | [],vs,h=>by unfold zjx at h ⊢;exact h
 | t::ts,vs,h=>by
   unfold zjx at h ⊢;obtain⟨u0,u1,u2,u3,rest,rfl,h1,h2⟩:=h;exact⟨u0,u1,u2,u3,rest,rfl,zjr hB t _ _ _ _ h1,znb hB ts rest h2⟩
end
def okP(G:Gm)(f was:Nat->Int)(p:Pd):Bool:=zjy G.nk (λr=>decide (0<=was r)) p.right && decide (lenR G.nk f p.right 0=f p.left.toNat)
end Go.Proofs.YtieciibnajeibaaGreatDoor

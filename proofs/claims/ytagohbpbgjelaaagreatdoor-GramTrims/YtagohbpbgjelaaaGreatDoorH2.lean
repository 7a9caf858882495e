/- The document's spelled. -/
import Derived.Test.YtagohbpbgjelaaaGreatDoorA2
import Derived.Test.YtagohbpbgjelaaaGreatDoorL2
import Derived.Test.YtagohbpbgjelaaaGreatDoorU2
import Derived.Laws.AppendOwnNone
import Derived.Test.YtagohbpbgjelaaaGreatDoorR1
namespace Go.Proofs.YtagohbpbgjelaaaGreatDoor
open Go.RowKit

set_option maxRecDepth 100000 in
theorem zfM (a b:List Int):zal (a ++ b)=zal a ++ zal b:=by simp[zal]
end Go.Proofs.YtagohbpbgjelaaaGreatDoor

namespace Go.Proofs.YtagohbpbgjelaaaGreatDoor
open Go.RowKit

noncomputable def zhu (G:Gm) (r:Nat):Bool:=zp5 G (fun p:Pd=>za9 G.nk (zcQ G) p.right) r
noncomputable def zgj (G:Gm) (r:Nat):Bool:=zcQ G r && zhu G r
noncomputable def zap (G:Gm):Nat→List (List UInt8)
 | 0=>[]
 | k+1=>zap G k ++ if zgj G k then[G.rules.getD k []] else[]
noncomputable def zaZ (G:Gm) (r:Nat):Nat:=if zgj G r then(zap G r).length else 0
noncomputable def zda (G:Gm) (x:Int):Int:=if (G.nk:Int)≤x then(G.nk:Int)+zaZ G (x - G.nk).toNat else x
noncomputable def pdT (G:Gm) (p:Pd):Pd:=⟨zaZ G p.left.toNat,p.right.map (zda G),p.level,p.act⟩
noncomputable def ziI (G:Gm) (p:Pd):Bool:=zhu G p.left.toNat && (zcQ G p.left.toNat && za9 G.nk (zcQ G) p.right)
noncomputable def zaB (G:Gm):Nat→List Pd
 | 0=>[]
 | k+1=>zaB G k ++ if ziI G (G.prods.getD k pd0) then[pdT G (G.prods.getD k pd0)] else[]
noncomputable def zbB (G:Gm):Gm:=⟨G.kinds,G.precs,zap G G.nr,zaB G G.prods.length,zaZ G G.start.toNat⟩
set_option maxRecDepth 100000 in
theorem zdb (G:Gm):∀ k,(zap G k).length≤k
 | 0=>Nat.le_refl _
 | k+1=>by
   have:=zdb G k
   unfold zap
   rw[List.length_append]
   split <;> simp <;> omega
set_option maxRecDepth 100000 in
theorem zm1 (G:Gm) (r:Nat):zaZ G r≤r:=by
 unfold zaZ
 split
 ·exact zdb G r
 ·omega
set_option maxRecDepth 100000 in
theorem zeH (G:Gm):∀ k,(zaB G k).length≤k
 | 0=>Nat.le_refl _
 | k+1=>by
   have:=zeH G k
   unfold zaB
   rw[List.length_append]
   split <;> simp <;> omega
def zaH (l:List (Int × Int)):List Value:=l.flatMap fun x=>[.int .i64 x.1,.int .i64 x.2]
set_option maxRecDepth 100000 in
theorem zaE:∀ l,(zaH l).length=l.length * 2
 | []=>rfl
 | x::xs=>by
   have:=zaE xs
   unfold zaH at this ⊢
   rw[List.flatMap_cons,List.length_append,this]
   simp
   omega
set_option maxRecDepth 100000 in
theorem zdU:∀ (l:List (Int × Int)) (j:Nat),j<l.length→(zaH l)[j * 2]? = some (.int .i64 (l.getD j (0,0)).1)∧(zaH l)[j * 2+1]? = some (.int .i64 (l.getD j (0,0)).2)
 | [],j,h=>by simp at h
 | x::xs,0,_=>⟨rfl,rfl⟩
 | x::xs,j+1,h=>by
   have:=zdU xs j (by simpa using h)
   unfold zaH at this ⊢
   rw[List.flatMap_cons,show (j+1) * 2=j * 2+1+1 by omega,show j * 2+1+1+1=(j * 2+1)+1+1 by omega]
   exact this
set_option maxRecDepth 100000 in
theorem zaM (l:List (Int × Int)):∀ u ∈ zaH l,u.oneCell'=true:=by
 intro u hu
 obtain⟨x,-,hx⟩:=List.mem_flatMap.1 hu
 simp at hx
 rcases hx with rfl | rfl <;> rfl
set_option maxRecDepth 100000 in
theorem zbu (l:List (List UInt8)):∀ u ∈ zaY l,u.oneCell'=true:=by
 intro u hu
 obtain⟨x,-,rfl⟩:=List.mem_map.1 hu
 rfl
set_option maxRecDepth 100000 in
theorem zbv (l:List (List UInt8)):(zaY l).length=l.length:=by simp[zaY]
set_option maxRecDepth 100000 in
theorem zkm {w:World} {B:Nat} {v:Value} {l:List (Int × Int)} (h:w.ownsRow B 98 2 v l.length (zaH l)):∃ a c,v=.slice a l.length c∧zpY w.heap.size w a l:=by
 obtain⟨a,c,rfl⟩:=zad h
 refine⟨a,c,rfl,?_⟩
 rcases h.2 with ⟨hv,hn⟩ | ⟨g,cap,cur,hv,hg,hh,-⟩
 ·exact .inl (List.eq_nil_of_length_eq_zero hn)
 ·cases hv
  refine .inr ⟨g,0,rfl,(Array.getElem?_eq_some_iff.1 hh).1,fun j hj=>?_⟩
  have:=zdU l j hj
  rw[Nat.zero_add]
  exact⟨by rw[h.cellAt (j * 2) (by omega)];exact this.1,by rw[h.cellAt (j * 2+1) (by omega)];exact this.2⟩
set_option maxRecDepth 100000 in
theorem za4 {N:Nat} {W0 W:World} (_:Below N W0 W) (hN:N≤W.heap.size) (e:TypeId) (s:Nat):(W.alloc (.cells #[] e)).ownsRow N e s (.slice (some ⟨W.heap.size,0,none⟩) 0 0) 0 [] :=
 ⟨by simp,.inr ⟨W.heap.size,0,#[],rfl,hN,Go.Deep.blk_alloc_new _ _,Nat.le_refl _,by unfold maxLen;omega,by simp,by simp⟩⟩
set_option maxRecDepth 100000 in
theorem zaS {W:World} {b:Nat} {o:Obj} (h:W.heap[b]? = some o) (o':Obj):(W.alloc o').heap[b]? = some o:=(Below.heap_alloc _ _ _ (Array.getElem?_eq_some_iff.1 h).1).trans h
set_option maxRecDepth 100000 in
theorem zaP {W W':World} {b:Nat} {o:Obj} (h:W.heap[b]? = some o) (hb:Below W.heap.size W W'):W'.heap[b]? = some o:=(hb.block _ (Array.getElem?_eq_some_iff.1 h).1).trans h
set_option maxRecDepth 100000 in
theorem zpN {W:World} {b t e B s n:Nat} {c:Array Value} {v:Value} {xs:List Value} (h:W.heap[b]? = some (.cells c t)) (h':W.ownsRow B e s v n xs) (hne:e≠t):some b≠v.ownBlock:=by
 intro hk
 rcases h'.2 with ⟨rfl,-⟩ | ⟨g',cap',cur',rfl,-,hg',-⟩
 ·simp[Value.ownBlock] at hk
 ·simp[Value.ownBlock] at hk
  subst hk
  rw[h] at hg'
  simp at hg'
  exact hne hg'.2.symm
set_option maxRecDepth 100000 in
theorem zaD {W W':World} {b t e B s n:Nat} {c:Array Value} {v:Value} {xs:List Value} (h:W.heap[b]? = some (.cells c t)) (h':W.ownsRow B e s v n xs) (hg:W.grownBy W' v.ownBlock) (hne:e≠t):W'.heap[b]? = some (.cells c t) :=
 (hg.block b (Array.getElem?_eq_some_iff.1 h).1 (zpN h h' hne)).trans h
set_option maxRecDepth 100000 in
theorem zaV {W W':World} {b t e B s n:Nat} {c:Array Value} {v:Value} {xs:List Value} (h':W.ownsRow B e s v n xs) (h:W.heap[b]? = some (.cells c t)) (hf:Fr (· = b) W W') (hne:e≠t):W'.ownsRow B e s v n xs:=by
 refine⟨h'.1,?_⟩
 rcases h'.2 with h0 | ⟨g,cap,cur,hv,h1,h2,rest⟩
 ·exact .inl h0
 ·refine .inr ⟨g,cap,cur,hv,h1,(hf.2.1 g (Array.getElem?_eq_some_iff.1 h2).1 (fun e=>?_)).trans h2,rest⟩
  have e:g=b:=e
  exact zpN h h' hne (by rw[hv,e];rfl)
set_option maxRecDepth 100000 in
theorem zgJ {w:World} {b:Nat} {t:TypeId} {a0 a1 a2 a3 a4:Value} (h:w.heap[b]? = some (.cells #[a0,a1,a2,a3,a4] t)) (v0 v1 v2 v3 v4:Value) :
 (((((w.setCell ⟨b,0,none⟩ v0).setCell ⟨b,1,none⟩ v1).setCell ⟨b,2,none⟩ v2).setCell ⟨b,3,none⟩ v3).setCell ⟨b,4,none⟩ v4).heap[b]? = some (.cells #[v0,v1,v2,v3,v4] t)∧Fr (· = b) w (((((w.setCell ⟨b,0,none⟩ v0).setCell ⟨b,1,none⟩ v1).setCell ⟨b,2,none⟩ v2).setCell ⟨b,3,none⟩ v3).setCell ⟨b,4,none⟩ v4) :=
 ⟨zaI (zaI (zaI (zaI (zaI h v0) v1) v2) v3) v4,zaz (zaz (zaz (zaz (zaz (zav (· = b) w) (by rfl) _) (by rfl) _) (by rfl) _) (by rfl) _) (by rfl) _⟩
set_option maxRecDepth 100000 in
theorem zae {w:World} {b:Nat} {t:TypeId} {a0 a1 a2 a3 a4:Value} (h:w.heap[b]? = some (.cells #[a0,a1,a2,a3,a4] t)):w.cell? ⟨b,0,none⟩=some a0∧w.cell? ⟨b,1,none⟩=some a1∧w.cell? ⟨b,2,none⟩=some a2∧w.cell? ⟨b,3,none⟩=some a3∧w.cell? ⟨b,4,none⟩=some a4∧w.frozen? ⟨b,0,none⟩=false∧w.frozen? ⟨b,1,none⟩=false∧w.frozen? ⟨b,2,none⟩=false∧w.frozen? ⟨b,3,none⟩=false∧w.frozen? ⟨b,4,none⟩=false:=by
 refine⟨?_,?_,?_,?_,?_,?_,?_,?_,?_,?_⟩ <;> (first | (unfold World.cell?;rw[h];rfl) | (unfold World.frozen?;rw[h];rfl))
set_option maxRecDepth 100000 in
theorem zeW {O:Nat→Prop} {W0 W:World} (_:Fr O W0 W) (o:Obj):(W.alloc o).heap[W.heap.size]? = some o:=Go.Deep.blk_alloc_new _ _
set_option maxRecDepth 100000 in
theorem zcK {W:World} {b t:Nat} {x:Value} (h:W.heap[b]? = some (.cells #[x] t)) {j:Nat} {u:Value} (hu:[x][j]? = some u):W.cell? (Addr.add ⟨b,0,none⟩ j)=some u:=by
 rcases j with _ | j
 ·cases hu
  rw[zgC]
  unfold World.cell?
  rw[h]
  rfl
 ·simp at hu
set_option maxRecDepth 100000 in
theorem zb4 {O:Nat→Prop} {a b c:World} {o:Option Nat} (h:Fr O a b) (hg:b.grownBy c o) (ho:∀ j,o=some j→a.heap.size≤j):Fr O a c:=by
 refine⟨Nat.le_trans h.1 hg.size,fun k hk hO=>?_,hg.os.trans h.2.2.1,hg.tape.trans h.2.2.2.1,hg.output.trans h.2.2.2.2⟩
 rw[hg.block k (Nat.lt_of_lt_of_le hk h.1) (fun e=>by have:=ho k e.symm;omega)]
 exact h.2.1 k hk hO
set_option maxRecDepth 100000 in
theorem zfZ {W:World} {b k t e n:Nat} {c:Array Value} {f:Nat→Value} (h:W.heap[b]? = some (.cells c t)) (hr:W.rowIs k e n f) (hne:e≠t):k≠b:=zij h hr hne
set_option maxRecDepth 100000 in
theorem zgc {W W':World} {b t e B s n m:Nat} {f:Nat→Value} {v:Value} {xs:List Value} (h:W.rowIs b t m f) (h':W.ownsRow B e s v n xs) (hg:W.grownBy W' v.ownBlock) (hne:e≠t):W'.rowIs b t m f:=by
 refine h.of_block (hg.block b h.lt ?_)
 obtain⟨c,hc,-⟩:=h
 exact zpN hc h' hne
set_option maxRecDepth 100000 in
theorem zbA {W W':World} {b e B s n:Nat} {v:Value} {xs:List Value} (h':W.ownsRow B e s v n xs) (hf:Fr (· = b) W W') (hb:b<B):W'.ownsRow B e s v n xs:=by
 refine⟨h'.1,?_⟩
 rcases h'.2 with h0 | ⟨g,cap,cur,hv,h1,h2,rest⟩
 ·exact .inl h0
 ·exact .inr ⟨g,cap,cur,hv,h1,(hf.2.1 g (Array.getElem?_eq_some_iff.1 h2).1 (fun e=>by have e:g=b:=e;omega)).trans h2,rest⟩
def PdO (B L:Nat) (W:World) (p:Pd) (v0 v1 v2 v3 v4 v5 v6:Value):Prop:=v0=.int .i64 p.left∧W.ownsRow L 3 1 v1 p.right.length (zal p.right)∧v2=.int .i64 p.level∧zdh B W p.act v3 v4 v5 v6
def zfy (B L:Nat) (W:World):List Pd→List Value→Prop
 | [],vs=>vs=[]
 | p::ps,vs=>∃ v0 v1 v2 v3 v4 v5 v6 rest,vs=v0::v1::v2::v3::v4::v5::v6::rest∧PdO B L W p v0 v1 v2 v3 v4 v5 v6∧zfy B L W ps rest
set_option maxRecDepth 100000 in
theorem ziq {B L:Nat} {W:World} {p:Pd} {v0 v1 v2 v3 v4 v5 v6:Value} (hp:PdO B L W p v0 v1 v2 v3 v4 v5 v6):∀ (ps:List Pd) (vs:List Value),zfy B L W ps vs→zfy B L W (ps ++ [p]) (vs ++ [v0,v1,v2,v3,v4,v5,v6])
 | [],vs,h=>by
   unfold zfy at h
   subst h
   show zfy B L W [p] [v0,v1,v2,v3,v4,v5,v6]
   unfold zfy
   exact⟨_,_,_,_,_,_,_,[],rfl,hp,by unfold zfy;rfl⟩
 | q::qs,vs,h=>by
   unfold zfy at h
   obtain⟨u0,u1,u2,u3,u4,u5,u6,rest,rfl,h1,h2⟩:=h
   show zfy B L W (q::(qs ++ [p])) _
   unfold zfy
   exact⟨_,_,_,_,_,_,_,_,rfl,h1,ziq hp qs rest h2⟩
set_option maxRecDepth 100000 in
theorem zdd {B L:Nat} {W W':World} (ho:∀ v n xs,W.ownsRow L 3 1 v n xs→W'.ownsRow L 3 1 v n xs) (hb:Below B W W'):∀ (ps:List Pd) (vs:List Value),zfy B L W ps vs→zfy B L W' ps vs
 | [],vs,h=>by unfold zfy at h ⊢;exact h
 | q::qs,vs,h=>by
   unfold zfy at h ⊢
   obtain⟨u0,u1,u2,u3,u4,u5,u6,rest,rfl,⟨e0,e1,e2,e3⟩,h2⟩:=h
   exact⟨_,_,_,_,_,_,_,_,rfl,⟨e0,ho _ _ _ e1,e2,zbd hb _ _ _ _ _ e3⟩,zdd ho hb qs rest h2⟩
set_option maxRecDepth 100000 in
theorem zkk {B L:Nat} {W:World}:∀ (ps:List Pd) (vs:List Value),zfy B L W ps vs→∀ i,i<ps.length→∃ v0 v1 v2 v3 v4 v5 v6,PdO B L W (ps.getD i pd0) v0 v1 v2 v3 v4 v5 v6∧vs[i * 7]? = some v0∧vs[i * 7+1]? = some v1∧vs[i * 7+2]? = some v2∧vs[i * 7+3]? = some v3∧vs[i * 7+4]? = some v4∧vs[i * 7+5]? = some v5∧vs[i * 7+6]? = some v6
 | [],vs,h,i,hi=>by simp at hi
 | q::qs,vs,h,0,hi=>by
   unfold zfy at h
   obtain⟨u0,u1,u2,u3,u4,u5,u6,rest,rfl,h1,h2⟩:=h
   exact⟨_,_,_,_,_,_,_,h1,rfl,rfl,rfl,rfl,rfl,rfl,rfl⟩
 | q::qs,vs,h,i+1,hi=>by
   unfold zfy at h
   obtain⟨u0,u1,u2,u3,u4,u5,u6,rest,rfl,h1,h2⟩:=h
   obtain⟨v0,v1,v2,v3,v4,v5,v6,hp,e0,e1,e2,e3,e4,e5,e6⟩:=zkk qs rest h2 i (by simpa using hi)
   have e:(i+1) * 7=i * 7+1+1+1+1+1+1+1:=by omega
   rw[e]
   exact⟨v0,v1,v2,v3,v4,v5,v6,hp,e0,e1,e2,e3,e4,e5,e6⟩
set_option maxRecDepth 100000 in
theorem zkl {B L L':Nat} {w:World} {v:Value} {ps:List Pd} {vs:List Value} (h:w.ownsRow L 89 7 v ps.length vs) (hp:zfy B L' w ps vs) (hB:B≤w.heap.size):∃ a c,v=.slice a ps.length c∧zpV w.heap.size w a ps:=by
 obtain⟨a,c,rfl⟩:=zad h
 refine⟨a,c,rfl,?_⟩
 rcases h.2 with ⟨hv,hn⟩ | ⟨g,cap,cur,hv,hg,hh,-⟩
 ·exact .inl (List.eq_nil_of_length_eq_zero hn)
 ·cases hv
  refine .inr ⟨g,0,rfl,(Array.getElem?_eq_some_iff.1 hh).1,fun j hj=>?_⟩
  obtain⟨v0,v1,v2,v3,v4,v5,v6,⟨p0,p1,p2,p3⟩,e0,e1,e2,e3,e4,e5,e6⟩:=zkk ps vs hp j hj
  obtain⟨ra,rc,rfl,hr⟩:=zb2 p1
  have hcap:(ps.getD j pd0).right.length≤rc:=by
   rcases p1.2 with ⟨hv,hn⟩ | ⟨g',cap',cur',hv,-,-,hle,-⟩
   ·omega
   ·cases hv;exact hle
  rw[Nat.zero_add]
  refine⟨v0,.slice ra (ps.getD j pd0).right.length rc,v2,v3,v4,v5,v6,⟨p0,⟨ra,rc,rfl,hr,hcap⟩,p2,zcZ hB _ _ _ _ _ p3⟩,?_,?_,?_,?_,?_,?_,?_⟩
  ·rw[h.cellAt (j * 7) (by omega)];exact e0
  ·rw[h.cellAt (j * 7+1) (by omega)];exact e1
  ·rw[h.cellAt (j * 7+2) (by omega)];exact e2
  ·rw[h.cellAt (j * 7+3) (by omega)];exact e3
  ·rw[h.cellAt (j * 7+4) (by omega)];exact e4
  ·rw[h.cellAt (j * 7+5) (by omega)];exact e5
  ·rw[h.cellAt (j * 7+6) (by omega)];exact e6
set_option maxRecDepth 100000 in
theorem zcl {w:World} {b:Nat} {t:TypeId} {a0 a1 a2 a3 a4 a5 a6:Value} (h:w.heap[b]? = some (.cells #[a0,a1,a2,a3,a4,a5,a6] t)):w.cell? ⟨b,0,none⟩=some a0∧w.cell? ⟨b,1,none⟩=some a1∧w.cell? ⟨b,2,none⟩=some a2∧w.cell? ⟨b,3,none⟩=some a3∧w.cell? ⟨b,4,none⟩=some a4∧w.cell? ⟨b,5,none⟩=some a5∧w.cell? ⟨b,6,none⟩=some a6∧w.frozen? ⟨b,1,none⟩=false:=by
 refine⟨?_,?_,?_,?_,?_,?_,?_,?_⟩ <;> (first | (unfold World.cell?;rw[h];rfl) | (unfold World.frozen?;rw[h];rfl))
set_option maxRecDepth 100000 in
theorem zhz {W0 W W':World} {b c e t B s n:Nat} {cs:Array Value} {v:Value} {xs:List Value} (h0:W0.ownsRow B e s v n xs) (hb0:W0.heap[b]? = some (.cells cs t)) (hne:e≠t) (hb:Below W0.heap.size W0 W) (hf:Fr (fun j=>j=b∨j=c) W W') (hc:W0.heap.size≤c):W'.ownsRow B e s v n xs:=by
 refine⟨h0.1,?_⟩
 rcases h0.2 with h | ⟨g,cap,cur,hv,h1,h2,rest⟩
 ·exact .inl h
 ·have hlt:=(Array.getElem?_eq_some_iff.1 h2).1
  refine .inr ⟨g,cap,cur,hv,h1,(hf.2.1 g (Nat.lt_of_lt_of_le hlt hb.size) (fun e=>?_)).trans ((hb.block g hlt).trans h2),rest⟩
  rcases e with e | e
  ·exact zpN hb0 h0 hne (by rw[hv,e];rfl)
  ·omega
set_option maxRecDepth 100000 in
theorem zkn {W W':World} {b e B s n:Nat} {v:Value} {xs:List Value} (h':W.ownsRow B e s v n xs) (hf:Fr (· = b) W W') (hb:b<B):W'.ownsRow B e s v n xs:=zbA h' hf hb
set_option maxRecDepth 100000 in
theorem ziU {cs:Array Value} {t:Nat} (w:World) (j:Nat) {u:Value} (h:cs.toList[j]? = some u):(w.alloc (.cells cs t)).cell? (Addr.add ⟨w.heap.size,0,none⟩ j)=some u:=by
 rw[zgC]
 unfold World.cell?
 rw[Go.Deep.blk_alloc_new]
 simpa using h
set_option maxRecDepth 100000 in
theorem zqe:(Tryz.prog.info? 89).map (fun i=>(i.zero,i.size,i.bytes))=some (some (.agg #[.int .i64 0,.slice none 0 0,.int .i64 0,.int .i64 0,.int .i64 0,.string ⟨#[]⟩,.slice none 0 0]),7,96):=by kernel_rfl
set_option maxRecDepth 100000 in
theorem zqd:(Tryz.prog.info? 98).map (fun i=>(i.zero,i.size,i.bytes))=some (some (.agg #[.int .i64 0,.int .i64 0]),2,16):=by kernel_rfl
end Go.Proofs.YtagohbpbgjelaaaGreatDoor

/- With what rules begin: which kinds and which rules stand where they begin. -/
import Derived.Test.YtagohbpbgjelaaaGreatDoorGV
import Derived.Test.YtagohbpbgjelaaaGreatDoorGW
import Derived.Test.YtagohbpbgjelaaaGreatDoorA5
import Derived.Test.YtagohbpbgjelaaaGreatDoorA2
namespace Go.Proofs.YtagohbpbgjelaaaGreatDoor
open Go.RowKit

abbrev rhs (G:Gm) (q:Nat):List Int:=(G.prods.getD q pd0).right
abbrev lhs (G:Gm) (q:Nat):Nat:=(G.prods.getD q pd0).left.toNat
def WayP (G:Gm) (q i r y:Nat):Prop:=q<G.prods.length∧lhs G q=r∧i<(rhs G q).length∧zaT G.nk (zaO G) ((rhs G q).take i)=true∧(G.nk:Int)≤(rhs G q).getD i 0∧((rhs G q).getD i 0 - G.nk).toNat=y
def KndP (G:Gm) (q i r:Nat) (m:Int):Prop:=q<G.prods.length∧lhs G q=r∧i<(rhs G q).length∧zaT G.nk (zaO G) ((rhs G q).take i)=true∧(rhs G q).getD i 0<(G.nk:Int)∧(rhs G q).getD i 0=m
def zoi (k j q i:Nat):Prop:=q<k∨q=k∧i<j
def upW (W:Nat→List Nat) (r y:Nat):Nat→List Nat:=fun s=>if s=r then W r ++ [y] else W s
theorem zl5 (W:Nat→List Nat) (r y s z:Nat):z ∈ upW W r y s↔z ∈ W s∨s=r∧z=y:=by
 unfold upW
 by_cases e:s=r
 ·subst e;simp
 ·simp[e]
theorem ze0 (W:Nat→List Nat) (r y s:Nat):(upW W r y s).length≤(W s).length+1:=by
 unfold upW
 by_cases e:s=r
 ·subst e;simp
 ·simp[e]
structure FbI (G:Gm) (k j:Nat) (C:Nat→Int→Bool) (W:Nat→List Nat):Prop where
 c:∀ r m,C r m=true↔∃ q i,zoi k j q i∧KndP G q i r m
 w:∀ r y,y ∈ W r↔∃ q i,zoi k j q i∧WayP G q i r y
 l:∀ r,(W r).length≤64 * k+j
theorem upto_succ {k j q i:Nat}:zoi k (j+1) q i↔zoi k j q i∨q=k∧i=j:=by unfold zoi;omega
theorem zpE (G:Gm):FbI G 0 0 (fun _ _=>false) (fun _=>[]) :=
 ⟨fun r m=>⟨fun h=>(by cases h),fun⟨q,i,h,_⟩=>(by unfold zoi at h;omega)⟩,fun r y=>⟨fun h=>(by cases h),fun⟨q,i,h,_⟩=>(by unfold zoi at h;omega)⟩,fun r=>by simp⟩
theorem zrn {G:Gm} {k j:Nat} {C:Nat→Int→Bool} {W:Nat→List Nat} (h:FbI G k j C W) (hk:k<G.prods.length) (hj:j<(rhs G k).length) (he:zaT G.nk (zaO G) ((rhs G k).take j)=true) (hx:(rhs G k).getD j 0<(G.nk:Int)):FbI G k (j+1) (upC C (lhs G k) (zi8 (C (lhs G k)) ((rhs G k).getD j 0))) W:=by
 refine⟨fun r m=>?_,fun r y=>?_,fun r=>by have:=h.l r;omega⟩
 ·have key:upC C (lhs G k) (zi8 (C (lhs G k)) ((rhs G k).getD j 0)) r m=true↔C r m=true∨KndP G k j r m:=by
   by_cases e:r=lhs G k
   ·subst e
    rw[zbq]
    unfold zi8
    by_cases e2:m=(rhs G k).getD j 0
    ·rw[if_pos e2];exact⟨fun _=>.inr ⟨hk,rfl,hj,he,hx,e2.symm⟩,fun _=>rfl⟩
    ·rw[if_neg e2];exact⟨.inl,fun h1=>h1.elim id (fun h2=>absurd h2.2.2.2.2.2.symm e2)⟩
   ·rw[zcu e];exact⟨.inl,fun h1=>h1.elim id (fun h2=>absurd h2.2.1.symm e)⟩
  rw[key,h.c r m]
  constructor
  ·rintro(⟨q,i,h1,h2⟩ | h2)
   ·exact⟨q,i,upto_succ.2 (.inl h1),h2⟩
   ·exact⟨k,j,upto_succ.2 (.inr ⟨rfl,rfl⟩),h2⟩
  ·rintro⟨q,i,h1,h2⟩
   rcases upto_succ.1 h1 with h1 | ⟨rfl,rfl⟩
   ·exact .inl ⟨q,i,h1,h2⟩
   ·exact .inr h2
 ·rw[h.w r y]
  constructor
  ·rintro⟨q,i,h1,h2⟩;exact⟨q,i,upto_succ.2 (.inl h1),h2⟩
  ·rintro⟨q,i,h1,h2⟩
   rcases upto_succ.1 h1 with h1 | ⟨rfl,rfl⟩
   ·exact⟨q,i,h1,h2⟩
   ·have:=h2.2.2.2.2.1;omega
theorem zrm {G:Gm} {k j:Nat} {C:Nat→Int→Bool} {W:Nat→List Nat} (h:FbI G k j C W) (hk:k<G.prods.length) (hj:j<(rhs G k).length) (he:zaT G.nk (zaO G) ((rhs G k).take j)=true) (hx:(G.nk:Int)≤(rhs G k).getD j 0):FbI G k (j+1) C (upW W (lhs G k) ((rhs G k).getD j 0 - G.nk).toNat):=by
 refine⟨fun r m=>?_,fun r y=>?_,fun r=>by have:=h.l r;have:=ze0 W (lhs G k) ((rhs G k).getD j 0 - G.nk).toNat r;omega⟩
 ·rw[h.c r m]
  constructor
  ·rintro⟨q,i,h1,h2⟩;exact⟨q,i,upto_succ.2 (.inl h1),h2⟩
  ·rintro⟨q,i,h1,h2⟩
   rcases upto_succ.1 h1 with h1 | ⟨rfl,rfl⟩
   ·exact⟨q,i,h1,h2⟩
   ·have:=h2.2.2.2.2.1;omega
 ·rw[zl5,h.w r y]
  constructor
  ·rintro(⟨q,i,h1,h2⟩ | ⟨rfl,rfl⟩)
   ·exact⟨q,i,upto_succ.2 (.inl h1),h2⟩
   ·exact⟨k,j,upto_succ.2 (.inr ⟨rfl,rfl⟩),hk,rfl,hj,he,hx,rfl⟩
  ·rintro⟨q,i,h1,h2⟩
   rcases upto_succ.1 h1 with h1 | ⟨rfl,rfl⟩
   ·exact .inl ⟨q,i,h1,h2⟩
   ·exact .inr ⟨h2.2.1.symm,h2.2.2.2.2.2.symm⟩
theorem zrl {G:Gm} {k j:Nat} {C:Nat→Int→Bool} {W:Nat→List Nat} (h:FbI G k j C W) (hj:j≤64) (hs:∀ i,j≤i→i<(rhs G k).length→zaT G.nk (zaO G) ((rhs G k).take i)=false):FbI G (k+1) 0 C W:=by
 have key:∀ q i,(zaT G.nk (zaO G) ((rhs G q).take i)=true∧i<(rhs G q).length)→(zoi (k+1) 0 q i↔zoi k j q i):=fun q i ⟨he,hi⟩=>by
  unfold zoi
  constructor
  ·rintro(h1 | h1)
   ·by_cases e:q=k
    ·subst e
     by_cases hij:i<j
     ·exact .inr ⟨rfl,hij⟩
     ·have:=hs i (by omega) hi;rw[he] at this;cases this
    ·exact .inl (by omega)
   ·omega
  ·omega
 refine⟨fun r m=>?_,fun r y=>?_,fun r=>by have:=h.l r;omega⟩
 ·rw[h.c r m]
  constructor
  ·rintro⟨q,i,h1,h2⟩;exact⟨q,i,(key q i ⟨h2.2.2.2.1,h2.2.2.1⟩).2 h1,h2⟩
  ·rintro⟨q,i,h1,h2⟩;exact⟨q,i,(key q i ⟨h2.2.2.2.1,h2.2.2.1⟩).1 h1,h2⟩
 ·rw[h.w r y]
  constructor
  ·rintro⟨q,i,h1,h2⟩;exact⟨q,i,(key q i ⟨h2.2.2.2.1,h2.2.2.1⟩).2 h1,h2⟩
  ·rintro⟨q,i,h1,h2⟩;exact⟨q,i,(key q i ⟨h2.2.2.2.1,h2.2.2.1⟩).1 h1,h2⟩
theorem zg9 {G:Gm} {row:List Int} {j i:Nat} (hj:j<row.length) (hi:j<i) (hx:row.getD j 0<(G.nk:Int)∨zaO G (row.getD j 0 - G.nk).toNat=false):zaT G.nk (zaO G) (row.take i)=false:=by
 cases h:zaT G.nk (zaO G) (row.take i) with
 | false=>rfl
 | true =>
   have hm:row.getD j 0 ∈ row.take i:=by
    rw[List.getD_eq_getElem?_getD,List.getElem?_eq_getElem hj]
    show row[j] ∈ _
    exact List.mem_take_iff_getElem.2 ⟨j,by omega,rfl⟩
   obtain⟨h1,h2⟩:=emptyB_iff.1 h _ hm
   rcases hx with hx | hx
   ·omega
   ·rw[hx] at h2;cases h2
theorem zlF {G:Gm} {row:List Int} {j:Nat} (hj:j<row.length) (he:zaT G.nk (zaO G) (row.take j)=true) (hx:(G.nk:Int)≤row.getD j 0) (hn:zaO G (row.getD j 0 - G.nk).toNat=true):zaT G.nk (zaO G) (row.take (j+1))=true:=by
 refine emptyB_iff.2 fun x hxm=>?_
 rw[zbf row j 0 hj] at hxm
 rcases List.mem_append.1 hxm with h1 | h1
 ·exact emptyB_iff.1 he x h1
 ·simp only[List.mem_singleton] at h1
  rw[h1];exact⟨hx,hn⟩
theorem fb_end {G:Gm} (hG:GOk G) {C:Nat→Int→Bool} {W:Nat→List Nat} (h:FbI G G.prods.length 0 C W) (r:Nat) (m:Int):Uw W C r m↔0≤m∧Fst G r m.toNat:=by
 have up:∀ q i,q<G.prods.length→zoi G.prods.length 0 q i:=fun q i hq=>.inl hq
 constructor
 ·rintro⟨y,h1,h2⟩
  induction h1 with
  | refl x =>
    obtain⟨q,i,-,hq,rfl,hi,he,hx,rfl⟩:=(h.c _ _).1 h2
    have h3:(1:Int)≤(rhs G q).getD i 0:=(hG.py _ (zag hq) _ (za5 hi)).1
    exact⟨by omega,.kind _ (zag hq) i hi he hx⟩
  | step x y z hy _ ih =>
    obtain⟨q,i,-,hq,rfl,hi,he,hx,rfl⟩:=(h.w _ _).1 hy
    obtain⟨h3,h4⟩:=ih h2
    exact⟨h3,.rule _ (zag hq) i hi he hx _ h4⟩
 ·rintro⟨h0,h1⟩
  obtain⟨k,rfl⟩:=Int.eq_ofNat_of_zero_le h0
  rw[Int.toNat_natCast] at h1
  clear h0
  induction h1 with
  | kind p hp i hi he hx =>
    obtain⟨q,hq,rfl⟩:=List.getElem_of_mem hp
    have e:G.prods[q]=G.prods.getD q pd0:=by rw[List.getD_eq_getElem?_getD,List.getElem?_eq_getElem hq];rfl
    rw[e] at hi he hx ⊢
    have h3:(1:Int)≤(rhs G q).getD i 0:=(hG.py _ (zag hq) _ (za5 hi)).1
    exact⟨_,.refl _,(h.c _ _).2 ⟨q,i,up q i hq,hq,rfl,hi,he,hx,by show (rhs G q).getD i 0=(((rhs G q).getD i 0).toNat:Int);omega⟩⟩
  | rule p hp i hi he hx k _ ih =>
    obtain⟨q,hq,rfl⟩:=List.getElem_of_mem hp
    have e:G.prods[q]=G.prods.getD q pd0:=by rw[List.getD_eq_getElem?_getD,List.getElem?_eq_getElem hq];rfl
    rw[e] at hi he hx ih ⊢
    obtain⟨y,h3,h4⟩:=ih
    exact⟨y,.step _ _ _ ((h.w _ _).2 ⟨q,i,up q i hq,hq,rfl,hi,he,hx,rfl⟩) h3,h4⟩
end Go.Proofs.YtagohbpbgjelaaaGreatDoor

namespace Go.Proofs.YtagohbpbgjelaaaGreatDoor
open Go.RowKit

theorem rlN_mem {G:Gm} {q r:Nat}:r ∈ rlN G q↔∃ x,x ∈ (G.prods.getD q pd0).right∧(G.nk:Int)≤x∧(x - G.nk).toNat=r:=by
 unfold rlN zar
 simp only[List.mem_map,List.mem_flatMap]
 constructor
 ·rintro⟨y,⟨x,hx,hy⟩,rfl⟩
  split at hy
  ·rename_i h
   simp at hy
   subst hy
   exact⟨x,hx,h,rfl⟩
  ·simp at hy
 ·rintro⟨x,hx,h,rfl⟩
  exact⟨x - G.nk,⟨x,hx,by rw[if_pos h];simp⟩,rfl⟩
theorem zgU {nk:Nat}:∀ {row:List Int},(zar nk row).length=row.length↔∀ x,x ∈ row→(nk:Int)≤x
 | []=>by simp[zar]
 | y::row=>by
   have ih:=zgU (nk:=nk) (row:=row)
   have hl:=zaR (nk:=nk) row
   have e:zar nk (y::row)=(if (nk:Int)≤y then[y - nk] else[]) ++ zar nk row:=rfl
   rw[e,List.length_append,List.length_cons]
   by_cases h:(nk:Int)≤y
   ·rw[if_pos h]
    constructor
    ·intro h1 x hx
     rcases List.mem_cons.1 hx with rfl | hx
     ·exact h
     ·exact ih.1 (by simp at h1;omega) x hx
    ·intro h1
     have:=ih.2 (fun x hx=>h1 x (by simp[hx]))
     simp;omega
   ·rw[if_neg h]
    constructor
    ·intro h1;simp at h1;omega
    ·intro h1;exact absurd (h1 y (by simp)) h
theorem zmo {lf:Nat→Nat} {rl:Nat→List Nat} {el:Nat→Bool} {np:Nat} {c:Nat→Int} {r:Nat} (h:0≤stT lf rl el np c r):0≤c r∨∃ q,q<np∧lf q=r∧el q=true∧∀ x,x ∈ rl q→0≤c x:=by
 by_cases h0:0≤c r
 ·exact .inl h0
 ·right
  have h1:=(zgw lf _ c r (by omega)).1 h
  obtain⟨-,k,hk,e⟩:=zdL lf _ c r h1
  rw[List.mem_filter] at hk
  have h2:=hk.2
  unfold okR at h2
  simp only[Bool.and_eq_true] at h2
  exact⟨k,List.mem_range.1 hk.1,e,h2.1,fun x hx=>by have:=List.all_eq_true.1 h2.2 x hx;unfold fd at this;simpa using this⟩
theorem zj2 {lf:Nat→Nat} {rl:Nat→List Nat} {el:Nat→Bool} {np:Nat} {c:Nat→Int} (h:stT lf rl el np c=c) {q:Nat} (hq:q<np) (he:el q=true) (ha:∀ x,x ∈ rl q→0≤c x):0≤c (lf q):=by
 have h1:=zjO lf ((List.range np).filter (okR rl el c)) c q (by
  rw[List.mem_filter]
  refine⟨List.mem_range.2 hq,?_⟩
  unfold okR
  rw[he,Bool.true_and]
  exact List.all_eq_true.2 fun x hx=>by unfold fd;simpa using ha x hx)
 have h2:stT lf rl el np c (lf q)=c (lf q):=by rw[h]
 have h3:0≤stT lf rl el np c (lf q):=h1
 rw[h2] at h3;exact h3
theorem zmp {lf:Nat→Nat} {rl:Nat→List Nat} {el:Nat→Bool} {np:Nat}:∀ n r,-1≤stN lf rl el np n r
 | 0,r=>by simp[stN]
 | n+1,r=>zkQ _ _ (zmp n) r
theorem zjx {G:Gm} {m0 c:Nat→Int} {n:Nat} (hm:∀ q,q<G.prods.length→m0 q=((G.prods.getD q pd0).right.length:Int))
 (hc:c=stN (lfN G) (rlN G) (fun q=>decide (m0 q=(rlN G q).length)) G.prods.length n) (hs:stT (lfN G) (rlN G) (fun q=>decide (m0 q=(rlN G q).length)) G.prods.length c=c):(fun r=>decide (0≤c r))=zaO G:=by
 have hel:∀ q,q<G.prods.length→(m0 q=(rlN G q).length↔∀ x,x ∈ (G.prods.getD q pd0).right→(G.nk:Int)≤x):=fun q hq=>by
  rw[hm q hq,← zgU]
  unfold rlN
  rw[List.length_map]
  omega
 refine zmW ?_ ?_
 ·have key:∀ k r,0≤stN (lfN G) (rlN G) (fun q=>decide (m0 q=(rlN G q).length)) G.prods.length k r→Null G r:=by
   intro k
   induction k with
   | zero=>intro r h;simp[stN] at h
   | succ k ih =>
     intro r h
     rcases zmo h with h | ⟨q,hq,rfl,he,ha⟩
     ·exact ih r h
     ·have he:=(hel q hq).1 (of_decide_eq_true he)
      exact Null.mk _ (zag hq) he (fun x hx=>ih _ (ha _ (rlN_mem.2 ⟨x,hx,he x hx,rfl⟩)))
  intro r h
  exact key n r (by rw[← hc];simpa using h)
 ·intro q hq
  unfold zhF
  cases hb:zaT G.nk (fun r=>decide (0≤c r)) (G.prods.getD q pd0).right
  ·simp
  ·have h1:=emptyB_iff.1 hb
   have h2:=zj2 hs hq (decide_eq_true ((hel q hq).2 (fun x hx=>(h1 x hx).1))) (fun r hr=>by
    obtain⟨x,hx,hx2,rfl⟩:=rlN_mem.1 hr
    simpa using (h1 x hx).2)
   have h3:decide (0≤c (G.prods.getD q pd0).left.toNat)=true:=decide_eq_true h2
   show (!decide (0≤c (G.prods.getD q pd0).left.toNat) && true)=false
   rw[h3];rfl
theorem zlg {G:Gm} {m0 c:Nat→Int} {n:Nat} (hm:∀ q,q<G.prods.length→m0 q=((rlN G q).length:Int))
 (hc:c=stN (lfN G) (rlN G) (fun q=>decide (m0 q=(rlN G q).length)) G.prods.length n) (hs:stT (lfN G) (rlN G) (fun q=>decide (m0 q=(rlN G q).length)) G.prods.length c=c):(fun r=>decide (0≤c r))=zcQ G:=by
 refine zkd ?_ ?_
 ·have key:∀ k r,0≤stN (lfN G) (rlN G) (fun q=>decide (m0 q=(rlN G q).length)) G.prods.length k r→Prdv G r:=by
   intro k
   induction k with
   | zero=>intro r h;simp[stN] at h
   | succ k ih =>
     intro r h
     rcases zmo h with h | ⟨q,hq,rfl,he,ha⟩
     ·exact ih r h
     ·exact Prdv.mk _ (zag hq) (fun x hx hk=>ih _ (ha _ (rlN_mem.2 ⟨x,hx,hk,rfl⟩)))
  intro r h
  exact key n r (by rw[← hc];simpa using h)
 ·intro q hq
  unfold zdm
  cases hb:za9 G.nk (fun r=>decide (0≤c r)) (G.prods.getD q pd0).right
  ·simp
  ·have h1:=wholeB_iff.1 hb
   have h2:=zj2 hs hq (decide_eq_true (hm q hq)) (fun r hr=>by
    obtain⟨x,hx,hx2,rfl⟩:=rlN_mem.1 hr
    simpa using h1 x hx hx2)
   have h3:decide (0≤c (G.prods.getD q pd0).left.toNat)=true:=decide_eq_true h2
   show (!decide (0≤c (G.prods.getD q pd0).left.toNat) && true)=false
   rw[h3];rfl
theorem zqz {w:World} {B b n:Nat} {f:Nat→Int} (h:w.rowIs b 3 n (fun i=>.int .i64 (f i))) (hB:B≤b) (hn:n≤1048576):w.ownsRow B 3 1 (.slice (some ⟨b,0,none⟩) n n) ((List.range n).map f).length (zal ((List.range n).map f)):=by
 obtain⟨cs,h1,h2,h3⟩:=h
 have hl:((List.range n).map f).length=n:=by simp
 rw[hl]
 refine⟨by rw[zbl,hl];omega,.inr ⟨b,n,cs,rfl,hB,h1,Nat.le_refl _,by unfold maxLen;omega,by omega,?_⟩⟩
 refine List.ext_getElem? fun j=>?_
 by_cases hj:j<n
 ·rw[List.getElem?_take_of_lt (by omega),Array.getElem?_toList,h3 j hj]
  unfold zal
  simp[hj]
 ·rw[List.getElem?_eq_none (by simp;omega),List.getElem?_eq_none (by rw[zbl];simp;omega)]
theorem zit {w:World} {b n:Nat} {f:Nat→Int} (h:w.rowIs b 3 n (fun i=>.int .i64 (f i))):NRow w.heap.size w (some ⟨b,0,none⟩) ((List.range n).map f):=by
 by_cases h0:n=0
 ·subst h0;exact .inl rfl
 ·refine .inr ⟨b,0,rfl,h.lt,fun j hj=>?_⟩
  have hj':j<n:=by simpa using hj
  rw[Nat.zero_add,h.cell hj']
  simp[List.getD_eq_getElem?_getD,hj']
theorem zlI {G:Gm} (hG:GOk G) {q:Nat} (hq:q<G.prods.length):((List.range G.rules.length).flatMap (zbm G)).count q=(rlN G q).length:=by
 rw[zdq]
 have h1:(List.range G.rules.length).map (fun r=>(zbm G r).count q)=(List.range G.rules.length).map (fun r=>(rlN G q).count r):=List.map_congr_left fun r _=>zdV hq
 rw[h1,zew _ _ List.nodup_range,List.countP_eq_length.2]
 intro r hr
 obtain⟨x,hx,hk,rfl⟩:=rlN_mem.1 hr
 have h:=hG.py _ (zag hq) x hx
 have hk':(G.kinds.length:Int)≤x:=hk
 have h':x<((G.kinds.length+G.rules.length:Nat):Int):=h.2
 refine decide_eq_true (List.mem_range.2 ?_)
 show (x - (G.kinds.length:Int)).toNat<G.rules.length
 omega
set_option maxHeartbeats 1000000 in
set_option maxRecDepth 100000 in
theorem zel (G:Gm) (hG:GOk G) (ka pa ra qa:Option Addr) (kc pc rc qc gb ob ub:Nat) (M:Nat) (w:World) (hM:M≤w.heap.size) (hg:GrAt M w G ka kc pa pc ra rc qa qc gb ob ub) :
 Calls Tryz.prog 87 #[.pointer (some ⟨gb,0,none⟩)] w fun e w'=>∃ (b:Nat) (ml:List Int),e=.returned (.slice (some ⟨b,0,none⟩) G.prods.length G.prods.length)∧ml.length=G.prods.length∧(∀ q,q<G.prods.length→atZ ml q=((rlN G q).length:Int))∧w'.ownsRow w.heap.size 3 1 (.slice (some ⟨b,0,none⟩) G.prods.length G.prods.length) ml.length (zal ml)∧Below w.heap.size w w':=by
 have hps:=hG.ps
 have hmk:=fun w=>run_make_row' (P:=Tryz.prog) 27 3 (.int .i64 0) 8 Tryz.underlying27 zc0 rfl .i64 .i64 G.prods.length (by omega) (by omega) w
 have c3:w.cell? ⟨gb,3,none⟩=some (.slice qa G.prods.length qc):=by unfold World.cell?;rw[hg.box];rfl
 have c6:w.cell? ⟨gb,6,none⟩=some (.slice (some ⟨ub,0,none⟩) G.rules.length G.rules.length):=by unfold World.cell?;rw[hg.box];rfl
 have hgl:gb<w.heap.size:=by have:=hg.lt;omega
 have Hg:=zaa hg
 clear hg
 go_enter Tryz.func87,Tryz.ntmps87
 have Hz:=zaa (World.rowIs_made w (.int .i64 0) G.prods.length 3)
 have hr2:=hG.r2
 unfold Gm.nr at hr2
 go_wp2
 go_loopw [20] (fun x W=>∃ i:Nat,x=.int .i64 i∧i≤G.rules.length∧W.rowIs w.heap.size 3 G.prods.length (fun q=>.int .i64 (((List.range i).flatMap (zbm G)).count q:Nat))∧Below w.heap.size w W) (fun x _=>G.rules.length - (intOf x).toNat)
 case atStart=>exact⟨0,rfl,Nat.zero_le _,(uh Hz).congr (fun q _=>by simp),(Below.refl _ _).alloc (Nat.le_refl _) _⟩
 case round =>
  clear Hz c3 c6
  obtain⟨i,rfl,hi,hrow,hb⟩:=hrel
  have hs:=hb.size
  by_cases hlt:i<G.rules.length
  ·have hlt':(i:Int)<G.rules.length:=by omega
   have hgr:=zaJ (uh Hg) (zab hb hM)
   obtain⟨Ou,htu,-⟩:=hgr.uses
   obtain⟨xa,xc,tcu,hxn⟩:=zj0 htu hlt
   rw[zdA] at tcu hxn
   rw[zak] at tcu
   have hul:=zfA hG i
   have Hxn:Hid (∀ W,Below w.heap.size w W→Below w.heap.size wr W→NRow W.heap.size W xa (zai (zbm G i))):=zaa (fun W hb1 hb2=>by
    obtain⟨Ou2,⟨V,hV⟩,hOu⟩:=hgr.uses
    obtain⟨a1,c1,e1,e2,-,e3⟩:=zbC hV hlt
    have hV2:=zdY hV (O':=fun k=>w.heap.size≤k) ⟨hb2.size,fun k _ hk=>hb2.block k (by omega),hb2.os,hb2.tape,hb2.output⟩ (fun k hk hk2=>by have:=hOu k hk;omega)
    obtain⟨a2,c2,e4,e5,-,e6⟩:=zbC hV2 hlt
    rw[e1] at e4;cases e4
    rw[zdA,zak] at e2
    rw[zdA] at e6
    rw[tcu] at e2;cases e2
    exact e6)
   have hPl:((List.range i).flatMap (zbm G)).length≤i * 262144:=by
    have h:=zgs hG (List.range G.rules.length) i (by simp;omega)
    have e:(List.range G.rules.length).take i=List.range i:=by rw[List.take_range];congr 1;omega
    unfold zb6 at h;rw[e] at h;exact h
   have hPs:(List.range (i+1)).flatMap (zbm G)=(List.range i).flatMap (zbm G) ++ zbm G i:=by rw[List.range_succ,List.flatMap_append];simp
   have hux:∀ q,q ∈ zbm G i→q<G.prods.length:=fun q hq=>zdz hq
   have HPs:=zaa hPs;have Hux:=zaa hux;have Hb:=zaa hb;have Hrow:=zaa hrow
   generalize (List.range i).flatMap (zbm G)=P at *
   generalize zbm G i=L at *
   clear hgr htu hxn hPs hux hrow hb
   go_wp2
   go_loopw [26] (fun x W=>∃ j:Nat,x=.int .i64 j∧j≤L.length∧W.rowIs w.heap.size 3 G.prods.length (fun q=>.int .i64 ((P ++ L.take j).count q:Nat))∧Below w.heap.size w W∧Below w.heap.size wr W) (fun x _=>L.length - (intOf x).toNat)
   case atStart=>exact⟨0,rfl,Nat.zero_le _,by simpa using uh Hrow,uh Hb,Below.refl _ _⟩
   case round =>
    clear tcu
    obtain⟨j,rfl,hj,hrow,hb,hb2⟩:=hrel
    have hnx:=uh Hxn wr hb hb2
    by_cases hjl:j<L.length
    ·have hjl':(j:Int)<L.length:=by omega
     obtain⟨xb,xo,rfl,hxb,hcx⟩:=za3 hnx (k:=j) (by rw[zak];exact hjl)
     rw[zbF hjl] at hcx
     have hq:=uh Hux _ (zeQ hjl)
     have HTs:=zaa (zdX L j hjl)
     generalize L.getD j 0=q at *
     have hq':(q:Int)<G.prods.length:=by omega
     have hcell:=hrow.cell hq
     have hfz:=hrow.frozen q
     have hcl:(P ++ L.take j).count q≤2048 * 262144+262144:=by
      have h1:(P ++ L.take j).count q≤(P ++ L.take j).length:=List.count_le_length
      rw[List.length_append,List.length_take] at h1
      omega
     have Hr2:=zaa (show (wr.setCell ⟨w.heap.size,q,none⟩ (.int .i64 (((P ++ L.take j).count q:Nat)+1))).rowIs w.heap.size 3 G.prods.length (fun q=>.int .i64 ((P ++ L.take (j+1)).count q:Nat)) from(hrow.set q _).congr (fun r _=>by
      rw[uh HTs,← List.append_assoc,List.count_append (l₁:=P ++ L.take j)]
      by_cases e:r=q
      ·subst e;rw[if_pos rfl];simp
      ·rw[if_neg e]
       have:List.count r [q]=0:=by rw[List.count_eq_zero];simp;omega
       rw[this];rfl))
     have Hb3:=zaa (And.intro (hb.setCell (p:=⟨w.heap.size,q,none⟩) (Nat.le_refl _) (.int .i64 (((P ++ L.take j).count q:Nat)+1))) (hb2.setCell (p:=⟨w.heap.size,q,none⟩) (Nat.le_refl _) (.int .i64 (((P ++ L.take j).count q:Nat)+1))))
     generalize (P ++ L.take j).count q=K at *
     have hwk:IntKind.i64.wrap ((K:Int)+1)=K+1:=by rw[IntKind.wrap_i64];omega
     clear hrow hb hb2 hnx
     go_wp2
     go_roundw
     case rel=>exact⟨j+1,by go_num,by omega,uh Hr2,(uh Hb3).1,(uh Hb3).2⟩
     case measure=>simp[intOf];omega
    ·obtain rfl:j=L.length:=by omega
     have Hr2:=zaa (show wr.rowIs w.heap.size 3 G.prods.length (fun q=>.int .i64 (((List.range (i+1)).flatMap (zbm G)).count q:Nat)) by rw[uh HPs];rw[List.take_length] at hrow;exact hrow)
     have Hb3:=zaa hb
     clear hrow hb hb2 hnx
     go_wp2
     go_roundw
     case rel=>exact⟨i+1,by go_num,by omega,uh Hr2,uh Hb3⟩
     case measure=>simp[intOf];omega
  ·obtain rfl:i=G.rules.length:=by omega
   have hfin:=zqz (B:=w.heap.size) hrow (Nat.le_refl _) (by omega)
   have Hfin:=zaa hfin
   have Hb:=zaa hb
   clear hrow hb hfin
   go_wp2
   go_ret
   refine⟨w.heap.size,_,rfl,by simp,fun q hq=>?_,uh Hfin,uh Hb⟩
   unfold atZ
   rw[List.getD_eq_getElem?_getD,List.getElem?_map,List.getElem?_range hq]
   show ((((List.range G.rules.length).flatMap (zbm G)).count q:Nat):Int)=_
   rw[zlI hG hq]
set_option maxHeartbeats 1000000 in
set_option maxRecDepth 100000 in
theorem zbU (G:Gm) (hG:GOk G) (ka pa ra qa:Option Addr) (kc pc rc qc gb ob ub:Nat) (M:Nat) (w:World) (hM:M≤w.heap.size) (hg:GrAt M w G ka kc pa pc ra rc qa qc gb ob ub) :
 Calls Tryz.prog 34 #[.pointer (some ⟨gb,0,none⟩)] w fun e w'=>∃ b:Nat,e=.returned (.slice (some ⟨b,0,none⟩) G.rules.length G.rules.length)∧w'.rowIs b 4 G.rules.length (fun r=>.bool (zcQ G r))∧w.heap.size≤b∧Below w.heap.size w w':=by
 have HR:=zaa (zel G hG ka pa ra qa kc pc rc qc gb ob ub M w hM hg)
 have hr2:=hG.r2
 unfold Gm.nr at hr2
 go_enter Tryz.func34,Tryz.ntmps34
 go_wp2_with fail
 refine(uh HR).mono ?_
 rintro e w2 ⟨mb,ml,rfl,hml,hmv,hown,hb2⟩
 have hs2:=hb2.size
 have hrl:∀ q,q<G.prods.length→(rlN G q).length≤64:=fun q hq=>by
  unfold rlN
  rw[List.length_map]
  have h4:=zaR (nk:=G.nk) (G.prods.getD q pd0).right
  have h5:=hG.pr _ (zag hq)
  omega
 have HRo:=zaa (zgV G hG ka pa ra qa kc pc rc qc gb ob ub M (.slice (some ⟨mb,0,none⟩) G.prods.length G.prods.length) ml hml (fun q hq=>.inl (hmv q hq)) (fun q=>by
  by_cases hq:q<G.prods.length
  ·rw[hmv q hq];have:=hrl q hq;omega
  ·have:atZ ml q=0:=by unfold atZ;rw[List.getD_eq_getElem?_getD,List.getElem?_eq_none (by omega)];rfl
   omega) w2 (by omega) (zaJ hg (zab hb2 hM)) (zaK hown hM))
 have Hmv:=zaa hmv
 have hmb:w.heap.size≤mb:=(hown.lt mb rfl).1
 have Hb2:=zaa hb2
 clear hmv hown hg hb2 hml hrl HR
 go_wp2_with fail
 refine(uh HRo).mono ?_
 rintro e w3 ⟨b3,n,c,rfl,hrow3,hc,hs,hbl,hfr3⟩
 have hb3:Below w.heap.size w w3:=(uh Hb2).trans (zah hfr3 hs2 (fun k hk=>by simp[Value.ownBlock] at hk;omega))
 have hs3:=hb3.size
 have hll:((List.range G.rules.length).map c).length=G.rules.length:=by simp
 have HF:=zaa (zft (some ⟨b3,0,none⟩) G.rules.length ((List.range G.rules.length).map c) (by rw[hll];omega) w3 (zit hrow3))
 rw[hll] at HF
 have Hpr:=zaa (zlg (uh Hmv) hc hs)
 have hcl:∀ r,-1≤c r:=fun r=>by rw[hc];exact zmp n r
 have Hcl:=zaa hcl
 have Hb3:=zaa hb3
 clear hrow3 hc hs hfr3 hb3 hcl HRo
 go_wp2_with fail
 refine(uh HF).mono ?_
 rintro e w4 ⟨b4,rfl,hrow4,hbl4,hb4⟩
 have Hb4:=zaa ((uh Hb3).trans (zab hb4 hs3))
 have Hrow4:=zaa hrow4
 clear hrow4 hb4
 go_wp2
 go_ret
 refine⟨b4,rfl,(uh Hrow4).congr (fun r hr=>?_),by omega,uh Hb4⟩
 rw[← uh Hpr]
 unfold fdM
 have e1:((List.range G.rules.length).map c).getD r 0=c r:=by rw[List.getD_eq_getElem?_getD,List.getElem?_map,List.getElem?_range hr];rfl
 rw[e1]
 congr 1
 rw[decide_eq_decide]
 have:=uh Hcl r
 omega
end Go.Proofs.YtagohbpbgjelaaaGreatDoor

namespace Go.Proofs.YtagohbpbgjelaaaGreatDoor
open Go.RowKit

def zcp (G:Gm) (k:Nat):List Int:=(List.range k).map fun q=>((G.prods.getD q pd0).right.length:Int)
theorem zjC (G:Gm) (k:Nat):zcp G (k+1)=zcp G k ++ [((G.prods.getD k pd0).right.length:Int)]:=by unfold zcp;rw[List.range_succ,List.map_append];rfl
theorem zff (G:Gm) (k:Nat):(zcp G k).length=k:=by simp[zcp]
set_option maxHeartbeats 1000000 in
set_option maxRecDepth 100000 in
theorem zfc (G:Gm) (hG:GOk G) (ka pa ra qa:Option Addr) (kc pc rc qc gb ob ub:Nat) (M:Nat) (w:World) (hM:M≤w.heap.size) (hg:GrAt M w G ka kc pa pc ra rc qa qc gb ob ub) :
 Calls Tryz.prog 76 #[.pointer (some ⟨gb,0,none⟩)] w fun e w'=>∃ b:Nat,e=.returned (.slice (some ⟨b,0,none⟩) G.rules.length G.rules.length)∧w'.rowIs b 4 G.rules.length (fun r=>.bool (zaO G r))∧w.heap.size≤b∧Below w.heap.size w w':=by
 obtain⟨i3,hi3,hz30,hz31,hz32⟩:=zao zc0
 have hr2:=hG.r2
 unfold Gm.nr at hr2
 have hps:=hG.ps
 have c3:w.cell? ⟨gb,3,none⟩=some (.slice qa G.prods.length qc):=by unfold World.cell?;rw[hg.box];rfl
 have hgl:gb<w.heap.size:=by have:=hg.lt;omega
 have Hg:=zaa hg
 clear hg
 go_enter Tryz.func76,Tryz.ntmps76
 go_wp2
 go_loopw [3,12] (fun u x W=>∃ k:Nat,x=.int .i64 k∧k≤G.prods.length∧W.ownsRow w.heap.size 3 1 u (zcp G k).length (zal (zcp G k))∧Below w.heap.size w W) (fun _ x _=>G.prods.length - (intOf x).toNat)
 case atStart=>exact⟨0,rfl,Nat.zero_le _,World.ownsRow_nil _ _ _ _,Below.refl _ _⟩
 case round =>
  clear c3
  obtain⟨k,rfl,hk,hown,hb⟩:=hrel
  obtain⟨ua,uc,rfl⟩:=zad hown
  have hsz:=hb.size
  have hll:=zff G k
  have hgr:=zaJ (uh Hg) (zab hb hM)
  have Hown:=zaa hown;have Hb:=zaa hb
  clear hown hb
  by_cases hlt:k<G.prods.length
  ·have hlt':(k:Int)<G.prods.length:=by omega
   obtain⟨b,off,rfl,hbB,rr,rrc,x3,x4,x5,x6,n6,c6,-,-,q0,q1,q2,q3,q4,q5,q6⟩:=zbz hgr.gin.prods hlt
   have Hs:=zaa (zjC G k)
   have Hll:=zaa hll
   generalize G.prods.getD k pd0=p at *
   obtain⟨pl,prt,plv,pac⟩:=p
   simp only at q0 q1 q2 Hs
   have hacc:(zcp G k).length≤4096:=by omega
   generalize zcp G k=acc at *
   clear hgr hll
   go_wp2_with (at_builtin;refine wpList_append_own _ rfl _ _ 27 rfl w.heap.size 3 i3 (.int .i64 0) 1 8 Tryz.underlying27 hi3 hz30 hz31 hz32 rfl (by decide) _ _ _ rfl (((uh Hown).alloc _).alloc _) ⟨wr.heap.size+1,0,none⟩ 1 1 [.int .i64 (prt.length:Int)] rfl rfl ?zc1 ?zc2 ?zc3 ?zc4 ?zc5 ?_)
   case zc1=>intro j u hu;have h:=ziC (wr.alloc (.cells #[.int .i64 pl,.slice rr prt.length rrc,.int .i64 plv,.int .i64 x3,.int .i64 x4,.string x5,.slice x6 n6 c6] 89)) (.int .i64 (prt.length:Int)) 3 j u hu;simpa using h
   case zc2=>intro u hu;simp at hu;rcases hu with rfl;rfl
   case zc3=>unfold maxLen;omega
   case zc4=>omega
   case zc5=>simp;omega
   intro v' W3 hown' hgrow _
   have Hb4:=zaa ((((uh Hb).alloc hsz _).alloc (by simp;omega) _).grown hgrow (by simp;omega) (fun j hj=>((uh Hown).lt j hj).1))
   have Ho4:=zaa (show W3.ownsRow w.heap.size 3 1 v' (zcp G (k+1)).length (zal (zcp G (k+1))) by rw[uh Hs,← zaN,List.length_append];exact hown')
   clear hown' hgrow
   go_wp2
   go_roundw
   case rel=>exact⟨k+1,by go_num,by omega,uh Ho4,uh Hb4⟩
   case measure=>simp[intOf];omega
  ·obtain rfl:k=G.prods.length:=by omega
   have hmv:∀ q,q<G.prods.length→atZ (zcp G G.prods.length) q=((G.prods.getD q pd0).right.length:Int):=fun q hq=>by
    unfold atZ zcp
    rw[List.getD_eq_getElem?_getD,List.getElem?_map,List.getElem?_range hq];rfl
   have HRo:=zaa (zgV G hG ka pa ra qa kc pc rc qc gb ob ub M (.slice ua (zcp G G.prods.length).length uc) (zcp G G.prods.length) (zff G _) (fun q hq=>by
    rw[hmv q hq]
    have h4:=zaR (nk:=G.nk) (G.prods.getD q pd0).right
    have h5:(rlN G q).length=(zar G.nk (G.prods.getD q pd0).right).length:=by unfold rlN;rw[List.length_map]
    omega) (fun q=>by
    by_cases hq:q<G.prods.length
    ·rw[hmv q hq];have:=hG.pr _ (zag hq);omega
    ·have:atZ (zcp G G.prods.length) q=0:=by unfold atZ;rw[List.getD_eq_getElem?_getD,List.getElem?_eq_none (by rw[zff];omega)];rfl
     omega) wr (by omega) hgr (zaK (uh Hown) hM))
   have Hmv:=zaa hmv
   have hmb:∀ j,(Value.slice ua (zcp G G.prods.length).length uc).ownBlock=some j→w.heap.size≤j:=fun j hj=>((uh Hown).lt j hj).1
   rw[hll] at HRo hmb ⊢
   clear hmv hgr
   go_wp2_with fail
   refine(uh HRo).mono ?_
   rintro e w3 ⟨b3,n,c,rfl,hrow3,hc,hs,hbl,hfr3⟩
   have hb3:Below w.heap.size w w3:=(uh Hb).trans (zah hfr3 hsz hmb)
   have hs3:=hb3.size
   have hll3:((List.range G.rules.length).map c).length=G.rules.length:=by simp
   have HF:=zaa (zft (some ⟨b3,0,none⟩) G.rules.length ((List.range G.rules.length).map c) (by rw[hll3];omega) w3 (zit hrow3))
   rw[hll3] at HF
   have Hpr:=zaa (zjx (uh Hmv) hc hs)
   have hcl:∀ r,-1≤c r:=fun r=>by rw[hc];exact zmp n r
   have Hcl:=zaa hcl
   have Hb3:=zaa hb3
   clear hrow3 hc hs hfr3 hb3 hcl HRo
   go_wp2_with fail
   refine(uh HF).mono ?_
   rintro e w4 ⟨b4,rfl,hrow4,hbl4,hb4⟩
   have Hb4:=zaa ((uh Hb3).trans (zab hb4 hs3))
   have Hrow4:=zaa hrow4
   clear hrow4 hb4
   go_wp2
   go_ret
   refine⟨b4,rfl,(uh Hrow4).congr (fun r hr=>?_),by omega,uh Hb4⟩
   rw[← uh Hpr]
   unfold fdM
   have e1:((List.range G.rules.length).map c).getD r 0=c r:=by rw[List.getD_eq_getElem?_getD,List.getElem?_map,List.getElem?_range hr];rfl
   rw[e1]
   congr 1
   rw[decide_eq_decide]
   have:=uh Hcl r
   omega
end Go.Proofs.YtagohbpbgjelaaaGreatDoor

namespace Go.Proofs.YtagohbpbgjelaaaGreatDoor
open Go.RowKit

def zeK (G:Gm) (ok:Nat→Bool) (l:List Nat):List Int:=l.flatMap fun q=>if ok q then zar G.nk (G.prods.getD q pd0).right else[]
def zdt (G:Gm) (r:Nat):List Nat:=(List.range G.prods.length).filter fun i=>decide ((G.prods.getD i pd0).left.toNat=r)
theorem zqO (G:Gm) (r:Nat):zdx G G.prods.length r=zai (zdt G r):=rfl
theorem zmU (G:Gm) (ok:Nat→Bool) (l:List Nat) (k:Nat) (h:k<l.length):zeK G ok (l.take (k+1))=zeK G ok (l.take k) ++ (if ok (l.getD k 0) then zar G.nk (G.prods.getD (l.getD k 0) pd0).right else[]):=by
 unfold zeK
 have e:l.take (k+1)=l.take k ++ [l.getD k 0]:=by rw[List.take_add_one,List.getD_eq_getElem?_getD,List.getElem?_eq_getElem h];rfl
 rw[e,List.flatMap_append]
 simp
theorem zkv (G:Gm) (hG:GOk G) (ok:Nat→Bool) (l:List Nat) (hl:∀ q,q ∈ l→q<G.prods.length):(zeK G ok l).length≤64 * l.length:=by
 induction l with
 | nil=>simp[zeK]
 | cons q l ih =>
   have h1:=ih (fun x hx=>hl x (List.mem_cons_of_mem _ hx))
   have h2:=hG.pr _ (zag (hl q List.mem_cons_self))
   have h3:=zaR (nk:=G.nk) (G.prods.getD q pd0).right
   have e:zeK G ok (q::l)=(if ok q then zar G.nk (G.prods.getD q pd0).right else[]) ++ zeK G ok l:=by simp[zeK]
   rw[e,List.length_append,List.length_cons]
   by_cases hq:ok q=true
   ·rw[if_pos hq];omega
   ·rw[if_neg hq];simp;omega
theorem zhA {G:Gm} {r q:Nat} (h:q ∈ zdt G r):q<G.prods.length:=by unfold zdt at h;simp at h;exact h.1
theorem zkp (G:Gm) (r:Nat):(zdt G r).length≤G.prods.length:=by unfold zdt;have:=List.length_filter_le (fun i=>decide ((G.prods.getD i pd0).left.toNat=r)) (List.range G.prods.length);simpa using this
set_option maxHeartbeats 1000000 in
set_option maxRecDepth 100000 in
theorem zo5 (G:Gm) (hG:GOk G) (ka pa ra qa:Option Addr) (kc pc rc qc gb ob ub:Nat) (M:Nat) (F:Nat) (cap:Array Value) (ok:Nat→Bool) (hcf:∀ args W,Sem.run Tryz.prog (callFunc F args) W=.ok (.enter F args) W) (r:Nat) (hr:r<G.rules.length) (w:World) (hM:M≤w.heap.size) (hg:GrAt M w G ka kc pa pc ra rc qa qc gb ob ub)
 (hF:∀ W q,q<G.prods.length→Below w.heap.size w W→Calls Tryz.prog F (#[.int .i64 (q:Nat)] ++ cap) W fun e W'=>e=.returned (.bool (ok q))∧Below W.heap.size W W') :
 Calls Tryz.prog 84 #[.pointer (some ⟨gb,0,none⟩),.int .i64 (r:Int),.func (.func F) #[] cap] w fun e w'=>∃ v,e=.returned v∧w'.ownsRow w.heap.size 3 1 v (zeK G ok (zdt G r)).length (zal (zeK G ok (zdt G r)))∧Below w.heap.size w w':=by
 obtain⟨i3,hi3,hz30,hz31,hz32⟩:=zao zc0
 have hps:=hG.ps
 have hr2:=hG.r2
 unfold Gm.nr at hr2
 have c5:w.cell? ⟨gb,5,none⟩=some (.slice (some ⟨ob,0,none⟩) G.rules.length G.rules.length):=by unfold World.cell?;rw[hg.box];rfl
 obtain⟨Oo,hto,-⟩:=hg.own
 obtain⟨xa,xc,tco,hxn⟩:=zj0 hto hr
 rw[zqO] at tco hxn
 rw[zak] at tco
 have hr':(r:Int)<G.rules.length:=by omega
 have Hg:=zaa hg;have HF:=zaa hF
 clear hg hF
 go_enter Tryz.func84,Tryz.ntmps84
 go_wp2
 go_loopw [7,18] (fun u x W=>∃ k:Nat,x=.int .i64 k∧k≤(zdt G r).length∧W.ownsRow w.heap.size 3 1 u (zeK G ok ((zdt G r).take k)).length (zal (zeK G ok ((zdt G r).take k)))∧Below w.heap.size w W) (fun _ x _=>(zdt G r).length - (intOf x).toNat)
 case atStart=>exact⟨0,rfl,Nat.zero_le _,World.ownsRow_nil _ _ _ _,Below.refl _ _⟩
 case round =>
  obtain⟨k,rfl,hk,hown,hb⟩:=hrel
  obtain⟨ua,uc,rfl⟩:=zad hown
  have hsz:=hb.size
  have hgr:=zaJ (uh Hg) (zab hb hM)
  have hlen:=zkv G hG ok ((zdt G r).take k) (fun q hq=>zhA (List.mem_of_mem_take hq))
  have hon:=zkp G r
  rw[List.length_take] at hlen
  by_cases hlt:k<(zdt G r).length
  ·have hlt':(k:Int)<(zdt G r).length:=by omega
   have hq:=zhA (G:=G) (r:=r) (show (zdt G r).getD k 0 ∈ zdt G r by rw[List.getD_eq_getElem?_getD,List.getElem?_eq_getElem hlt];exact List.getElem_mem hlt)
   have hxr:=zhH hxn hb
   obtain⟨xb,xo,rfl,hxb,hxe⟩:=za3 hxr (k:=k) (by rw[zak];exact hlt)
   rw[zbF hlt] at hxe
   have Hs:=zaa (zmU G ok (zdt G r) k hlt)
   have HC:=zaa ((uh HF) wr ((zdt G r).getD k 0) hq hb)
   have hacc:(zeK G ok ((zdt G r).take k)).length≤262144:=by omega
   have Hown:=zaa hown;have Hb:=zaa hb;have Hgr:=zaa hgr
   generalize (zdt G r).getD k 0=q at *
   generalize zeK G ok ((zdt G r).take k)=acc at *
   clear hxr hxn tco hto hown hb hgr hlen
   go_wp2_with fail
   refine(uh HC).mono ?_
   rintro e w2 ⟨rfl,hb2⟩
   have hs2:=hb2.size
   have hown2:=zas (uh Hown) hb2
   have hbb:=(uh Hb).trans (zab hb2 hsz)
   by_cases hk2:ok q=true
   · rw [hk2]
     have hgr2:=zaJ (uh Hgr) (zab hb2 (by omega))
     obtain⟨pb,off,rfl,hbB,rr,rrc,x3,x4,x5,x6,n6,c6,hrr,-,q0,q1,q2,q3,q4,q5,q6⟩:=zbz hgr2.gin.prods hq
     have hgb:gb<w2.heap.size:=by have:=hgr2.lt;omega
     have c0:w2.cell? ⟨gb,0,none⟩=some (.slice ka G.kinds.length kc):=by unfold World.cell?;rw[hgr2.box];rfl
     have c3:w2.cell? ⟨gb,3,none⟩=some (.slice (some ⟨pb,off,none⟩) G.prods.length qc):=by unfold World.cell?;rw[hgr2.box];rfl
     have hq':(q:Int)<G.prods.length:=by omega
     have hpr:=hG.pr _ (zag hq)
     have hpy:=hG.py _ (zag hq)
     have hrl:=zaR (nk:=G.nk) (G.prods.getD q pd0).right
     rw[hk2,if_pos rfl] at Hs
     generalize G.prods.getD q pd0=p at *
     obtain⟨pl,prt,plv,pac⟩:=p
     simp only at q0 q1 q2 Hs hpr hpy hrl hrr
     have Hown2:=zaa hown2;have Hbb:=zaa hbb
     have hb0:pb<w2.heap.size:=by omega
     have Hrl:=zaa (zcI gb G.kinds.length ka kc hG.k3 rr rrc prt (by omega) (fun x hx=>by have:=hpy x hx;have:=hG.k3;have:=hG.r2;unfold Gm.nk Gm.nr at *;omega) w2 c0 hgb (zch (by omega) hrr))
     clear hgr2 hrr hown2 hbb hpy
     go_wp2_with fail
     refine(uh Hrl).mono ?_
     rintro e w5 ⟨v5,rfl,how5,hb5⟩
     have hs5:=hb5.size
     have ho5:=zas (uh Hown2) hb5
     have hbb5:=(uh Hbb).trans (zab hb5 (by omega))
     obtain⟨va,vc,rfl⟩:=zad how5
     obtain⟨_,_,he5,hn5⟩:=zb2 how5
     cases he5
     have Ho5:=zaa ho5;have Hbb5:=zaa hbb5
     have hrl':(zar G.kinds.length prt).length≤64:=by unfold Gm.nk at hrl;omega
     rcases hn5 with h | ⟨b5,o5,rfl,h2,h3⟩
     · have Ho3:=zaa (show w5.ownsRow w.heap.size 3 1 (.slice ua acc.length uc) (zeK G ok ((zdt G r).take (k+1))).length (zal (zeK G ok ((zdt G r).take (k+1)))) by rw[uh Hs,show zar G.nk prt=[] from h];simpa using ho5)
       rw[h] at how5 ⊢
       clear ho5 hbb5
       rcases how5.2 with ⟨h1,-⟩ | ⟨g5,cap5,x5',h1,h2⟩
       · cases h1
         go_wp2_with (at_builtin;refine wpList_append_own_none rfl _ _ 27 rfl w.heap.size 3 i3 1 Tryz.underlying27 hi3 _ _ _ rfl (uh Ho3) rfl ?_)
         go_wp2
         go_roundw
         case rel=>exact⟨k+1,by go_num,by omega,uh Ho3,uh Hbb5⟩
         case measure=>simp[intOf];omega
       · cases h1
         go_wp2_with (at_builtin;refine wpList_append_own _ rfl _ _ 27 rfl w.heap.size 3 i3 (.int .i64 0) 1 8 Tryz.underlying27 hi3 hz30 hz31 hz32 rfl (by decide) _ _ _ rfl (uh Ho5) ⟨g5,0,none⟩ 0 _ [] rfl rfl (by simp) (by simp) (by unfold maxLen;omega) (by omega) (by omega) ?_)
         intro v' W3 hown' hgrow _
         have Hb3:=zaa ((uh Hbb5).grown hgrow (by omega) (fun j hj=>((uh Ho5).lt j hj).1))
         have Ho3':=zaa (show W3.ownsRow w.heap.size 3 1 v' (zeK G ok ((zdt G r).take (k+1))).length (zal (zeK G ok ((zdt G r).take (k+1)))) by rw[uh Hs,show zar G.nk prt=[] from h];simpa using hown')
         clear hown' hgrow
         go_wp2
         go_roundw
         case rel=>exact⟨k+1,by go_num,by omega,uh Ho3',uh Hb3⟩
         case measure=>simp[intOf];omega
     · have Hnw:=zaa (show ∀ j u,(zal (zar G.kinds.length prt))[j]? = some u→w5.cell? (Addr.add ⟨b5,o5,none⟩ j)=some u by
         intro j u hu
         unfold zal at hu
         rw[List.getElem?_map] at hu
         obtain⟨x,hx,rfl⟩:=Option.map_eq_some_iff.1 hu
         have hj:=(List.getElem?_eq_some_iff.1 hx).1
         rw[show Addr.add ⟨b5,o5,none⟩ j=⟨b5,o5+j,none⟩ by cases j <;> simp[Addr.add],h3 j hj,List.getD_eq_getElem?_getD,hx]
         rfl)
       clear h3 how5 ho5 hbb5
       generalize zar G.kinds.length prt=rl at *
       go_wp2_with (at_builtin;refine wpList_append_own _ rfl _ _ 27 rfl w.heap.size 3 i3 (.int .i64 0) 1 8 Tryz.underlying27 hi3 hz30 hz31 hz32 rfl (by decide) _ _ _ rfl (uh Ho5) ⟨b5,o5,none⟩ rl.length vc (zal rl) rfl (by rw[zbl,Nat.mul_one]) (uh Hnw) (zfL _) (by unfold maxLen;omega) (by omega) (by omega) ?_)
       intro v' W3 hown' hgrow _
       have Hb3:=zaa ((uh Hbb5).grown hgrow (by omega) (fun j hj=>((uh Ho5).lt j hj).1))
       have Ho3:=zaa (show W3.ownsRow w.heap.size 3 1 v' (zeK G ok ((zdt G r).take (k+1))).length (zal (zeK G ok ((zdt G r).take (k+1)))) by rw[uh Hs,List.length_append,zfM];exact hown')
       clear hown' hgrow
       go_wp2
       go_roundw
       case rel=>exact⟨k+1,by go_num,by omega,uh Ho3,uh Hb3⟩
       case measure=>simp[intOf];omega
   · have hk3:ok q=false:=by simpa using hk2
     rw[hk3]
     rw[hk3] at Hs
     have Ho3:=zaa (show w2.ownsRow w.heap.size 3 1 (.slice ua acc.length uc) (zeK G ok ((zdt G r).take (k+1))).length (zal (zeK G ok ((zdt G r).take (k+1)))) by rw[uh Hs];simpa using hown2)
     have Hb3:=zaa hbb
     clear hown2 hbb
     go_wp2
     go_roundw
     case rel=>exact⟨k+1,by go_num,by omega,uh Ho3,uh Hb3⟩
     case measure=>simp[intOf];omega
  ·obtain rfl:k=(zdt G r).length:=by omega
   rw[List.take_of_length_le (Nat.le_refl _)] at hown ⊢
   have Hown:=zaa hown;have Hb:=zaa hb
   clear hown hb hgr hxn tco
   go_wp2
   go_ret
   exact⟨_,rfl,uh Hown,uh Hb⟩
end Go.Proofs.YtagohbpbgjelaaaGreatDoor

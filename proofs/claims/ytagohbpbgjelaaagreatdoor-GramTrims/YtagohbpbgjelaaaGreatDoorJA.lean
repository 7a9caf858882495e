/- What follows rules: which kinds and which rules stand where they end, from a place of a production on. -/
import Derived.Test.YtagohbpbgjelaaaGreatDoorGX
import Derived.Test.YtagohbpbgjelaaaGreatDoorA5
import Derived.Test.YtagohbpbgjelaaaGreatDoorIA
import Derived.Test.YtagohbpbgjelaaaGreatDoorHQ
import Derived.Test.YtagohbpbgjelaaaGreatDoorL2
import Derived.Test.YtagohbpbgjelaaaGreatDoorA2
import Derived.Test.YtagohbpbgjelaaaGreatDoorH2
import Derived.Test.YtagohbpbgjelaaaGreatDoorU2
import Derived.Test.YtagohbpbgjelaaaGreatDoorGJ
import Derived.Test.YtagohbpbgjelaaaGreatDoorSP
import Derived.Laws.AppendOwnNone
namespace Go.Proofs.YtagohbpbgjelaaaGreatDoor
open Go.RowKit

def FlS (G:Gm) (q i r:Nat) (m:Int):Prop:=q<G.prods.length∧atF G (lhs G q)=true∧i<(rhs G q).length∧(G.nk:Int)≤(rhs G q).getD i 0∧((rhs G q).getD i 0 - G.nk).toNat=r∧0≤m∧zh6 G.nk (zaO G) (zeu G) ((rhs G q).drop (i+1)) m.toNat=true
def FlW (G:Gm) (q i r y:Nat):Prop:=q<G.prods.length∧atF G (lhs G q)=true∧i<(rhs G q).length∧(G.nk:Int)≤(rhs G q).getD i 0∧((rhs G q).getD i 0 - G.nk).toNat=r∧zaT G.nk (zaO G) ((rhs G q).drop (i+1))=true∧lhs G q=y
structure FlI (G:Gm) (P:Nat→Nat→Prop) (n:Nat) (C:Nat→Int→Bool) (W:Nat→List Nat):Prop where
 c:∀ r m,C r m=true↔(r=G.start.toNat∧m=0)∨∃ q i,P q i∧FlS G q i r m
 w:∀ r y,y ∈ W r↔∃ q i,P q i∧FlW G q i r y
 l:∀ r,(W r).length≤n
def Dn (k j q i:Nat):Prop:=q<k∨q=k∧j≤i
theorem zgn {G:Gm} {P P':Nat→Nat→Prop} {n n':Nat} {C:Nat→Int→Bool} {W:Nat→List Nat} (h:FlI G P n C W) (hn:n≤n') (hp:∀ q i,i<(rhs G q).length→atF G (lhs G q)=true→(P q i↔P' q i)):FlI G P' n' C W:=by
 refine⟨fun r m=>?_,fun r y=>?_,fun r=>Nat.le_trans (h.l r) hn⟩
 ·rw[h.c r m]
  refine or_congr Iff.rfl ⟨?_,?_⟩
  ·rintro⟨q,i,h1,h2⟩;exact⟨q,i,(hp q i h2.2.2.1 h2.2.1).1 h1,h2⟩
  ·rintro⟨q,i,h1,h2⟩;exact⟨q,i,(hp q i h2.2.2.1 h2.2.1).2 h1,h2⟩
 ·rw[h.w r y]
  constructor
  ·rintro⟨q,i,h1,h2⟩;exact⟨q,i,(hp q i h2.2.2.1 h2.2.1).1 h1,h2⟩
  ·rintro⟨q,i,h1,h2⟩;exact⟨q,i,(hp q i h2.2.2.1 h2.2.1).2 h1,h2⟩
theorem zpC (G:Gm):FlI G (fun q _=>q<0) 0 (upC (fun _ _=>false) G.start.toNat (zi8 (fun _=>false) 0)) (fun _=>[]):=by
 refine⟨fun r m=>?_,fun r y=>⟨fun h=>(by cases h),fun⟨q,i,h,_⟩=>(by omega)⟩,fun r=>by simp⟩
 constructor
 ·intro h
  by_cases e:r=G.start.toNat
  ·subst e
   rw[zbq] at h
   unfold zi8 at h
   by_cases e2:m=0
   ·exact .inl ⟨rfl,e2⟩
   ·rw[if_neg e2] at h;cases h
  ·rw[zcu e] at h;cases h
 ·rintro(⟨rfl,rfl⟩ | ⟨q,i,h,_⟩)
  ·rw[zbq];rfl
  ·omega
theorem zri {G:Gm} {k n:Nat} {C:Nat→Int→Bool} {W:Nat→List Nat} (h:FlI G (fun q _=>q<k) n C W):FlI G (Dn k (rhs G k).length) n C W :=
 zgn h (Nat.le_refl _) (fun q i hi _=>⟨.inl,fun h1=>h1.elim id (fun⟨e,h2⟩=>by subst e;omega)⟩)
theorem zrf {G:Gm} {k n n':Nat} {C:Nat→Int→Bool} {W:Nat→List Nat} (h:FlI G (Dn k 0) n C W) (hn:n≤n'):FlI G (fun q _=>q<k+1) n' C W :=
 zgn h hn (fun q i _ _=>⟨fun h1=>by unfold Dn at h1;omega,fun h1=>by unfold Dn;omega⟩)
theorem zrh {G:Gm} {k n n':Nat} {C:Nat→Int→Bool} {W:Nat→List Nat} (h:FlI G (fun q _=>q<k) n C W) (hn:n≤n') (hr:atF G (lhs G k)=false):FlI G (fun q _=>q<k+1) n' C W :=
 zgn h hn (fun q i _ ha=>⟨fun h1=>by omega,fun h1=>by
  by_cases e:q=k
  ·subst e;rw[hr] at ha;cases ha
  ·omega⟩)
theorem dn_pred {k j q i:Nat}:Dn k j q i↔Dn k (j+1) q i∨q=k∧i=j:=by unfold Dn;omega
def BeI (G:Gm) (row:List Int) (j:Nat) (D:Int→Bool) (em:Bool):Prop:=(∀ m,D m=true↔0≤m∧zh6 G.nk (zaO G) (zeu G) (row.drop j) m.toNat=true)∧em=zaT G.nk (zaO G) (row.drop j)
theorem be_end (G:Gm) (row:List Int):BeI G row row.length (fun _=>false) true:=by
 refine⟨fun m=>?_,?_⟩
 ·rw[List.drop_length];simp[zh6]
 ·rw[List.drop_length];rfl
theorem zfk {row:List Int} {j:Nat} (hj:j<row.length):row.drop j=row.getD j 0::row.drop (j+1):=by
 rw[List.drop_eq_getElem_cons hj,List.getD_eq_getElem?_getD,List.getElem?_eq_getElem hj];rfl
theorem zpP {G:Gm} {x:Int} (h0:0≤x) (hx:x<(G.nk:Int)) (k:Nat):zh6 G.nk (zaO G) (zeu G) [x] k=true↔x=k:=by
 rw[begB_iff]
 constructor
 ·rintro⟨i,hi,-,h⟩
  have:i=0:=by simp at hi;omega
  subst this
  rcases h with ⟨-,h⟩ | ⟨h,-⟩
  ·have h:k=x.toNat:=h
   omega
  ·have h:(G.nk:Int)≤x:=h
   omega
 ·intro e
  refine⟨0,by simp,by simp[zaT],.inl ⟨hx,?_⟩⟩
  show k=x.toNat
  omega
theorem zkR {G:Gm} {x:Int} (hx:(G.nk:Int)≤x) (k:Nat):zh6 G.nk (zaO G) (zeu G) [x] k=true↔Fst G (x - G.nk).toNat k:=by
 rw[begB_iff,← zdI]
 constructor
 ·rintro⟨i,hi,-,h⟩
  have:i=0:=by simp at hi;omega
  subst this
  rcases h with ⟨h,-⟩ | ⟨-,h⟩
  ·have h:x<(G.nk:Int):=h
   omega
  ·exact h
 ·intro h
  exact⟨0,by simp,by simp[zaT],.inr ⟨hx,h⟩⟩
theorem zrG {G:Gm} {row:List Int} {j:Nat} (hj:j<row.length) (h0:0≤row.getD j 0) (hx:row.getD j 0<(G.nk:Int)):BeI G row j (zi8 (fun _=>false) (row.getD j 0)) false:=by
 have he:zaT G.nk (zaO G) [row.getD j 0]=false:=by
  unfold zaT
  simp only[List.all_cons,List.all_nil,Bool.and_true,Bool.and_eq_false_iff,decide_eq_false_iff_not]
  exact .inl (by omega)
 refine⟨fun m=>?_,?_⟩
 ·rw[zfk hj,zgy,he]
  simp only[Bool.false_and,Bool.or_false]
  rw[zpP h0 hx]
  unfold zi8
  by_cases e:m=row.getD j 0
  ·rw[if_pos e];exact⟨fun _=>⟨by omega,by omega⟩,fun _=>rfl⟩
  ·rw[if_neg e];exact⟨fun h=>(by cases h),fun⟨h1,h2⟩=>by omega⟩
 ·rw[zfk hj,zev,he];rfl
theorem zjS {G:Gm} {row:List Int} {j:Nat} {D F:Int→Bool} {em:Bool} (h:BeI G row (j+1) D em) (hj:j<row.length) (hx:(G.nk:Int)≤row.getD j 0) (hn:zaO G (row.getD j 0 - G.nk).toNat=true) (hF:∀ m,F m=true↔0≤m∧Fst G (row.getD j 0 - G.nk).toNat m.toNat):BeI G row j (orF D F) em:=by
 have he:zaT G.nk (zaO G) [row.getD j 0]=true:=by
  unfold zaT
  simp only[List.all_cons,List.all_nil,Bool.and_true,Bool.and_eq_true,decide_eq_true_eq]
  exact⟨hx,hn⟩
 refine⟨fun m=>?_,?_⟩
 ·rw[zfk hj,zgy,he]
  simp only[Bool.true_and,Bool.or_eq_true]
  rw[zkR hx]
  unfold orF
  rw[Bool.or_eq_true,h.1 m,hF m]
  constructor
  ·rintro(⟨a,b⟩ | ⟨a,b⟩)
   ·exact⟨a,.inr b⟩
   ·exact⟨a,.inl b⟩
  ·rintro⟨a,b | b⟩
   ·exact .inr ⟨a,b⟩
   ·exact .inl ⟨a,b⟩
 ·rw[zfk hj,zev,he,h.2];rfl
theorem zjT {G:Gm} {row:List Int} {j:Nat} {F:Int→Bool} (hj:j<row.length) (hx:(G.nk:Int)≤row.getD j 0) (hn:zaO G (row.getD j 0 - G.nk).toNat=false) (hF:∀ m,F m=true↔0≤m∧Fst G (row.getD j 0 - G.nk).toNat m.toNat):BeI G row j (orF (fun _=>false) F) false:=by
 have he:zaT G.nk (zaO G) [row.getD j 0]=false:=by
  unfold zaT
  simp only[List.all_cons,List.all_nil,Bool.and_true,Bool.and_eq_false_iff,decide_eq_false_iff_not]
  exact .inr hn
 refine⟨fun m=>?_,?_⟩
 ·rw[zfk hj,zgy,he]
  simp only[Bool.false_and,Bool.or_false]
  rw[zkR hx]
  unfold orF
  rw[Bool.false_or]
  exact hF m
 ·rw[zfk hj,zev,he];rfl
theorem zrj {G:Gm} {k j n:Nat} {C:Nat→Int→Bool} {W:Nat→List Nat} (h:FlI G (Dn k (j+1)) n C W) (hx:(rhs G k).getD j 0<(G.nk:Int)):FlI G (Dn k j) n C W:=by
 refine⟨fun r m=>?_,fun r y=>?_,h.l⟩
 ·rw[h.c r m]
  refine or_congr Iff.rfl ⟨?_,?_⟩
  ·rintro⟨q,i,h1,h2⟩;exact⟨q,i,dn_pred.2 (.inl h1),h2⟩
  ·rintro⟨q,i,h1,h2⟩
   rcases dn_pred.1 h1 with h1 | ⟨rfl,rfl⟩
   ·exact⟨q,i,h1,h2⟩
   ·have:=h2.2.2.2.1;omega
 ·rw[h.w r y]
  constructor
  ·rintro⟨q,i,h1,h2⟩;exact⟨q,i,dn_pred.2 (.inl h1),h2⟩
  ·rintro⟨q,i,h1,h2⟩
   rcases dn_pred.1 h1 with h1 | ⟨rfl,rfl⟩
   ·exact⟨q,i,h1,h2⟩
   ·have:=h2.2.2.2.1;omega
theorem zrg {G:Gm} {k j n:Nat} {C:Nat→Int→Bool} {W:Nat→List Nat} {D:Int→Bool} {em:Bool} (h:FlI G (Dn k (j+1)) n C W) (hk:k<G.prods.length) (ha:atF G (lhs G k)=true) (hj:j<(rhs G k).length) (hx:(G.nk:Int)≤(rhs G k).getD j 0) (hD:BeI G (rhs G k) (j+1) D em) {y:Nat} (hy:((rhs G k).getD j 0 - G.nk).toNat=y) :
 FlI G (Dn k j) (n+1) (upC C y (orF (C y) D)) (if em then upW W y (lhs G k) else W):=by
 refine⟨fun r m=>?_,fun r z=>?_,fun r=>?_⟩
 ·have key:upC C y (orF (C y) D) r m=true↔C r m=true∨FlS G k j r m:=by
   by_cases e:r=y
   ·subst e
    rw[zbq]
    unfold orF
    rw[Bool.or_eq_true,hD.1 m]
    refine or_congr Iff.rfl ⟨fun⟨h1,h2⟩=>⟨hk,ha,hj,hx,hy,h1,h2⟩,fun h1=>⟨h1.2.2.2.2.2.1,h1.2.2.2.2.2.2⟩⟩
   ·rw[zcu e];exact⟨.inl,fun h1=>h1.elim id (fun h2=>absurd (h2.2.2.2.2.1.symm.trans hy) e)⟩
  rw[key,h.c r m]
  constructor
  ·rintro((h1 | ⟨q,i,h1,h2⟩) | h2)
   ·exact .inl h1
   ·exact .inr ⟨q,i,dn_pred.2 (.inl h1),h2⟩
   ·exact .inr ⟨k,j,dn_pred.2 (.inr ⟨rfl,rfl⟩),h2⟩
  ·rintro(h1 | ⟨q,i,h1,h2⟩)
   ·exact .inl (.inl h1)
   ·rcases dn_pred.1 h1 with h1 | ⟨rfl,rfl⟩
    ·exact .inl (.inr ⟨q,i,h1,h2⟩)
    ·exact .inr h2
 ·have key:z ∈ (if em then upW W y (lhs G k) else W) r↔z ∈ W r∨FlW G k j r z:=by
   have he:=hD.2
   cases em with
   | true =>
     rw[if_pos rfl,zl5]
     refine or_congr Iff.rfl ⟨fun⟨h1,h2⟩=>⟨hk,ha,hj,hx,hy.trans h1.symm,he.symm,h2.symm⟩,fun h1=>⟨h1.2.2.2.2.1.symm.trans hy,h1.2.2.2.2.2.2.symm⟩⟩
   | false =>
     rw[if_neg (by simp)]
     exact⟨.inl,fun h1=>h1.elim id (fun h2=>by have:=h2.2.2.2.2.2.1;rw[← he] at this;cases this)⟩
  rw[key,h.w r z]
  constructor
  ·rintro(⟨q,i,h1,h2⟩ | h2)
   ·exact⟨q,i,dn_pred.2 (.inl h1),h2⟩
   ·exact⟨k,j,dn_pred.2 (.inr ⟨rfl,rfl⟩),h2⟩
  ·rintro⟨q,i,h1,h2⟩
   rcases dn_pred.1 h1 with h1 | ⟨rfl,rfl⟩
   ·exact .inl ⟨q,i,h1,h2⟩
   ·exact .inr h2
 ·have:=h.l r
  cases em with
  | true=>rw[if_pos rfl];have:=ze0 W y (lhs G k) r;omega
  | false=>rw[if_neg (by simp)];omega
theorem beg_lt {G:Gm} (hG:GOk G) {row:List Int} (hr:zii (G.nk+G.nr) row) {k:Nat} (h:zh6 G.nk (zaO G) (zeu G) row k=true):k<G.nk:=by
 obtain⟨i,hi,-,h⟩:=begB_iff.1 h
 have:=hr _ (za5 hi)
 rcases h with ⟨h1,h2⟩ | ⟨-,h2⟩
 ·omega
 ·exact zqg hG ((zdI _ _ _).1 h2)
theorem fl_end {G:Gm} (hG:GOk G) {n:Nat} {C:Nat→Int→Bool} {W:Nat→List Nat} (h:FlI G (fun q _=>q<G.prods.length) n C W) (r:Nat) (m:Int):Uw W C r m↔0≤m∧Flw G r m.toNat:=by
 constructor
 ·rintro⟨y,h1,h2⟩
  induction h1 with
  | refl x =>
    rcases(h.c _ _).1 h2 with ⟨rfl,rfl⟩ | ⟨q,i,-,hq,ha,hi,hx,rfl,h0,hb⟩
    ·exact⟨Int.le_refl _,.start⟩
    ·exact⟨h0,.first _ (zag hq) ha i hi hx _ (beg_lt hG (fun z hz=>hG.py _ (zag hq) z (List.mem_of_mem_drop hz)) hb) hb⟩
  | step x y z hy _ ih =>
    obtain⟨q,i,-,hq,ha,hi,hx,rfl,he,rfl⟩:=(h.w _ _).1 hy
    obtain⟨h3,h4⟩:=ih h2
    exact⟨h3,.behind _ (zag hq) ha i hi hx he _ h4⟩
 ·rintro⟨h0,h1⟩
  obtain⟨k,rfl⟩:=Int.eq_ofNat_of_zero_le h0
  rw[Int.toNat_natCast] at h1
  clear h0
  induction h1 with
  | start=>exact⟨_,.refl _,(h.c _ _).2 (.inl ⟨rfl,rfl⟩)⟩
  | first p hp hr i hi hx k hk hb =>
    obtain⟨q,hq,rfl⟩:=zdN hp
    exact⟨_,.refl _,(h.c _ _).2 (.inr ⟨q,i,hq,hq,hr,hi,hx,rfl,by omega,by rw[Int.toNat_natCast];exact hb⟩)⟩
  | behind p hp hr i hi hx he k _ ih =>
    obtain⟨q,hq,rfl⟩:=zdN hp
    obtain⟨y,h3,h4⟩:=ih
    exact⟨y,.step _ _ _ ((h.w _ _).2 ⟨q,i,hq,hq,hr,hi,hx,rfl,he,rfl⟩) h3,h4⟩
end Go.Proofs.YtagohbpbgjelaaaGreatDoor

namespace Go.Proofs.YtagohbpbgjelaaaGreatDoor
open Go.RowKit

set_option maxHeartbeats 2000000 in
set_option maxRecDepth 100000 in
theorem zls:zfH 24:=fun G hc ka pa ra qa kc pc rc qc r hr w hin=>by
 have hG:=zbS hc
 have hst:=zbt (kc:=kc) (pc:=pc) (rc:=rc) (qc:=qc) (Nat.le_refl _) hin 26
 have hb1:Below w.heap.size w (w.alloc (.cells #[.slice ka G.kinds.length kc,.slice pa G.precs.length pc,.slice ra G.rules.length rc,.slice qa G.prods.length qc,.int .i64 G.start] 26)):=(Below.refl _ _).alloc (Nat.le_refl _) _
 have HM:=zaa (zcL G ka pa ra qa kc pc rc qc _ (zbD hin hb1) (zp4 hG))
 rw[hc] at HM
 have Hb1:=zaa hb1;have Hst:=zaa hst;have Hin:=zaa hin
 have hnot:=zaG
 have hs1:(w.alloc (.cells #[.slice ka G.kinds.length kc,.slice pa G.precs.length pc,.slice ra G.rules.length rc,.slice qa G.prods.length qc,.int .i64 G.start] 26)).heap.size=w.heap.size+1:=by simp
 clear hst hb1 hin hc
 go_enter Tryz.func24,Tryz.ntmps24
 go_wp2_with fail
 generalize w.alloc (.cells #[.slice ka G.kinds.length kc,.slice pa G.precs.length pc,.slice ra G.rules.length rc,.slice qa G.prods.length qc,.int .i64 G.start] 26)=w1 at *
 refine(uh HM).mono ?_
 rintro e w2 ⟨rfl,hb2⟩
 have hs2:=hb2.size
 have hbw2:=(uh Hb1).trans (zab hb2 (by omega))
 have hst2:=zan (zab hb2 (by omega)) (Nat.le_refl _) (uh Hst)
 have d0:=hst2.c0;have d1:=hst2.c1;have d2:=hst2.c2;have d3:=hst2.c3;have d4:=hst2.c4
 have HA:=zaa (zfh ka pa ra qa G.kinds.length kc G.precs.length pc G.rules.length rc G.prods.length qc G.start (r:Int) w2)
 have hdec:decide (0≤(r:Int)∧(r:Int)<G.rules.length)=true:=decide_eq_true (by omega)
 rw[hdec] at HA
 have Hbw2:=zaa hbw2
 have hs2w:w.heap.size+1≤w2.heap.size:=by omega
 clear hb2 hbw2 hst2 HM hdec
 go_wp2_with fail
 refine(uh HA).mono ?_
 rintro e w3 ⟨rfl,hb3⟩
 have hs3:=hb3.size
 have hbw3:=(uh Hbw2).trans (zab hb3 (by omega))
 have e0:=(hb3.cell (p:=⟨w.heap.size,0,none⟩) (by show w.heap.size<_;omega)).trans d0
 have e1:=(hb3.cell (p:=⟨w.heap.size,1,none⟩) (by show w.heap.size<_;omega)).trans d1
 have e2:=(hb3.cell (p:=⟨w.heap.size,2,none⟩) (by show w.heap.size<_;omega)).trans d2
 have e3:=(hb3.cell (p:=⟨w.heap.size,3,none⟩) (by show w.heap.size<_;omega)).trans d3
 have e4:=(hb3.cell (p:=⟨w.heap.size,4,none⟩) (by show w.heap.size<_;omega)).trans d4
 have HNG:=zaa (zci G hG ka pa ra qa kc pc rc qc w3 (zbD (uh Hin) hbw3))
 have Hbw3:=zaa hbw3
 clear hb3 hbw3 d0 d1 d2 d3 d4 HA
 go_wp2_with fail
 refine(uh HNG).mono ?_
 rintro e w4 ⟨gb,ob,ub,rfl,hg4,hb4⟩
 have hs4:=hb4.size
 have HLE:=zaa (zlt G hG ka pa ra qa kc pc rc qc gb ob ub w4.heap.size w4 (Nat.le_refl _) hg4)
 have Hbw4:=zaa ((uh Hbw3).trans (zab hb4 (by have:=(uh Hbw3).size;omega)))
 clear hg4 hb4 HNG e0 e1 e2 e3 e4
 go_wp2_with fail
 refine(uh HLE).mono ?_
 rintro e w5 ⟨b,L,rfl,hrow,hL,hbb,hb5⟩
 have Hbw5:=zaa ((uh Hbw4).trans (zab hb5 (uh Hbw4).size))
 have lc:=hrow.cell hr
 have hr':(r:Int)<G.rules.length:=by omega
 have HL:=zaa hL
 have hlg:L r = -1∨0≤L r:=by
  rcases hL.1 r with h | h
  ·exact .inl h
  ·exact .inr h.1
 clear hb5 HLE hL hrow
 by_cases hneg:L r = -1
 ·go_wp2
  refine bodyPost_ret (v:=.tuple #[.int .i64 0,.bool false,.int .i64 0]) ?zz9 rfl ⟨L,uh HL,by rw[hneg];rfl,uh Hbw5⟩
  case zz9=>simp[results,Tryz.results24,go_sem]
 ·have hnn:0≤L r:=by omega
  have hmx:max (L r) 0=L r:=by omega
  have hde:decide (0≤L r)=true:=decide_eq_true hnn
  have Hend:Hid ((.tuple #[.int .i64 (max (L r) 0),.bool (decide (0≤L r)),.int .i64 0]:Value)=.tuple #[.int .i64 (L r),.bool true,.int .i64 0]):=zaa (by rw[hmx,hde])
  clear hmx hde
  go_wp2
  refine bodyPost_ret (v:=.tuple #[.int .i64 (L r),.bool true,.int .i64 0]) ?zz9 rfl ⟨L,uh HL,by rw[uh Hend],uh Hbw5⟩
  case zz9=>simp[results,Tryz.results24,go_sem]
end Go.Proofs.YtagohbpbgjelaaaGreatDoor

namespace Go.Proofs.YtagohbpbgjelaaaGreatDoor
open Go.RowKit

theorem zh2 (q:Nat) (w:World):Calls Tryz.prog 33 (#[.int .i64 (q:Int)] ++ #[]) w fun e w'=>e=.returned (.bool true)∧w'=w:=by
 show Calls Tryz.prog 33 #[.int .i64 (q:Int)] w _
 go_enter Tryz.func33,Tryz.ntmps33
 go_wp2
 go_ret
 exact⟨rfl,rfl⟩
theorem zrz:∀ args W,Sem.run Tryz.prog (callFunc 33 args) W=.ok (.enter 33 args) W:=fun _ _=>by simp[callFunc,Tryz.func33,Tryz.f33,go_sem,Result.andThen]
theorem zn0:∀ args W,Sem.run Tryz.prog (callFunc 98 args) W=.ok (.enter 98 args) W:=fun _ _=>by simp[callFunc,Tryz.func98,Tryz.f98,go_sem,Result.andThen]
theorem zpM:∀ args W,Sem.run Tryz.prog (callFunc 100 args) W=.ok (.enter 100 args) W:=fun _ _=>by simp[callFunc,Tryz.func100,Tryz.f100,go_sem,Result.andThen]
theorem zhJ (mb bb nr:Nat) (f:Nat→Bool) (r:Nat) (hr:r<nr) (w:World) (hm:w.cell? ⟨mb,0,none⟩=some (.slice (some ⟨bb,0,none⟩) nr nr)) (hb:w.rowIs bb 4 nr (fun r=>.bool (f r))) :
 Calls Tryz.prog 100 (#[.int .i64 (r:Int)] ++ #[.pointer (some ⟨mb,0,none⟩)]) w fun e w'=>e=.returned (.bool (!f r))∧w'=w:=by
 show Calls Tryz.prog 100 #[.int .i64 (r:Int),.pointer (some ⟨mb,0,none⟩)] w _
 have hc:=hb.cell hr
 have hr':(r:Int)<nr:=by omega
 have hnot:=zaG
 go_enter Tryz.func100,Tryz.ntmps100
 go_wp2
 go_ret
 exact⟨rfl,rfl⟩
set_option maxHeartbeats 1000000 in
set_option maxRecDepth 100000 in
theorem zh0 (F:Nat) (cap:Array Value) (f:Int→Bool) (hcf:∀ args W,Sem.run Tryz.prog (callFunc F args) W=.ok (.enter F args) W) (a:Option Addr) (c:Nat) (l:List Int) (hl:l.length≤1048576) (w:World) (hrow:NRow w.heap.size w a l)
 (hF:∀ x,x ∈ l→Calls Tryz.prog F (#[.int .i64 x] ++ cap) w fun e W'=>e=.returned (.bool (f x))∧W'=w) :
 Calls Tryz.prog 129 #[.slice a l.length c,.func (.func F) #[] cap] w fun e w'=>∃ i:Int,e=.returned (.int .i64 i)∧(0≤i↔∃ x,x ∈ l∧f x=true)∧w'=w:=by
 have Hrow:=zaa hrow;have HF:=zaa hF
 clear hrow hF
 go_enter Tryz.func129,Tryz.ntmps129
 go_wp2
 go_loopw [8] (fun x W=>∃ k:Nat,x=.int .i64 k∧k≤l.length∧(∀ y,y ∈ l.take k→f y=false)∧W=w) (fun x _=>l.length - (intOf x).toNat)
 case atStart=>exact⟨0,rfl,Nat.zero_le _,by simp,rfl⟩
 case round =>
  obtain⟨k,rfl,hk,hno,rfl⟩:=hrel
  by_cases hlt:k<l.length
  ·have hlt':(k:Int)<l.length:=by omega
   obtain⟨b,off,rfl,hbl,hc⟩:=za3 (uh Hrow) hlt
   have hm:l.getD k 0 ∈ l:=by rw[List.getD_eq_getElem?_getD,List.getElem?_eq_getElem hlt];exact List.getElem_mem hlt
   have HC:=zaa (uh HF _ hm)
   have e1:l.take (k+1)=l.take k ++ [l.getD k 0]:=by rw[List.take_add_one,List.getD_eq_getElem?_getD,List.getElem?_eq_getElem hlt];rfl
   generalize l.getD k 0=y at *
   have Hno:=zaa hno
   clear hno
   go_wp2_with fail
   refine(uh HC).mono ?_
   rintro e w2 ⟨rfl,rfl⟩
   cases hf:f y with
   | true =>
     go_wp2
     go_ret
     exact⟨k,rfl,⟨fun _=>⟨y,hm,hf⟩,fun _=>by omega⟩,rfl⟩
   | false =>
     go_wp2
     go_roundw
     case rel=>exact⟨k+1,by go_num,by omega,fun z hz=>by
      rw[e1] at hz
      rcases List.mem_append.1 hz with h | h
      ·exact uh Hno z h
      ·simp at h;subst h;exact hf,trivial⟩
     case measure=>simp[intOf];omega
  ·obtain rfl:k=l.length:=by omega
   rw[List.take_of_length_le (Nat.le_refl _)] at hno
   have Hno:=zaa hno
   clear hno
   go_wp2
   go_ret
   exact⟨-1,rfl,⟨fun h=>by omega,fun⟨x,h1,h2⟩=>by rw[uh Hno x h1] at h2;cases h2⟩,rfl⟩
set_option maxRecDepth 100000 in
theorem zfx (F:Nat) (cap:Array Value) (f:Int→Bool) (hcf:∀ args W,Sem.run Tryz.prog (callFunc F args) W=.ok (.enter F args) W) (a:Option Addr) (c:Nat) (l:List Int) (hl:l.length≤1048576) (w:World) (hrow:NRow w.heap.size w a l)
 (hF:∀ x,x ∈ l→Calls Tryz.prog F (#[.int .i64 x] ++ cap) w fun e W'=>e=.returned (.bool (f x))∧W'=w) :
 Calls Tryz.prog 99 #[.slice a l.length c,.func (.func F) #[] cap] w fun e w'=>e=.returned (.bool (l.any f))∧w'=w:=by
 have HI:=zaa (zh0 F cap f hcf a c l hl w hrow hF)
 clear hF hrow
 go_enter Tryz.func99,Tryz.ntmps99
 go_wp2_with fail
 refine(uh HI).mono ?_
 rintro e w2 ⟨i,rfl,hi,rfl⟩
 have e1:(decide (0≤i))=l.any f:=by rw[Bool.eq_iff_iff,decide_eq_true_eq,hi,List.any_eq_true]
 have E1:=zaa e1
 clear hi e1
 go_wp2
 go_ret
 exact⟨by rw[← uh E1];rfl,rfl⟩
end Go.Proofs.YtagohbpbgjelaaaGreatDoor

namespace Go.Proofs.YtagohbpbgjelaaaGreatDoor
open Go.RowKit

theorem zht (G:Gm) (hG:GOk G) (ka pa ra qa:Option Addr) (kc pc rc qc gb ob ub:Nat) (M:Nat) (w:World) (hM:M≤w.heap.size) (hg:GrAt M w G ka kc pa pc ra rc qa qc gb ob ub) :
 Calls Tryz.prog 32 #[.pointer (some ⟨gb,0,none⟩),.func (.func 33) #[] #[]] w fun e w'=>∃ b:Nat,e=.returned (.slice (some ⟨b,0,none⟩) G.rules.length G.rules.length)∧w'.rowIs b 4 G.rules.length (fun r=>.bool (atF G r))∧w.heap.size≤b∧Below w.heap.size w w' :=
 zf6 G hG ka pa ra qa kc pc rc qc gb ob ub M 33 #[] (fun _=>true) (fun _=>true) (fun _ _=>rfl) zrz w hM hg (fun W q hq _=>(zh2 q W).mono fun e W' ⟨h1,h2⟩=>⟨h1,by rw[h2];exact Below.refl _ _⟩)
end Go.Proofs.YtagohbpbgjelaaaGreatDoor

namespace Go.Proofs.YtagohbpbgjelaaaGreatDoor
open Go.RowKit Go.Maps

theorem zi3 (b off j:Nat):(⟨b,off,none⟩:Addr).add j=⟨b,off+j,none⟩:=by
 unfold Addr.add
 split
 ·rename_i h;subst h;rfl
 ·rfl
theorem ze8 {P:Program} {w:World} (base:Nat) (t ty e:TypeId) (i:TypeInfo) (size:Nat) (ht:P.underlying t=some (.slice e)) (hi:P.info? e=some i)
 (v:Value) (n:Nat) (xs:List Value) (hown:w.ownsRow base e size v n xs) (c:Nat) :
 (Builtin.append_ #[t,t] ty #[v,.slice none 0 c]).run P w=.ok v w:=by
 rcases hown.2 with ⟨rfl,rfl⟩ | ⟨g,cap,cur,rfl,_,_,hnc,_⟩
 ·simp[Builtin.append_,run_underlying ht,sizeOf,typeInfo,hi,Builtin.lenOf,Builtin.firstCells]
 ·simp[Builtin.append_,run_underlying ht,sizeOf,typeInfo,hi,Builtin.lenOf,Builtin.firstCells,hnc,storeCells]
def zol (w:World) (la:Option Addr) (m:Nat) (vs:List Value):Prop:=(m=0∧vs=[])∨∃ b off,la=some ⟨b,off,none⟩∧∀ j u,vs[j]? = some u→w.cell? ⟨b,off+j,none⟩=some u
theorem zeB {P:Program} {w:World} {o:Oper} {a:Act} {K:Act→World→Prop} {Q:Exit→Act→World→Prop} (s x:Operand) (t:TypeId)
 (ho:o.op=.call { callee:=.builtin .append,args:=#[s,x],argTypes:=#[t,t] })
 (base:Nat) (e:TypeId) (i:TypeInfo) (z:Value) (size bytes:Nat) (ht:P.underlying t=some (.slice e)) (hi:P.info? e=some i) (hz:i.zero=some z)
 (hsize:i.size=size) (hby:i.bytes=bytes) (hzs:z.cells.size=size) (hsz:0<size)
 (v:Value) (n:Nat) (xs:List Value) (hs:a.eval s=v) (hown:w.ownsRow base e size v n xs)
 (la:Option Addr) (m c:Nat) (vs:List Value) (hx:a.eval x=.slice la m c) (hl:vs.length=m * size) (hv:zol w la m vs) (h1:∀ u ∈ vs,u.oneCell'=true)
 (h63:n+m≤maxLen) (hbytes:(n+m) * bytes≤140737488355328) (hbase:base≤w.heap.size)
 (h:∀ v' w',w'.ownsRow base e size v' (n+m) (xs ++ vs)→w.grownBy w' v.ownBlock→K (a.put o.dst v') w'):o.wp P a w K Q:=by
 cases la with
 | none =>
   obtain⟨rfl,rfl⟩:m=0∧vs=[]:=by
    rcases hv with h | ⟨b,off,h,-⟩
    ·exact h
    ·cases h
   have hrun:=ze8 (P:=P) (w:=w) base t o.type e i size ht hi v n xs hown c
   unfold Oper.wp
   simp[execOp,ho,resolve,invoke,builtin,hs,hx,hrun,Result.andThen]
   exact h _ _ (by simpa using hown) ⟨rfl,rfl,rfl,Nat.le_refl _,fun _ _ _=>rfl⟩
 | some ad =>
   refine wp_append_own w s x t ho base e i z size bytes ht hi hz hsize hby hzs hsz v n xs hs hown ad m c vs hx hl (fun j u hu=>?_) h1 h63 hbytes hbase (fun v' w' h2 h3 _=>h v' w' h2 h3)
   rcases hv with ⟨-,rfl⟩ | ⟨b,off,hb,hc⟩
   ·simp at hu
   ·cases hb;rw[zi3];exact hc j u hu
theorem zcH {P:Program} {w:World} {ops:Array Oper} {o:Oper} {a:Act} {K:Act→World→Prop} {Q:Exit→Act→World→Prop} {E:Prop} (hgd:o.guard=none) (s x:Operand) (t:TypeId)
 (ho:o.op=.call { callee:=.builtin .append,args:=#[s,x],argTypes:=#[t,t] })
 (base:Nat) (e:TypeId) (i:TypeInfo) (z:Value) (size bytes:Nat) (ht:P.underlying t=some (.slice e)) (hi:P.info? e=some i) (hz:i.zero=some z)
 (hsize:i.size=size) (hby:i.bytes=bytes) (hzs:z.cells.size=size) (hsz:0<size)
 (v:Value) (n:Nat) (xs:List Value) (hs:a.eval s=v) (hown:w.ownsRow base e size v n xs)
 (la:Option Addr) (m c:Nat) (vs:List Value) (hx:a.eval x=.slice la m c) (hl:vs.length=m * size) (hv:zol w la m vs) (h1:∀ u ∈ vs,u.oneCell'=true)
 (h63:n+m≤maxLen) (hbytes:(n+m) * bytes≤140737488355328) (hbase:base≤w.heap.size)
 (h:∀ v' w',w'.ownsRow base e size v' (n+m) (xs ++ vs)→w.grownBy w' v.ownBlock→K (a.put o.dst v') w') :
 if Region.wanted o (yielded ops a.tmps)=true then Oper.wp P o a w K Q else E:=by
 have hw:Region.wanted o (yielded ops a.tmps)=true:=by simp[Region.wanted,hgd]
 rw[if_pos hw]
 exact zeB s x t ho base e i z size bytes ht hi hz hsize hby hzs hsz v n xs hs hown la m c vs hx hl hv h1 h63 hbytes hbase h
end Go.Proofs.YtagohbpbgjelaaaGreatDoor

namespace Go.Proofs.YtagohbpbgjelaaaGreatDoor
open Go.RowKit

theorem zi1 (gb bb n:Nat) (w:World):Calls Tryz.prog 58 #[.pointer (some ⟨gb,0,none⟩),.slice (some ⟨bb,0,none⟩) n n] w fun e w'=>e=.returned (.func (.func 98) #[] #[.pointer (some ⟨w.heap.size,0,none⟩),.pointer (some ⟨w.heap.size+1,0,none⟩)])∧w'.cell? ⟨w.heap.size,0,none⟩=some (.pointer (some ⟨gb,0,none⟩))∧w'.cell? ⟨w.heap.size+1,0,none⟩=some (.slice (some ⟨bb,0,none⟩) n n)∧w'.heap.size=w.heap.size+2∧Below w.heap.size w w':=by
 go_enter Tryz.func58,Tryz.ntmps58
 go_wp2
 go_ret
 have e1:(w.alloc (.cells #[.pointer (some ⟨gb,0,none⟩)] 59)).heap.size=w.heap.size+1:=by simp
 have h1:((w.alloc (.cells #[.pointer (some ⟨gb,0,none⟩)] 59)).alloc (.cells #[.slice (some ⟨bb,0,none⟩) n n] 28)).heap[w.heap.size]? = some (.cells #[.pointer (some ⟨gb,0,none⟩)] 59):=(Below.heap_alloc _ _ _ (by omega)).trans (Go.Deep.blk_alloc_new _ _)
 have h2:((w.alloc (.cells #[.pointer (some ⟨gb,0,none⟩)] 59)).alloc (.cells #[.slice (some ⟨bb,0,none⟩) n n] 28)).heap[w.heap.size+1]? = some (.cells #[.slice (some ⟨bb,0,none⟩) n n] 28):=by rw[← e1];exact Go.Deep.blk_alloc_new _ _
 exact⟨rfl,by unfold World.cell?;rw[h1];rfl,by unfold World.cell?;rw[h2];rfl,by simp,((Below.refl _ _).alloc (Nat.le_refl _) _).alloc (by omega) _⟩

set_option maxHeartbeats 1000000 in
set_option maxRecDepth 100000 in
theorem zi0 (G:Gm) (hG:GOk G) (ka pa ra qa:Option Addr) (kc pc rc qc gb ob ub:Nat) (M:Nat) (gx mx bb:Nat) (f:Nat→Bool) (q:Nat) (hq:q<G.prods.length) (w:World) (hM:M≤w.heap.size) (hg:GrAt M w G ka kc pa pc ra rc qa qc gb ob ub)
 (hgx:w.cell? ⟨gx,0,none⟩=some (.pointer (some ⟨gb,0,none⟩))) (hmx:w.cell? ⟨mx,0,none⟩=some (.slice (some ⟨bb,0,none⟩) G.rules.length G.rules.length)) (hbb:w.rowIs bb 4 G.rules.length (fun r=>.bool (f r))) :
 Calls Tryz.prog 98 (#[.int .i64 (q:Nat)] ++ #[.pointer (some ⟨gx,0,none⟩),.pointer (some ⟨mx,0,none⟩)]) w fun e w'=>e=.returned (.bool (!(zar G.nk (G.prods.getD q pd0).right).any (fun x=>!f x.toNat)))∧Below w.heap.size w w':=by
 show Calls Tryz.prog 98 #[.int .i64 (q:Nat),.pointer (some ⟨gx,0,none⟩),.pointer (some ⟨mx,0,none⟩)] w _
 obtain⟨pb,off,rfl,hbB,rr,rrc,x3,x4,x5,x6,n6,c6,hrr,-,q0,q1,q2,q3,q4,q5,q6⟩:=zbz hg.gin.prods hq
 have hgb:gb<w.heap.size:=by have:=hg.lt;omega
 have c0:w.cell? ⟨gb,0,none⟩=some (.slice ka G.kinds.length kc):=by unfold World.cell?;rw[hg.box];rfl
 have c3:w.cell? ⟨gb,3,none⟩=some (.slice (some ⟨pb,off,none⟩) G.prods.length qc):=by unfold World.cell?;rw[hg.box];rfl
 have hq':(q:Int)<G.prods.length:=by omega
 have hpr:=hG.pr _ (zag hq)
 have hpy:=hG.py _ (zag hq)
 have hrl:=zaR (nk:=G.nk) (G.prods.getD q pd0).right
 generalize G.prods.getD q pd0=p at *
 obtain⟨pl,prt,plv,pac⟩:=p
 simp only at q0 q1 q2 hpr hpy hrl hrr ⊢
 have Hrl:=zaa (fun(W:World) (hW:Below w.heap.size w W)=>zcI gb G.kinds.length ka kc hG.k3 rr rrc prt (by omega) (fun x hx=>by have:=hpy x hx;have:=hG.k3;have:=hG.r2;unfold Gm.nk Gm.nr at *;omega) W ((hW.cell (p:=⟨gb,0,none⟩) hgb).trans c0) (by have:=hW.size;omega) (zhH (zch (by omega) hrr) hW))
 have hgxl:gx<w.heap.size:=World.block_lt_of_cell? w _ hgx
 have hmxl:mx<w.heap.size:=World.block_lt_of_cell? w _ hmx
 have hS0:Hid (∀ W:World,Below w.heap.size w W→W.cell? ⟨gx,0,none⟩=some (.pointer (some ⟨gb,0,none⟩))∧W.cell? ⟨gb,3,none⟩=some (.slice (some ⟨pb,off,none⟩) G.prods.length qc)∧W.cell? ⟨pb,off+q * 7+1,none⟩=some (.slice rr prt.length rrc)):=zaa (fun W hW=>⟨(hW.cell (p:=⟨gx,0,none⟩) hgxl).trans hgx,(hW.cell (p:=⟨gb,3,none⟩) hgb).trans c3,(hW.cell (p:=⟨pb,off+q * 7+1,none⟩) (by show pb<w.heap.size;omega)).trans q1⟩)
 have Hcf:Hid (∀ (W:World) (a:Option Addr) (c:Nat),Below w.heap.size w W→NRow W.heap.size W a (zar G.kinds.length prt)→Calls Tryz.prog 99 #[.slice a (zar G.kinds.length prt).length c,.func (.func 100) #[] #[.pointer (some ⟨mx,0,none⟩)]] W fun e w'=>e=.returned (.bool ((zar G.kinds.length prt).any fun x=>!f x.toNat))∧w'=W):=zaa (fun W a c hW hr=>zfx 100 #[.pointer (some ⟨mx,0,none⟩)] (fun x=>!f x.toNat) zpM a c _ (by unfold Gm.nk at hrl;omega) W hr (fun x hx=>by
  unfold zar at hx
  obtain⟨y,hy,hx⟩:=List.mem_flatMap.1 hx
  have hy2:=hpy y hy
  split at hx
  ·rename_i hle
   rw[List.mem_singleton] at hx
   obtain⟨r,hr⟩:∃ r:Nat,x=(r:Int):=⟨x.toNat,by omega⟩
   have:=zhJ mx bb G.rules.length f r (by unfold Gm.nk Gm.nr at hy2;omega) W ((hW.cell (p:=⟨mx,0,none⟩) hmxl).trans hmx) (zaw hbb hW)
   rw[hr]
   simpa using this
  ·simp at hx))
 have hnot:=zaG
 have hS:Below w.heap.size w w.drew:=(Below.refl _ _).drew
 clear hrr hg hgx hmx hbb c0 c3 q0 q1 q2 q3 q4 q5 q6 hpy
 go_enter Tryz.func98,Tryz.ntmps98
 go_wp2
 go_region_held3 (fun W:World=>W.cell? ⟨gx,0,none⟩=some (.pointer (some ⟨gb,0,none⟩))∧W.cell? ⟨gb,3,none⟩=some (.slice (some ⟨pb,off,none⟩) G.prods.length qc)∧W.cell? ⟨pb,off+q * 7+1,none⟩=some (.slice rr prt.length rrc))
  (first | exact uh hS0 _ hS | fail)
  (first
   | (go_at_call 81;refine(uh Hrl _ hS).mono ?_;rintro e W3 ⟨v5,rfl,how5,hb3⟩;obtain⟨va,vc,rfl⟩:=zad how5;obtain⟨_,_,he5,hn5⟩:=zb2 how5;cases he5;have hS:=hS.trans (zab hb3 hS.size);clear hb3)
   | (go_at_call 99;refine(uh Hcf _ va vc hS hn5).mono ?_;rintro e W5 ⟨rfl,rfl⟩)
   | fail)
 all_goals
  go_wp2
  go_ret
  exact⟨rfl,hS⟩
theorem zl0 (G:Gm) (f:Nat→Bool) (p:Pd):(!(zar G.nk p.right).any (fun x=>!f x.toNat))=za9 G.nk f p.right:=by
 rw[Bool.eq_iff_iff,wholeB_iff,Bool.not_eq_true',List.any_eq_false]
 constructor
 ·intro h x hx hk
  have:=h (x - G.nk) (rulesL_mem.2 ⟨x,hx,hk,rfl⟩)
  simpa using this
 ·intro h y hy
  obtain⟨x,hx,hk,rfl⟩:=rulesL_mem.1 hy
  simpa using h x hx hk
theorem zmB {G:Gm} (hs:zcQ G G.start.toNat=true) {r:Nat} (h:zhu G r=true):zcQ G r=true:=by
 have h:=(zmC G _ r).1 h
 induction h with
 | start=>exact hs
 | step p hp ho h x hx hk _=>exact wholeB_iff.1 ho x hx hk
theorem zpr {G:Gm} (hs:zcQ G G.start.toNat=true) (r:Nat):zgj G r=zhu G r:=by
 unfold zgj
 cases h:zhu G r
 ·simp
 ·simp[zmB hs h]
theorem zpq {G:Gm} (hs:zcQ G G.start.toNat=true) (p:Pd):ziI G p=(zhu G p.left.toNat && za9 G.nk (zcQ G) p.right):=by
 unfold ziI
 cases h:zhu G p.left.toNat
 ·simp
 ·simp[zmB hs h]
theorem zgP (G:Gm) (hG:GOk G) (ka pa ra qa:Option Addr) (kc pc rc qc gb ob ub:Nat) (M:Nat) (gx mx bb:Nat) (w:World) (hM:M≤w.heap.size) (hg:GrAt M w G ka kc pa pc ra rc qa qc gb ob ub)
 (hgx:w.cell? ⟨gx,0,none⟩=some (.pointer (some ⟨gb,0,none⟩))) (hmx:w.cell? ⟨mx,0,none⟩=some (.slice (some ⟨bb,0,none⟩) G.rules.length G.rules.length)) (hbb:w.rowIs bb 4 G.rules.length (fun r=>.bool (zcQ G r))) (W:World) (q:Nat) (hq:q<G.prods.length) (hW:Below w.heap.size w W) :
 Calls Tryz.prog 98 (#[.int .i64 (q:Nat)] ++ #[.pointer (some ⟨gx,0,none⟩),.pointer (some ⟨mx,0,none⟩)]) W fun e w'=>e=.returned (.bool (za9 G.nk (zcQ G) (G.prods.getD q pd0).right))∧Below W.heap.size W w':=by
 have:=zi0 G hG ka pa ra qa kc pc rc qc gb ob ub M gx mx bb (zcQ G) q hq W (by have:=hW.size;omega) (zaJ hg (zab hW hM)) ((hW.cell (p:=⟨gx,0,none⟩) (World.block_lt_of_cell? w _ hgx)).trans hgx) ((hW.cell (p:=⟨mx,0,none⟩) (World.block_lt_of_cell? w _ hmx)).trans hmx) (zaw hbb hW)
 rw[zl0] at this
 exact this
theorem zfq (G:Gm) (hG:GOk G) (ka pa ra qa:Option Addr) (kc pc rc qc gb ob ub:Nat) (M:Nat) (gx mx bb:Nat) (w:World) (hM:M≤w.heap.size) (hg:GrAt M w G ka kc pa pc ra rc qa qc gb ob ub)
 (hgx:w.cell? ⟨gx,0,none⟩=some (.pointer (some ⟨gb,0,none⟩))) (hmx:w.cell? ⟨mx,0,none⟩=some (.slice (some ⟨bb,0,none⟩) G.rules.length G.rules.length)) (hbb:w.rowIs bb 4 G.rules.length (fun r=>.bool (zcQ G r))) :
 Calls Tryz.prog 32 #[.pointer (some ⟨gb,0,none⟩),.func (.func 98) #[] #[.pointer (some ⟨gx,0,none⟩),.pointer (some ⟨mx,0,none⟩)]] w fun e w'=>∃ b:Nat,e=.returned (.slice (some ⟨b,0,none⟩) G.rules.length G.rules.length)∧w'.rowIs b 4 G.rules.length (fun r=>.bool (zhu G r))∧w.heap.size≤b∧Below w.heap.size w w' :=
 zf6 G hG ka pa ra qa kc pc rc qc gb ob ub M 98 #[.pointer (some ⟨gx,0,none⟩),.pointer (some ⟨mx,0,none⟩)] (fun q=>za9 G.nk (zcQ G) (G.prods.getD q pd0).right) (fun p=>za9 G.nk (zcQ G) p.right) (fun _ _=>rfl) zn0 w hM hg (fun W q hq hW=>zgP G hG ka pa ra qa kc pc rc qc gb ob ub M gx mx bb w hM hg hgx hmx hbb W q hq hW)
end Go.Proofs.YtagohbpbgjelaaaGreatDoor

namespace Go.Proofs.YtagohbpbgjelaaaGreatDoor
open Go.RowKit

set_option maxHeartbeats 2000000 in
set_option maxRecDepth 100000 in
theorem znj (G:Gm) (hc:za6 G=false) (ka pa ra qa:Option Addr) (kc pc rc qc:Nat) (w:World) (hin:GIn w.heap.size w G ka pa ra qa) (hsm:smG G):Calls Tryz.prog 20 #[gV G ka pa ra qa kc pc rc qc] w fun e w'=>e=.returned (.tuple #[.slice none 0 0,.int .i64 130])∧Below w.heap.size w w':=by
 have hst:=zbt (kc:=kc) (pc:=pc) (rc:=rc) (qc:=qc) (Nat.le_refl _) hin 26
 have hb1:Below w.heap.size w (w.alloc (.cells #[.slice ka G.kinds.length kc,.slice pa G.precs.length pc,.slice ra G.rules.length rc,.slice qa G.prods.length qc,.int .i64 G.start] 26)):=(Below.refl _ _).alloc (Nat.le_refl _) _
 have HM:=zaa (zcL G ka pa ra qa kc pc rc qc _ (zbD hin hb1) hsm)
 rw[hc] at HM
 have Hb1:=zaa hb1
 have hnot:=zaG
 clear hst hb1 hin hsm hc
 go_enter Tryz.func20,Tryz.ntmps20
 go_wp2_with fail
 refine(uh HM).mono ?_
 rintro e w2 ⟨rfl,hb2⟩
 have Hb2:=zaa ((uh Hb1).trans (zab hb2 (by simp)))
 clear hb2
 go_wp2
 refine bodyPost_ret (v:=.tuple #[.slice none 0 0,.int .i64 130]) ?zz9 rfl ⟨rfl,uh Hb2⟩
 case zz9=>simp[results,Tryz.results20,go_sem]
end Go.Proofs.YtagohbpbgjelaaaGreatDoor

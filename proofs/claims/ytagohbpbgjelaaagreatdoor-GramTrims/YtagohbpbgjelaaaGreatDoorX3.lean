/- The document's Trim and Lines, of any grammar. -/
import Derived.Test.YtagohbpbgjelaaaGreatDoorX2
import Derived.Test.YtagohbpbgjelaaaGreatDoorU2
import Derived.Test.YtagohbpbgjelaaaGreatDoorO2
namespace Go.Proofs.YtagohbpbgjelaaaGreatDoor
open Go.RowKit

def gm0:Gm:=⟨[],[],[],[],0⟩
set_option maxRecDepth 100000 in
theorem zfP {G:Gm} {ka pa ra qa:Option Addr} (kc pc rc qc:Nat) {B:Nat} {w:World} (hB:B≤w.heap.size) (hin:GIn B w G ka pa ra qa):∃ w1,w1=(w.alloc (.cells #[.slice ka G.kinds.length kc,.slice pa G.precs.length pc,.slice ra G.rules.length rc,.slice qa G.prods.length qc,.int .i64 G.start] 26)).alloc (.cells #[.slice none 0 0,.slice none 0 0,.slice none 0 0,.slice none 0 0,.int .i64 0] 26)∧GSt B w1 G ka kc pa pc ra rc qa qc w.heap.size∧Below w.heap.size w w1∧w1.heap.size=w.heap.size+2∧w1.heap[w.heap.size+1]? = some (.cells #[.slice none 0 0,.slice none 0 0,.slice none 0 0,.slice none 0 0,.int .i64 0] 26):=by
 have hst:=zbt (kc:=kc) (pc:=pc) (rc:=rc) (qc:=qc) hB hin 26
 have h1:(w.alloc (.cells #[.slice ka G.kinds.length kc,.slice pa G.precs.length pc,.slice ra G.rules.length rc,.slice qa G.prods.length qc,.int .i64 G.start] 26)).heap.size=w.heap.size+1:=by simp
 refine⟨_,rfl,zan ((Below.refl _ _).alloc (by omega) _) hB hst,((Below.refl _ _).alloc (Nat.le_refl _) _).alloc (by omega) _,by simp,?_⟩
 rw[← h1]
 exact Go.Deep.blk_alloc_new _ _

set_option maxHeartbeats 2000000 in
set_option maxRecDepth 100000 in
theorem zoN (G:Gm) (hc:za6 G=false) (ka pa ra qa:Option Addr) (kc pc rc qc:Nat) (B:Nat) (w:World) (hB:B≤w.heap.size) (hin:GIn B w G ka pa ra qa) (hsm:∀ p,p ∈ G.prods→p.right.length≤281474976710656) :
 Calls Tryz.prog 19 #[.agg #[.slice ka G.kinds.length kc,.slice pa G.precs.length pc,.slice ra G.rules.length rc,.slice qa G.prods.length qc,.int .i64 G.start]] w fun e w'=>e=.returned (.tuple #[.agg #[.slice none 0 0,.slice none 0 0,.slice none 0 0,.slice none 0 0,.int .i64 0],.int .i64 130])∧Below w.heap.size w w':=by
 obtain⟨w1,hw1,hst,hb1,hs1,hbx⟩:=zfP kc pc rc qc hB hin
 have d0:=hst.c0;have d1:=hst.c1;have d2:=hst.c2;have d3:=hst.c3;have d4:=hst.c4
 have hC:=zdc G ka pa ra qa kc pc rc qc B w1 (by omega) hst.gin hsm
 rw[show zbp G=130 by unfold zbp;rw[hc];rfl] at hC
 have HC:=zaa hC
 have Hb1:=zaa hb1;have Hbx:=zaa hbx
 clear hst hC hb1 hin hsm hc hbx
 go_enter Tryz.func19,Tryz.ntmps19
 rw[hw1] at d0 d1 d2 d3 d4
 go_wp2_with fail
 rw[← hw1]
 clear d0 d1 d2 d3 d4 hw1
 refine(uh HC).mono ?_
 rintro e w2 ⟨rfl,hb2⟩
 have hbx2:=zaP (uh Hbx) hb2
 obtain⟨r0,r1,r2,r3,r4,z0,z1,z2,z3,z4⟩:=zae hbx2
 have h5:=zgJ hbx2 (.slice none 0 0) (.slice none 0 0) (.slice none 0 0) (.slice none 0 0) (.int .i64 0)
 have Hb2:=zaa hb2;have Hh5:=zaa h5
 have hs2:=hb2.size
 clear hb2 hbx2 h5
 go_wp2
 obtain⟨WF,hWF⟩:∃ WF,WF=((((w2.setCell ⟨w.heap.size+1,0,none⟩ (.slice none 0 0)).setCell ⟨w.heap.size+1,1,none⟩ (.slice none 0 0)).setCell ⟨w.heap.size+1,2,none⟩ (.slice none 0 0)).setCell ⟨w.heap.size+1,3,none⟩ (.slice none 0 0)).setCell ⟨w.heap.size+1,4,none⟩ (.int .i64 0):=⟨_,rfl⟩
 have h5:=uh Hh5
 rw[← hWF] at h5 ⊢
 obtain⟨y0,y1,y2,y3,y4,-⟩:=zae h5.1
 refine bodyPost_ret (v:=.tuple #[.agg #[.slice none 0 0,.slice none 0 0,.slice none 0 0,.slice none 0 0,.int .i64 0],.int .i64 130]) ?zz8 rfl ⟨rfl,(uh Hb1).trans ((zab (uh Hb2) (by omega)).trans (zah h5.2 (by omega) (fun j hj=>by have hj:j=w.heap.size+1:=hj;omega)))⟩
 case zz8=>simp[results,Tryz.results19,go_sem,y0,y1,y2,y3,y4]

set_option maxHeartbeats 2000000 in
set_option maxRecDepth 100000 in
theorem zlb (G:Gm) (hc:za6 G=true) (hgs:zcQ G G.start.toNat=false) (ka pa ra qa:Option Addr) (kc pc rc qc:Nat) (B:Nat) (w:World) (hB:B≤w.heap.size) (hin:GIn B w G ka pa ra qa) :
 Calls Tryz.prog 19 #[.agg #[.slice ka G.kinds.length kc,.slice pa G.precs.length pc,.slice ra G.rules.length rc,.slice qa G.prods.length qc,.int .i64 G.start]] w fun e w'=>e=.returned (.tuple #[.agg #[.slice none 0 0,.slice none 0 0,.slice none 0 0,.slice none 0 0,.int .i64 0],.int .i64 8])∧Below w.heap.size w w':=by
 obtain⟨w1,hw1,hst,hb1,hs1,hbx⟩:=zfP kc pc rc qc hB hin
 have hG:=zbS hc
 have hst0:=hG.s0;have hst1:=hG.s1
 unfold Gm.nr at hst1
 have d0:=hst.c0;have d1:=hst.c1;have d2:=hst.c2;have d3:=hst.c3;have d4:=hst.c4
 have hC:=zdc G ka pa ra qa kc pc rc qc B w1 (by omega) hst.gin (fun p hp=>by have:=hG.pr p hp;omega)
 rw[show zbp G=0 by unfold zbp;rw[hc];rfl] at hC
 have HC:=zaa hC
 obtain⟨st,hse⟩:∃ st:Nat,G.start=(st:Int):=⟨G.start.toNat,by omega⟩
 have hst':st<G.rules.length:=by omega
 have hst'':(st:Int)<G.rules.length:=by omega
 rw[hse,Int.toNat_natCast] at hgs
 have Hgs:=zaa hgs;have Hse:=zaa hse
 have Hb1:=zaa hb1;have Hbx:=zaa hbx;have HG:=zaa hG;have Hst:=zaa hst
 have hnot:=zaG
 clear hst hC hb1 hin hc hbx hG hgs hse
 go_enter Tryz.func19,Tryz.ntmps19
 rw[hw1] at d0 d1 d2 d3 d4
 go_wp2_with fail
 rw[← hw1]
 clear d0 d1 d2 d3 d4 hw1
 refine(uh HC).mono ?_
 rintro e w2 ⟨rfl,hb2⟩
 have hs2:=hb2.size
 have hst2:=zan (zab hb2 (by omega)) hB (uh Hst)
 have d0:=hst2.c0;have d1:=hst2.c1;have d2:=hst2.c2;have d3:=hst2.c3;have d4:=hst2.c4
 have HP:=zaa (zdB G (uh HG) ka pa ra qa kc pc rc qc B w2 (by omega) hst2.gin)
 have Hst2:=zaa hst2;have Hb2:=zaa hb2
 clear hst2 hb2 HC
 go_wp2_with fail
 clear d0 d1 d2 d3 d4
 refine(uh HP).mono ?_
 rintro e w3 ⟨mb,rfl,hmb,hmr,hb3⟩
 have hst3:=zan (zab hb3 (by omega)) hB (uh Hst2)
 have d4:=hst3.c4
 rw[uh Hse] at d4
 have cg:=hmr.cell (show st<G.nr from hst')
 rw[uh Hgs] at cg
 have hbx3:=zaP (zaP (uh Hbx) (uh Hb2)) hb3
 obtain⟨r0,r1,r2,r3,r4,z0,z1,z2,z3,z4⟩:=zae hbx3
 have h5:=zgJ hbx3 (.slice none 0 0) (.slice none 0 0) (.slice none 0 0) (.slice none 0 0) (.int .i64 0)
 have Hb3:=zaa hb3;have Hh5:=zaa h5
 have hs3:=hb3.size
 clear hb3 hbx3 h5 hst3 hmr HP
 go_wp2
 obtain⟨WF,hWF⟩:∃ WF,WF=((((w3.setCell ⟨w.heap.size+1,0,none⟩ (.slice none 0 0)).setCell ⟨w.heap.size+1,1,none⟩ (.slice none 0 0)).setCell ⟨w.heap.size+1,2,none⟩ (.slice none 0 0)).setCell ⟨w.heap.size+1,3,none⟩ (.slice none 0 0)).setCell ⟨w.heap.size+1,4,none⟩ (.int .i64 0):=⟨_,rfl⟩
 have h5:=uh Hh5
 rw[← hWF] at h5 ⊢
 obtain⟨y0,y1,y2,y3,y4,-⟩:=zae h5.1
 refine bodyPost_ret (v:=.tuple #[.agg #[.slice none 0 0,.slice none 0 0,.slice none 0 0,.slice none 0 0,.int .i64 0],.int .i64 8]) ?zz8 rfl ⟨rfl,(uh Hb1).trans ((zab (uh Hb2) (by omega)).trans ((zab (uh Hb3) (by omega)).trans (zah h5.2 (by omega) (fun j hj=>by have hj:j=w.heap.size+1:=hj;omega))))⟩
 case zz8=>simp[results,Tryz.results19,go_sem,y0,y1,y2,y3,y4]

open Classical in
noncomputable def trG (G:Gm):Gm:=if za6 G=true∧zcQ G G.start.toNat=true then zbB G else gm0
noncomputable def trV (G:Gm):Int:=if za6 G=true then(if zcQ G G.start.toNat=true then 0 else 8) else 130
def zpU (fn:Nat):Prop:=∀ (G:Gm) (ka pa ra qa:Option Addr) (kc pc rc qc:Nat) (w:World) (_:GIn w.heap.size w G ka pa ra qa) (_:smG G),Calls Tryz.prog fn #[gV G ka pa ra qa kc pc rc qc] w fun e w' =>
 ∃ ka' pa' ra' qa' kc' pc' rc' qc',e=.returned (.tuple #[gV (trG G) ka' pa' ra' qa' kc' pc' rc' qc',.int .i64 (trV G)])∧GIn w'.heap.size w' (trG G) ka' pa' ra' qa'∧Below w.heap.size w w'
set_option maxRecDepth 100000 in
theorem gin0 (w:World) (ht:Tb w.heap.size w):GIn w.heap.size w gm0 none none none none:=⟨.inl rfl,.inl rfl,.inl rfl,.inl rfl,ht⟩
set_option maxRecDepth 100000 in
theorem zqx:zpU 19:=fun G ka pa ra qa kc pc rc qc w hin hsm=>by
 cases hc:za6 G
 ·refine(zoN G hc ka pa ra qa kc pc rc qc w.heap.size w (Nat.le_refl _) hin hsm).mono ?_
  rintro e w' ⟨rfl,hb⟩
  have e1:trG G=gm0:=by unfold trG;rw[if_neg (fun h=>by rw[hc] at h;cases h.1)]
  have e2:trV G=130:=by unfold trV;rw[hc];rfl
  rw[e1,e2]
  exact⟨none,none,none,none,0,0,0,0,rfl,gin0 w' (ze6 hin.tab (Nat.le_refl _) hb),hb⟩
 ·cases hs:zcQ G G.start.toNat
  ·refine(zlb G hc hs ka pa ra qa kc pc rc qc w.heap.size w (Nat.le_refl _) hin).mono ?_
   rintro e w' ⟨rfl,hb⟩
   have e1:trG G=gm0:=by unfold trG;rw[if_neg (fun h=>by rw[hs] at h;cases h.2)]
   have e2:trV G=8:=by unfold trV;rw[hc,hs];rfl
   rw[e1,e2]
   exact⟨none,none,none,none,0,0,0,0,rfl,gin0 w' (ze6 hin.tab (Nat.le_refl _) hb),hb⟩
  ·refine(zmD G hc hs ka pa ra qa kc pc rc qc w.heap.size w (Nat.le_refl _) hin).mono ?_
   rintro e w' ⟨ka',pa',ra',qa',kc',pc',rc',qc',rfl,hg,hb⟩
   have e1:trG G=zbB G:=by unfold trG;rw[if_pos ⟨hc,hs⟩]
   have e2:trV G=0:=by unfold trV;rw[hc,hs];rfl
   rw[e1,e2]
   exact⟨ka',pa',ra',qa',kc',pc',rc',qc',rfl,hg,hb⟩
set_option maxRecDepth 100000 in
theorem zg2 {G:Gm} {p:Pd}:∀ k,k≤G.prods.length→p ∈ zaB G k→∃ q,q ∈ G.prods∧p=pdT G q
 | 0,_,h=>by unfold zaB at h;simp at h
 | k+1,hk,h=>by
   unfold zaB at h
   rw[List.mem_append] at h
   rcases h with h | h
   ·exact zg2 k (by omega) h
   ·split at h
    ·simp at h
     exact⟨_,zag (show k<G.prods.length by omega),by simpa using h⟩
    ·simp at h
set_option maxRecDepth 100000 in
theorem tr_ok {G:Gm} (hac:acG G):lenG (trG G)∧∀ p,p ∈ (trG G).prods→p.right.length≤281474976710656∧zb5 p.act:=by
 unfold trG
 split
 ·rename_i h
  have hG:=zbS h.1
  have h1:=hG.k3;have h2:=hG.r2;have h3:=hG.ps
  have h4:=zdb G G.nr;have h5:=zeH G G.prods.length
  have h6:G.precs.length=G.kinds.length:=(of_decide_eq_true h.1).2.1
  unfold Gm.nk at h1
  unfold Gm.nr at h2 h4
  refine⟨⟨by show G.kinds.length≤_;omega,by show G.precs.length≤_;omega,by show (zap G G.rules.length).length≤_;omega,by show (zaB G G.prods.length).length≤_;omega⟩,fun p hp=>?_⟩
  obtain⟨q,hq,rfl⟩:=zg2 G.prods.length (Nat.le_refl _) hp
  have:=hG.pr q hq
  exact⟨by show (q.right.map (zda G)).length≤_;rw[List.length_map];omega,hac q hq⟩
 ·exact⟨⟨by simp[gm0],by simp[gm0],by simp[gm0],by simp[gm0]⟩,fun p hp=>by simp[gm0] at hp⟩
noncomputable def lnL (G:Gm):List (List UInt8):=if za6 G then zdv G else[]
def zkU (fn:Nat):Prop:=∀ (G:Gm) (ka pa ra qa:Option Addr) (kc pc rc qc:Nat) (w:World) (_:GIn w.heap.size w G ka pa ra qa) (_:smG G),Calls Tryz.prog fn #[gV G ka pa ra qa kc pc rc qc] w fun e w' =>
 ∃ a c,e=.returned (.tuple #[.slice a (lnL G).length c,.int .i64 (zbp G)])∧zez w'.heap.size w' a (lnL G)∧Below w.heap.size w w'
set_option maxRecDepth 100000 in
theorem zpl:zkU 21:=fun G ka pa ra qa kc pc rc qc w hin hsm=>by
 cases hc:za6 G
 ·refine(zmG G hc ka pa ra qa kc pc rc qc w.heap.size w (Nat.le_refl _) hin hsm).mono ?_
  rintro e w' ⟨rfl,hb⟩
  have e1:lnL G=[]:=by unfold lnL;rw[hc];rfl
  have e2:zbp G=130:=by unfold zbp;rw[hc];rfl
  rw[e1,e2]
  exact⟨none,0,rfl,.inl rfl,hb⟩
 ·refine(zle G hc ka pa ra qa kc pc rc qc w.heap.size w (Nat.le_refl _) hin).mono ?_
  rintro e w' ⟨a,c,rfl,hs,hb⟩
  have e1:lnL G=zdv G:=by unfold lnL;rw[hc];rfl
  have e2:zbp G=0:=by unfold zbp;rw[hc];rfl
  rw[e1,e2]
  exact⟨a,c,rfl,hs,hb⟩
set_option maxRecDepth 100000 in
theorem ln_len {G:Gm}:(lnL G).length≤4096:=by
 unfold lnL
 cases hc:za6 G
 ·simp
 ·have:=(zbS hc).ps
  simp[zdv]
  exact this
end Go.Proofs.YtagohbpbgjelaaaGreatDoor

namespace Go.Proofs.YtagohbpbgjelaaaGreatDoor
open Go.RowKit

set_option maxHeartbeats 4000000 in
set_option maxRecDepth 100000 in
theorem zkY (hT:zpU 18) (hN:zkU 20) (hLY:zic 9) (hMY:zfH 24) (G:Gm) (ka pa ra qa:Option Addr) (kc pc rc qc:Nat) (w:World) (hin:GIn w.heap.size w G ka pa ra qa) (hsm:smG G) (hac:acG G) :
 Calls Tryz.prog 4 #[.agg #[.slice ka G.kinds.length kc,.slice pa G.precs.length pc,.slice ra G.rules.length rc,.slice qa G.prods.length qc,.int .i64 G.start]] w fun e w'=>e=.returned (.bool true)∧Below w.heap.size w w':=by
 have hst:=zbt (kc:=kc) (pc:=pc) (rc:=rc) (qc:=qc) (Nat.le_refl _) hin 26
 have hb1:=(Below.refl w.heap.size w).alloc (Nat.le_refl _) (.cells #[.slice ka G.kinds.length kc,.slice pa G.precs.length pc,.slice ra G.rules.length rc,.slice qa G.prods.length qc,.int .i64 G.start] 26)
 have hs1:(w.alloc (.cells #[.slice ka G.kinds.length kc,.slice pa G.precs.length pc,.slice ra G.rules.length rc,.slice qa G.prods.length qc,.int .i64 G.start] 26)).heap.size=w.heap.size+1:=by simp
 have d0:=hst.c0;have d1:=hst.c1;have d2:=hst.c2;have d3:=hst.c3;have d4:=hst.c4
 have HN:=zaa hN;have HAw:=zaa (fun(W:World) (hW:Below w.heap.size w W)=>zn9 hLY hMY W (ze6 hin.tab (Nat.le_refl _) hW));have Htr:=zaa (tr_ok hac)
 have H1:=zaa (hT G ka pa ra qa kc pc rc qc _ (zbD hin hb1) hsm)
 have Hin:=zaa hin;have Hsm:=zaa hsm;have Hb1:=zaa hb1;have Hst:=zaa hst
 clear hT hN hLY hMY hin hsm hb1 hst hac
 go_enter Tryz.func4,Tryz.ntmps4
 go_wp2_with fail
 clear d0 d1 d2 d3 d4
 generalize w.alloc (.cells #[.slice ka G.kinds.length kc,.slice pa G.precs.length pc,.slice ra G.rules.length rc,.slice qa G.prods.length qc,.int .i64 G.start] 26)=w1 at *
 refine(uh H1).mono ?_
 rintro e w2 ⟨a0,a1,a2,a3,m0,m1,m2,m3,rfl,hg2,hb2⟩
 obtain⟨w3,hw3⟩:∃ w3,w3=w2.alloc (.cells #[.slice a0 (trG G).kinds.length m0,.slice a1 (trG G).precs.length m1,.slice a2 (trG G).rules.length m2,.slice a3 (trG G).prods.length m3,.int .i64 (trG G).start] 26):=⟨_,rfl⟩
 have hb3:Below w2.heap.size w2 w3:=by rw[hw3];exact(Below.refl _ _).alloc (Nat.le_refl _) _
 have hs3:w3.heap.size=w2.heap.size+1:=by rw[hw3];simp
 have hx3:w3.heap[w2.heap.size]? = some (.cells #[.slice a0 (trG G).kinds.length m0,.slice a1 (trG G).precs.length m1,.slice a2 (trG G).rules.length m2,.slice a3 (trG G).prods.length m3,.int .i64 (trG G).start] 26):=by rw[hw3];exact Go.Deep.blk_alloc_new _ _
 have hs2:=hb2.size
 have hb13:=hb2.trans (zab hb3 (by omega))
 have hst3:=zan (zab hb13 (by omega)) (Nat.le_refl _) (uh Hst)
 have d0:=hst3.c0;have d1:=hst3.c1;have d2:=hst3.c2;have d3:=hst3.c3;have d4:=hst3.c4
 have hbw3:=(uh Hb1).trans (zab hb13 (by omega))
 have H2:=zaa (zqx G ka pa ra qa kc pc rc qc w3 (zbD (uh Hin) hbw3) (uh Hsm))
 have Hg3:=zaa (zbD hg2 hb3);have Hx3:=zaa hx3;have Hb3:=zaa hbw3;have Hst3:=zaa hst3
 rw[hw3] at d0 d1 d2 d3 d4
 clear hg2 hb2 hb3 hx3 hb13 hst3 hbw3 H1
 go_wp2_with fail
 rw[← hw3]
 clear d0 d1 d2 d3 d4 hw3
 refine(uh H2).mono ?_
 rintro e w4 ⟨b0,b1,b2,b3,n0,n1,n2,n3,rfl,hg4,hb4⟩
 obtain⟨w5,hw5⟩:∃ w5,w5=w4.alloc (.cells #[.slice b0 (trG G).kinds.length n0,.slice b1 (trG G).precs.length n1,.slice b2 (trG G).rules.length n2,.slice b3 (trG G).prods.length n3,.int .i64 (trG G).start] 26):=⟨_,rfl⟩
 have hb5:Below w4.heap.size w4 w5:=by rw[hw5];exact(Below.refl _ _).alloc (Nat.le_refl _) _
 have hs5:w5.heap.size=w4.heap.size+1:=by rw[hw5];simp
 have hx5:w5.heap[w4.heap.size]? = some (.cells #[.slice b0 (trG G).kinds.length n0,.slice b1 (trG G).precs.length n1,.slice b2 (trG G).rules.length n2,.slice b3 (trG G).prods.length n3,.int .i64 (trG G).start] 26):=by rw[hw5];exact Go.Deep.blk_alloc_new _ _
 have hs4:=hb4.size
 have hb35:=hb4.trans (zab hb5 (by omega))
 have hst5:=zan (zab hb35 (by omega)) (Nat.le_refl _) (uh Hst3)
 have d0:=hst5.c0;have d1:=hst5.c1;have d2:=hst5.c2;have d3:=hst5.c3;have d4:=hst5.c4
 have hbw5:=(uh Hb3).trans (zab hb35 (by omega))
 have H3:=zaa (uh HN G ka pa ra qa kc pc rc qc w5 (zbD (uh Hin) hbw5) (uh Hsm))
 have Hg5:=zaa (show GIn w5.heap.size w5 (trG G) a0 a1 a2 a3∧GIn w5.heap.size w5 (trG G) b0 b1 b2 b3 from⟨zbD (uh Hg3) hb35,zbD hg4 hb5⟩)
 have Hx5:=zaa (show w5.heap[w2.heap.size]? = some (.cells #[.slice a0 (trG G).kinds.length m0,.slice a1 (trG G).precs.length m1,.slice a2 (trG G).rules.length m2,.slice a3 (trG G).prods.length m3,.int .i64 (trG G).start] 26)∧w5.heap[w4.heap.size]? = some (.cells #[.slice b0 (trG G).kinds.length n0,.slice b1 (trG G).precs.length n1,.slice b2 (trG G).rules.length n2,.slice b3 (trG G).prods.length n3,.int .i64 (trG G).start] 26) from⟨zaP (uh Hx3) hb35,hx5⟩)
 have Hb5:=zaa hbw5;have Hst5:=zaa hst5
 rw[hw5] at d0 d1 d2 d3 d4
 clear hg4 hb4 hb5 hx5 hb35 hst5 hbw5 H2 Hg3 Hx3 Hb3 Hst3
 go_wp2_with fail
 rw[← hw5]
 clear d0 d1 d2 d3 d4 hw5
 refine(uh H3).mono ?_
 rintro e w6 ⟨la,lc,rfl,hr6,hb6⟩
 have hs6:=hb6.size
 have hst6:=zan (zab hb6 (by omega)) (Nat.le_refl _) (uh Hst5)
 have d0:=hst6.c0;have d1:=hst6.c1;have d2:=hst6.c2;have d3:=hst6.c3;have d4:=hst6.c4
 have hbw6:=(uh Hb5).trans (zab hb6 (by omega))
 have H4:=zaa (zpl G ka pa ra qa kc pc rc qc w6 (zbD (uh Hin) hbw6) (uh Hsm))
 have Hr6:=zaa hr6;have Hb6:=zaa hb6;have Hbw6:=zaa hbw6
 clear hr6 hb6 hst6 hbw6 H3
 go_wp2_with fail
 clear d0 d1 d2 d3 d4
 refine(uh H4).mono ?_
 rintro e w7 ⟨ma,mc,rfl,hr7,hb7⟩
 have hs7:=hb7.size
 have hb57:=(uh Hb6).trans (zab hb7 (by omega))
 have hxa:=zaP (uh Hx5).1 hb57
 have hxb:=zaP (uh Hx5).2 hb57
 obtain⟨p0,p1,p2,p3,p4,-⟩:=zae hxa
 obtain⟨q0,q1,q2,q3,q4,-⟩:=zae hxb
 obtain⟨⟨t1,t2,t3,t4⟩,t5⟩:=uh Htr
 have HSm:=zaa (zoO (trG G) a0 a1 a2 a3 b0 b1 b2 b3 m0 m1 m2 m3 n0 n1 n2 n3 w7 (zbD (uh Hg5).1 hb57) (zbD (uh Hg5).2 hb57) t1 t3 t2 t4 t5)
 have HSt:Hid (∀ W:World,Below w7.heap.size w7 W→Calls Tryz.prog 23 #[.slice la (lnL G).length lc,.slice ma (lnL G).length mc] W fun e w'=>e=.returned (.bool true)∧∃ q,w'=W.drewN q):=zaa (fun W hW=>zhv la ma lc mc (lnL G) (by have:=ln_len (G:=G);omega) W (zet (zet (uh Hr6) hb7) hW) (zet hr7 hW))
 have Hbw7:=zaa ((uh Hbw6).trans (zab hb7 (by omega)))
 clear hr7 hb7 hb57 hxa hxb H4 HN Hg5 Hx5 t1 t2 t3 t4 t5 Hr6
 generalize trV G=tv at *
 generalize zbp G=cv at *
 generalize lnL G=L at *
 go_wp2_with fail
 refine(uh HSm).mono ?_
 rintro e w8 ⟨rfl,hb8⟩
 have HSt8:=zaa (uh HSt w8 hb8)
 have Hbw8:=zaa ((uh Hbw7).trans (zab hb8 (by omega)))
 have hs8:=hb8.size
 clear hb8 HSt HSm p0 p1 p2 p3 p4 q0 q1 q2 q3 q4
 go_wp2_with fail
 refine(uh HSt8).mono ?_
 rintro e w9 ⟨rfl,q,rfl⟩
 go_wp2_with fail
 refine(uh HAw _ (zaq (uh Hbw8) q)).mono ?_
 rintro e w10 ⟨rfl,hb10⟩
 have Hb10:=zaa ((zaq (uh Hbw8) q).trans (zab hb10 (by show w.heap.size≤w8.heap.size;omega)))
 clear hb10
 go_wp2
 go_ret
 exact⟨rfl,uh Hb10⟩
end Go.Proofs.YtagohbpbgjelaaaGreatDoor

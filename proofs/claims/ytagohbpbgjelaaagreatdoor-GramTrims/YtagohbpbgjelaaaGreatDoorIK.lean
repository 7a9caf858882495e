/- The code's Trim, where it is refused. -/
import Derived.Test.YtagohbpbgjelaaaGreatDoorJA
import Derived.Test.YtagohbpbgjelaaaGreatDoorX3
import Derived.Test.YtagohbpbgjelaaaGreatDoorLJ
import Derived.Test.YtagohbpbgjelaaaGreatDoorLC
import Derived.Test.YtagohbpbgjelaaaGreatDoorGI
namespace Go.Proofs.YtagohbpbgjelaaaGreatDoor
open Go.RowKit

set_option maxHeartbeats 2000000 in
set_option maxRecDepth 100000 in
theorem zoB (G:Gm) (hc:za6 G=false) (ka pa ra qa:Option Addr) (kc pc rc qc:Nat) (w:World) (hin:GIn w.heap.size w G ka pa ra qa) (hsm:∀ p,p ∈ G.prods→p.right.length≤281474976710656) :
 Calls Tryz.prog 18 #[.agg #[.slice ka G.kinds.length kc,.slice pa G.precs.length pc,.slice ra G.rules.length rc,.slice qa G.prods.length qc,.int .i64 G.start]] w fun e w'=>e=.returned (.tuple #[.agg #[.slice none 0 0,.slice none 0 0,.slice none 0 0,.slice none 0 0,.int .i64 0],.int .i64 130])∧Below w.heap.size w w':=by
 obtain⟨w1,hw1,hst,hb1,hs1,hbx⟩:=zfP kc pc rc qc (Nat.le_refl _) hin
 have d0:=hst.c0;have d1:=hst.c1;have d2:=hst.c2;have d3:=hst.c3;have d4:=hst.c4
 have hC:=zcL G ka pa ra qa kc pc rc qc w1 (zbD hin hb1) hsm
 rw[hc] at hC
 have hnot:=zaG
 have HC:=zaa hC
 have Hb1:=zaa hb1;have Hbx:=zaa hbx
 clear hst hC hb1 hin hsm hc hbx
 go_enter Tryz.func18,Tryz.ntmps18
 rw[hw1] at d0 d1 d2 d3 d4
 go_wp2_with fail
 rw[← hw1]
 clear d0 d1 d2 d3 d4 hw1
 refine(uh HC).mono ?_
 rintro e w2 ⟨rfl,hb2⟩
 have hbx2:=zaP (uh Hbx) hb2
 obtain⟨r0,r1,r2,r3,r4,z0,z1,z2,z3,z4⟩:=zae hbx2
 have h5:=zgJ hbx2 (.slice none 0 0) (.slice none 0 0) (.slice none 0 0) (.slice none 0 0) (.int .i64 0)
 have Hb2:=zaa hb2;have Hh5:=zaa h5
 have hs2:=hb2.size
 clear hb2 hbx2 h5
 go_wp2
 obtain⟨WF,hWF⟩:∃ WF,WF=((((w2.setCell ⟨w.heap.size+1,0,none⟩ (.slice none 0 0)).setCell ⟨w.heap.size+1,1,none⟩ (.slice none 0 0)).setCell ⟨w.heap.size+1,2,none⟩ (.slice none 0 0)).setCell ⟨w.heap.size+1,3,none⟩ (.slice none 0 0)).setCell ⟨w.heap.size+1,4,none⟩ (.int .i64 0):=⟨_,rfl⟩
 have h5:=uh Hh5
 rw[← hWF] at h5 ⊢
 obtain⟨y0,y1,y2,y3,y4,-⟩:=zae h5.1
 refine bodyPost_ret (v:=.tuple #[.agg #[.slice none 0 0,.slice none 0 0,.slice none 0 0,.slice none 0 0,.int .i64 0],.int .i64 130]) ?zz8 rfl ⟨rfl,(uh Hb1).trans ((zab (uh Hb2) (by omega)).trans (zah h5.2 (by omega) (fun j hj=>by have hj:j=w.heap.size+1:=hj;omega)))⟩
 case zz8=>simp[results,Tryz.results18,go_sem,y0,y1,y2,y3,y4]

set_option maxHeartbeats 2000000 in
set_option maxRecDepth 100000 in
theorem zkZ (G:Gm) (hc:za6 G=true) (hgs:zcQ G G.start.toNat=false) (ka pa ra qa:Option Addr) (kc pc rc qc:Nat) (w:World) (hin:GIn w.heap.size w G ka pa ra qa) :
 Calls Tryz.prog 18 #[.agg #[.slice ka G.kinds.length kc,.slice pa G.precs.length pc,.slice ra G.rules.length rc,.slice qa G.prods.length qc,.int .i64 G.start]] w fun e w'=>e=.returned (.tuple #[.agg #[.slice none 0 0,.slice none 0 0,.slice none 0 0,.slice none 0 0,.int .i64 0],.int .i64 8])∧Below w.heap.size w w':=by
 obtain⟨w1,hw1,hst,hb1,hs1,hbx⟩:=zfP kc pc rc qc (Nat.le_refl _) hin
 have hG:=zbS hc
 have hst0:=hG.s0;have hst1:=hG.s1
 unfold Gm.nr at hst1
 have d0:=hst.c0;have d1:=hst.c1;have d2:=hst.c2;have d3:=hst.c3;have d4:=hst.c4
 have hC:=zcL G ka pa ra qa kc pc rc qc w1 (zbD hin hb1) (fun p hp=>by have:=hG.pr p hp;omega)
 rw[hc] at hC
 have HC:=zaa hC
 obtain⟨st,hse⟩:∃ st:Nat,G.start=(st:Int):=⟨G.start.toNat,by omega⟩
 have hst':st<G.rules.length:=by omega
 have hst'':(st:Int)<G.rules.length:=by omega
 rw[hse,Int.toNat_natCast] at hgs
 have Hin:=zaa hin;have Hgs:=zaa hgs;have Hse:=zaa hse
 have Hb1:=zaa hb1;have Hbx:=zaa hbx;have HG:=zaa hG;have Hst:=zaa hst
 have hnot:=zaG
 clear hst hC hb1 hin hc hbx hG hgs hse
 go_enter Tryz.func18,Tryz.ntmps18
 rw[hw1] at d0 d1 d2 d3 d4
 go_wp2_with fail
 rw[← hw1]
 clear d0 d1 d2 d3 d4 hw1
 refine(uh HC).mono ?_
 rintro e w2 ⟨rfl,hb2⟩
 have hs2:=hb2.size
 have hst2:=zan (zab hb2 (by omega)) (Nat.le_refl _) (uh Hst)
 have d0:=hst2.c0;have d1:=hst2.c1;have d2:=hst2.c2;have d3:=hst2.c3;have d4:=hst2.c4
 have HNG:=zaa (zci G (uh HG) ka pa ra qa kc pc rc qc w2 (zbD (uh Hin) ((uh Hb1).trans (zab hb2 (by omega)))))
 have Hst2:=zaa hst2;have Hb2:=zaa hb2
 clear hst2 hb2 HC
 go_wp2_with fail
 clear d0 d1 d2 d3 d4
 refine(uh HNG).mono ?_
 rintro e w9 ⟨gb,ob,ub,rfl,hg9,hb9⟩
 have hs9:=hb9.size
 have HP:=zaa (zbU G (uh HG) ka pa ra qa kc pc rc qc gb ob ub w9.heap.size w9 (Nat.le_refl _) hg9)
 have Hb9:=zaa hb9
 clear hg9 hb9 HNG
 go_wp2_with fail
 refine(uh HP).mono ?_
 rintro e w3 ⟨mb,rfl,hmr,hmb,hb3'⟩
 have hb3:Below w2.heap.size w2 w3:=(uh Hb9).trans (zab hb3' hs9)
 have hst3:=zan (zab hb3 (by omega)) (Nat.le_refl _) (uh Hst2)
 have d4:=hst3.c4
 rw[uh Hse] at d4
 have cg:=hmr.cell (show st<G.nr from hst')
 rw[uh Hgs] at cg
 have hbx3:=zaP (zaP (uh Hbx) (uh Hb2)) hb3
 obtain⟨r0,r1,r2,r3,r4,z0,z1,z2,z3,z4⟩:=zae hbx3
 have h5:=zgJ hbx3 (.slice none 0 0) (.slice none 0 0) (.slice none 0 0) (.slice none 0 0) (.int .i64 0)
 have Hb3:=zaa hb3;have Hh5:=zaa h5
 have hs3:=hb3.size
 clear hb3 hb3' hbx3 h5 hst3 hmr HP
 go_wp2
 obtain⟨WF,hWF⟩:∃ WF,WF=((((w3.setCell ⟨w.heap.size+1,0,none⟩ (.slice none 0 0)).setCell ⟨w.heap.size+1,1,none⟩ (.slice none 0 0)).setCell ⟨w.heap.size+1,2,none⟩ (.slice none 0 0)).setCell ⟨w.heap.size+1,3,none⟩ (.slice none 0 0)).setCell ⟨w.heap.size+1,4,none⟩ (.int .i64 0):=⟨_,rfl⟩
 have h5:=uh Hh5
 rw[← hWF] at h5 ⊢
 obtain⟨y0,y1,y2,y3,y4,-⟩:=zae h5.1
 refine bodyPost_ret (v:=.tuple #[.agg #[.slice none 0 0,.slice none 0 0,.slice none 0 0,.slice none 0 0,.int .i64 0],.int .i64 8]) ?zz8 rfl ⟨rfl,(uh Hb1).trans ((zab (uh Hb2) (by omega)).trans ((zab (uh Hb3) (by omega)).trans (zah h5.2 (by omega) (fun j hj=>by have hj:j=w.heap.size+1:=hj;omega))))⟩
 case zz8=>simp[results,Tryz.results18,go_sem,y0,y1,y2,y3,y4]

end Go.Proofs.YtagohbpbgjelaaaGreatDoor

namespace Go.Proofs.YtagohbpbgjelaaaGreatDoor
open Go.RowKit

set_option maxHeartbeats 2000000 in
set_option maxRecDepth 100000 in
theorem zmc (G:Gm) (hc:za6 G=true) (hgs:zcQ G G.start.toNat=true) (ka pa ra qa:Option Addr) (kc pc rc qc:Nat) (w:World) (hin:GIn w.heap.size w G ka pa ra qa) :
 Calls Tryz.prog 18 #[.agg #[.slice ka G.kinds.length kc,.slice pa G.precs.length pc,.slice ra G.rules.length rc,.slice qa G.prods.length qc,.int .i64 G.start]] w fun e w'=>∃ ka' pa' ra' qa' kc' pc' rc' qc',e=.returned (.tuple #[gV (zbB G) ka' pa' ra' qa' kc' pc' rc' qc',.int .i64 0])∧GIn w'.heap.size w' (zbB G) ka' pa' ra' qa'∧Below w.heap.size w w':=by
 have Hgs0:=zaa hgs
 obtain⟨w1,hw1,hst,hb1,hs1,hbx⟩:=zfP kc pc rc qc (Nat.le_refl _) hin
 have hG:=zbS hc
 have hst0:=hG.s0;have hst1:=hG.s1
 unfold Gm.nr at hst1
 have d0:=hst.c0;have d1:=hst.c1;have d2:=hst.c2;have d3:=hst.c3;have d4:=hst.c4
 have hC:=zcL G ka pa ra qa kc pc rc qc w1 (zbD hin hb1) (fun p hp=>by have:=hG.pr p hp;omega)
 rw[hc] at hC
 have HC:=zaa hC
 obtain⟨st,hse⟩:∃ st:Nat,G.start=(st:Int):=⟨G.start.toNat,by omega⟩
 have hst':st<G.rules.length:=by omega
 have hst'':(st:Int)<G.rules.length:=by omega
 rw[hse,Int.toNat_natCast] at hgs
 have Hin:=zaa hin;have Hgs:=zaa hgs;have Hse:=zaa hse
 have Hb1:=zaa hb1;have Hbx:=zaa hbx;have HG:=zaa hG;have Hst:=zaa hst
 have hnot:=zaG
 have Hc:=zaa hc
 clear hst hC hb1 hin hc hbx hG hgs hse
 go_enter Tryz.func18,Tryz.ntmps18
 rw[hw1] at d0 d1 d2 d3 d4
 go_wp2_with fail
 rw[← hw1]
 clear d0 d1 d2 d3 d4 hw1
 refine(uh HC).mono ?_
 rintro e w2 ⟨rfl,hb2⟩
 have hs2:=hb2.size
 have hst2:=zan (zab hb2 (by omega)) (Nat.le_refl _) (uh Hst)
 have d0:=hst2.c0;have d1:=hst2.c1;have d2:=hst2.c2;have d3:=hst2.c3;have d4:=hst2.c4
 have HNG:=zaa (zci G (uh HG) ka pa ra qa kc pc rc qc w2 (zbD (uh Hin) ((uh Hb1).trans (zab hb2 (by omega)))))
 have Hst2:=zaa hst2;have Hb2:=zaa hb2
 clear hst2 hb2 HC
 go_wp2_with fail
 clear d0 d1 d2 d3 d4
 refine(uh HNG).mono ?_
 rintro e w9 ⟨gb,ob,ub,rfl,hg9,hb9⟩
 have hs9:=hb9.size
 have HP:=zaa (zbU G (uh HG) ka pa ra qa kc pc rc qc gb ob ub w9.heap.size w9 (Nat.le_refl _) hg9)
 have Hb9:=zaa hb9
 have Hg9:=zaa hg9
 clear hg9 hb9 HNG
 go_wp2_with fail
 refine(uh HP).mono ?_
 rintro e w3 ⟨mb,rfl,hmr,hmb,hb3'⟩
 have hb3:Below w2.heap.size w2 w3:=(uh Hb9).trans (zab hb3' hs9)
 have hst3:=zan (zab hb3 (by omega)) (Nat.le_refl _) (uh Hst2)
 have d4:=hst3.c4
 rw[uh Hse] at d4
 have cg:=hmr.cell (show st<G.nr from hst')
 rw[uh Hgs] at cg
 have hbx3:=zaP (zaP (uh Hbx) (uh Hb2)) hb3
 have hs3:=hb3.size
 have HA:=zaa (zi1 gb mb G.rules.length w3)
 have hg3:=zaJ (uh Hg9) hb3'
 have Hb3:=zaa hb3;have Hbx3:=zaa hbx3;have Hmr:=zaa hmr;have Hg3:=zaa hg3
 have hs93:=hb3'.size
 clear hb3 hb3' hbx3 hst3 hmr HP hg3
 go_wp2_with fail
 refine(uh HA).mono ?_
 rintro e w4 ⟨rfl,hgx,hmx,hs4,hb4⟩
 have hg4:=zaJ (uh Hg3) (zab hb4 hs93)
 have hmr4:=zaw (uh Hmr) hb4
 have HR:=zaa (zfq G (uh HG) ka pa ra qa kc pc rc qc gb ob ub w9.heap.size w3.heap.size (w3.heap.size+1) mb w4 (by omega) hg4 hgx hmx hmr4)
 have HR2:=zaa (zfq G (uh HG) ka pa ra qa kc pc rc qc gb ob ub w9.heap.size w3.heap.size (w3.heap.size+1) mb w4.drew (by show _≤w4.heap.size;omega) (zaJ hg4 (zab (Below.refl _ _).drew (by omega))) hgx hmx hmr4)
 have Hg4:=zaa hg4;have Hgx:=zaa hgx;have Hmx:=zaa hmx;have Hmr4:=zaa hmr4;have Hb4:=zaa hb4
 clear hg4 hgx hmx hmr4 hb4 HA cg d4
 go_wp2_with fail
 first
  | refine(uh HR).mono ?_
  | refine(uh HR2).mono ?_
 rintro e w5 ⟨rb,rfl,hrr,hrb,hb5⟩
 have hb5:Below w4.heap.size w4 w5:=⟨hb5.os,hb5.tape,hb5.output,hb5.size,hb5.block⟩
 have hs5:=hb5.size
 have HO:=zaa (zoX G (uh Hc) (uh Hgs0) ka pa ra qa kc pc rc qc gb ob ub w9.heap.size w3.heap.size (w3.heap.size+1) mb rb w5 (by omega) (zaJ (uh Hg4) (zab hb5 (by omega))) ((hb5.cell (p:=⟨w3.heap.size,0,none⟩) (by show w3.heap.size<_;omega)).trans (uh Hgx)) ((hb5.cell (p:=⟨w3.heap.size+1,0,none⟩) (by show w3.heap.size+1<_;omega)).trans (uh Hmx)) (zaw (uh Hmr4) hb5) hrr)
 have Hb5:=zaa hb5
 clear hrr hrb hb5 HR HR2
 go_wp2_with fail
 refine(uh HO).mono ?_
 rintro e w6 ⟨ka',pa',ra',qa',kc',pc',rc',qc',rfl,hg6,hb6⟩
 have hs6:=hb6.size
 have hb46:Below w3.heap.size w3 w6:=(uh Hb4).trans ((zab (uh Hb5) (by omega)).trans (zab hb6 (by omega)))
 have hbx6:=zaP (uh Hbx3) hb46
 obtain⟨r0,r1,r2,r3,r4,z0,z1,z2,z3,z4⟩:=zae hbx6
 have h5:=zgJ hbx6 (.slice ka' (zbB G).kinds.length kc') (.slice pa' (zbB G).precs.length pc') (.slice ra' (zbB G).rules.length rc') (.slice qa' (zbB G).prods.length qc') (.int .i64 (zbB G).start)
 have Hh5:=zaa h5;have Hb46:=zaa hb46;have Hg6:=zaa hg6
 clear h5 hb46 hbx6 hg6 hb6 HO
 have hgv:gV (zbB G) ka' pa' ra' qa' kc' pc' rc' qc'=.agg #[.slice ka' (zbB G).kinds.length kc',.slice pa' (zbB G).precs.length pc',.slice ra' (zbB G).rules.length rc',.slice qa' (zbB G).prods.length qc',.int .i64 (zbB G).start]:=rfl
 rw[hgv]
 go_wp2
 obtain⟨WF,hWF⟩:∃ WF,WF=((((w6.setCell ⟨w.heap.size+1,0,none⟩ (.slice ka' (zbB G).kinds.length kc')).setCell ⟨w.heap.size+1,1,none⟩ (.slice pa' (zbB G).precs.length pc')).setCell ⟨w.heap.size+1,2,none⟩ (.slice ra' (zbB G).rules.length rc')).setCell ⟨w.heap.size+1,3,none⟩ (.slice qa' (zbB G).prods.length qc')).setCell ⟨w.heap.size+1,4,none⟩ (.int .i64 (zbB G).start):=⟨_,rfl⟩
 have h5:=uh Hh5
 rw[← hWF] at h5 ⊢
 obtain⟨y0,y1,y2,y3,y4,-⟩:=zae h5.1
 refine bodyPost_ret (v:=.tuple #[.agg #[.slice ka' (zbB G).kinds.length kc',.slice pa' (zbB G).precs.length pc',.slice ra' (zbB G).rules.length rc',.slice qa' (zbB G).prods.length qc',.int .i64 (zbB G).start],.int .i64 0]) ?zz8 rfl ⟨ka',pa',ra',qa',kc',pc',rc',qc',rfl,uh Hg6 (w.heap.size+1) WF (by omega) (by omega) h5.2,(uh Hb1).trans ((zab (uh Hb2) (by omega)).trans ((zab (uh Hb3) (by omega)).trans ((zab (uh Hb46) (by omega)).trans (zah h5.2 (by have:=(uh Hb46).size;omega) (fun j hj=>by have hj:j=w.heap.size+1:=hj;omega)))))⟩
 case zz8=>simp[results,Tryz.results18,go_sem,y0,y1,y2,y3,y4]
theorem trim18:zpU 18:=fun G ka pa ra qa kc pc rc qc w hin hsm=>by
 cases hc:za6 G
 ·refine(zoB G hc ka pa ra qa kc pc rc qc w hin hsm).mono ?_
  rintro e w' ⟨rfl,hb⟩
  have e1:trG G=gm0:=by unfold trG;rw[if_neg (fun h=>by rw[hc] at h;cases h.1)]
  have e2:trV G=130:=by unfold trV;rw[hc];rfl
  rw[e1,e2]
  exact⟨none,none,none,none,0,0,0,0,rfl,gin0 w' (ze6 hin.tab (Nat.le_refl _) hb),hb⟩
 ·cases hs:zcQ G G.start.toNat
  ·refine(zkZ G hc hs ka pa ra qa kc pc rc qc w hin).mono ?_
   rintro e w' ⟨rfl,hb⟩
   have e1:trG G=gm0:=by unfold trG;rw[if_neg (fun h=>by rw[hs] at h;cases h.2)]
   have e2:trV G=8:=by unfold trV;rw[hc,hs];rfl
   rw[e1,e2]
   exact⟨none,none,none,none,0,0,0,0,rfl,gin0 w' (ze6 hin.tab (Nat.le_refl _) hb),hb⟩
  ·refine(zmc G hc hs ka pa ra qa kc pc rc qc w hin).mono ?_
   rintro e w' ⟨ka',pa',ra',qa',kc',pc',rc',qc',rfl,hg,hb⟩
   have e1:trG G=zbB G:=by unfold trG;rw[if_pos ⟨hc,hs⟩]
   have e2:trV G=0:=by unfold trV;rw[hc,hs];rfl
   rw[e1,e2]
   exact⟨ka',pa',ra',qa',kc',pc',rc',qc',rfl,hg,hb⟩
end Go.Proofs.YtagohbpbgjelaaaGreatDoor

namespace Go.Proofs.YtagohbpbgjelaaaGreatDoor
open Go.RowKit

theorem zmX {B B':Nat} {w:World} {a:Option Addr} {l:List Int} (h:NRow B w a l) (hB:B≤B'):NRow B' w a l:=by
 rcases h with h | ⟨b,off,h1,h2,h3⟩
 ·exact .inl h
 ·exact .inr ⟨b,off,h1,by omega,h3⟩
set_option maxHeartbeats 4000000 in
set_option maxRecDepth 100000 in
theorem zlr (G:Gm) (hc:za6 G=true) (ka pa ra qa:Option Addr) (kc pc rc qc:Nat) (w:World) (hin:GIn w.heap.size w G ka pa ra qa) (hsm:smG G) :
 Calls Tryz.prog 20 #[gV G ka pa ra qa kc pc rc qc] w fun e w'=>∃ a c,e=.returned (.tuple #[.slice a (zdv G).length c,.int .i64 0])∧zez w'.heap.size w' a (zdv G)∧Below w.heap.size w w':=by
 have hG:=zbS hc
 have hqs:=hG.ps;have hnr:=hG.r2;have hnk:=hG.k3
 unfold Gm.nr at hnr
 unfold Gm.nk at hnk
 obtain⟨i0,hi,hz0,hz1,hz2⟩:=zao znv
 have hst:=zbt (kc:=kc) (pc:=pc) (rc:=rc) (qc:=qc) (Nat.le_refl _) hin 26
 have hw1:(w.alloc (.cells #[.slice ka G.kinds.length kc,.slice pa G.precs.length pc,.slice ra G.rules.length rc,.slice qa G.prods.length qc,.int .i64 G.start] 26)).heap.size=w.heap.size+1:=by simp
 have hb1:Below w.heap.size w (w.alloc (.cells #[.slice ka G.kinds.length kc,.slice pa G.precs.length pc,.slice ra G.rules.length rc,.slice qa G.prods.length qc,.int .i64 G.start] 26)):=(Below.refl _ _).alloc (Nat.le_refl _) _
 have HM:=zaa (zcL G ka pa ra qa kc pc rc qc _ (zbD hin hb1) hsm)
 rw[hc] at HM
 have Hb1:=zaa hb1;have HG:=zaa hG;have Hc:=zaa hc;have Hst:=zaa hst
 have hnot:=zaG
 clear hst hb1 hin hsm hc hG
 go_enter Tryz.func20,Tryz.ntmps20
 go_wp2_with fail
 generalize w.alloc (.cells #[.slice ka G.kinds.length kc,.slice pa G.precs.length pc,.slice ra G.rules.length rc,.slice qa G.prods.length qc,.int .i64 G.start] 26)=w1 at *
 refine(uh HM).mono ?_
 rintro e w2 ⟨rfl,hb2⟩
 rw[hw1] at hb2
 have Hb2:=zaa hb2
 have hsz2:=hb2.size
 have g3:=(zan hb2 (Nat.le_refl _) (uh Hst)).c3
 clear hb2 HM
 go_wp2
 clear g3
 go_loopw [4,13] (fun o x wr=>∃ k:Nat,x=.int .i64 k∧k≤G.prods.length∧wr.ownsRow (w.heap.size+1) 9 1 o (zaW G k).length (zaY (zaW G k))∧Below (w.heap.size+1) w1 wr) (fun _ x _=>G.prods.length - (intOf x).toNat)
 case atStart=>exact⟨0,rfl,Nat.zero_le _,World.ownsRow_nil _ _ _ _,uh Hb2⟩
 case round =>
  clear Hb2 hsz2
  obtain⟨k,rfl,hk,hown,hb⟩:=hrel
  obtain⟨ua,uc,rfl⟩:=zad hown
  have hst2:=zan hb (Nat.le_refl _) (uh Hst)
  have g0:=hst2.c0;have g1:=hst2.c1;have g2:=hst2.c2;have g3:=hst2.c3;have g4:=hst2.c4
  have Hgin:=zaa hst2.gin
  have hsz:=hb.size
  rw[hw1] at hsz
  have Hlk:Hid ((zaW G k).length=k):=zaa (by simp[zaW];omega)
  have Hown:=zaa hown;have Hb:=zaa hb
  clear hown hb hst2
  by_cases hlt:k<G.prods.length
  ·have hlt':(k:Int)<G.prods.length:=by omega
   obtain⟨b,off,rfl,hbB,rr,rrc,x3,x4,x5,x6,n6,c6,hrc,hrr,hac,q0,q1,q2,q3,q4,q5,q6⟩:=zhx (uh Hgin).prods hlt
   obtain⟨hl0,hl1⟩:=(uh HG).pl _ (zag hlt)
   have hpr:=(uh HG).pr _ (zag hlt)
   have hpy:=(uh HG).py _ (zag hlt)
   have Hsn:Hid (zaW G (k+1)=zaW G k ++ [zgL G (G.prods.getD k pd0)]):=zaa (by unfold zaW;rw[zbf _ _ pd0 hlt,List.map_append];rfl)
   generalize G.prods.getD k pd0=p at *
   obtain⟨pl,prt,plv,pac⟩:=p
   simp only at hl0 hl1 hpr hpy hrc hrr hac q0 q1 q2
   obtain⟨l,rfl⟩:∃ l:Nat,pl=(l:Int):=⟨pl.toNat,by omega⟩
   have hl2:l<G.rules.length:=by unfold Gm.nr at hl1;omega
   obtain⟨-,-,-,-,-,-,-,hw3,hb3⟩:=zrD wr (.int .i64 (l:Int)) (.slice rr prt.length rrc) (.int .i64 plv) (.int .i64 x3) (.int .i64 x4) (.string x5) (.slice x6 n6 c6) 89
   have hb3':Below (w.heap.size+1) wr (wr.alloc (.cells #[.int .i64 (l:Int),.slice rr prt.length rrc,.int .i64 plv,.int .i64 x3,.int .i64 x4,.string x5,.slice x6 n6 c6] 89)):=zab hb3 hsz
   have HLA:=zaa (zpm G (uh Hc) ka pa ra (some ⟨b,off,none⟩) kc pc rc qc l hl2 prt hpr hpy plv pac rr rrc x3 x4 x5 x6 n6 c6 _ (zbD (znA (uh Hgin) (by omega)) hb3) (zhH (zmX hrr (by omega)) hb3))
   have Hb3:=zaa ((uh Hb).trans hb3')
   have Hown3:=zaa (zas (uh Hown) hb3)
   have hsz3:w.heap.size+1≤(wr.alloc (.cells #[.int .i64 (l:Int),.slice rr prt.length rrc,.int .i64 plv,.int .i64 x3,.int .i64 x4,.string x5,.slice x6 n6 c6] 89)).heap.size:=by rw[hw3];omega
   have hgw:w.heap.size<wr.heap.size:=by omega
   have m0:=(hb3.cell (p:=⟨w.heap.size,0,none⟩) hgw).trans g0
   have m1:=(hb3.cell (p:=⟨w.heap.size,1,none⟩) hgw).trans g1
   have m2:=(hb3.cell (p:=⟨w.heap.size,2,none⟩) hgw).trans g2
   have m3:=(hb3.cell (p:=⟨w.heap.size,3,none⟩) hgw).trans g3
   have m4:=(hb3.cell (p:=⟨w.heap.size,4,none⟩) hgw).trans g4
   clear g0 g1 g2 g4
   generalize zgL G ⟨(l:Int),prt,plv,pac⟩=LS at *
   clear hrr hac hpr hpy hb3 hb3' Hb Hown Hgin hw3
   generalize zaW G k=LT at *
   go_wp2_with fail
   refine(uh HLA).mono ?_
   rintro e W3 ⟨rfl,hbx⟩
   have hsx:=hbx.size
   have Hb4:=zaa ((uh Hb3).trans (zab hbx hsz3))
   have Hown4:=zaa (zas (uh Hown3) hbx)
   have hszW:w.heap.size+1≤W3.heap.size:=by omega
   have hlk2:LT.length≤4096:=by have:=uh Hlk;omega
   clear hbx hsx HLA Hb3 Hown3 m0 m1 m2 m3 m4 q0 q1 q2 q3 q4 q5 q6 g3 hsz3
   generalize (wr.alloc (.cells #[.int .i64 (l:Int),.slice rr prt.length rrc,.int .i64 plv,.int .i64 x3,.int .i64 x4,.string x5,.slice x6 n6 c6] 89)).heap.size=hz at *
   go_wp2_with (at_builtin;refine wpList_append_own _ rfl _ _ 22 rfl (w.heap.size+1) 9 i0 (.string ⟨#[]⟩) 1 16 Tryz.underlying22 hi hz0 hz1 hz2 rfl (by decide) _ _ _ rfl ((uh Hown4).alloc _) ⟨W3.heap.size,0,none⟩ 1 1 [.string (bs LS)] rfl rfl ?zc1 ?zc2 ?zc3 ?zc4 ?zc5 ?_)
   case zc1=>exact ziC _ _ _
   case zc2=>intro u hu;simp at hu;rcases hu with rfl;rfl
   case zc3=>unfold maxLen;omega
   case zc4=>omega
   case zc5=>simp;omega
   intro v' W4 hown' hgrow _
   have Hb5:=zaa (((uh Hb4).alloc (by omega) _).grown hgrow (by simp;omega) (fun j hj=>((uh Hown4).lt j hj).1))
   have Ho5:=zaa (show W4.ownsRow (w.heap.size+1) 9 1 v' (zaW G (k+1)).length (zaY (zaW G (k+1))) by rw[uh Hsn,← zc9,List.length_append];exact hown')
   clear hown' hgrow
   go_wp2
   go_roundw
   case rel=>exact⟨k+1,by go_num,by omega,uh Ho5,uh Hb5⟩
   case measure=>simp[intOf];omega
  ·obtain rfl:k=G.prods.length:=by omega
   have Hlen:Hid (zaW G G.prods.length=zdv G):=zaa (by unfold zaW zdv;rw[List.take_length])
   obtain⟨a,c,hv,hs⟩:=zd8 (uh Hown)
   cases hv
   have Hs:=zaa hs
   clear hs Hlk
   generalize zaW G G.prods.length=LL at *
   go_wp2
   refine bodyPost_ret (v:=.tuple #[.slice ua LL.length uc,.int .i64 0]) ?zz9 rfl ⟨ua,uc,?_⟩
   case zz9=>simp[results,Tryz.results20,go_sem]
   rw[← uh Hlen]
   exact⟨rfl,uh Hs,(uh Hb1).trans (zab (uh Hb) (by omega))⟩
theorem zq1:zkU 20:=fun G ka pa ra qa kc pc rc qc w hin hsm=>by
 cases hc:za6 G
 ·refine(znj G hc ka pa ra qa kc pc rc qc w hin hsm).mono ?_
  rintro e w' ⟨rfl,hb⟩
  have e1:lnL G=[]:=by unfold lnL;rw[hc];rfl
  have e2:zbp G=130:=by unfold zbp;rw[hc];rfl
  rw[e1,e2]
  exact⟨none,0,rfl,.inl rfl,hb⟩
 ·refine(zlr G hc ka pa ra qa kc pc rc qc w hin hsm).mono ?_
  rintro e w' ⟨a,c,rfl,hs,hb⟩
  have e1:lnL G=zdv G:=by unfold lnL;rw[hc];rfl
  have e2:zbp G=0:=by unfold zbp;rw[hc];rfl
  rw[e1,e2]
  exact⟨a,c,rfl,hs,hb⟩
end Go.Proofs.YtagohbpbgjelaaaGreatDoor

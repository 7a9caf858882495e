/- The document's Trim, of what may be. -/
import Derived.Test.YtagohbpbgjelaaaGreatDoorH2
namespace Go.Proofs.YtagohbpbgjelaaaGreatDoor
open Go.RowKit

set_option maxRecDepth 100000 in
theorem zcP {N:Nat} {W0 W:World} (_:Below N W0 W) (o:Obj):(W.alloc o).heap[W.heap.size]? = some o:=Go.Deep.blk_alloc_new _ _
set_option maxRecDepth 100000 in
theorem zbZ (w:World) (o:Obj):(w.alloc o).heap.size=w.heap.size+1:=by simp
set_option maxRecDepth 100000 in
theorem zcG (w:World):w.drew.heap.size=w.heap.size:=rfl
set_option maxRecDepth 100000 in
theorem zi2 (b o j:Nat):Addr.add ⟨b,o,none⟩ j=⟨b,o+j,none⟩:=by cases j <;> simp[Addr.add]

set_option maxHeartbeats 8000000 in
set_option maxRecDepth 100000 in
theorem zmD (G:Gm) (hc:za6 G=true) (hgs:zcQ G G.start.toNat=true) (ka pa ra qa:Option Addr) (kc pc rc qc:Nat) (B:Nat) (w:World) (hB:B≤w.heap.size) (hin:GIn B w G ka pa ra qa) :
 Calls Tryz.prog 19 #[.agg #[.slice ka G.kinds.length kc,.slice pa G.precs.length pc,.slice ra G.rules.length rc,.slice qa G.prods.length qc,.int .i64 G.start]] w fun e w'=>∃ ka' pa' ra' qa' kc' pc' rc' qc',e=.returned (.tuple #[.agg #[.slice ka' (zbB G).kinds.length kc',.slice pa' (zbB G).precs.length pc',.slice ra' (zbB G).rules.length rc',.slice qa' (zbB G).prods.length qc',.int .i64 (zbB G).start],.int .i64 0])∧GIn w'.heap.size w' (zbB G) ka' pa' ra' qa'∧Below w.heap.size w w':=by
 have Htab:=zaa hin.tab
 have hG:=zbS hc
 have hpk:G.precs.length=G.kinds.length:=(of_decide_eq_true hc).2.1
 have hk2:=hG.k2;have hk3:=hG.k3;have hr2:=hG.r2;have hr1:=hG.r1;have hps:=hG.ps;have hst0:=hG.s0;have hst1:=hG.s1
 unfold Gm.nk at hk2 hk3
 unfold Gm.nr at hr2 hr1 hst1
 obtain⟨kb,ko,rfl,hkB,-⟩:=zcb hin.kinds (k:=0) (by omega)
 obtain⟨pb,po,rfl,hpB,-⟩:=zfe hin.precs (k:=0) (by omega)
 obtain⟨i9,hi9,hz90,hz91,hz92⟩:=zao znv
 obtain⟨i7,hi7,hz70,hz71,hz72⟩:=zao zqd
 obtain⟨w1,hw1⟩:∃ w1,w1=(w.alloc (.cells #[.slice (some ⟨kb,ko,none⟩) G.kinds.length kc,.slice (some ⟨pb,po,none⟩) G.precs.length pc,.slice ra G.rules.length rc,.slice qa G.prods.length qc,.int .i64 G.start] 26)).alloc (.cells #[.slice none 0 0,.slice none 0 0,.slice none 0 0,.slice none 0 0,.int .i64 0] 26):=⟨_,rfl⟩
 have hb1:Below w.heap.size w w1:=by rw[hw1];exact((Below.refl _ _).alloc (Nat.le_refl _) _).alloc (by simp) _
 have hs1:w1.heap.size=w.heap.size+2:=by rw[hw1];simp
 have hbr:w1.heap[w.heap.size+1]? = some (.cells #[.slice none 0 0,.slice none 0 0,.slice none 0 0,.slice none 0 0,.int .i64 0] 26):=by
  have h:=Go.Deep.blk_alloc_new (w.alloc (.cells #[.slice (some ⟨kb,ko,none⟩) G.kinds.length kc,.slice (some ⟨pb,po,none⟩) G.precs.length pc,.slice ra G.rules.length rc,.slice qa G.prods.length qc,.int .i64 G.start] 26)) (.cells #[.slice none 0 0,.slice none 0 0,.slice none 0 0,.slice none 0 0,.int .i64 0] 26)
  rw[hw1]
  have e:(w.alloc (.cells #[.slice (some ⟨kb,ko,none⟩) G.kinds.length kc,.slice (some ⟨pb,po,none⟩) G.precs.length pc,.slice ra G.rules.length rc,.slice qa G.prods.length qc,.int .i64 G.start] 26)).heap.size=w.heap.size+1:=by simp
  rw[e] at h
  exact h
 have hsta:=zbt (kc:=kc) (pc:=pc) (rc:=rc) (qc:=qc) hB hin 26
 have hst:GSt B w1 G (some ⟨kb,ko,none⟩) kc (some ⟨pb,po,none⟩) pc ra rc qa qc w.heap.size:=by rw[hw1];exact zan ((Below.refl _ _).alloc (by simp) _) hB hsta
 have d0:=hst.c0;have d1:=hst.c1;have d2:=hst.c2;have d3:=hst.c3;have d4:=hst.c4
 have hC:=zdc G (some ⟨kb,ko,none⟩) (some ⟨pb,po,none⟩) ra qa kc pc rc qc B w1 (by omega) hst.gin (fun p hp=>by have:=hG.pr p hp;omega)
 rw[show zbp G=0 by unfold zbp;rw[hc];rfl] at hC
 have HC:=zaa hC
 have Hb1:=zaa hb1;have HG:=zaa hG;have Hst:=zaa hst;have Hbr:=zaa hbr;have Hpk:=zaa hpk
 have hnot:=zaG
 have hpl:G.precs.length≤1024:=by omega
 obtain⟨st,hst⟩:∃ st:Nat,G.start=(st:Int):=⟨G.start.toNat,by omega⟩
 have hst':st<G.rules.length:=by omega
 rw[hst,Int.toNat_natCast] at hgs
 have Hgs:=zaa hgs;have Hse:=zaa hst
 have hst'':(st:Int)<G.rules.length:=by omega
 clear hC hb1 hin hc hG hsta hbr hpk hgs hst
 go_enter Tryz.func19,Tryz.ntmps19
 rw[hw1] at d0 d1 d2 d3 d4
 go_wp2_with fail
 rw[← hw1]
 clear d0 d1 d2 d3 d4 hw1
 refine(uh HC).mono ?_
 rintro e w2 ⟨rfl,hb2⟩
 have hs2:=hb2.size
 have hst2:=zan (zab hb2 (by omega)) hB (uh Hst)
 have d0:=hst2.c0;have d1:=hst2.c1;have d2:=hst2.c2;have d3:=hst2.c3;have d4:=hst2.c4
 have HP:=zaa (zdB G (uh HG) (some ⟨kb,ko,none⟩) (some ⟨pb,po,none⟩) ra qa kc pc rc qc B w2 (by omega) hst2.gin)
 have Hst2:=zaa hst2;have Hb2:=zaa hb2
 clear hst2 hb2 HC
 go_wp2_with fail
 clear d0 d1 d2 d3 d4
 refine(uh HP).mono ?_
 rintro e w3 ⟨mb,rfl,hmb,hmr,hb3⟩
 have hs3:=hb3.size
 have hst3:=zan (zab hb3 (by omega)) hB (uh Hst2)
 have d0:=hst3.c0;have d1:=hst3.c1;have d2:=hst3.c2;have d3:=hst3.c3;have d4:=hst3.c4
 rw[uh Hse] at d4
 have cg:=hmr.cell (show st<G.nr from hst')
 rw[uh Hgs] at cg
 have HR:=zaa (zjr G (uh HG) (some ⟨kb,ko,none⟩) (some ⟨pb,po,none⟩) ra qa kc pc rc qc mb G.nr (zcQ G) B w3 (by omega) hst3.gin hmr)
 rw[uh Hse] at HR
 have Hst3:=zaa hst3;have Hb3:=zaa ((uh Hb2).trans (zab hb3 hs2));have Hmr:=zaa hmr
 clear hst3 hb3 hmr HP
 go_wp2_with fail
 clear d0 d1 d2 d3 d4 cg
 refine(uh HR).mono ?_
 rintro e w4 ⟨ab,rfl,hab,har,hb4⟩
 have hs4:=hb4.size
 have hst4:=zan (zab hb4 (by omega)) hB (uh Hst3)
 have Hst4:=zaa hst4;have Hmr4:=zaa (zaw (uh Hmr) hb4);have Har:=zaa har;have Hb4:=zaa ((uh Hb3).trans (zab hb4 (by omega)))
 have HS:Hid (∀ W:World,Below w4.heap.size w4 W→W.cell? ⟨w.heap.size,0,none⟩=some (.slice (some ⟨kb,ko,none⟩) G.kinds.length kc)∧W.cell? ⟨w.heap.size,1,none⟩=some (.slice (some ⟨pb,po,none⟩) G.precs.length pc)):=zaa (fun W hW=>by
  have hg:=zan (zab hW (by omega)) hB hst4
  exact⟨hg.c0,hg.c1⟩)
 have HKn:Hid (∀ W:World,Below w4.heap.size w4 W→∀ j u,(zaY G.kinds)[j]? = some u→W.cell? (Addr.add ⟨kb,ko,none⟩ j)=some u):=zaa (fun W hW j u hu=>by
  have hj:j<G.kinds.length:=by have:=(List.getElem?_eq_some_iff.1 hu).1;rw[zbv] at this;exact this
  have hg:=zan (zab hW (by omega)) hB hst4
  obtain⟨b',o',e',-,hcell⟩:=zcb hg.gin.kinds hj
  cases e'
  unfold zaY at hu
  rw[List.getElem?_map,List.getElem?_eq_getElem hj] at hu
  cases hu
  rw[zi2,hcell,List.getD_eq_getElem?_getD,List.getElem?_eq_getElem hj]
  rfl)
 have HPn:Hid (∀ W:World,Below w4.heap.size w4 W→∀ j u,(zaH G.precs)[j]? = some u→W.cell? (Addr.add ⟨pb,po,none⟩ j)=some u):=zaa (fun W hW j u hu=>by
  have hj:j<G.precs.length * 2:=by have:=(List.getElem?_eq_some_iff.1 hu).1;rw[zaE] at this;exact this
  have hg:=zan (zab hW (by omega)) hB hst4
  obtain⟨b',o',e',-,h0,h1⟩:=zfe hg.gin.precs (k:=j / 2) (by omega)
  cases e'
  have hv:=zdU G.precs (j / 2) (by omega)
  rw[zi2]
  rcases Nat.mod_two_eq_zero_or_one j with hm | hm
  ·have e:j / 2 * 2=j:=by omega
   rw[e] at hv h0
   rw[h0];exact hv.1.symm.trans hu
  ·have e:j / 2 * 2+1=j:=by omega
   rw[Nat.add_assoc] at h1
   rw[e] at hv h1
   rw[h1];exact hv.2.symm.trans hu)
 have hS:Below w4.heap.size w4 w4.drew:=(Below.refl _ _).drew
 clear hst4 hb4 har HR
 go_wp2
 go_cut [6] (fun v wx=>∃ tb a0 c0 a1 c1,v=.pointer (some ⟨tb,0,none⟩)∧w4.heap.size≤tb∧wx.heap[tb]? = some (.cells #[.slice a0 G.kinds.length c0,.slice a1 G.precs.length c1,.slice none 0 0,.slice none 0 0,.int .i64 0] 26)∧wx.ownsRow w4.heap.size 9 1 (.slice a0 G.kinds.length c0) G.kinds.length (zaY G.kinds)∧wx.ownsRow w4.heap.size 98 2 (.slice a1 G.precs.length c1) G.precs.length (zaH G.precs)∧Below w4.heap.size w4 wx)
 case first =>
  refine wp_region_held_drew (S:=fun W:World=>W.cell? ⟨w.heap.size,0,none⟩=some (.slice (some ⟨kb,ko,none⟩) G.kinds.length kc)∧W.cell? ⟨w.heap.size,1,none⟩=some (.slice (some ⟨pb,po,none⟩) G.precs.length pc)) (by kernel_rfl) (uh HS _ hS) (fun hH_=>?_)
  refine zac (i:=1) (dst:=some 31) (v:=?_) rfl rfl (by kernel_rfl) (by kernel_rfl) (by kernel_rfl) (fun _ _ _ h=>h) (Or.inl ⟨by rfl,?_⟩) hH_ ?_
  rotate_left
  ·intro w hSw;obtain⟨k0,k1⟩:=hSw;go_simp;try (with_reducible rfl)
  simp only[Act.put,zsA,zsB,zsC]
  refine zac (i:=2) (dst:=some 32) (v:=?_) rfl rfl (by kernel_rfl) (by kernel_rfl) (by kernel_rfl) (fun _ _ _ h=>h) (Or.inl ⟨by rfl,?_⟩) hH_ ?_
  rotate_left
  ·intro w hSw;obtain⟨k0,k1⟩:=hSw;go_simp;try (with_reducible rfl)
  simp only[Act.put,zsA,zsB,zsC]
  refine zac (i:=5) (dst:=some 35) (v:=?_) rfl rfl (by kernel_rfl) (by kernel_rfl) (by kernel_rfl) (fun _ _ _ h=>h) (Or.inl ⟨by rfl,?_⟩) hH_ ?_
  rotate_left
  ·intro w hSw;obtain⟨k0,k1⟩:=hSw;go_simp;try (with_reducible rfl)
  simp only[Act.put,zsA,zsB,zsC]
  refine zac (i:=6) (dst:=some 36) (v:=?_) rfl rfl (by kernel_rfl) (by kernel_rfl) (by kernel_rfl) (fun _ _ _ h=>h) (Or.inl ⟨by rfl,?_⟩) hH_ ?_
  rotate_left
  ·intro w hSw;obtain⟨k0,k1⟩:=hSw;go_simp;try (with_reducible rfl)
  simp only[Act.put,zsA,zsB,zsC]
  refine wpAnyH_ready (rs:=[0,4,9]) (by kernel_rfl) (by simp) ?_
  refine AllReadyH.cons rfl (fun K hK=>?_) (AllReadyH.cons rfl (fun K hK=>?_) (AllReadyH.cons rfl (fun K hK=>?_) AllReadyH.nil))
  ·go_simp
   have e0:=za4 hS hS.size 9 1
   have hS:=hS.alloc hS.size (.cells #[] 9)
   refine hK.out _ _ (uh HS _ hS) (fun hH_=>?_)
   clear hK K
   refine wpAnyH_ready (rs:=[3,4,9]) (by kernel_rfl) (by simp) ?_
   refine AllReadyH.cons rfl (fun K hK=>?_) (AllReadyH.cons rfl (fun K hK=>?_) (AllReadyH.cons rfl (fun K hK=>?_) AllReadyH.nil))
   ·refine zaf rfl (.tmp 30) (.tmp 32) 22 rfl w4.heap.size 9 i9 (.string ⟨#[]⟩) 1 16 Tryz.underlying22 hi9 hz90 hz91 hz92 rfl (by decide) _ 0 [] (by simp[Act.eval]) e0 ⟨kb,ko,none⟩ G.kinds.length kc (zaY G.kinds) (by simp[Act.eval]) (by rw[zbv,Nat.mul_one]) (uh HKn _ hS) (zbu _) (by unfold maxLen;omega) (by omega) hS.size ?_
    intro v0 W3 ho hg _
    have hS:=hS.grown hg hS.size (fun j hj=>(e0.lt j hj).1)
    have k0:W3.ownsRow w4.heap.size 9 1 v0 G.kinds.length (zaY G.kinds):=by simpa using ho
    obtain⟨a0,c0,rfl⟩:=zad k0
    clear ho hg e0
    go_simp
    refine hK.out _ _ (uh HS _ hS) (fun hH_=>?_)
    clear hK K
    refine wpAnyH_ready (rs:=[4,9]) (by kernel_rfl) (by simp) ?_
    refine AllReadyH.cons rfl (fun K hK=>?_) (AllReadyH.cons rfl (fun K hK=>?_) AllReadyH.nil)
    ·go_simp
     have e1:=za4 hS hS.size 98 2
     have k0:=k0.alloc (.cells #[] 98)
     have hS:=hS.alloc hS.size (.cells #[] 98)
     refine hK.out _ _ (uh HS _ hS) (fun hH_=>?_)
     clear hK K
     refine wpAnyH_ready (rs:=[7,9]) (by kernel_rfl) (by simp) ?_
     refine AllReadyH.cons rfl (fun K hK=>?_) (AllReadyH.cons rfl (fun K hK=>?_) AllReadyH.nil)
     ·refine zaf rfl (.tmp 34) (.tmp 36) 23 rfl w4.heap.size 98 i7 (.agg #[.int .i64 0,.int .i64 0]) 2 16 Tryz.underlying23 hi7 hz70 hz71 hz72 rfl (by decide) _ 0 [] (by simp[Act.eval]) e1 ⟨pb,po,none⟩ G.precs.length pc (zaH G.precs) (by simp[Act.eval]) (by rw[zaE]) (uh HPn _ hS) (zaM _) (by unfold maxLen;omega) (by omega) hS.size ?_
      intro v1 W7 ho hg _
      have k0:=zat k0 e1 hg (by decide)
      have hS:=hS.grown hg hS.size (fun j hj=>(e1.lt j hj).1)
      have k1:W7.ownsRow w4.heap.size 98 2 v1 G.precs.length (zaH G.precs):=by simpa using ho
      obtain⟨a1,c1,rfl⟩:=zad k1
      clear ho hg e1
      go_simp
      refine hK.out _ _ (uh HS _ hS) (fun hH_=>?_)
      clear hK K
      refine zac (i:=8) (dst:=some 38) (v:=?_) rfl rfl (by kernel_rfl) (by kernel_rfl) (by kernel_rfl) (fun _ _ _ h=>h) (Or.inl ⟨by rfl,?_⟩) hH_ ?_
      rotate_left
      ·intro w hSw;obtain⟨k0,k1⟩:=hSw;go_simp;try (with_reducible rfl)
      simp only[Act.put,zsA,zsB,zsC]
      refine wpAnyH_ready (rs:=[9]) (by kernel_rfl) (by simp) ?_
      refine AllReadyH.cons rfl (fun K hK=>?_) AllReadyH.nil
      go_simp
      have hbt:=hS.size
      refine hK.out _ _ (uh HS _ (hS.alloc hS.size _)) (fun hH_=>?_)
      clear hK K
      refine wpAnyH_ready (rs:=[10]) (by kernel_rfl) (by simp) ?_
      refine AllReadyH.cons rfl (fun K hK=>?_) AllReadyH.nil
      go_simp
      refine hK.out _ _ (uh HS _ (hS.alloc hS.size _)) (fun hH_=>?_)
      clear hK K
      refine wpAnyH_done (by kernel_rfl) ?_ _
      go_wp2_with fail
      go_meet
      exact⟨_,_,_,_,_,rfl,hbt,Go.Deep.blk_alloc_new _ _,k0.alloc _,k1.alloc _,hS.alloc hS.size _⟩
     ·go_simp
      have hbt:=hS.size
      have bx:=zcP hS (.cells #[.slice none 0 0,.slice none 0 0,.slice none 0 0,.slice none 0 0,.int .i64 0] 26)
      try simp only[zbZ] at bx hbt
      try simp only[zcG] at bx hbt
      have k0:=k0.alloc (.cells #[.slice none 0 0,.slice none 0 0,.slice none 0 0,.slice none 0 0,.int .i64 0] 26)
      have e1:=e1.alloc (.cells #[.slice none 0 0,.slice none 0 0,.slice none 0 0,.slice none 0 0,.int .i64 0] 26)
      have hS:=hS.alloc hS.size (.cells #[.slice none 0 0,.slice none 0 0,.slice none 0 0,.slice none 0 0,.int .i64 0] 26)
      refine hK.out _ _ (uh HS _ hS) (fun hH_=>?_)
      clear hK K
      refine wpAnyH_ready (rs:=[7]) (by kernel_rfl) (by simp) ?_
      refine AllReadyH.cons rfl (fun K hK=>?_) AllReadyH.nil
      refine zaf rfl (.tmp 34) (.tmp 36) 23 rfl w4.heap.size 98 i7 (.agg #[.int .i64 0,.int .i64 0]) 2 16 Tryz.underlying23 hi7 hz70 hz71 hz72 rfl (by decide) _ 0 [] (by simp[Act.eval]) e1 ⟨pb,po,none⟩ G.precs.length pc (zaH G.precs) (by simp[Act.eval]) (by rw[zaE]) (uh HPn _ hS) (zaM _) (by unfold maxLen;omega) (by omega) hS.size ?_
      intro v1 W7 ho hg _
      have k0:=zat k0 e1 hg (by decide)
      have bx:=zaD bx e1 hg (by decide)
      have hS:=hS.grown hg hS.size (fun j hj=>(e1.lt j hj).1)
      have k1:W7.ownsRow w4.heap.size 98 2 v1 G.precs.length (zaH G.precs):=by simpa using ho
      obtain⟨a1,c1,rfl⟩:=zad k1
      clear ho hg e1
      go_simp
      refine hK.out _ _ (uh HS _ hS) (fun hH_=>?_)
      clear hK K
      refine zac (i:=8) (dst:=some 38) (v:=?_) rfl rfl (by kernel_rfl) (by kernel_rfl) (by kernel_rfl) (fun _ _ _ h=>h) (Or.inl ⟨by rfl,?_⟩) hH_ ?_
      rotate_left
      ·intro w hSw;obtain⟨k0,k1⟩:=hSw;go_simp;try (with_reducible rfl)
      simp only[Act.put,zsA,zsB,zsC]
      refine wpAnyH_ready (rs:=[10]) (by kernel_rfl) (by simp) ?_
      refine AllReadyH.cons rfl (fun K hK=>?_) AllReadyH.nil
      obtain⟨r0,r1,r2,r3,r4,z0,z1,z2,z3,z4⟩:=zae bx
      have hsix:=zgJ bx (.slice a0 G.kinds.length c0) (.slice a1 G.precs.length c1) (.slice none 0 0) (.slice none 0 0) (.int .i64 0)
      have hS:=hS.trans (zah hsix.2 hS.size (fun j hj=>by have hj:j=_:=hj;rw[hj];exact hbt))
      go_simp
      refine hK.out _ _ (uh HS _ hS) (fun hH_=>?_)
      clear hK K
      refine wpAnyH_done (by kernel_rfl) ?_ _
      go_wp2_with fail
      go_meet
      exact⟨_,_,_,_,_,rfl,hbt,hsix.1,zaV k0 bx hsix.2 (by decide),zaV k1 bx hsix.2 (by decide),hS⟩
    ·go_simp
     have hbt:=hS.size
     have bx:=zcP hS (.cells #[.slice none 0 0,.slice none 0 0,.slice none 0 0,.slice none 0 0,.int .i64 0] 26)
     try simp only[zbZ] at bx hbt
     try simp only[zcG] at bx hbt
     have k0:=k0.alloc (.cells #[.slice none 0 0,.slice none 0 0,.slice none 0 0,.slice none 0 0,.int .i64 0] 26)
     have hS:=hS.alloc hS.size (.cells #[.slice none 0 0,.slice none 0 0,.slice none 0 0,.slice none 0 0,.int .i64 0] 26)
     refine hK.out _ _ (uh HS _ hS) (fun hH_=>?_)
     clear hK K
     refine wpAnyH_ready (rs:=[4]) (by kernel_rfl) (by simp) ?_
     refine AllReadyH.cons rfl (fun K hK=>?_) AllReadyH.nil
     go_simp
     have e1:=za4 hS hS.size 98 2
     have k0:=k0.alloc (.cells #[] 98)
     have bx:=zaS bx (.cells #[] 98)
     have hS:=hS.alloc hS.size (.cells #[] 98)
     refine hK.out _ _ (uh HS _ hS) (fun hH_=>?_)
     clear hK K
     refine wpAnyH_ready (rs:=[7]) (by kernel_rfl) (by simp) ?_
     refine AllReadyH.cons rfl (fun K hK=>?_) AllReadyH.nil
     refine zaf rfl (.tmp 34) (.tmp 36) 23 rfl w4.heap.size 98 i7 (.agg #[.int .i64 0,.int .i64 0]) 2 16 Tryz.underlying23 hi7 hz70 hz71 hz72 rfl (by decide) _ 0 [] (by simp[Act.eval]) e1 ⟨pb,po,none⟩ G.precs.length pc (zaH G.precs) (by simp[Act.eval]) (by rw[zaE]) (uh HPn _ hS) (zaM _) (by unfold maxLen;omega) (by omega) hS.size ?_
     intro v1 W7 ho hg _
     have k0:=zat k0 e1 hg (by decide)
     have bx:=zaD bx e1 hg (by decide)
     have hS:=hS.grown hg hS.size (fun j hj=>(e1.lt j hj).1)
     have k1:W7.ownsRow w4.heap.size 98 2 v1 G.precs.length (zaH G.precs):=by simpa using ho
     obtain⟨a1,c1,rfl⟩:=zad k1
     clear ho hg e1
     go_simp
     refine hK.out _ _ (uh HS _ hS) (fun hH_=>?_)
     clear hK K
     refine zac (i:=8) (dst:=some 38) (v:=?_) rfl rfl (by kernel_rfl) (by kernel_rfl) (by kernel_rfl) (fun _ _ _ h=>h) (Or.inl ⟨by rfl,?_⟩) hH_ ?_
     rotate_left
     ·intro w hSw;obtain⟨k0,k1⟩:=hSw;go_simp;try (with_reducible rfl)
     simp only[Act.put,zsA,zsB,zsC]
     refine wpAnyH_ready (rs:=[10]) (by kernel_rfl) (by simp) ?_
     refine AllReadyH.cons rfl (fun K hK=>?_) AllReadyH.nil
     obtain⟨r0,r1,r2,r3,r4,z0,z1,z2,z3,z4⟩:=zae bx
     have hsix:=zgJ bx (.slice a0 G.kinds.length c0) (.slice a1 G.precs.length c1) (.slice none 0 0) (.slice none 0 0) (.int .i64 0)
     have hS:=hS.trans (zah hsix.2 hS.size (fun j hj=>by have hj:j=_:=hj;rw[hj];exact hbt))
     go_simp
     refine hK.out _ _ (uh HS _ hS) (fun hH_=>?_)
     clear hK K
     refine wpAnyH_done (by kernel_rfl) ?_ _
     go_wp2_with fail
     go_meet
     exact⟨_,_,_,_,_,rfl,hbt,hsix.1,zaV k0 bx hsix.2 (by decide),zaV k1 bx hsix.2 (by decide),hS⟩
   ·go_simp
    have e1:=za4 hS hS.size 98 2
    have e0:=e0.alloc (.cells #[] 98)
    have hS:=hS.alloc hS.size (.cells #[] 98)
    refine hK.out _ _ (uh HS _ hS) (fun hH_=>?_)
    clear hK K
    refine wpAnyH_ready (rs:=[3,9]) (by kernel_rfl) (by simp) ?_
    refine AllReadyH.cons rfl (fun K hK=>?_) (AllReadyH.cons rfl (fun K hK=>?_) AllReadyH.nil)
    ·refine zaf rfl (.tmp 30) (.tmp 32) 22 rfl w4.heap.size 9 i9 (.string ⟨#[]⟩) 1 16 Tryz.underlying22 hi9 hz90 hz91 hz92 rfl (by decide) _ 0 [] (by simp[Act.eval]) e0 ⟨kb,ko,none⟩ G.kinds.length kc (zaY G.kinds) (by simp[Act.eval]) (by rw[zbv,Nat.mul_one]) (uh HKn _ hS) (zbu _) (by unfold maxLen;omega) (by omega) hS.size ?_
     intro v0 W3 ho hg _
     have e1:=zat e1 e0 hg (by decide)
     have hS:=hS.grown hg hS.size (fun j hj=>(e0.lt j hj).1)
     have k0:W3.ownsRow w4.heap.size 9 1 v0 G.kinds.length (zaY G.kinds):=by simpa using ho
     obtain⟨a0,c0,rfl⟩:=zad k0
     clear ho hg e0
     go_simp
     refine hK.out _ _ (uh HS _ hS) (fun hH_=>?_)
     clear hK K
     refine wpAnyH_ready (rs:=[7,9]) (by kernel_rfl) (by simp) ?_
     refine AllReadyH.cons rfl (fun K hK=>?_) (AllReadyH.cons rfl (fun K hK=>?_) AllReadyH.nil)
     ·refine zaf rfl (.tmp 34) (.tmp 36) 23 rfl w4.heap.size 98 i7 (.agg #[.int .i64 0,.int .i64 0]) 2 16 Tryz.underlying23 hi7 hz70 hz71 hz72 rfl (by decide) _ 0 [] (by simp[Act.eval]) e1 ⟨pb,po,none⟩ G.precs.length pc (zaH G.precs) (by simp[Act.eval]) (by rw[zaE]) (uh HPn _ hS) (zaM _) (by unfold maxLen;omega) (by omega) hS.size ?_
      intro v1 W7 ho hg _
      have k0:=zat k0 e1 hg (by decide)
      have hS:=hS.grown hg hS.size (fun j hj=>(e1.lt j hj).1)
      have k1:W7.ownsRow w4.heap.size 98 2 v1 G.precs.length (zaH G.precs):=by simpa using ho
      obtain⟨a1,c1,rfl⟩:=zad k1
      clear ho hg e1
      go_simp
      refine hK.out _ _ (uh HS _ hS) (fun hH_=>?_)
      clear hK K
      refine zac (i:=8) (dst:=some 38) (v:=?_) rfl rfl (by kernel_rfl) (by kernel_rfl) (by kernel_rfl) (fun _ _ _ h=>h) (Or.inl ⟨by rfl,?_⟩) hH_ ?_
      rotate_left
      ·intro w hSw;obtain⟨k0,k1⟩:=hSw;go_simp;try (with_reducible rfl)
      simp only[Act.put,zsA,zsB,zsC]
      refine wpAnyH_ready (rs:=[9]) (by kernel_rfl) (by simp) ?_
      refine AllReadyH.cons rfl (fun K hK=>?_) AllReadyH.nil
      go_simp
      have hbt:=hS.size
      refine hK.out _ _ (uh HS _ (hS.alloc hS.size _)) (fun hH_=>?_)
      clear hK K
      refine wpAnyH_ready (rs:=[10]) (by kernel_rfl) (by simp) ?_
      refine AllReadyH.cons rfl (fun K hK=>?_) AllReadyH.nil
      go_simp
      refine hK.out _ _ (uh HS _ (hS.alloc hS.size _)) (fun hH_=>?_)
      clear hK K
      refine wpAnyH_done (by kernel_rfl) ?_ _
      go_wp2_with fail
      go_meet
      exact⟨_,_,_,_,_,rfl,hbt,Go.Deep.blk_alloc_new _ _,k0.alloc _,k1.alloc _,hS.alloc hS.size _⟩
     ·go_simp
      have hbt:=hS.size
      have bx:=zcP hS (.cells #[.slice none 0 0,.slice none 0 0,.slice none 0 0,.slice none 0 0,.int .i64 0] 26)
      try simp only[zbZ] at bx hbt
      try simp only[zcG] at bx hbt
      have k0:=k0.alloc (.cells #[.slice none 0 0,.slice none 0 0,.slice none 0 0,.slice none 0 0,.int .i64 0] 26)
      have e1:=e1.alloc (.cells #[.slice none 0 0,.slice none 0 0,.slice none 0 0,.slice none 0 0,.int .i64 0] 26)
      have hS:=hS.alloc hS.size (.cells #[.slice none 0 0,.slice none 0 0,.slice none 0 0,.slice none 0 0,.int .i64 0] 26)
      refine hK.out _ _ (uh HS _ hS) (fun hH_=>?_)
      clear hK K
      refine wpAnyH_ready (rs:=[7]) (by kernel_rfl) (by simp) ?_
      refine AllReadyH.cons rfl (fun K hK=>?_) AllReadyH.nil
      refine zaf rfl (.tmp 34) (.tmp 36) 23 rfl w4.heap.size 98 i7 (.agg #[.int .i64 0,.int .i64 0]) 2 16 Tryz.underlying23 hi7 hz70 hz71 hz72 rfl (by decide) _ 0 [] (by simp[Act.eval]) e1 ⟨pb,po,none⟩ G.precs.length pc (zaH G.precs) (by simp[Act.eval]) (by rw[zaE]) (uh HPn _ hS) (zaM _) (by unfold maxLen;omega) (by omega) hS.size ?_
      intro v1 W7 ho hg _
      have k0:=zat k0 e1 hg (by decide)
      have bx:=zaD bx e1 hg (by decide)
      have hS:=hS.grown hg hS.size (fun j hj=>(e1.lt j hj).1)
      have k1:W7.ownsRow w4.heap.size 98 2 v1 G.precs.length (zaH G.precs):=by simpa using ho
      obtain⟨a1,c1,rfl⟩:=zad k1
      clear ho hg e1
      go_simp
      refine hK.out _ _ (uh HS _ hS) (fun hH_=>?_)
      clear hK K
      refine zac (i:=8) (dst:=some 38) (v:=?_) rfl rfl (by kernel_rfl) (by kernel_rfl) (by kernel_rfl) (fun _ _ _ h=>h) (Or.inl ⟨by rfl,?_⟩) hH_ ?_
      rotate_left
      ·intro w hSw;obtain⟨k0,k1⟩:=hSw;go_simp;try (with_reducible rfl)
      simp only[Act.put,zsA,zsB,zsC]
      refine wpAnyH_ready (rs:=[10]) (by kernel_rfl) (by simp) ?_
      refine AllReadyH.cons rfl (fun K hK=>?_) AllReadyH.nil
      obtain⟨r0,r1,r2,r3,r4,z0,z1,z2,z3,z4⟩:=zae bx
      have hsix:=zgJ bx (.slice a0 G.kinds.length c0) (.slice a1 G.precs.length c1) (.slice none 0 0) (.slice none 0 0) (.int .i64 0)
      have hS:=hS.trans (zah hsix.2 hS.size (fun j hj=>by have hj:j=_:=hj;rw[hj];exact hbt))
      go_simp
      refine hK.out _ _ (uh HS _ hS) (fun hH_=>?_)
      clear hK K
      refine wpAnyH_done (by kernel_rfl) ?_ _
      go_wp2_with fail
      go_meet
      exact⟨_,_,_,_,_,rfl,hbt,hsix.1,zaV k0 bx hsix.2 (by decide),zaV k1 bx hsix.2 (by decide),hS⟩
    ·go_simp
     have hbt:=hS.size
     have bx:=zcP hS (.cells #[.slice none 0 0,.slice none 0 0,.slice none 0 0,.slice none 0 0,.int .i64 0] 26)
     try simp only[zbZ] at bx hbt
     try simp only[zcG] at bx hbt
     have e0:=e0.alloc (.cells #[.slice none 0 0,.slice none 0 0,.slice none 0 0,.slice none 0 0,.int .i64 0] 26)
     have e1:=e1.alloc (.cells #[.slice none 0 0,.slice none 0 0,.slice none 0 0,.slice none 0 0,.int .i64 0] 26)
     have hS:=hS.alloc hS.size (.cells #[.slice none 0 0,.slice none 0 0,.slice none 0 0,.slice none 0 0,.int .i64 0] 26)
     refine hK.out _ _ (uh HS _ hS) (fun hH_=>?_)
     clear hK K
     refine wpAnyH_ready (rs:=[3]) (by kernel_rfl) (by simp) ?_
     refine AllReadyH.cons rfl (fun K hK=>?_) AllReadyH.nil
     refine zaf rfl (.tmp 30) (.tmp 32) 22 rfl w4.heap.size 9 i9 (.string ⟨#[]⟩) 1 16 Tryz.underlying22 hi9 hz90 hz91 hz92 rfl (by decide) _ 0 [] (by simp[Act.eval]) e0 ⟨kb,ko,none⟩ G.kinds.length kc (zaY G.kinds) (by simp[Act.eval]) (by rw[zbv,Nat.mul_one]) (uh HKn _ hS) (zbu _) (by unfold maxLen;omega) (by omega) hS.size ?_
     intro v0 W3 ho hg _
     have e1:=zat e1 e0 hg (by decide)
     have bx:=zaD bx e0 hg (by decide)
     have hS:=hS.grown hg hS.size (fun j hj=>(e0.lt j hj).1)
     have k0:W3.ownsRow w4.heap.size 9 1 v0 G.kinds.length (zaY G.kinds):=by simpa using ho
     obtain⟨a0,c0,rfl⟩:=zad k0
     clear ho hg e0
     go_simp
     refine hK.out _ _ (uh HS _ hS) (fun hH_=>?_)
     clear hK K
     refine wpAnyH_ready (rs:=[7]) (by kernel_rfl) (by simp) ?_
     refine AllReadyH.cons rfl (fun K hK=>?_) AllReadyH.nil
     refine zaf rfl (.tmp 34) (.tmp 36) 23 rfl w4.heap.size 98 i7 (.agg #[.int .i64 0,.int .i64 0]) 2 16 Tryz.underlying23 hi7 hz70 hz71 hz72 rfl (by decide) _ 0 [] (by simp[Act.eval]) e1 ⟨pb,po,none⟩ G.precs.length pc (zaH G.precs) (by simp[Act.eval]) (by rw[zaE]) (uh HPn _ hS) (zaM _) (by unfold maxLen;omega) (by omega) hS.size ?_
     intro v1 W7 ho hg _
     have k0:=zat k0 e1 hg (by decide)
     have bx:=zaD bx e1 hg (by decide)
     have hS:=hS.grown hg hS.size (fun j hj=>(e1.lt j hj).1)
     have k1:W7.ownsRow w4.heap.size 98 2 v1 G.precs.length (zaH G.precs):=by simpa using ho
     obtain⟨a1,c1,rfl⟩:=zad k1
     clear ho hg e1
     go_simp
     refine hK.out _ _ (uh HS _ hS) (fun hH_=>?_)
     clear hK K
     refine zac (i:=8) (dst:=some 38) (v:=?_) rfl rfl (by kernel_rfl) (by kernel_rfl) (by kernel_rfl) (fun _ _ _ h=>h) (Or.inl ⟨by rfl,?_⟩) hH_ ?_
     rotate_left
     ·intro w hSw;obtain⟨k0,k1⟩:=hSw;go_simp;try (with_reducible rfl)
     simp only[Act.put,zsA,zsB,zsC]
     refine wpAnyH_ready (rs:=[10]) (by kernel_rfl) (by simp) ?_
     refine AllReadyH.cons rfl (fun K hK=>?_) AllReadyH.nil
     obtain⟨r0,r1,r2,r3,r4,z0,z1,z2,z3,z4⟩:=zae bx
     have hsix:=zgJ bx (.slice a0 G.kinds.length c0) (.slice a1 G.precs.length c1) (.slice none 0 0) (.slice none 0 0) (.int .i64 0)
     have hS:=hS.trans (zah hsix.2 hS.size (fun j hj=>by have hj:j=_:=hj;rw[hj];exact hbt))
     go_simp
     refine hK.out _ _ (uh HS _ hS) (fun hH_=>?_)
     clear hK K
     refine wpAnyH_done (by kernel_rfl) ?_ _
     go_wp2_with fail
     go_meet
     exact⟨_,_,_,_,_,rfl,hbt,hsix.1,zaV k0 bx hsix.2 (by decide),zaV k1 bx hsix.2 (by decide),hS⟩
   ·go_simp
    have hbt:=hS.size
    have bx:=zcP hS (.cells #[.slice none 0 0,.slice none 0 0,.slice none 0 0,.slice none 0 0,.int .i64 0] 26)
    try simp only[zbZ] at bx hbt
    try simp only[zcG] at bx hbt
    have e0:=e0.alloc (.cells #[.slice none 0 0,.slice none 0 0,.slice none 0 0,.slice none 0 0,.int .i64 0] 26)
    have hS:=hS.alloc hS.size (.cells #[.slice none 0 0,.slice none 0 0,.slice none 0 0,.slice none 0 0,.int .i64 0] 26)
    refine hK.out _ _ (uh HS _ hS) (fun hH_=>?_)
    clear hK K
    refine wpAnyH_ready (rs:=[3,4]) (by kernel_rfl) (by simp) ?_
    refine AllReadyH.cons rfl (fun K hK=>?_) (AllReadyH.cons rfl (fun K hK=>?_) AllReadyH.nil)
    ·refine zaf rfl (.tmp 30) (.tmp 32) 22 rfl w4.heap.size 9 i9 (.string ⟨#[]⟩) 1 16 Tryz.underlying22 hi9 hz90 hz91 hz92 rfl (by decide) _ 0 [] (by simp[Act.eval]) e0 ⟨kb,ko,none⟩ G.kinds.length kc (zaY G.kinds) (by simp[Act.eval]) (by rw[zbv,Nat.mul_one]) (uh HKn _ hS) (zbu _) (by unfold maxLen;omega) (by omega) hS.size ?_
     intro v0 W3 ho hg _
     have bx:=zaD bx e0 hg (by decide)
     have hS:=hS.grown hg hS.size (fun j hj=>(e0.lt j hj).1)
     have k0:W3.ownsRow w4.heap.size 9 1 v0 G.kinds.length (zaY G.kinds):=by simpa using ho
     obtain⟨a0,c0,rfl⟩:=zad k0
     clear ho hg e0
     go_simp
     refine hK.out _ _ (uh HS _ hS) (fun hH_=>?_)
     clear hK K
     refine wpAnyH_ready (rs:=[4]) (by kernel_rfl) (by simp) ?_
     refine AllReadyH.cons rfl (fun K hK=>?_) AllReadyH.nil
     go_simp
     have e1:=za4 hS hS.size 98 2
     have k0:=k0.alloc (.cells #[] 98)
     have bx:=zaS bx (.cells #[] 98)
     have hS:=hS.alloc hS.size (.cells #[] 98)
     refine hK.out _ _ (uh HS _ hS) (fun hH_=>?_)
     clear hK K
     refine wpAnyH_ready (rs:=[7]) (by kernel_rfl) (by simp) ?_
     refine AllReadyH.cons rfl (fun K hK=>?_) AllReadyH.nil
     refine zaf rfl (.tmp 34) (.tmp 36) 23 rfl w4.heap.size 98 i7 (.agg #[.int .i64 0,.int .i64 0]) 2 16 Tryz.underlying23 hi7 hz70 hz71 hz72 rfl (by decide) _ 0 [] (by simp[Act.eval]) e1 ⟨pb,po,none⟩ G.precs.length pc (zaH G.precs) (by simp[Act.eval]) (by rw[zaE]) (uh HPn _ hS) (zaM _) (by unfold maxLen;omega) (by omega) hS.size ?_
     intro v1 W7 ho hg _
     have k0:=zat k0 e1 hg (by decide)
     have bx:=zaD bx e1 hg (by decide)
     have hS:=hS.grown hg hS.size (fun j hj=>(e1.lt j hj).1)
     have k1:W7.ownsRow w4.heap.size 98 2 v1 G.precs.length (zaH G.precs):=by simpa using ho
     obtain⟨a1,c1,rfl⟩:=zad k1
     clear ho hg e1
     go_simp
     refine hK.out _ _ (uh HS _ hS) (fun hH_=>?_)
     clear hK K
     refine zac (i:=8) (dst:=some 38) (v:=?_) rfl rfl (by kernel_rfl) (by kernel_rfl) (by kernel_rfl) (fun _ _ _ h=>h) (Or.inl ⟨by rfl,?_⟩) hH_ ?_
     rotate_left
     ·intro w hSw;obtain⟨k0,k1⟩:=hSw;go_simp;try (with_reducible rfl)
     simp only[Act.put,zsA,zsB,zsC]
     refine wpAnyH_ready (rs:=[10]) (by kernel_rfl) (by simp) ?_
     refine AllReadyH.cons rfl (fun K hK=>?_) AllReadyH.nil
     obtain⟨r0,r1,r2,r3,r4,z0,z1,z2,z3,z4⟩:=zae bx
     have hsix:=zgJ bx (.slice a0 G.kinds.length c0) (.slice a1 G.precs.length c1) (.slice none 0 0) (.slice none 0 0) (.int .i64 0)
     have hS:=hS.trans (zah hsix.2 hS.size (fun j hj=>by have hj:j=_:=hj;rw[hj];exact hbt))
     go_simp
     refine hK.out _ _ (uh HS _ hS) (fun hH_=>?_)
     clear hK K
     refine wpAnyH_done (by kernel_rfl) ?_ _
     go_wp2_with fail
     go_meet
     exact⟨_,_,_,_,_,rfl,hbt,hsix.1,zaV k0 bx hsix.2 (by decide),zaV k1 bx hsix.2 (by decide),hS⟩
    ·go_simp
     have e1:=za4 hS hS.size 98 2
     have e0:=e0.alloc (.cells #[] 98)
     have bx:=zaS bx (.cells #[] 98)
     have hS:=hS.alloc hS.size (.cells #[] 98)
     refine hK.out _ _ (uh HS _ hS) (fun hH_=>?_)
     clear hK K
     refine wpAnyH_ready (rs:=[3]) (by kernel_rfl) (by simp) ?_
     refine AllReadyH.cons rfl (fun K hK=>?_) AllReadyH.nil
     refine zaf rfl (.tmp 30) (.tmp 32) 22 rfl w4.heap.size 9 i9 (.string ⟨#[]⟩) 1 16 Tryz.underlying22 hi9 hz90 hz91 hz92 rfl (by decide) _ 0 [] (by simp[Act.eval]) e0 ⟨kb,ko,none⟩ G.kinds.length kc (zaY G.kinds) (by simp[Act.eval]) (by rw[zbv,Nat.mul_one]) (uh HKn _ hS) (zbu _) (by unfold maxLen;omega) (by omega) hS.size ?_
     intro v0 W3 ho hg _
     have e1:=zat e1 e0 hg (by decide)
     have bx:=zaD bx e0 hg (by decide)
     have hS:=hS.grown hg hS.size (fun j hj=>(e0.lt j hj).1)
     have k0:W3.ownsRow w4.heap.size 9 1 v0 G.kinds.length (zaY G.kinds):=by simpa using ho
     obtain⟨a0,c0,rfl⟩:=zad k0
     clear ho hg e0
     go_simp
     refine hK.out _ _ (uh HS _ hS) (fun hH_=>?_)
     clear hK K
     refine wpAnyH_ready (rs:=[7]) (by kernel_rfl) (by simp) ?_
     refine AllReadyH.cons rfl (fun K hK=>?_) AllReadyH.nil
     refine zaf rfl (.tmp 34) (.tmp 36) 23 rfl w4.heap.size 98 i7 (.agg #[.int .i64 0,.int .i64 0]) 2 16 Tryz.underlying23 hi7 hz70 hz71 hz72 rfl (by decide) _ 0 [] (by simp[Act.eval]) e1 ⟨pb,po,none⟩ G.precs.length pc (zaH G.precs) (by simp[Act.eval]) (by rw[zaE]) (uh HPn _ hS) (zaM _) (by unfold maxLen;omega) (by omega) hS.size ?_
     intro v1 W7 ho hg _
     have k0:=zat k0 e1 hg (by decide)
     have bx:=zaD bx e1 hg (by decide)
     have hS:=hS.grown hg hS.size (fun j hj=>(e1.lt j hj).1)
     have k1:W7.ownsRow w4.heap.size 98 2 v1 G.precs.length (zaH G.precs):=by simpa using ho
     obtain⟨a1,c1,rfl⟩:=zad k1
     clear ho hg e1
     go_simp
     refine hK.out _ _ (uh HS _ hS) (fun hH_=>?_)
     clear hK K
     refine zac (i:=8) (dst:=some 38) (v:=?_) rfl rfl (by kernel_rfl) (by kernel_rfl) (by kernel_rfl) (fun _ _ _ h=>h) (Or.inl ⟨by rfl,?_⟩) hH_ ?_
     rotate_left
     ·intro w hSw;obtain⟨k0,k1⟩:=hSw;go_simp;try (with_reducible rfl)
     simp only[Act.put,zsA,zsB,zsC]
     refine wpAnyH_ready (rs:=[10]) (by kernel_rfl) (by simp) ?_
     refine AllReadyH.cons rfl (fun K hK=>?_) AllReadyH.nil
     obtain⟨r0,r1,r2,r3,r4,z0,z1,z2,z3,z4⟩:=zae bx
     have hsix:=zgJ bx (.slice a0 G.kinds.length c0) (.slice a1 G.precs.length c1) (.slice none 0 0) (.slice none 0 0) (.int .i64 0)
     have hS:=hS.trans (zah hsix.2 hS.size (fun j hj=>by have hj:j=_:=hj;rw[hj];exact hbt))
     go_simp
     refine hK.out _ _ (uh HS _ hS) (fun hH_=>?_)
     clear hK K
     refine wpAnyH_done (by kernel_rfl) ?_ _
     go_wp2_with fail
     go_meet
     exact⟨_,_,_,_,_,rfl,hbt,hsix.1,zaV k0 bx hsix.2 (by decide),zaV k1 bx hsix.2 (by decide),hS⟩
  ·go_simp
   have e1:=za4 hS hS.size 98 2
   have hS:=hS.alloc hS.size (.cells #[] 98)
   refine hK.out _ _ (uh HS _ hS) (fun hH_=>?_)
   clear hK K
   refine wpAnyH_ready (rs:=[0,9]) (by kernel_rfl) (by simp) ?_
   refine AllReadyH.cons rfl (fun K hK=>?_) (AllReadyH.cons rfl (fun K hK=>?_) AllReadyH.nil)
   ·go_simp
    have e0:=za4 hS hS.size 9 1
    have e1:=e1.alloc (.cells #[] 9)
    have hS:=hS.alloc hS.size (.cells #[] 9)
    refine hK.out _ _ (uh HS _ hS) (fun hH_=>?_)
    clear hK K
    refine wpAnyH_ready (rs:=[3,9]) (by kernel_rfl) (by simp) ?_
    refine AllReadyH.cons rfl (fun K hK=>?_) (AllReadyH.cons rfl (fun K hK=>?_) AllReadyH.nil)
    ·refine zaf rfl (.tmp 30) (.tmp 32) 22 rfl w4.heap.size 9 i9 (.string ⟨#[]⟩) 1 16 Tryz.underlying22 hi9 hz90 hz91 hz92 rfl (by decide) _ 0 [] (by simp[Act.eval]) e0 ⟨kb,ko,none⟩ G.kinds.length kc (zaY G.kinds) (by simp[Act.eval]) (by rw[zbv,Nat.mul_one]) (uh HKn _ hS) (zbu _) (by unfold maxLen;omega) (by omega) hS.size ?_
     intro v0 W3 ho hg _
     have e1:=zat e1 e0 hg (by decide)
     have hS:=hS.grown hg hS.size (fun j hj=>(e0.lt j hj).1)
     have k0:W3.ownsRow w4.heap.size 9 1 v0 G.kinds.length (zaY G.kinds):=by simpa using ho
     obtain⟨a0,c0,rfl⟩:=zad k0
     clear ho hg e0
     go_simp
     refine hK.out _ _ (uh HS _ hS) (fun hH_=>?_)
     clear hK K
     refine wpAnyH_ready (rs:=[7,9]) (by kernel_rfl) (by simp) ?_
     refine AllReadyH.cons rfl (fun K hK=>?_) (AllReadyH.cons rfl (fun K hK=>?_) AllReadyH.nil)
     ·refine zaf rfl (.tmp 34) (.tmp 36) 23 rfl w4.heap.size 98 i7 (.agg #[.int .i64 0,.int .i64 0]) 2 16 Tryz.underlying23 hi7 hz70 hz71 hz72 rfl (by decide) _ 0 [] (by simp[Act.eval]) e1 ⟨pb,po,none⟩ G.precs.length pc (zaH G.precs) (by simp[Act.eval]) (by rw[zaE]) (uh HPn _ hS) (zaM _) (by unfold maxLen;omega) (by omega) hS.size ?_
      intro v1 W7 ho hg _
      have k0:=zat k0 e1 hg (by decide)
      have hS:=hS.grown hg hS.size (fun j hj=>(e1.lt j hj).1)
      have k1:W7.ownsRow w4.heap.size 98 2 v1 G.precs.length (zaH G.precs):=by simpa using ho
      obtain⟨a1,c1,rfl⟩:=zad k1
      clear ho hg e1
      go_simp
      refine hK.out _ _ (uh HS _ hS) (fun hH_=>?_)
      clear hK K
      refine zac (i:=8) (dst:=some 38) (v:=?_) rfl rfl (by kernel_rfl) (by kernel_rfl) (by kernel_rfl) (fun _ _ _ h=>h) (Or.inl ⟨by rfl,?_⟩) hH_ ?_
      rotate_left
      ·intro w hSw;obtain⟨k0,k1⟩:=hSw;go_simp;try (with_reducible rfl)
      simp only[Act.put,zsA,zsB,zsC]
      refine wpAnyH_ready (rs:=[9]) (by kernel_rfl) (by simp) ?_
      refine AllReadyH.cons rfl (fun K hK=>?_) AllReadyH.nil
      go_simp
      have hbt:=hS.size
      refine hK.out _ _ (uh HS _ (hS.alloc hS.size _)) (fun hH_=>?_)
      clear hK K
      refine wpAnyH_ready (rs:=[10]) (by kernel_rfl) (by simp) ?_
      refine AllReadyH.cons rfl (fun K hK=>?_) AllReadyH.nil
      go_simp
      refine hK.out _ _ (uh HS _ (hS.alloc hS.size _)) (fun hH_=>?_)
      clear hK K
      refine wpAnyH_done (by kernel_rfl) ?_ _
      go_wp2_with fail
      go_meet
      exact⟨_,_,_,_,_,rfl,hbt,Go.Deep.blk_alloc_new _ _,k0.alloc _,k1.alloc _,hS.alloc hS.size _⟩
     ·go_simp
      have hbt:=hS.size
      have bx:=zcP hS (.cells #[.slice none 0 0,.slice none 0 0,.slice none 0 0,.slice none 0 0,.int .i64 0] 26)
      try simp only[zbZ] at bx hbt
      try simp only[zcG] at bx hbt
      have k0:=k0.alloc (.cells #[.slice none 0 0,.slice none 0 0,.slice none 0 0,.slice none 0 0,.int .i64 0] 26)
      have e1:=e1.alloc (.cells #[.slice none 0 0,.slice none 0 0,.slice none 0 0,.slice none 0 0,.int .i64 0] 26)
      have hS:=hS.alloc hS.size (.cells #[.slice none 0 0,.slice none 0 0,.slice none 0 0,.slice none 0 0,.int .i64 0] 26)
      refine hK.out _ _ (uh HS _ hS) (fun hH_=>?_)
      clear hK K
      refine wpAnyH_ready (rs:=[7]) (by kernel_rfl) (by simp) ?_
      refine AllReadyH.cons rfl (fun K hK=>?_) AllReadyH.nil
      refine zaf rfl (.tmp 34) (.tmp 36) 23 rfl w4.heap.size 98 i7 (.agg #[.int .i64 0,.int .i64 0]) 2 16 Tryz.underlying23 hi7 hz70 hz71 hz72 rfl (by decide) _ 0 [] (by simp[Act.eval]) e1 ⟨pb,po,none⟩ G.precs.length pc (zaH G.precs) (by simp[Act.eval]) (by rw[zaE]) (uh HPn _ hS) (zaM _) (by unfold maxLen;omega) (by omega) hS.size ?_
      intro v1 W7 ho hg _
      have k0:=zat k0 e1 hg (by decide)
      have bx:=zaD bx e1 hg (by decide)
      have hS:=hS.grown hg hS.size (fun j hj=>(e1.lt j hj).1)
      have k1:W7.ownsRow w4.heap.size 98 2 v1 G.precs.length (zaH G.precs):=by simpa using ho
      obtain⟨a1,c1,rfl⟩:=zad k1
      clear ho hg e1
      go_simp
      refine hK.out _ _ (uh HS _ hS) (fun hH_=>?_)
      clear hK K
      refine zac (i:=8) (dst:=some 38) (v:=?_) rfl rfl (by kernel_rfl) (by kernel_rfl) (by kernel_rfl) (fun _ _ _ h=>h) (Or.inl ⟨by rfl,?_⟩) hH_ ?_
      rotate_left
      ·intro w hSw;obtain⟨k0,k1⟩:=hSw;go_simp;try (with_reducible rfl)
      simp only[Act.put,zsA,zsB,zsC]
      refine wpAnyH_ready (rs:=[10]) (by kernel_rfl) (by simp) ?_
      refine AllReadyH.cons rfl (fun K hK=>?_) AllReadyH.nil
      obtain⟨r0,r1,r2,r3,r4,z0,z1,z2,z3,z4⟩:=zae bx
      have hsix:=zgJ bx (.slice a0 G.kinds.length c0) (.slice a1 G.precs.length c1) (.slice none 0 0) (.slice none 0 0) (.int .i64 0)
      have hS:=hS.trans (zah hsix.2 hS.size (fun j hj=>by have hj:j=_:=hj;rw[hj];exact hbt))
      go_simp
      refine hK.out _ _ (uh HS _ hS) (fun hH_=>?_)
      clear hK K
      refine wpAnyH_done (by kernel_rfl) ?_ _
      go_wp2_with fail
      go_meet
      exact⟨_,_,_,_,_,rfl,hbt,hsix.1,zaV k0 bx hsix.2 (by decide),zaV k1 bx hsix.2 (by decide),hS⟩
    ·go_simp
     have hbt:=hS.size
     have bx:=zcP hS (.cells #[.slice none 0 0,.slice none 0 0,.slice none 0 0,.slice none 0 0,.int .i64 0] 26)
     try simp only[zbZ] at bx hbt
     try simp only[zcG] at bx hbt
     have e0:=e0.alloc (.cells #[.slice none 0 0,.slice none 0 0,.slice none 0 0,.slice none 0 0,.int .i64 0] 26)
     have e1:=e1.alloc (.cells #[.slice none 0 0,.slice none 0 0,.slice none 0 0,.slice none 0 0,.int .i64 0] 26)
     have hS:=hS.alloc hS.size (.cells #[.slice none 0 0,.slice none 0 0,.slice none 0 0,.slice none 0 0,.int .i64 0] 26)
     refine hK.out _ _ (uh HS _ hS) (fun hH_=>?_)
     clear hK K
     refine wpAnyH_ready (rs:=[3]) (by kernel_rfl) (by simp) ?_
     refine AllReadyH.cons rfl (fun K hK=>?_) AllReadyH.nil
     refine zaf rfl (.tmp 30) (.tmp 32) 22 rfl w4.heap.size 9 i9 (.string ⟨#[]⟩) 1 16 Tryz.underlying22 hi9 hz90 hz91 hz92 rfl (by decide) _ 0 [] (by simp[Act.eval]) e0 ⟨kb,ko,none⟩ G.kinds.length kc (zaY G.kinds) (by simp[Act.eval]) (by rw[zbv,Nat.mul_one]) (uh HKn _ hS) (zbu _) (by unfold maxLen;omega) (by omega) hS.size ?_
     intro v0 W3 ho hg _
     have e1:=zat e1 e0 hg (by decide)
     have bx:=zaD bx e0 hg (by decide)
     have hS:=hS.grown hg hS.size (fun j hj=>(e0.lt j hj).1)
     have k0:W3.ownsRow w4.heap.size 9 1 v0 G.kinds.length (zaY G.kinds):=by simpa using ho
     obtain⟨a0,c0,rfl⟩:=zad k0
     clear ho hg e0
     go_simp
     refine hK.out _ _ (uh HS _ hS) (fun hH_=>?_)
     clear hK K
     refine wpAnyH_ready (rs:=[7]) (by kernel_rfl) (by simp) ?_
     refine AllReadyH.cons rfl (fun K hK=>?_) AllReadyH.nil
     refine zaf rfl (.tmp 34) (.tmp 36) 23 rfl w4.heap.size 98 i7 (.agg #[.int .i64 0,.int .i64 0]) 2 16 Tryz.underlying23 hi7 hz70 hz71 hz72 rfl (by decide) _ 0 [] (by simp[Act.eval]) e1 ⟨pb,po,none⟩ G.precs.length pc (zaH G.precs) (by simp[Act.eval]) (by rw[zaE]) (uh HPn _ hS) (zaM _) (by unfold maxLen;omega) (by omega) hS.size ?_
     intro v1 W7 ho hg _
     have k0:=zat k0 e1 hg (by decide)
     have bx:=zaD bx e1 hg (by decide)
     have hS:=hS.grown hg hS.size (fun j hj=>(e1.lt j hj).1)
     have k1:W7.ownsRow w4.heap.size 98 2 v1 G.precs.length (zaH G.precs):=by simpa using ho
     obtain⟨a1,c1,rfl⟩:=zad k1
     clear ho hg e1
     go_simp
     refine hK.out _ _ (uh HS _ hS) (fun hH_=>?_)
     clear hK K
     refine zac (i:=8) (dst:=some 38) (v:=?_) rfl rfl (by kernel_rfl) (by kernel_rfl) (by kernel_rfl) (fun _ _ _ h=>h) (Or.inl ⟨by rfl,?_⟩) hH_ ?_
     rotate_left
     ·intro w hSw;obtain⟨k0,k1⟩:=hSw;go_simp;try (with_reducible rfl)
     simp only[Act.put,zsA,zsB,zsC]
     refine wpAnyH_ready (rs:=[10]) (by kernel_rfl) (by simp) ?_
     refine AllReadyH.cons rfl (fun K hK=>?_) AllReadyH.nil
     obtain⟨r0,r1,r2,r3,r4,z0,z1,z2,z3,z4⟩:=zae bx
     have hsix:=zgJ bx (.slice a0 G.kinds.length c0) (.slice a1 G.precs.length c1) (.slice none 0 0) (.slice none 0 0) (.int .i64 0)
     have hS:=hS.trans (zah hsix.2 hS.size (fun j hj=>by have hj:j=_:=hj;rw[hj];exact hbt))
     go_simp
     refine hK.out _ _ (uh HS _ hS) (fun hH_=>?_)
     clear hK K
     refine wpAnyH_done (by kernel_rfl) ?_ _
     go_wp2_with fail
     go_meet
     exact⟨_,_,_,_,_,rfl,hbt,hsix.1,zaV k0 bx hsix.2 (by decide),zaV k1 bx hsix.2 (by decide),hS⟩
   ·go_simp
    have hbt:=hS.size
    have bx:=zcP hS (.cells #[.slice none 0 0,.slice none 0 0,.slice none 0 0,.slice none 0 0,.int .i64 0] 26)
    try simp only[zbZ] at bx hbt
    try simp only[zcG] at bx hbt
    have e1:=e1.alloc (.cells #[.slice none 0 0,.slice none 0 0,.slice none 0 0,.slice none 0 0,.int .i64 0] 26)
    have hS:=hS.alloc hS.size (.cells #[.slice none 0 0,.slice none 0 0,.slice none 0 0,.slice none 0 0,.int .i64 0] 26)
    refine hK.out _ _ (uh HS _ hS) (fun hH_=>?_)
    clear hK K
    refine wpAnyH_ready (rs:=[0]) (by kernel_rfl) (by simp) ?_
    refine AllReadyH.cons rfl (fun K hK=>?_) AllReadyH.nil
    go_simp
    have e0:=za4 hS hS.size 9 1
    have e1:=e1.alloc (.cells #[] 9)
    have bx:=zaS bx (.cells #[] 9)
    have hS:=hS.alloc hS.size (.cells #[] 9)
    refine hK.out _ _ (uh HS _ hS) (fun hH_=>?_)
    clear hK K
    refine wpAnyH_ready (rs:=[3]) (by kernel_rfl) (by simp) ?_
    refine AllReadyH.cons rfl (fun K hK=>?_) AllReadyH.nil
    refine zaf rfl (.tmp 30) (.tmp 32) 22 rfl w4.heap.size 9 i9 (.string ⟨#[]⟩) 1 16 Tryz.underlying22 hi9 hz90 hz91 hz92 rfl (by decide) _ 0 [] (by simp[Act.eval]) e0 ⟨kb,ko,none⟩ G.kinds.length kc (zaY G.kinds) (by simp[Act.eval]) (by rw[zbv,Nat.mul_one]) (uh HKn _ hS) (zbu _) (by unfold maxLen;omega) (by omega) hS.size ?_
    intro v0 W3 ho hg _
    have e1:=zat e1 e0 hg (by decide)
    have bx:=zaD bx e0 hg (by decide)
    have hS:=hS.grown hg hS.size (fun j hj=>(e0.lt j hj).1)
    have k0:W3.ownsRow w4.heap.size 9 1 v0 G.kinds.length (zaY G.kinds):=by simpa using ho
    obtain⟨a0,c0,rfl⟩:=zad k0
    clear ho hg e0
    go_simp
    refine hK.out _ _ (uh HS _ hS) (fun hH_=>?_)
    clear hK K
    refine wpAnyH_ready (rs:=[7]) (by kernel_rfl) (by simp) ?_
    refine AllReadyH.cons rfl (fun K hK=>?_) AllReadyH.nil
    refine zaf rfl (.tmp 34) (.tmp 36) 23 rfl w4.heap.size 98 i7 (.agg #[.int .i64 0,.int .i64 0]) 2 16 Tryz.underlying23 hi7 hz70 hz71 hz72 rfl (by decide) _ 0 [] (by simp[Act.eval]) e1 ⟨pb,po,none⟩ G.precs.length pc (zaH G.precs) (by simp[Act.eval]) (by rw[zaE]) (uh HPn _ hS) (zaM _) (by unfold maxLen;omega) (by omega) hS.size ?_
    intro v1 W7 ho hg _
    have k0:=zat k0 e1 hg (by decide)
    have bx:=zaD bx e1 hg (by decide)
    have hS:=hS.grown hg hS.size (fun j hj=>(e1.lt j hj).1)
    have k1:W7.ownsRow w4.heap.size 98 2 v1 G.precs.length (zaH G.precs):=by simpa using ho
    obtain⟨a1,c1,rfl⟩:=zad k1
    clear ho hg e1
    go_simp
    refine hK.out _ _ (uh HS _ hS) (fun hH_=>?_)
    clear hK K
    refine zac (i:=8) (dst:=some 38) (v:=?_) rfl rfl (by kernel_rfl) (by kernel_rfl) (by kernel_rfl) (fun _ _ _ h=>h) (Or.inl ⟨by rfl,?_⟩) hH_ ?_
    rotate_left
    ·intro w hSw;obtain⟨k0,k1⟩:=hSw;go_simp;try (with_reducible rfl)
    simp only[Act.put,zsA,zsB,zsC]
    refine wpAnyH_ready (rs:=[10]) (by kernel_rfl) (by simp) ?_
    refine AllReadyH.cons rfl (fun K hK=>?_) AllReadyH.nil
    obtain⟨r0,r1,r2,r3,r4,z0,z1,z2,z3,z4⟩:=zae bx
    have hsix:=zgJ bx (.slice a0 G.kinds.length c0) (.slice a1 G.precs.length c1) (.slice none 0 0) (.slice none 0 0) (.int .i64 0)
    have hS:=hS.trans (zah hsix.2 hS.size (fun j hj=>by have hj:j=_:=hj;rw[hj];exact hbt))
    go_simp
    refine hK.out _ _ (uh HS _ hS) (fun hH_=>?_)
    clear hK K
    refine wpAnyH_done (by kernel_rfl) ?_ _
    go_wp2_with fail
    go_meet
    exact⟨_,_,_,_,_,rfl,hbt,hsix.1,zaV k0 bx hsix.2 (by decide),zaV k1 bx hsix.2 (by decide),hS⟩
  ·go_simp
   have hbt:=hS.size
   have bx:=zcP hS (.cells #[.slice none 0 0,.slice none 0 0,.slice none 0 0,.slice none 0 0,.int .i64 0] 26)
   try simp only[zbZ] at bx hbt
   try simp only[zcG] at bx hbt
   have hS:=hS.alloc hS.size (.cells #[.slice none 0 0,.slice none 0 0,.slice none 0 0,.slice none 0 0,.int .i64 0] 26)
   refine hK.out _ _ (uh HS _ hS) (fun hH_=>?_)
   clear hK K
   refine wpAnyH_ready (rs:=[0,4]) (by kernel_rfl) (by simp) ?_
   refine AllReadyH.cons rfl (fun K hK=>?_) (AllReadyH.cons rfl (fun K hK=>?_) AllReadyH.nil)
   ·go_simp
    have e0:=za4 hS hS.size 9 1
    have bx:=zaS bx (.cells #[] 9)
    have hS:=hS.alloc hS.size (.cells #[] 9)
    refine hK.out _ _ (uh HS _ hS) (fun hH_=>?_)
    clear hK K
    refine wpAnyH_ready (rs:=[3,4]) (by kernel_rfl) (by simp) ?_
    refine AllReadyH.cons rfl (fun K hK=>?_) (AllReadyH.cons rfl (fun K hK=>?_) AllReadyH.nil)
    ·refine zaf rfl (.tmp 30) (.tmp 32) 22 rfl w4.heap.size 9 i9 (.string ⟨#[]⟩) 1 16 Tryz.underlying22 hi9 hz90 hz91 hz92 rfl (by decide) _ 0 [] (by simp[Act.eval]) e0 ⟨kb,ko,none⟩ G.kinds.length kc (zaY G.kinds) (by simp[Act.eval]) (by rw[zbv,Nat.mul_one]) (uh HKn _ hS) (zbu _) (by unfold maxLen;omega) (by omega) hS.size ?_
     intro v0 W3 ho hg _
     have bx:=zaD bx e0 hg (by decide)
     have hS:=hS.grown hg hS.size (fun j hj=>(e0.lt j hj).1)
     have k0:W3.ownsRow w4.heap.size 9 1 v0 G.kinds.length (zaY G.kinds):=by simpa using ho
     obtain⟨a0,c0,rfl⟩:=zad k0
     clear ho hg e0
     go_simp
     refine hK.out _ _ (uh HS _ hS) (fun hH_=>?_)
     clear hK K
     refine wpAnyH_ready (rs:=[4]) (by kernel_rfl) (by simp) ?_
     refine AllReadyH.cons rfl (fun K hK=>?_) AllReadyH.nil
     go_simp
     have e1:=za4 hS hS.size 98 2
     have k0:=k0.alloc (.cells #[] 98)
     have bx:=zaS bx (.cells #[] 98)
     have hS:=hS.alloc hS.size (.cells #[] 98)
     refine hK.out _ _ (uh HS _ hS) (fun hH_=>?_)
     clear hK K
     refine wpAnyH_ready (rs:=[7]) (by kernel_rfl) (by simp) ?_
     refine AllReadyH.cons rfl (fun K hK=>?_) AllReadyH.nil
     refine zaf rfl (.tmp 34) (.tmp 36) 23 rfl w4.heap.size 98 i7 (.agg #[.int .i64 0,.int .i64 0]) 2 16 Tryz.underlying23 hi7 hz70 hz71 hz72 rfl (by decide) _ 0 [] (by simp[Act.eval]) e1 ⟨pb,po,none⟩ G.precs.length pc (zaH G.precs) (by simp[Act.eval]) (by rw[zaE]) (uh HPn _ hS) (zaM _) (by unfold maxLen;omega) (by omega) hS.size ?_
     intro v1 W7 ho hg _
     have k0:=zat k0 e1 hg (by decide)
     have bx:=zaD bx e1 hg (by decide)
     have hS:=hS.grown hg hS.size (fun j hj=>(e1.lt j hj).1)
     have k1:W7.ownsRow w4.heap.size 98 2 v1 G.precs.length (zaH G.precs):=by simpa using ho
     obtain⟨a1,c1,rfl⟩:=zad k1
     clear ho hg e1
     go_simp
     refine hK.out _ _ (uh HS _ hS) (fun hH_=>?_)
     clear hK K
     refine zac (i:=8) (dst:=some 38) (v:=?_) rfl rfl (by kernel_rfl) (by kernel_rfl) (by kernel_rfl) (fun _ _ _ h=>h) (Or.inl ⟨by rfl,?_⟩) hH_ ?_
     rotate_left
     ·intro w hSw;obtain⟨k0,k1⟩:=hSw;go_simp;try (with_reducible rfl)
     simp only[Act.put,zsA,zsB,zsC]
     refine wpAnyH_ready (rs:=[10]) (by kernel_rfl) (by simp) ?_
     refine AllReadyH.cons rfl (fun K hK=>?_) AllReadyH.nil
     obtain⟨r0,r1,r2,r3,r4,z0,z1,z2,z3,z4⟩:=zae bx
     have hsix:=zgJ bx (.slice a0 G.kinds.length c0) (.slice a1 G.precs.length c1) (.slice none 0 0) (.slice none 0 0) (.int .i64 0)
     have hS:=hS.trans (zah hsix.2 hS.size (fun j hj=>by have hj:j=_:=hj;rw[hj];exact hbt))
     go_simp
     refine hK.out _ _ (uh HS _ hS) (fun hH_=>?_)
     clear hK K
     refine wpAnyH_done (by kernel_rfl) ?_ _
     go_wp2_with fail
     go_meet
     exact⟨_,_,_,_,_,rfl,hbt,hsix.1,zaV k0 bx hsix.2 (by decide),zaV k1 bx hsix.2 (by decide),hS⟩
    ·go_simp
     have e1:=za4 hS hS.size 98 2
     have e0:=e0.alloc (.cells #[] 98)
     have bx:=zaS bx (.cells #[] 98)
     have hS:=hS.alloc hS.size (.cells #[] 98)
     refine hK.out _ _ (uh HS _ hS) (fun hH_=>?_)
     clear hK K
     refine wpAnyH_ready (rs:=[3]) (by kernel_rfl) (by simp) ?_
     refine AllReadyH.cons rfl (fun K hK=>?_) AllReadyH.nil
     refine zaf rfl (.tmp 30) (.tmp 32) 22 rfl w4.heap.size 9 i9 (.string ⟨#[]⟩) 1 16 Tryz.underlying22 hi9 hz90 hz91 hz92 rfl (by decide) _ 0 [] (by simp[Act.eval]) e0 ⟨kb,ko,none⟩ G.kinds.length kc (zaY G.kinds) (by simp[Act.eval]) (by rw[zbv,Nat.mul_one]) (uh HKn _ hS) (zbu _) (by unfold maxLen;omega) (by omega) hS.size ?_
     intro v0 W3 ho hg _
     have e1:=zat e1 e0 hg (by decide)
     have bx:=zaD bx e0 hg (by decide)
     have hS:=hS.grown hg hS.size (fun j hj=>(e0.lt j hj).1)
     have k0:W3.ownsRow w4.heap.size 9 1 v0 G.kinds.length (zaY G.kinds):=by simpa using ho
     obtain⟨a0,c0,rfl⟩:=zad k0
     clear ho hg e0
     go_simp
     refine hK.out _ _ (uh HS _ hS) (fun hH_=>?_)
     clear hK K
     refine wpAnyH_ready (rs:=[7]) (by kernel_rfl) (by simp) ?_
     refine AllReadyH.cons rfl (fun K hK=>?_) AllReadyH.nil
     refine zaf rfl (.tmp 34) (.tmp 36) 23 rfl w4.heap.size 98 i7 (.agg #[.int .i64 0,.int .i64 0]) 2 16 Tryz.underlying23 hi7 hz70 hz71 hz72 rfl (by decide) _ 0 [] (by simp[Act.eval]) e1 ⟨pb,po,none⟩ G.precs.length pc (zaH G.precs) (by simp[Act.eval]) (by rw[zaE]) (uh HPn _ hS) (zaM _) (by unfold maxLen;omega) (by omega) hS.size ?_
     intro v1 W7 ho hg _
     have k0:=zat k0 e1 hg (by decide)
     have bx:=zaD bx e1 hg (by decide)
     have hS:=hS.grown hg hS.size (fun j hj=>(e1.lt j hj).1)
     have k1:W7.ownsRow w4.heap.size 98 2 v1 G.precs.length (zaH G.precs):=by simpa using ho
     obtain⟨a1,c1,rfl⟩:=zad k1
     clear ho hg e1
     go_simp
     refine hK.out _ _ (uh HS _ hS) (fun hH_=>?_)
     clear hK K
     refine zac (i:=8) (dst:=some 38) (v:=?_) rfl rfl (by kernel_rfl) (by kernel_rfl) (by kernel_rfl) (fun _ _ _ h=>h) (Or.inl ⟨by rfl,?_⟩) hH_ ?_
     rotate_left
     ·intro w hSw;obtain⟨k0,k1⟩:=hSw;go_simp;try (with_reducible rfl)
     simp only[Act.put,zsA,zsB,zsC]
     refine wpAnyH_ready (rs:=[10]) (by kernel_rfl) (by simp) ?_
     refine AllReadyH.cons rfl (fun K hK=>?_) AllReadyH.nil
     obtain⟨r0,r1,r2,r3,r4,z0,z1,z2,z3,z4⟩:=zae bx
     have hsix:=zgJ bx (.slice a0 G.kinds.length c0) (.slice a1 G.precs.length c1) (.slice none 0 0) (.slice none 0 0) (.int .i64 0)
     have hS:=hS.trans (zah hsix.2 hS.size (fun j hj=>by have hj:j=_:=hj;rw[hj];exact hbt))
     go_simp
     refine hK.out _ _ (uh HS _ hS) (fun hH_=>?_)
     clear hK K
     refine wpAnyH_done (by kernel_rfl) ?_ _
     go_wp2_with fail
     go_meet
     exact⟨_,_,_,_,_,rfl,hbt,hsix.1,zaV k0 bx hsix.2 (by decide),zaV k1 bx hsix.2 (by decide),hS⟩
   ·go_simp
    have e1:=za4 hS hS.size 98 2
    have bx:=zaS bx (.cells #[] 98)
    have hS:=hS.alloc hS.size (.cells #[] 98)
    refine hK.out _ _ (uh HS _ hS) (fun hH_=>?_)
    clear hK K
    refine wpAnyH_ready (rs:=[0]) (by kernel_rfl) (by simp) ?_
    refine AllReadyH.cons rfl (fun K hK=>?_) AllReadyH.nil
    go_simp
    have e0:=za4 hS hS.size 9 1
    have e1:=e1.alloc (.cells #[] 9)
    have bx:=zaS bx (.cells #[] 9)
    have hS:=hS.alloc hS.size (.cells #[] 9)
    refine hK.out _ _ (uh HS _ hS) (fun hH_=>?_)
    clear hK K
    refine wpAnyH_ready (rs:=[3]) (by kernel_rfl) (by simp) ?_
    refine AllReadyH.cons rfl (fun K hK=>?_) AllReadyH.nil
    refine zaf rfl (.tmp 30) (.tmp 32) 22 rfl w4.heap.size 9 i9 (.string ⟨#[]⟩) 1 16 Tryz.underlying22 hi9 hz90 hz91 hz92 rfl (by decide) _ 0 [] (by simp[Act.eval]) e0 ⟨kb,ko,none⟩ G.kinds.length kc (zaY G.kinds) (by simp[Act.eval]) (by rw[zbv,Nat.mul_one]) (uh HKn _ hS) (zbu _) (by unfold maxLen;omega) (by omega) hS.size ?_
    intro v0 W3 ho hg _
    have e1:=zat e1 e0 hg (by decide)
    have bx:=zaD bx e0 hg (by decide)
    have hS:=hS.grown hg hS.size (fun j hj=>(e0.lt j hj).1)
    have k0:W3.ownsRow w4.heap.size 9 1 v0 G.kinds.length (zaY G.kinds):=by simpa using ho
    obtain⟨a0,c0,rfl⟩:=zad k0
    clear ho hg e0
    go_simp
    refine hK.out _ _ (uh HS _ hS) (fun hH_=>?_)
    clear hK K
    refine wpAnyH_ready (rs:=[7]) (by kernel_rfl) (by simp) ?_
    refine AllReadyH.cons rfl (fun K hK=>?_) AllReadyH.nil
    refine zaf rfl (.tmp 34) (.tmp 36) 23 rfl w4.heap.size 98 i7 (.agg #[.int .i64 0,.int .i64 0]) 2 16 Tryz.underlying23 hi7 hz70 hz71 hz72 rfl (by decide) _ 0 [] (by simp[Act.eval]) e1 ⟨pb,po,none⟩ G.precs.length pc (zaH G.precs) (by simp[Act.eval]) (by rw[zaE]) (uh HPn _ hS) (zaM _) (by unfold maxLen;omega) (by omega) hS.size ?_
    intro v1 W7 ho hg _
    have k0:=zat k0 e1 hg (by decide)
    have bx:=zaD bx e1 hg (by decide)
    have hS:=hS.grown hg hS.size (fun j hj=>(e1.lt j hj).1)
    have k1:W7.ownsRow w4.heap.size 98 2 v1 G.precs.length (zaH G.precs):=by simpa using ho
    obtain⟨a1,c1,rfl⟩:=zad k1
    clear ho hg e1
    go_simp
    refine hK.out _ _ (uh HS _ hS) (fun hH_=>?_)
    clear hK K
    refine zac (i:=8) (dst:=some 38) (v:=?_) rfl rfl (by kernel_rfl) (by kernel_rfl) (by kernel_rfl) (fun _ _ _ h=>h) (Or.inl ⟨by rfl,?_⟩) hH_ ?_
    rotate_left
    ·intro w hSw;obtain⟨k0,k1⟩:=hSw;go_simp;try (with_reducible rfl)
    simp only[Act.put,zsA,zsB,zsC]
    refine wpAnyH_ready (rs:=[10]) (by kernel_rfl) (by simp) ?_
    refine AllReadyH.cons rfl (fun K hK=>?_) AllReadyH.nil
    obtain⟨r0,r1,r2,r3,r4,z0,z1,z2,z3,z4⟩:=zae bx
    have hsix:=zgJ bx (.slice a0 G.kinds.length c0) (.slice a1 G.precs.length c1) (.slice none 0 0) (.slice none 0 0) (.int .i64 0)
    have hS:=hS.trans (zah hsix.2 hS.size (fun j hj=>by have hj:j=_:=hj;rw[hj];exact hbt))
    go_simp
    refine hK.out _ _ (uh HS _ hS) (fun hH_=>?_)
    clear hK K
    refine wpAnyH_done (by kernel_rfl) ?_ _
    go_wp2_with fail
    go_meet
    exact⟨_,_,_,_,_,rfl,hbt,hsix.1,zaV k0 bx hsix.2 (by decide),zaV k1 bx hsix.2 (by decide),hS⟩
 case rest =>
  obtain⟨tb,a0,c0,a1,c1,rfl,htb,hbx,hk0,hk1,hbc⟩:=hcut
  have hsc:=hbc.size
  have hstc:=zan (zab hbc (by omega)) hB (uh Hst4)
  have d0:=hstc.c0;have d1:=hstc.c1;have d2:=hstc.c2;have d3:=hstc.c3;have d4:=hstc.c4
  rw[uh Hse] at d4
  have htbl:=(Array.getElem?_eq_some_iff.1 hbx).1
  have hmk:=fun w=>run_make_row' (P:=Tryz.prog) 27 3 (.int .i64 0) 8 Tryz.underlying27 zc0 rfl .i64 .i64 G.rules.length (by omega) (by omega) w
  obtain⟨w5,hw5⟩:∃ w5,w5=wc.alloc (.cells (madeCells #[.int .i64 0] G.rules.length) 3):=⟨_,rfl⟩
  have hr5:=World.rowIs_made wc (.int .i64 0) G.rules.length 3
  have hb5:Below wc.heap.size wc w5:=by rw[hw5];exact(Below.refl _ _).alloc (Nat.le_refl _) _
  have hs5:w5.heap.size=wc.heap.size+1:=by rw[hw5];simp
  rw[← hw5] at hr5
  have Hr5:=zaa hr5;have Hbx5:=zaa (zaP hbx hb5)
  have HK01:Hid (∀ W,Fr (fun j=>j=tb∨j=wc.heap.size) w5 W→W.ownsRow w4.heap.size 9 1 (.slice a0 G.kinds.length c0) G.kinds.length (zaY G.kinds)∧W.ownsRow w4.heap.size 98 2 (.slice a1 G.precs.length c1) G.precs.length (zaH G.precs)):=zaa (fun W hf=>⟨zhz hk0 hbx (by decide) hb5 hf (Nat.le_refl _),zhz hk1 hbx (by decide) hb5 hf (Nat.le_refl _)⟩)
  have HW:Hid (∀ W,Fr (fun j=>j=tb∨j=wc.heap.size) w5 W→Below w4.heap.size w4 W):=zaa (fun W hf=>(hbc.trans (zab hb5 hsc)).trans (zah hf (by omega) (fun j hj=>by rcases hj with rfl | rfl <;> omega)))
  clear hbx hk0 hk1 hbc hstc HS HKn HPn hS hr5 hb5
  go_wp2
  rw[← hw5]
  clear d0 d1 d2 d3 d4 hmk hw5
  generalize wc.heap.size=nb at *
  go_loopw [8] (fun x W=>∃ (k:Nat) (rv:Value),x=.int .i64 k∧k≤G.rules.length∧Fr (fun j=>j=tb∨j=nb) w5 W∧W.heap[tb]? = some (.cells #[.slice a0 G.kinds.length c0,.slice a1 G.precs.length c1,rv,.slice none 0 0,.int .i64 0] 26)∧W.rowIs nb 3 G.rules.length (fun r=>.int .i64 (if r<k then(zaZ G r:Int) else 0))∧W.ownsRow w5.heap.size 9 1 rv (zap G k).length (zaY (zap G k))) (fun x _=>G.rules.length - (intOf x).toNat)
  case atStart=>exact⟨0,_,rfl,Nat.zero_le _,zav _ _,uh Hbx5,(uh Hr5).congr (fun j _=>by simp),World.ownsRow_nil _ _ _ _⟩
  case round =>
   obtain⟨k,rv,rfl,hk,hF,bx,nrw,ow⟩:=hrel
   have hbW:=uh HW wr hF
   have hstW:=zan (zab hbW (by omega)) hB (uh Hst4)
   have g0:=hstW.c0;have g1:=hstW.c1;have g2:=hstW.c2;have g3:=hstW.c3;have g4:=hstW.c4
   rw[uh Hse] at g4
   obtain⟨ua,uc,rfl⟩:=zad ow
   by_cases hlt:k<G.rules.length
   ·have hlt':(k:Int)<G.rules.length:=by omega
    have cm:=(zaw (uh Hmr4) hbW).cell (show k<G.nr from hlt)
    have ca:wr.cell? ⟨ab,k,none⟩=some (.bool (zhu G k)):=(zaw (uh Har) hbW).cell (show k<G.nr from hlt)
    have Hkp:Hid (zgj G k=(zcQ G k && zhu G k)):=zaa rfl
    have Hrt0:Hid (zap G (k+1)=zap G k ++ if zgj G k then[G.rules.getD k []] else[]):=zaa rfl
    have Hcg0:Hid (∀ j,j<G.rules.length→j≠k→(if j<k then(zaZ G j:Int) else 0)=if j<k+1 then(zaZ G j:Int) else 0):=zaa (fun j _ hne=>by
     by_cases h:j<k
     ·rw[if_pos h,if_pos (by omega)]
     ·rw[if_neg h,if_neg (by omega)])
    have hrl:=zdb G k
    have skip:zgj G k=false→Hid (zap G (k+1)=zap G k)∧Hid (wr.rowIs nb 3 G.rules.length (fun r=>.int .i64 (if r<k+1 then(zaZ G r:Int) else 0))):=fun hkp=>⟨zaa (by rw[uh Hrt0,hkp];simp),zaa (nrw.congr (fun j hj=>by
     by_cases e:j=k
     ·subst e
      rw[if_neg (by omega),if_pos (by omega)]
      unfold zaZ
      rw[hkp]
      rfl
     ·rw[uh Hcg0 j hj e]))⟩
    cases hp:zcQ G k
    ·rw[hp] at cm Hkp
     obtain⟨Hs1,Hs2⟩:=skip (uh Hkp)
     have HF:=zaa hF;have Hbx:=zaa bx;have How:=zaa ow
     clear hp skip hF bx ow nrw
     generalize zap G k=RT at *
     go_wp2
     go_roundw
     case rel=>exact⟨k+1,_,by go_num,by omega,uh HF,uh Hbx,uh Hs2,by rw[uh Hs1];exact uh How⟩
     case measure=>simp[intOf];omega
    ·cases ha:zhu G k
     ·rw[hp] at cm Hkp
      rw[ha] at ca Hkp
      obtain⟨Hs1,Hs2⟩:=skip (uh Hkp)
      have HF:=zaa hF;have Hbx:=zaa bx;have How:=zaa ow
      clear hp ha skip hF bx ow nrw
      generalize zap G k=RT at *
      go_wp2
      go_roundw
      case rel=>exact⟨k+1,_,by go_num,by omega,uh HF,uh Hbx,uh Hs2,by rw[uh Hs1];exact uh How⟩
      case measure=>simp[intOf];omega
     · rw [hp] at cm Hkp
       rw[ha] at ca Hkp
       have hkp:zgj G k=true:=uh Hkp
       obtain⟨rb,ro,hra,hrbB,cr⟩:=zcb hstW.gin.rules hlt
       have hrbW:rb<w4.heap.size:=by omega
       have Hrt:Hid (zap G (k+1)=zap G k ++ [G.rules.getD k []]):=zaa (by rw[uh Hrt0,hkp];rfl)
       have Hnm:Hid ((zaZ G k:Int)=((zap G k).length:Int)):=zaa (by unfold zaZ;rw[hkp];rfl)
       have fo:=nrw.frozen k
       have cn:=nrw.cell hlt
       obtain⟨r0,r1,r2,r3,r4,z0,z1,z2,z3,z4⟩:=zae bx
       subst hra
       generalize G.rules.getD k []=rn at *
       generalize hRT:zap G k=RT at *
       obtain⟨Wa,hWa⟩:∃ Wa,Wa=wr.setCell ⟨nb,k,none⟩ (.int .i64 (RT.length:Int)):=⟨_,rfl⟩
       have frA:Fr (· = nb) wr Wa:=by rw[hWa];exact zaz (zav _ _) (by rfl) _
       have hFa:Fr (fun j=>j=tb∨j=nb) w5 Wa:=zfr hF (zbE frA (fun _ _ h=>.inr h))
       have bxa:Wa.heap[tb]? = some (.cells #[.slice a0 G.kinds.length c0,.slice a1 G.precs.length c1,.slice ua RT.length uc,.slice none 0 0,.int .i64 0] 26):=(frA.2.1 tb (Array.getElem?_eq_some_iff.1 bx).1 (fun e=>by have e:tb=nb:=e;omega)).trans bx
       have nrwa:=nrw.set k (.int .i64 (RT.length:Int))
       rw[← hWa] at nrwa
       have owa:Wa.ownsRow w5.heap.size 9 1 (.slice ua RT.length uc) RT.length (zaY RT):=zbA ow frA (by omega)
       have Hcg:Hid (∀ j,j<G.rules.length→(if j=k then Value.int .i64 (RT.length:Int) else Value.int .i64 (if j<k then(zaZ G j:Int) else 0))=Value.int .i64 (if j<k+1 then(zaZ G j:Int) else 0)):=zaa (fun j hj=>by
         by_cases e:j=k
         · subst e
           rw[if_pos rfl,if_pos (by omega),uh Hnm]
         · rw[if_neg e,uh Hcg0 j hj e])
       have HS14:Hid (∀ W,Fr (fun j=>j=tb∨j=nb) w5 W→W.cell? ⟨w.heap.size,2,none⟩=some (.slice (some ⟨rb,ro,none⟩) G.rules.length rc)∧W.cell? ⟨rb,ro+k,none⟩=some (.string (bs rn))):=zaa (fun W hf=>by
         have h1:=uh HW W hf
         have h2:=zan (zab h1 (by omega)) hB (uh Hst4)
         have h3:=(h1.cell (p:=⟨rb,ro+k,none⟩) hrbW).trans ((hbW.cell (p:=⟨rb,ro+k,none⟩) hrbW).symm.trans cr)
         exact⟨h2.c2,h3⟩)
       rw[hWa] at bxa nrwa owa hFa
       clear skip hp ha hkp hRT
       go_wp2
       rw[← hWa] at bxa nrwa owa hFa ⊢
       clear hWa r0 r1 r2 r3 r4 z0 z1 z2 z3 z4 cn fo cm ca g0 g1 g2 g3 g4 cr frA bx nrw ow hF hbW hstW
       have hF:Fr (fun j=>j=tb∨j=nb) w5 Wa.drew:=hFa
       have bx:Wa.drew.heap[tb]? = some (.cells #[.slice a0 G.kinds.length c0,.slice a1 G.precs.length c1,.slice ua RT.length uc,.slice none 0 0,.int .i64 0] 26):=bxa
       have nrw:Wa.drew.rowIs nb 3 G.rules.length (fun j=>if j=k then Value.int .i64 (RT.length:Int) else Value.int .i64 (if j<k then(zaZ G j:Int) else 0)):=nrwa
       have ow:Wa.drew.ownsRow w5.heap.size 9 1 (.slice ua RT.length uc) RT.length (zaY RT):=owa
       clear hFa bxa nrwa owa
       refine wp_region_held_drew (S:=fun W:World=>W.cell? ⟨w.heap.size,2,none⟩=some (.slice (some ⟨rb,ro,none⟩) G.rules.length rc)∧W.cell? ⟨rb,ro+k,none⟩=some (.string (bs rn))) (by kernel_rfl) (uh HS14 _ hF) (fun hH_=>?_)
       refine zac (i:=0) (dst:=some 66) (v:=?_) rfl rfl (by kernel_rfl) (by kernel_rfl) (by kernel_rfl) (fun _ _ _ h=>h) (Or.inl ⟨by rfl,?_⟩) hH_ ?_
       rotate_left
       · intro w hSw;obtain⟨k0,k1⟩:=hSw;go_simp;try (with_reducible rfl)
       simp only[Act.put,zsA,zsB,zsC]
       refine zac (i:=2) (dst:=some 68) (v:=?_) rfl rfl (by kernel_rfl) (by kernel_rfl) (by kernel_rfl) (fun _ _ _ h=>h) (Or.inl ⟨by rfl,?_⟩) hH_ ?_
       rotate_left
       · intro w hSw;obtain⟨k0,k1⟩:=hSw;go_simp;try (with_reducible rfl)
       simp only[Act.put,zsA,zsB,zsC]
       refine zac (i:=3) (dst:=some 69) (v:=?_) rfl rfl (by kernel_rfl) (by kernel_rfl) (by kernel_rfl) (fun _ _ _ h=>h) (Or.inl ⟨by rfl,?_⟩) hH_ ?_
       rotate_left
       · intro w hSw;obtain⟨k0,k1⟩:=hSw;go_simp;try (with_reducible rfl)
       simp only[Act.put,zsA,zsB,zsC]
       refine zac (i:=4) (dst:=some 70) (v:=?_) rfl rfl (by kernel_rfl) (by kernel_rfl) (by kernel_rfl) (fun _ _ _ h=>h) (Or.inl ⟨by rfl,?_⟩) hH_ ?_
       rotate_left
       · intro w hSw;obtain⟨k0,k1⟩:=hSw;go_simp;try (with_reducible rfl)
       simp only[Act.put,zsA,zsB,zsC]
       refine zac (i:=5) (dst:=some 71) (v:=?_) rfl rfl (by kernel_rfl) (by kernel_rfl) (by kernel_rfl) (fun _ _ _ h=>h) (Or.inl ⟨by rfl,?_⟩) hH_ ?_
       rotate_left
       · intro w hSw;obtain⟨k0,k1⟩:=hSw;go_simp;try (with_reducible rfl)
       simp only[Act.put,zsA,zsB,zsC]
       refine zac (i:=6) (dst:=some 72) (v:=?_) rfl rfl (by kernel_rfl) (by kernel_rfl) (by kernel_rfl) (fun _ _ _ h=>h) (Or.inl ⟨by rfl,?_⟩) hH_ ?_
       rotate_left
       · intro w hSw;obtain⟨k0,k1⟩:=hSw;go_simp;try (with_reducible rfl)
       simp only[Act.put,zsA,zsB,zsC]
       refine wpAnyH_ready (rs:=[1,7]) (by kernel_rfl) (by simp) ?_
       refine AllReadyH.cons rfl (fun K hK=>?_) (AllReadyH.cons rfl (fun K hK=>?_) AllReadyH.nil)
       · obtain⟨r0,r1,r2,r3,r4,z0,z1,z2,z3,z4⟩:=zae bx
         go_simp
         clear r0 r1 r2 r3 r4 z0 z1 z2 z3 z4
         refine hK.out _ _ (uh HS14 _ hF) (fun hH_=>?_)
         clear hK K
         refine wpAnyH_ready (rs:=[7]) (by kernel_rfl) (by simp) ?_
         refine AllReadyH.cons rfl (fun K hK=>?_) AllReadyH.nil
         go_simp
         have hj9:=zeW hF (.cells #[.string (bs rn)] 9)
         have bx:=zaS bx (.cells #[.string (bs rn)] 9)
         have nrw:=nrw.alloc (.cells #[.string (bs rn)] 9)
         have ow:=ow.alloc (.cells #[.string (bs rn)] 9)
         have hF:=zbR hF (.cells #[.string (bs rn)] 9)
         refine hK.out _ _ (uh HS14 _ hF) (fun hH_=>?_)
         clear hK K
         refine wpAnyH_ready (rs:=[8]) (by kernel_rfl) (by simp) ?_
         refine AllReadyH.cons rfl (fun K hK=>?_) AllReadyH.nil
         refine zaf rfl (.tmp 67) (.tmp 73) 22 rfl w5.heap.size 9 i9 (.string ⟨#[]⟩) 1 16 Tryz.underlying22 hi9 hz90 hz91 hz92 rfl (by decide) (.slice ua RT.length uc) RT.length (zaY RT) (by simp[Act.eval]) ow ⟨_,0,none⟩ 1 1 [.string (bs rn)] (by simp[Act.eval]) rfl (fun j u hu=>zcK hj9 hu) (fun u hu=>by simp at hu;subst hu;rfl) (by unfold maxLen;omega) (by omega) (Nat.le_trans (Nat.le_refl _) hF.1) ?_
         intro v6 W6 ho6 hg6 _
         have bx:=zaD bx ow hg6 (by decide)
         have nrw:=zgc nrw ow hg6 (by decide)
         have hF:=zb4 hF hg6 (fun j hj=>(ow.lt j hj).1)
         have ow6:W6.ownsRow w5.heap.size 9 1 v6 (zap G (k+1)).length (zaY (zap G (k+1))):=by rw[uh Hrt,← zc9,List.length_append];exact ho6
         obtain⟨va,vc,rfl⟩:=zad ow6
         clear ho6 hg6 ow
         go_simp
         refine hK.out _ _ (uh HS14 _ hF) (fun hH_=>?_)
         clear hK K
         refine zac (i:=9) (dst:=some 75) (v:=?_) rfl rfl (by kernel_rfl) (by kernel_rfl) (by kernel_rfl) (fun _ _ _ h=>h) (Or.inl ⟨by rfl,?_⟩) hH_ ?_
         rotate_left
         · intro w hSw;obtain⟨k0,k1⟩:=hSw;go_simp;try (with_reducible rfl)
         simp only[Act.put,zsA,zsB,zsC]
         refine wpAnyH_ready (rs:=[10]) (by kernel_rfl) (by simp) ?_
         refine AllReadyH.cons rfl (fun K hK=>?_) AllReadyH.nil
         obtain⟨r0,r1,r2,r3,r4,z0,z1,z2,z3,z4⟩:=zae bx
         have bx7:_:=zaI (i:=2) bx (.slice va (zap G (k+1)).length vc)
         have fr7:Fr (· = tb) W6 (W6.setCell ⟨tb,2,none⟩ (.slice va (zap G (k+1)).length vc)):=zaz (zav _ _) (by rfl) _
         have ow7:=zaV ow6 bx fr7 (by decide)
         have nrw7:=zfp nrw fr7 (zfZ bx nrw (by decide))
         have hF7:=zfr hF (zbE fr7 (fun _ _ h=>.inl h))
         go_simp
         refine hK.out _ _ (uh HS14 _ hF7) (fun hH_=>?_)
         clear hK K
         refine wpAnyH_done (by kernel_rfl) ?_ _
         have Hbx7:=zaa bx7;have How7:=zaa ow7;have Hnrw7:=zaa nrw7;have HF7:=zaa hF7
         clear bx7 ow7 nrw7 hF7 fr7 bx nrw hF ow6 r0 r1 r2 r3 r4 z0 z1 z2 z3 z4 hj9
         go_wp2
         go_roundw
         case rel=>exact⟨k+1,_,by go_num,by omega,uh HF7,uh Hbx7,(uh Hnrw7).congr (fun j hj=>uh Hcg j hj),uh How7⟩
         case measure=>simp[intOf];omega
       · go_simp
         have hj9:=zeW hF (.cells #[.string (bs rn)] 9)
         have bx:=zaS bx (.cells #[.string (bs rn)] 9)
         have nrw:=nrw.alloc (.cells #[.string (bs rn)] 9)
         have ow:=ow.alloc (.cells #[.string (bs rn)] 9)
         have hF:=zbR hF (.cells #[.string (bs rn)] 9)
         refine hK.out _ _ (uh HS14 _ hF) (fun hH_=>?_)
         clear hK K
         have hj9:(Wa.alloc (.cells #[.string (bs rn)] 9)).drew.heap[Wa.heap.size]? = some (.cells #[.string (bs rn)] 9):=hj9
         have bx:(Wa.alloc (.cells #[.string (bs rn)] 9)).drew.heap[tb]? = some (.cells #[.slice a0 G.kinds.length c0,.slice a1 G.precs.length c1,.slice ua RT.length uc,.slice none 0 0,.int .i64 0] 26):=bx
         have nrw:(Wa.alloc (.cells #[.string (bs rn)] 9)).drew.rowIs nb 3 G.rules.length (fun j=>if j=k then Value.int .i64 (RT.length:Int) else Value.int .i64 (if j<k then(zaZ G j:Int) else 0)):=nrw
         have ow:(Wa.alloc (.cells #[.string (bs rn)] 9)).drew.ownsRow w5.heap.size 9 1 (.slice ua RT.length uc) RT.length (zaY RT):=ow
         have hF:Fr (fun j=>j=tb∨j=nb) w5 (Wa.alloc (.cells #[.string (bs rn)] 9)).drew:=hF
         generalize (Wa.alloc (.cells #[.string (bs rn)] 9)).drew=Wb at *
         refine wpAnyH_ready (rs:=[1]) (by kernel_rfl) (by simp) ?_
         refine AllReadyH.cons rfl (fun K hK=>?_) AllReadyH.nil
         obtain⟨r0,r1,r2,r3,r4,z0,z1,z2,z3,z4⟩:=zae bx
         go_simp
         clear r0 r1 r2 r3 r4 z0 z1 z2 z3 z4
         refine hK.out _ _ (uh HS14 _ hF) (fun hH_=>?_)
         clear hK K
         refine wpAnyH_ready (rs:=[8]) (by kernel_rfl) (by simp) ?_
         refine AllReadyH.cons rfl (fun K hK=>?_) AllReadyH.nil
         refine zaf rfl (.tmp 67) (.tmp 73) 22 rfl w5.heap.size 9 i9 (.string ⟨#[]⟩) 1 16 Tryz.underlying22 hi9 hz90 hz91 hz92 rfl (by decide) (.slice ua RT.length uc) RT.length (zaY RT) (by simp[Act.eval]) ow ⟨_,0,none⟩ 1 1 [.string (bs rn)] (by simp[Act.eval]) rfl (fun j u hu=>zcK hj9 hu) (fun u hu=>by simp at hu;subst hu;rfl) (by unfold maxLen;omega) (by omega) (Nat.le_trans (Nat.le_refl _) hF.1) ?_
         intro v6 W6 ho6 hg6 _
         have bx:=zaD bx ow hg6 (by decide)
         have nrw:=zgc nrw ow hg6 (by decide)
         have hF:=zb4 hF hg6 (fun j hj=>(ow.lt j hj).1)
         have ow6:W6.ownsRow w5.heap.size 9 1 v6 (zap G (k+1)).length (zaY (zap G (k+1))):=by rw[uh Hrt,← zc9,List.length_append];exact ho6
         obtain⟨va,vc,rfl⟩:=zad ow6
         clear ho6 hg6 ow
         go_simp
         refine hK.out _ _ (uh HS14 _ hF) (fun hH_=>?_)
         clear hK K
         refine zac (i:=9) (dst:=some 75) (v:=?_) rfl rfl (by kernel_rfl) (by kernel_rfl) (by kernel_rfl) (fun _ _ _ h=>h) (Or.inl ⟨by rfl,?_⟩) hH_ ?_
         rotate_left
         · intro w hSw;obtain⟨k0,k1⟩:=hSw;go_simp;try (with_reducible rfl)
         simp only[Act.put,zsA,zsB,zsC]
         refine wpAnyH_ready (rs:=[10]) (by kernel_rfl) (by simp) ?_
         refine AllReadyH.cons rfl (fun K hK=>?_) AllReadyH.nil
         obtain⟨r0,r1,r2,r3,r4,z0,z1,z2,z3,z4⟩:=zae bx
         have bx7:_:=zaI (i:=2) bx (.slice va (zap G (k+1)).length vc)
         have fr7:Fr (· = tb) W6 (W6.setCell ⟨tb,2,none⟩ (.slice va (zap G (k+1)).length vc)):=zaz (zav _ _) (by rfl) _
         have ow7:=zaV ow6 bx fr7 (by decide)
         have nrw7:=zfp nrw fr7 (zfZ bx nrw (by decide))
         have hF7:=zfr hF (zbE fr7 (fun _ _ h=>.inl h))
         go_simp
         refine hK.out _ _ (uh HS14 _ hF7) (fun hH_=>?_)
         clear hK K
         refine wpAnyH_done (by kernel_rfl) ?_ _
         have Hbx7:=zaa bx7;have How7:=zaa ow7;have Hnrw7:=zaa nrw7;have HF7:=zaa hF7
         clear bx7 ow7 nrw7 hF7 fr7 bx nrw hF ow6 r0 r1 r2 r3 r4 z0 z1 z2 z3 z4 hj9
         go_wp2
         go_roundw
         case rel=>exact⟨k+1,_,by go_num,by omega,uh HF7,uh Hbx7,(uh Hnrw7).congr (fun j hj=>uh Hcg j hj),uh How7⟩
         case measure=>simp[intOf];omega
   ·obtain rfl:k=G.rules.length:=by omega
    have cst:=nrw.cell hst'
    rw[if_pos hst'] at cst
    obtain⟨r0,r1,r2,r3,r4,z0,z1,z2,z3,z4⟩:=zae bx
    obtain⟨w9,hw9⟩:∃ w9,w9=wr.setCell ⟨tb,4,none⟩ (.int .i64 (zaZ G st:Int)):=⟨_,rfl⟩
    have fr9:Fr (· = tb) wr w9:=by rw[hw9];exact zaz (zav _ _) (by rfl) _
    have bx9:w9.heap[tb]? = some (.cells #[.slice a0 G.kinds.length c0,.slice a1 G.precs.length c1,.slice ua (zap G G.rules.length).length uc,.slice none 0 0,.int .i64 (zaZ G st:Int)] 26):=by rw[hw9];exact zaI (i:=4) bx _
    have ow9:=zaV ow bx fr9 (by decide)
    have nrw9:=(zfp nrw fr9 (zfZ bx nrw (by decide))).congr (g:=fun r=>.int .i64 (zaZ G r:Int)) (fun j hj=>by rw[if_pos hj])
    have hF9:=zfr hF (zbE fr9 (fun _ _ h=>.inl h))
    have HW9:Hid (∀ W,Fr (· = tb) w9 W→Fr (fun j=>j=tb∨j=nb) w5 W∧Below w4.heap.size w4 W∧W.rowIs nb 3 G.rules.length (fun r=>.int .i64 (zaZ G r:Int))):=zaa (fun W hf=>by
     have h1:=zfr hF9 (zbE hf (fun _ _ h=>.inl h))
     exact⟨h1,uh HW W h1,zfp nrw9 hf (zfZ bx9 nrw9 (by decide))⟩)
    have hs9:=fr9.1
    have hsF:=hF.1
    have Hbx9:=zaa bx9;have How9:=zaa ow9
    obtain⟨i71,hi71,hy0,hy1,hy2⟩:=zao zqe
    obtain⟨i3,hi3,ht0,ht1,ht2⟩:=zao zc0
    clear hbW hstW Hr5 Hbx5 HW
    go_wp2
    rw[← hw9]
    clear hw9 r0 r1 r2 r3 r4 z0 z1 z2 z3 z4 cst g0 g1 g2 g3 g4 bx nrw ow hF fr9 bx9 ow9 nrw9 hF9
    go_loopw [9,10,11,12,13] (fun x _ _ _ _ W=>∃ (k:Nat) (qv:Value) (vs:List Value),x=.int .i64 k∧k≤G.prods.length∧Fr (· = tb) w9 W∧W.heap[tb]? = some (.cells #[.slice a0 G.kinds.length c0,.slice a1 G.precs.length c1,.slice ua (zap G G.rules.length).length uc,qv,.int .i64 (zaZ G st:Int)] 26)∧W.ownsRow w9.heap.size 89 7 qv (zaB G k).length vs∧zfy B w9.heap.size W (zaB G k) vs) (fun x _ _ _ _ _=>G.prods.length - (intOf x).toNat)
    case atStart=>exact⟨0,_,[],rfl,Nat.zero_le _,zav _ _,uh Hbx9,World.ownsRow_nil _ _ _ _,by unfold zaB zfy;rfl⟩
    case round =>
     obtain⟨k,qv,vs,rfl,hk,hF,bx,ow,pds⟩:=hrel
     obtain⟨-,hbW,nrw⟩:=uh HW9 wr hF
     have hstW:=zan (zab hbW (by omega)) hB (uh Hst4)
     have g0:=hstW.c0;have g1:=hstW.c1;have g2:=hstW.c2;have g3:=hstW.c3;have g4:=hstW.c4
     rw[uh Hse] at g4
     obtain⟨va,vc,rfl⟩:=zad ow
     have hsW:=hF.1
     have hbB:Below B w4 wr:=zab hbW (by omega)
     by_cases hlt:k<G.prods.length
     ·have hlt':(k:Int)<G.prods.length:=by omega
      obtain⟨b,off,rfl,hbB',rr,rrc,x3,x4,x5,x6,n6,c6,hrr,hac,q0,q1,q2,q3,q4,q5,q6⟩:=zbz hstW.gin.prods hlt
      obtain⟨hl0,hl1⟩:=(uh HG).pl _ (zag hlt)
      have hpr:=(uh HG).pr _ (zag hlt)
      have hpy:=(uh HG).py _ (zag hlt)
      have Hpt0:Hid (zaB G (k+1)=zaB G k ++ if ziI G (G.prods.getD k pd0) then[pdT G (G.prods.getD k pd0)] else[]):=zaa rfl
      have hpl9:=zeH G k
      generalize G.prods.getD k pd0=p at *
      obtain⟨pl,prt,plv,pac⟩:=p
      simp only at hl0 hl1 hpr hpy hrr hac q0 q1 q2
      obtain⟨l,rfl⟩:∃ l:Nat,pl=(l:Int):=⟨pl.toNat,by omega⟩
      have hl2:l<G.rules.length:=by unfold Gm.nr at hl1;omega
      have hl1':(l:Int)<G.rules.length:=by omega
      have Hkp:Hid (ziI G ⟨(l:Int),prt,plv,pac⟩=(zhu G l && (zcQ G l && za9 G.kinds.length (zcQ G) prt))):=zaa rfl
      have Hpd:Hid (pdT G ⟨(l:Int),prt,plv,pac⟩=⟨(zaZ G l:Int),prt.map (zda G),plv,pac⟩):=zaa rfl
      obtain⟨p0,p1,p2,p3,p4,p5,p6,hwp,hbp⟩:=zrD wr (.int .i64 (l:Int)) (.slice rr prt.length rrc) (.int .i64 plv) (.int .i64 x3) (.int .i64 x4) (.string x5) (.slice x6 n6 c6) 89
      obtain⟨Wp,hWp⟩:∃ Wp,Wp=wr.alloc (.cells #[.int .i64 (l:Int),.slice rr prt.length rrc,.int .i64 plv,.int .i64 x3,.int .i64 x4,.string x5,.slice x6 n6 c6] 89):=⟨_,rfl⟩
      have hpx:Wp.heap[wr.heap.size]? = some (.cells #[.int .i64 (l:Int),.slice rr prt.length rrc,.int .i64 plv,.int .i64 x3,.int .i64 x4,.string x5,.slice x6 n6 c6] 89):=by rw[hWp];exact Go.Deep.blk_alloc_new _ _
      rw[← hWp] at p0 p1 p2 p3 p4 p5 p6 hwp hbp
      have hbWp:=hbW.trans (zab hbp (by omega))
      have cm:=(zaw (uh Hmr4) hbWp).cell (show l<G.nr from hl2)
      have ca:Wp.cell? ⟨ab,l,none⟩=some (.bool (zhu G l)):=(zaw (uh Har) hbWp).cell (show l<G.nr from hl2)
      have hst3:=zan (zab hbWp (by omega)) hB (uh Hst4)
      have e0:=hst3.c0;have e1:=hst3.c1;have e2:=hst3.c2;have e3:=hst3.c3;have e4:=hst3.c4
      rw[uh Hse] at e4
      have HE:=zfa (some ⟨kb,ko,none⟩) (some ⟨pb,po,none⟩) ra (some ⟨b,off,none⟩) G.kinds.length kc G.precs.length pc G.rules.length rc G.prods.length qc (st:Int) mb G.rules.length (zcQ G) rr rrc prt B Wp (by omega) hr2 (by omega) (zau (zab hbp (by omega)) hrr) hpy (zaw (uh Hmr4) hbWp)
      have HE:=zaa HE
      -- what holds where nothing is added
      have skip:ziI G ⟨(l:Int),prt,plv,pac⟩=false→∀ W,Below wr.heap.size wr W→Hid (Fr (· = tb) w9 W∧W.heap[tb]? = some (.cells #[.slice a0 G.kinds.length c0,.slice a1 G.precs.length c1,.slice ua (zap G G.rules.length).length uc,.slice va (zaB G k).length vc,.int .i64 (zaZ G st:Int)] 26)∧W.ownsRow w9.heap.size 89 7 (.slice va (zaB G k).length vc) (zaB G (k+1)).length vs∧zfy B w9.heap.size W (zaB G (k+1)) vs):=fun hkp W hW=>zaa (by
       have e:zaB G (k+1)=zaB G k:=by rw[uh Hpt0,hkp];simp
       rw[e]
       exact⟨zb3 hF hW,zaP bx hW,zas ow hW,zdd (fun _ _ _ h=>zas h hW) (zab hW (by omega)) _ _ pds⟩)
      have Hskip:=zaa skip
      have HF:=zaa hF;have Hbx:=zaa bx;have How:=zaa ow;have Hpds:=zaa pds;have HbW:=zaa hbW;have Hnrw:=zaa nrw;have Hbp:=zaa hbp;have Hrr:=zaa hrr;have Hac:=zaa hac;have Hpy:=zaa hpy;have Hpx:=zaa hpx
      clear skip hF bx ow pds hbW nrw hstW hbp hbWp hst3 hrr hac hpy hpx hbB
      rw[hWp] at p0 p1 p2 p3 p4 p5 p6 cm ca e0 e1 e2 e3 e4
      cases ha:zhu G l
      ·rw[ha] at ca Hkp
       have Hsk:=uh Hskip (uh Hkp) Wp (uh Hbp)
       clear ha Hskip
       generalize zaB G k=PT at *
       go_wp2
       rw[← hWp]
       go_roundw
       case rel=>exact⟨k+1,_,vs,by go_num,by omega,(uh Hsk).1,(uh Hsk).2.1,(uh Hsk).2.2.1,(uh Hsk).2.2.2⟩
       case measure=>simp[intOf];omega
      ·cases hp:zcQ G l
       ·rw[ha] at ca Hkp
        rw[hp] at cm Hkp
        have Hsk:=uh Hskip (uh Hkp) Wp (uh Hbp)
        clear ha hp Hskip
        generalize zaB G k=PT at *
        go_wp2
        rw[← hWp]
        go_roundw
        case rel=>exact⟨k+1,_,vs,by go_num,by omega,(uh Hsk).1,(uh Hsk).2.1,(uh Hsk).2.2.1,(uh Hsk).2.2.2⟩
        case measure=>simp[intOf];omega
       · rw [ha] at ca Hkp
         rw[hp] at cm Hkp
         clear ha hp
         go_wp2_with fail
         rw[← hWp]
         clear hWp p0 p1 p2 p3 p4 p5 p6 cm ca e0 e1 e2 e3 e4 g0 g1 g2 g3 g4 q0 q1 q2 q3 q4 q5 q6
         refine(uh HE).mono ?_
         rintro e Wm ⟨rfl,hbm⟩
         have hsm2:=hbm.size
         have Hbm:=zaa ((uh Hbp).trans (zab hbm (by omega)))
         have Hpxm:=zaa (zaP (uh Hpx) hbm)
         clear hbm HE
         cases hwh:za9 G.kinds.length (zcQ G) prt
         · rw[hwh] at Hkp
           have Hsk:=uh Hskip (uh Hkp) Wm (uh Hbm)
           clear hwh Hskip
           generalize zaB G k=PT at *
           go_wp2
           go_roundw
           case rel=>exact⟨k+1,_,vs,by go_num,by omega,(uh Hsk).1,(uh Hsk).2.1,(uh Hsk).2.2.1,(uh Hsk).2.2.2⟩
           case measure=>simp[intOf];omega
         · rw [hwh] at Hkp
           have hkp:ziI G ⟨(l:Int),prt,plv,pac⟩=true:=uh Hkp
           have Hpt:Hid (zaB G (k+1)=zaB G k ++ [⟨(zaZ G l:Int),prt.map (zda G),plv,pac⟩]):=zaa (by rw[uh Hpt0,hkp,uh Hpd];rfl)
           clear hwh Hskip hkp Hpt0 Hkp
           have hfm:=zb3 (uh HF) (uh Hbm)
           obtain⟨-,hbWm,nrwm⟩:=uh HW9 Wm hfm
           have HS21:Hid (∀ W,Below Wm.heap.size Wm W→W.cell? ⟨wr.heap.size,0,none⟩=some (.int .i64 (l:Int))∧W.cell? ⟨wr.heap.size,2,none⟩=some (.int .i64 plv)∧W.cell? ⟨wr.heap.size,3,none⟩=some (.int .i64 x3)∧W.cell? ⟨wr.heap.size,4,none⟩=some (.int .i64 x4)∧W.cell? ⟨wr.heap.size,5,none⟩=some (.string x5)∧W.cell? ⟨wr.heap.size,6,none⟩=some (.slice x6 n6 c6)∧W.cell? ⟨nb,l,none⟩=some (.int .i64 (zaZ G l:Int))):=zaa (fun W hW=>by
             obtain⟨y0,y1,y2,y3,y4,y5,y6,-⟩:=zcl (zaP (uh Hpxm) hW)
             exact⟨y0,y2,y3,y4,y5,y6,(zaw nrwm hW).cell hl2⟩)
           have HbWm:=zaa hbWm
           clear hfm hbWm nrwm
           go_wp2
           go_cut [11] from 82 to 166 (fun v wx=>∃ bq,v=.pointer (some ⟨bq,0,none⟩)∧Wm.heap.size≤bq∧wx.heap[bq]? = some (.cells #[.int .i64 (zaZ G l:Int),.slice none 0 0,.int .i64 plv,.int .i64 x3,.int .i64 x4,.string x5,.slice x6 n6 c6] 89)∧Below Wm.heap.size Wm wx)
           case first =>
             go_region_held3 (fun W:World=>W.cell? ⟨wr.heap.size,0,none⟩=some (.int .i64 (l:Int))∧W.cell? ⟨wr.heap.size,2,none⟩=some (.int .i64 plv)∧W.cell? ⟨wr.heap.size,3,none⟩=some (.int .i64 x3)∧W.cell? ⟨wr.heap.size,4,none⟩=some (.int .i64 x4)∧W.cell? ⟨wr.heap.size,5,none⟩=some (.string x5)∧W.cell? ⟨wr.heap.size,6,none⟩=some (.slice x6 n6 c6)∧W.cell? ⟨nb,l,none⟩=some (.int .i64 (zaZ G l:Int)))
               (first | (refine uh HS21 _ ?_;repeat (first | exact(Below.refl _ _).drew | exact Below.refl _ _ | refine Below.drew ?_ | refine Below.setCell ?_ (by simp) _ | refine Below.alloc ?_ (by simp) _)) | fail)
               (fail)
             all_goals
               go_wp2_with fail
               go_meet
               exact⟨_,rfl,Nat.le_refl _,Go.Deep.blk_alloc_new _ _,((Below.refl _ _).alloc (Nat.le_refl _) _).drew⟩
           case rest =>
             obtain⟨bq,rfl,hbq,hqx,hbq2⟩:=hcut
             have hsq:=hbq2.size
             have hsm3:=(uh Hbm).size
             have hbqW:=(uh Hbm).trans (zab hbq2 hsm3)
             have HI:Hid (∀ W,Fr (· = bq) wc W→Below wr.heap.size wr W∧W.cell? ⟨w.heap.size,0,none⟩=some (.slice (some ⟨kb,ko,none⟩) G.kinds.length kc)∧W.cell? ⟨wr.heap.size,1,none⟩=some (.slice rr prt.length rrc)∧W.rowIs nb 3 G.rules.length (fun r=>.int .i64 (zaZ G r:Int))∧NRow B W rr prt):=zaa (fun W hf=>by
               have h1:=hbqW.trans (zah hf (by omega) (fun j hj=>by have hj:j=bq:=hj;omega))
               obtain⟨-,h2,h3⟩:=uh HW9 W (zb3 (uh HF) h1)
               have h4:=zan (zab h2 (by omega)) hB (uh Hst4)
               obtain⟨-,h5,-⟩:=zcl ((hf.2.1 _ (by omega) (fun e=>by have e:_=bq:=e;omega)).trans (zaP (uh Hpxm) hbq2))
               exact⟨h1,h4.c0,h5,h3,zau (zab h1 (by omega)) (uh Hrr)⟩)
             have HT:Hid (∀ W,Below wr.heap.size wr W→Fr (· = tb) w9 W∧W.heap[tb]? = some (.cells #[.slice a0 G.kinds.length c0,.slice a1 G.precs.length c1,.slice ua (zap G G.rules.length).length uc,.slice va (zaB G k).length vc,.int .i64 (zaZ G st:Int)] 26)∧W.ownsRow w9.heap.size 89 7 (.slice va (zaB G k).length vc) (zaB G k).length vs∧zfy B w9.heap.size W (zaB G k) vs∧zdh B W pac (.int .i64 x3) (.int .i64 x4) (.string x5) (.slice x6 n6 c6)):=zaa (fun W hW=>⟨zb3 (uh HF) hW,zaP (uh Hbx) hW,zas (uh How) hW,zdd (fun _ _ _ h=>zas h hW) (zab hW (by omega)) _ _ (uh Hpds),zbd (zab hW (by omega)) _ _ _ _ _ (uh Hac)⟩)
             have hwq:w9.heap.size≤wc.heap.size:=by omega
             have Hqx:=zaa hqx
             have hbl9:=(Array.getElem?_eq_some_iff.1 hqx).1
             have HB4:Hid (∀ W,Below wr.heap.size wr W→B≤w9.heap.size):=zaa (fun _ _=>by omega)
             generalize wr.heap.size=bP at *
             clear HS21 hqx hbqW hbq2 HbWm Hpxm Hbm Hpx Hbp HF Hbx How Hpds HbW Hnrw Hac Hrr
             go_wp2
             go_loopw [12,13] (fun z _ W=>∃ (j:Nat) (cv:Value),z=.int .i64 j∧j≤prt.length∧Fr (· = bq) wc W∧W.heap[bq]? = some (.cells #[.int .i64 (zaZ G l:Int),cv,.int .i64 plv,.int .i64 x3,.int .i64 x4,.string x5,.slice x6 n6 c6] 89)∧W.ownsRow wc.heap.size 3 1 cv j (zal ((prt.take j).map (zda G)))) (fun z _ _=>prt.length - (intOf z).toNat)
             case atStart=>exact⟨0,_,rfl,Nat.zero_le _,zav _ _,uh Hqx,World.ownsRow_nil _ _ _ _⟩
             case round =>
               obtain⟨j,cv,rfl,hj,hf,qx,co⟩:=hrel
               obtain⟨hI,k0,p1,nrw,hrr⟩:=uh HI wr hf
               obtain⟨ca,cc,rfl⟩:=zad co
               obtain⟨y0,y1,y2,y3,y4,y5,y6,f1⟩:=zcl qx
               have hszq:=hf.1
               by_cases hjt:j<prt.length
               · have hjt':(j:Int)<prt.length:=by omega
                 obtain⟨rb2,ro2,rfl,hrb2,hcx⟩:=za3 hrr hjt
                 have hx:1≤prt.getD j 0∧prt.getD j 0<((G.kinds.length+G.rules.length:Nat):Int):=uh Hpy _ (za5 hjt)
                 have Hsn:Hid ((prt.take (j+1)).map (zda G)=(prt.take j).map (zda G) ++ [zda G (prt.getD j 0)]):=zaa (by rw[zbf _ _ 0 hjt,List.map_append];rfl)
                 have Hsy:Hid (zda G (prt.getD j 0)=if (G.kinds.length:Int)≤prt.getD j 0 then(G.kinds.length:Int)+zaZ G (prt.getD j 0 - G.kinds.length).toNat else prt.getD j 0):=zaa rfl
                 generalize prt.getD j 0=x at *
                 have Hf:=zaa hf;have Hqx2:=zaa qx;have Hco:=zaa co;have Hnrw2:=zaa nrw
                 clear hf qx co hrr hI
                 -- one more symbol
                 have fin:∀ (y:Int),zda G x=y→∀ v' W3,W3.ownsRow wc.heap.size 3 1 v' (j+1) (zal ((prt.take j).map (zda G)) ++ [.int .i64 y])→(wr.alloc (.cells #[.int .i64 y] 3)).grownBy W3 (Value.slice ca j cc).ownBlock→Hid (Fr (· = bq) wc W3∧W3.heap[bq]? = some (.cells #[.int .i64 (zaZ G l:Int),.slice ca j cc,.int .i64 plv,.int .i64 x3,.int .i64 x4,.string x5,.slice x6 n6 c6] 89)∧W3.ownsRow wc.heap.size 3 1 v' (j+1) (zal ((prt.take (j+1)).map (zda G)))):=fun y hy v' W3 ho hg=>zaa (by
                   have c9:=(uh Hco).alloc (.cells #[.int .i64 y] 3)
                   refine⟨zb4 (zbR (uh Hf) _) hg (fun i hi=>((uh Hco).lt i hi).1),zaD (zaS (uh Hqx2) _) c9 hg (by decide),?_⟩
                   rw[uh Hsn,hy,← zaN]
                   exact ho)
                 have Hfin9:=zaa fin
                 clear fin
                 by_cases hxk:x<G.kinds.length
                 · have hx2:decide ((G.kinds.length:Int)≤x)=false:=by rw[decide_eq_false_iff_not];omega
                   have hy:zda G x=x:=by rw[uh Hsy,if_neg (by omega)]
                   have Hy:=zaa hy
                   clear hy
                   generalize hM:(prt.take j).map (zda G)=M at *
                   go_wp2_with (at_builtin;refine wpList_append_own _ rfl _ _ 27 rfl wc.heap.size 3 i3 (.int .i64 0) 1 8 Tryz.underlying27 hi3 ht0 ht1 ht2 rfl (by decide) _ _ _ rfl ((uh Hco).alloc _) ⟨wr.heap.size,0,none⟩ 1 1 [.int .i64 x] rfl rfl ?zc1 ?zc2 ?zc3 ?zc4 ?zc5 ?_)
                   case zc1=>exact ziC _ _ _
                   case zc2=>intro u hu;simp at hu;rcases hu with rfl;rfl
                   case zc3=>unfold maxLen;omega
                   case zc4=>omega
                   case zc5=>simp;omega
                   intro v' W3 hown' hgrow _
                   obtain⟨n1,n2,n3⟩:=uh (uh Hfin9 _ (uh Hy) v' W3 hown' hgrow)
                   obtain⟨va9,vc9,rfl⟩:=zad n3
                   obtain⟨s0,s1,s2,s3,s4,s5,s6,g1⟩:=zcl n2
                   have fr4:Fr (· = bq) W3 (W3.setCell ⟨bq,1,none⟩ (.slice va9 (j+1) vc9)):=zaz (zav _ _) (by rfl) _
                   have Hn1:=zaa (zfr n1 fr4)
                   have Hn2:=zaa (zaI (i:=1) n2 (.slice va9 (j+1) vc9))
                   have Hn3:=zaa (zkn n3 fr4 hbl9)
                   clear hown' hgrow n1 n2 n3 fr4
                   go_wp2
                   go_roundw
                   case rel=>exact⟨j+1,_,by go_num,by omega,uh Hn1,uh Hn2,uh Hn3⟩
                   case measure=>simp[intOf];omega
                 · obtain⟨r,hxr⟩:∃ r:Nat,x - (G.kinds.length:Int)=r:=⟨(x - G.kinds.length).toNat,by omega⟩
                   have hrr9:r<G.rules.length:=by omega
                   have hrr':(r:Int)<G.rules.length:=by omega
                   have hwr:=wN r (by omega)
                   have hx2:decide ((G.kinds.length:Int)≤x)=true:=by rw[decide_eq_true_eq];omega
                   have cn:=(uh Hnrw2).cell hrr9
                   have hnl:=zm1 G r
                   have hy:zda G x=(G.kinds.length:Int)+zaZ G r:=by rw[uh Hsy,if_pos (by omega),hxr,Int.toNat_natCast]
                   have hwk:IntKind.i64.wrap ((G.kinds.length:Int)+(zaZ G r:Int))=(G.kinds.length:Int)+zaZ G r:=by rw[IntKind.wrap_i64];omega
                   have Hy:=zaa hy
                   clear hy
                   generalize zaZ G r=nm at *
                   generalize hM:(prt.take j).map (zda G)=M at *
                   go_wp2
                   go_quiet (fail)
                   have q1':(wr.drewN nq).cell? _=_:=y1
                   have f1':(wr.drewN nq).frozen? _=_:=f1
                   have HcoD:=zaa (show (wr.drewN nq).ownsRow wc.heap.size 3 1 (.slice ca j cc) j (zal M) from uh Hco)
                   have HfinD:Hid (∀ (y:Int),zda G x=y→∀ v' W3,W3.ownsRow wc.heap.size 3 1 v' (j+1) (zal M ++ [.int .i64 y])→((wr.drewN nq).alloc (.cells #[.int .i64 y] 3)).grownBy W3 (Value.slice ca j cc).ownBlock→Hid (Fr (· = bq) wc W3∧W3.heap[bq]? = some (.cells #[.int .i64 (zaZ G l:Int),.slice ca j cc,.int .i64 plv,.int .i64 x3,.int .i64 x4,.string x5,.slice x6 n6 c6] 89)∧W3.ownsRow wc.heap.size 3 1 v' (j+1) (zal ((prt.take (j+1)).map (zda G))))):=zaa (fun y hy v' W3 ho hg=>by
                     have c9:=(uh HcoD).alloc (.cells #[.int .i64 y] 3)
                     refine zaa ⟨zb4 (zbR (zre (uh Hf) nq) _) hg (fun i hi=>((uh HcoD).lt i hi).1),zaD (zaS (show (wr.drewN nq).heap[bq]? = _ from uh Hqx2) _) c9 hg (by decide),?_⟩
                     rw[uh Hsn,hy,← zaN]
                     exact ho)
                   have hszD:wc.heap.size≤(wr.drewN nq).heap.size:=hszq
                   clear y0 y1 y2 y3 y4 y5 y6 f1 Hfin9 Hco cn k0 p1 hcx hszq
                   generalize wr.drewN nq=wd at *
                   go_wp2_with (at_builtin;refine wpList_append_own _ rfl _ _ 27 rfl wc.heap.size 3 i3 (.int .i64 0) 1 8 Tryz.underlying27 hi3 ht0 ht1 ht2 rfl (by decide) _ _ _ rfl ((uh HcoD).alloc _) ⟨wd.heap.size,0,none⟩ 1 1 [.int .i64 ((G.kinds.length:Int)+(nm:Int))] rfl rfl ?zd1 ?zd2 ?zd3 ?zd4 ?zd5 ?_)
                   case zd1=>exact ziC _ _ _
                   case zd2=>intro u hu;simp at hu;rcases hu with rfl;rfl
                   case zd3=>unfold maxLen;omega
                   case zd4=>omega
                   case zd5=>simp;omega
                   intro v' W3 hown' hgrow _
                   obtain⟨n1,n2,n3⟩:=uh (uh HfinD _ (uh Hy) v' W3 hown' hgrow)
                   obtain⟨va9,vc9,rfl⟩:=zad n3
                   obtain⟨s0,s1,s2,s3,s4,s5,s6,g1⟩:=zcl n2
                   have fr4:Fr (· = bq) W3 (W3.setCell ⟨bq,1,none⟩ (.slice va9 (j+1) vc9)):=zaz (zav _ _) (by rfl) _
                   have Hn1:=zaa (zfr n1 fr4)
                   have Hn2:=zaa (zaI (i:=1) n2 (.slice va9 (j+1) vc9))
                   have Hn3:=zaa (zkn n3 fr4 hbl9)
                   clear hown' hgrow n1 n2 n3 fr4
                   go_wp2
                   go_roundw
                   case rel=>exact⟨j+1,_,by go_num,by omega,uh Hn1,uh Hn2,uh Hn3⟩
                   case measure=>simp[intOf];omega
               · obtain rfl:j=prt.length:=by omega
                 obtain⟨t1,t2,t3,t4,t5⟩:=uh HT wr hI
                 have hsB:=uh HB4 wr hI
                 obtain⟨r0,r1,r2,r3,r4,z0,z1,z2,z3,z4⟩:=zae t2
                 have Ht1:=zaa t1;have Ht2:=zaa t2;have Ht3:=zaa t3;have Ht4:=zaa t4;have Ht5:=zaa t5;have Hco:=zaa co
                 have hs99:=t1.1
                 clear t1 t2 t3 t4 t5 co qx hf nrw hrr hI
                 have Hmap:Hid ((prt.take prt.length).map (zda G)=prt.map (zda G)):=zaa (by rw[List.take_length])
                 generalize hPT:zaB G k=PT at *
                 go_wp2_with (at_builtin;refine wpList_append_own _ rfl _ _ 24 rfl w9.heap.size 89 i71 (.agg #[.int .i64 0,.slice none 0 0,.int .i64 0,.int .i64 0,.int .i64 0,.string ⟨#[]⟩,.slice none 0 0]) 7 96 Tryz.underlying24 hi71 hy0 hy1 hy2 rfl (by decide) _ _ _ rfl ((uh Ht3).alloc _) ⟨wr.heap.size,0,none⟩ 1 1 [.int .i64 (zaZ G l:Int),.slice ca prt.length cc,.int .i64 plv,.int .i64 x3,.int .i64 x4,.string x5,.slice x6 n6 c6] rfl rfl ?ze1 ?ze2 ?ze3 ?ze4 ?ze5 ?_)
                 case ze1=>exact fun i u hu=>ziU (cs:=#[.int .i64 (zaZ G l:Int),.slice ca prt.length cc,.int .i64 plv,.int .i64 x3,.int .i64 x4,.string x5,.slice x6 n6 c6]) _ _ hu
                 case ze2=>intro u hu;simp at hu;rcases hu with rfl | rfl | rfl | rfl | rfl | rfl | rfl <;> rfl
                 case ze3=>unfold maxLen;omega
                 case ze4=>omega
                 case ze5=>simp;omega
                 intro v' W3 hown' hgrow _
                 have c9:=(uh Ht3).alloc (.cells #[.int .i64 (zaZ G l:Int),.slice ca prt.length cc,.int .i64 plv,.int .i64 x3,.int .i64 x4,.string x5,.slice x6 n6 c6] 89)
                 have bx3:=zaD (zaS (uh Ht2) (.cells #[.int .i64 (zaZ G l:Int),.slice ca prt.length cc,.int .i64 plv,.int .i64 x3,.int .i64 x4,.string x5,.slice x6 n6 c6] 89)) c9 hgrow (by decide)
                 have f3:=zb4 (zbR (uh Ht1) (.cells #[.int .i64 (zaZ G l:Int),.slice ca prt.length cc,.int .i64 plv,.int .i64 x3,.int .i64 x4,.string x5,.slice x6 n6 c6] 89)) hgrow (fun i hi=>(c9.lt i hi).1)
                 have b3:Below B wr W3:=((Below.refl _ _).alloc (by omega) _).grown hgrow (by simp;omega) (fun i hi=>Nat.le_trans hsB (c9.lt i hi).1)
                 have ow3:∀ v n xs,wr.ownsRow w9.heap.size 3 1 v n xs→W3.ownsRow w9.heap.size 3 1 v n xs:=fun v n xs h=>zat (h.alloc _) c9 hgrow (by decide)
                 have pd3:=ziq (p:=⟨(zaZ G l:Int),prt.map (zda G),plv,pac⟩) (v0:=.int .i64 (zaZ G l:Int)) (v1:=.slice ca prt.length cc) (v2:=.int .i64 plv) (v3:=.int .i64 x3) (v4:=.int .i64 x4) (v5:=.string x5) (v6:=.slice x6 n6 c6) (B:=B) (L:=w9.heap.size) (W:=W3) ⟨rfl,(by
                   have h:=ow3 _ _ _ (zaK (uh Hco) hwq)
                   rw[uh Hmap] at h
                   show W3.ownsRow _ 3 1 _ (prt.map (zda G)).length _
                   rw[List.length_map]
                   exact h),rfl,zbd b3 _ _ _ _ _ (uh Ht5)⟩ _ _ (zdd ow3 b3 _ _ (uh Ht4))
                 rw[← uh Hpt] at pd3
                 have ho3:W3.ownsRow w9.heap.size 89 7 v' (zaB G (k+1)).length (vs ++ [.int .i64 (zaZ G l:Int),.slice ca prt.length cc,.int .i64 plv,.int .i64 x3,.int .i64 x4,.string x5,.slice x6 n6 c6]):=by
                   rw[uh Hpt,List.length_append];exact hown'
                 obtain⟨v9,c99,rfl⟩:=zad ho3
                 obtain⟨s0,s1,s2,s3,s4,u0,u1,u2,u3,u4⟩:=zae bx3
                 have fr4:Fr (· = tb) W3 (W3.setCell ⟨tb,3,none⟩ (.slice v9 (zaB G (k+1)).length c99)):=zaz (zav _ _) (by rfl) _
                 have Hx1:=zaa (zfr f3 fr4)
                 have Hx2:=zaa (zaI (i:=3) bx3 (.slice v9 (zaB G (k+1)).length c99))
                 have Hx3:=zaa (zaV ho3 bx3 fr4 (by decide))
                 have Hx4:=zaa (zdd (fun _ _ _ h=>zaV h bx3 fr4 (by decide)) (zah fr4 (by have:=f3.1;omega) (fun j hj=>by have hj:j=tb:=hj;omega)) _ _ pd3)
                 clear hown' hgrow c9 bx3 f3 b3 ow3 pd3 ho3 fr4 r0 r1 r2 r3 r4 z0 z1 z2 z3 z4
                 go_wp2
                 go_roundw
                 case rel=>exact⟨k+1,_,_,by go_num,by omega,uh Hx1,uh Hx2,uh Hx3,uh Hx4⟩
                 case measure=>simp[intOf];omega
     ·obtain rfl:k=G.prods.length:=by omega
      have hbr9:wr.heap[w.heap.size+1]? = some (.cells #[.slice none 0 0,.slice none 0 0,.slice none 0 0,.slice none 0 0,.int .i64 0] 26):=(hbW.block _ (by omega)).trans (((uh Hb4).block _ (by omega)).trans (uh Hbr))
      have hF5:=(uh HW9 wr hF).1
      obtain⟨hk0,hk1⟩:=uh HK01 wr hF5
      have hru:=zaV (uh How9) (uh Hbx9) hF (by decide)
      obtain⟨r0,r1,r2,r3,r4,z0,z1,z2,z3,z4⟩:=zae bx
      obtain⟨s0,s1,s2,s3,s4,u0,u1,u2,u3,u4⟩:=zae hbr9
      have h5:=zgJ hbr9 (.slice a0 G.kinds.length c0) (.slice a1 G.precs.length c1) (.slice ua (zap G G.rules.length).length uc) (.slice va (zaB G G.prods.length).length vc) (.int .i64 (zaZ G st:Int))
      have hs55:=hF5.1
      have hs44:=hbW.size
      have Hh5:=zaa h5;have Hk0:=zaa hk0;have Hk1:=zaa hk1;have Hru:=zaa hru;have How:=zaa ow;have Hpds:=zaa pds;have HbW:=zaa hbW
      clear h5 hk0 hk1 hru ow pds hbW hbr9 bx nrw hstW hF5 hF
      generalize hRL:zap G G.rules.length=RL at *
      generalize hPL:zaB G G.prods.length=PL at *
      go_wp2
      obtain⟨WF,hWF⟩:∃ WF,WF=((((wr.setCell ⟨w.heap.size+1,0,none⟩ (.slice a0 G.kinds.length c0)).setCell ⟨w.heap.size+1,1,none⟩ (.slice a1 G.precs.length c1)).setCell ⟨w.heap.size+1,2,none⟩ (.slice ua RL.length uc)).setCell ⟨w.heap.size+1,3,none⟩ (.slice va PL.length vc)).setCell ⟨w.heap.size+1,4,none⟩ (.int .i64 (zaZ G st:Int)):=⟨_,rfl⟩
      have h5:=uh Hh5
      rw[← hWF] at h5 ⊢
      clear hWF Hh5
      obtain⟨hbF,hFr⟩:=h5
      obtain⟨y0,y1,y2,y3,y4,-⟩:=zae hbF
      have o0:=zbA (uh Hk0) hFr (by omega)
      have o1:=zbA (uh Hk1) hFr (by omega)
      have o2:=zbA (uh Hru) hFr (by omega)
      have o3:=zbA (uh How) hFr (by omega)
      have hszF:=hFr.1
      have pdF:=zdd (fun _ _ _ h=>zbA h hFr (by omega)) (zah hFr (by omega) (fun j hj=>by have hj:j=w.heap.size+1:=hj;omega)) _ _ (uh Hpds)
      obtain⟨_,_,v0,e0⟩:=zd8 o0
      obtain⟨_,_,v1,e1⟩:=zkm o1
      obtain⟨_,_,v2,e2⟩:=zd8 o2
      obtain⟨_,_,v3,e3⟩:=zkl o3 pdF (by omega)
      cases v0;cases v1;cases v2;cases v3
      have hstart:(zbB G).start=(zaZ G st:Int):=by
       show ((zaZ G G.start.toNat:Nat):Int)=_
       rw[uh Hse,Int.toNat_natCast]
      have hbZ:Below w.heap.size w WF:=(uh Hb1).trans ((zab (uh Hb4) (by omega)).trans ((zab (uh HbW) (by omega)).trans (zah hFr (by omega) (fun j hj=>by have hj:j=w.heap.size+1:=hj;omega))))
      refine bodyPost_ret (v:=.tuple #[.agg #[.slice a0 G.kinds.length c0,.slice a1 G.precs.length c1,.slice ua RL.length uc,.slice va PL.length vc,.int .i64 (zaZ G st:Int)],.int .i64 0]) ?zz9 rfl ⟨a0,a1,ua,va,c0,c1,uc,vc,?_,⟨e0,e1,?_,?_,ze6 (uh Htab) hB (zab hbZ hB)⟩,hbZ⟩
      case zz9=>simp[results,Tryz.results19,go_sem,y0,y1,y2,y3,y4]
      ·rw[hstart,← hRL,← hPL];rfl
      ·show zez _ _ _ (zap G G.rules.length)
       rw[hRL];exact e2
      ·show zpV _ _ _ (zaB G G.prods.length)
       rw[hPL];exact e3
end Go.Proofs.YtagohbpbgjelaaaGreatDoor

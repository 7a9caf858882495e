/- The document's Look, of what may be. -/
import Derived.Test.YtagohbpbgjelaaaGreatDoorK1
namespace Go.Proofs.YtagohbpbgjelaaaGreatDoor
open Go.RowKit

set_option maxRecDepth 100000 in
theorem six_cells {w:World} {b:Nat} {t:TypeId} {a0 a1 a2 a3 a4 a5:Value} (h:w.heap[b]? = some (.cells #[a0,a1,a2,a3,a4,a5] t)):w.cell? ⟨b,0,none⟩=some a0∧w.cell? ⟨b,1,none⟩=some a1∧w.cell? ⟨b,2,none⟩=some a2∧w.cell? ⟨b,3,none⟩=some a3∧w.cell? ⟨b,4,none⟩=some a4∧w.cell? ⟨b,5,none⟩=some a5∧w.frozen? ⟨b,0,none⟩=false∧w.frozen? ⟨b,1,none⟩=false∧w.frozen? ⟨b,2,none⟩=false∧w.frozen? ⟨b,3,none⟩=false∧w.frozen? ⟨b,4,none⟩=false∧w.frozen? ⟨b,5,none⟩=false:=by
 refine⟨?_,?_,?_,?_,?_,?_,?_,?_,?_,?_,?_,?_⟩ <;> (first | (unfold World.cell?;rw[h];rfl) | (unfold World.frozen?;rw[h];rfl))
set_option maxRecDepth 100000 in
theorem set_blk {w:World} {b i:Nat} {t:TypeId} {c:Array Value} (h:w.heap[b]? = some (.cells c t)) (v:Value):(w.setCell ⟨b,i,none⟩ v).heap[b]? = some (.cells (c.setIfInBounds i v) t):=by
 simp[World.setCell,Array.getElem?_modify,h]
set_option maxRecDepth 100000 in
theorem set6 {w:World} {b:Nat} {t:TypeId} {a0 a1 a2 a3 a4 a5:Value} (h:w.heap[b]? = some (.cells #[a0,a1,a2,a3,a4,a5] t)) (v0 v1 v2 v3 v4 v5:Value) :
   ((((((w.setCell ⟨b,0,none⟩ v0).setCell ⟨b,1,none⟩ v1).setCell ⟨b,2,none⟩ v2).setCell ⟨b,3,none⟩ v3).setCell ⟨b,4,none⟩ v4).setCell ⟨b,5,none⟩ v5).heap[b]? = some (.cells #[v0,v1,v2,v3,v4,v5] t)∧Fr (· = b) w ((((((w.setCell ⟨b,0,none⟩ v0).setCell ⟨b,1,none⟩ v1).setCell ⟨b,2,none⟩ v2).setCell ⟨b,3,none⟩ v3).setCell ⟨b,4,none⟩ v4).setCell ⟨b,5,none⟩ v5) :=
 ⟨set_blk (set_blk (set_blk (set_blk (set_blk (set_blk h v0) v1) v2) v3) v4) v5,fr_set (fr_set (fr_set (fr_set (fr_set (fr_set (fr_refl (· = b) w) (by rfl) _) (by rfl) _) (by rfl) _) (by rfl) _) (by rfl) _) (by rfl) _⟩
set_option maxRecDepth 100000 in
theorem row_fr {w w':World} {b k t n:Nat} {f:Nat→Value} (h:w.rowIs b t n f) (hf:Fr (· = k) w w') (hne:b≠k):w'.rowIs b t n f:=h.of_block (hf.2.1 _ h.lt hne)
set_option maxRecDepth 100000 in
theorem six_apart {w:World} {b k t e n:Nat} {c:Array Value} {f:Nat→Value} (h:w.heap[b]? = some (.cells c t)) (hr:w.rowIs k e n f) (hne:e≠t):k≠b:=by
 intro hk
 subst hk
 obtain⟨c',h',-⟩:=hr
 rw[h] at h'
 simp at h'
 exact hne h'.2.symm

set_option maxHeartbeats 8000000 in
set_option maxRecDepth 100000 in
theorem rLook_yes (G : Gm) (hc : checkB G = true) (ka pa ra qa : Option Addr) (kc pc rc qc : Nat) (B : Nat) (w : World) (hB : B ≤ w.heap.size) (hin : GIn B w G ka pa ra qa) :
   Calls Tryz.prog 10 #[.agg #[.slice ka G.kinds.length kc,.slice pa G.precs.length pc,.slice ra G.rules.length rc,.slice qa G.prods.length qc,.int .i64 G.start]] w fun e w'=>∃ nb pb ab cb fa fc va vc,e=.returned (.tuple #[.agg #[.slice (some ⟨nb,0,none⟩) G.nr G.nr,.slice (some ⟨pb,0,none⟩) G.nr G.nr,.slice (some ⟨ab,0,none⟩) G.nr G.nr,.slice (some ⟨cb,0,none⟩) G.nr G.nr,.slice fa (posT (fstF G) G.nk G.nr).length fc,.slice va (posT (flwF G) G.nk G.nr).length vc],.int .i64 0]) ∧
     w'.rowIs nb 4 G.nr (fun r=>.bool (nullF G r))∧w'.rowIs pb 4 G.nr (fun r=>.bool (prdF G r))∧w'.rowIs ab 4 G.nr (fun r=>.bool (atF G r))∧w'.rowIs cb 4 G.nr (fun r=>.bool (mksF G r r))∧NNRow w' fa (posT (fstF G) G.nk G.nr)∧NNRow w' va (posT (flwF G) G.nk G.nr)∧Below w.heap.size w w':=by
 obtain⟨w1,hw1⟩:∃ w1,w1=(w.alloc (.cells #[.slice ka G.kinds.length kc,.slice pa G.precs.length pc,.slice ra G.rules.length rc,.slice qa G.prods.length qc,.int .i64 G.start] 26)).alloc (.cells #[.slice none 0 0,.slice none 0 0,.slice none 0 0,.slice none 0 0,.slice none 0 0,.slice none 0 0] 31):=⟨_,rfl⟩
 obtain⟨hst,hb1,hs1,hbx⟩:=look_in kc pc rc qc hB hin hw1
 have hG:=check_ok hc
 have d0:=hst.c0;have d1:=hst.c1;have d2:=hst.c2;have d3:=hst.c3;have d4:=hst.c4
 have hC:=rCheck_any G ka pa ra qa kc pc rc qc B w1 (by omega) hst.gin (fun p hp=>by have:=hG.pr p hp;omega)
 rw[show checkV G=0 by unfold checkV;rw[hc];rfl] at hC
 have HC:=hide hC
 have Hb1:=hide hb1;have Hbx:=hide hbx;have HG:=hide hG;have Hst:=hide hst
 clear hst hC hb1 hin hc hbx hG
 go_enter Tryz.func10,Tryz.ntmps10
 rw[hw1] at d0 d1 d2 d3 d4
 go_wp2_with fail
 rw[← hw1]
 clear hw1 d0 d1 d2 d3 d4
 refine(uh HC).mono ?_
 rintro e w2 ⟨rfl,hb2⟩
 have hst2:=gst_kept (below_le hb2 (by omega)) hB (uh Hst)
 have e0:=hst2.c0;have e1:=hst2.c1;have e2:=hst2.c2;have e3:=hst2.c3;have e4:=hst2.c4
 have Hb2:=hide hb2
 have hs2:=hb2.size
 have HN:=hide (rNullable_any G (uh HG) ka pa ra qa kc pc rc qc B w2 (by omega) hst2.gin)
 clear hb2 hst2 HC
 go_wp2_with fail
 refine(uh HN).mono ?_
 rintro e w3 ⟨nb,rfl,hnb,hnr,hb3⟩
 have hb3':=(uh Hb2).trans (below_le hb3 (by omega))
 have hst3:=gst_kept (below_le hb3' (by omega)) hB (uh Hst)
 have f0:=hst3.c0;have f1:=hst3.c1;have f2:=hst3.c2;have f3:=hst3.c3;have f4:=hst3.c4
 have Hb3:=hide hb3'
 have hs3:=hb3'.size
 have HF:=hide (rFirsts_any G (uh HG) ka pa ra qa kc pc rc qc nb G.nr B w3 (by omega) hst3.gin hnr)
 have Hnr:=hide hnr
 clear hb3 hb3' hst3 HN e0 e1 e2 e3 e4 hnr
 go_wp2_with fail
 refine(uh HF).mono ?_
 rintro e w4 ⟨fb,fcc,fk,rfl,hfb,hfk,hft,hb4⟩
 have hb4':=(uh Hb3).trans (below_le hb4 (by omega))
 have hst4:=gst_kept (below_le hb4' (by omega)) hB (uh Hst)
 have e0:=hst4.c0;have e1:=hst4.c1;have e2:=hst4.c2;have e3:=hst4.c3;have e4:=hst4.c4
 have Hb4:=hide hb4'
 have hs4:=hb4'.size
 have HA:=hide (rReached_all G (uh HG) ka pa ra qa kc pc rc qc none 0 B w4 (by omega) hst4.gin)
 have Hnr4:=hide (rowIs_below (uh Hnr) hb4)
 have Hft:=hide hft
 clear hb4 hb4' hst4 HF f0 f1 f2 f3 f4 hft Hnr
 go_wp2_with fail
 refine(uh HA).mono ?_
 rintro e w5 ⟨ab,rfl,hab,har,hb5⟩
 have hb5':=(uh Hb4).trans (below_le hb5 (by omega))
 have hst5:=gst_kept (below_le hb5' (by omega)) hB (uh Hst)
 have f0:=hst5.c0;have f1:=hst5.c1;have f2:=hst5.c2;have f3:=hst5.c3;have f4:=hst5.c4
 have Hb5:=hide hb5'
 have hs5:=hb5'.size
 have Hnr5:=hide (rowIs_below (uh Hnr4) hb5)
 have Hft5:=hide (tab_below (uh Hft) hb5 (Nat.le_refl _))
 have Har:=hide har
 clear hb5 hb5' HA e0 e1 e2 e3 e4 har Hnr4 Hft
 have HS:Hid (∀ W:World,Below w5.heap.size w5 W→W.cell? ⟨w.heap.size,0,none⟩=some (.slice ka G.kinds.length kc)∧W.cell? ⟨w.heap.size,1,none⟩=some (.slice pa G.precs.length pc)∧W.cell? ⟨w.heap.size,2,none⟩=some (.slice ra G.rules.length rc)∧W.cell? ⟨w.heap.size,3,none⟩=some (.slice qa G.prods.length qc)∧W.cell? ⟨w.heap.size,4,none⟩=some (.int .i64 G.start)):=hide (fun W hb=>by
   have h:=gst_kept (below_le hb (by omega)) hB hst5
   exact⟨h.c0,h.c1,h.c2,h.c3,h.c4⟩)
 have HP:Hid (∀ W:World,Below w5.heap.size w5 W→Calls Tryz.prog 41 #[.agg #[.slice ka G.kinds.length kc,.slice pa G.precs.length pc,.slice ra G.rules.length rc,.slice qa G.prods.length qc,.int .i64 G.start]] W fun e w'=>∃ b,e=.returned (.slice (some ⟨b,0,none⟩) G.nr G.nr)∧W.heap.size≤b∧w'.rowIs b 4 G.nr (fun r=>.bool (prdF G r))∧Below W.heap.size W w'):=hide (fun W hb=>rProductive_any G (uh HG) ka pa ra qa kc pc rc qc B W (by have:=hb.size;omega) (gst_kept (below_le hb (by omega)) hB hst5).gin)
 have HY:Hid (∀ W:World,Below w5.heap.size w5 W→Calls Tryz.prog 42 #[.agg #[.slice ka G.kinds.length kc,.slice pa G.precs.length pc,.slice ra G.rules.length rc,.slice qa G.prods.length qc,.int .i64 G.start],.slice (some ⟨nb,0,none⟩) G.nr G.nr] W fun e w'=>∃ b,e=.returned (.slice (some ⟨b,0,none⟩) G.nr G.nr)∧W.heap.size≤b∧w'.rowIs b 4 G.nr (fun r=>.bool (mksF G r r))∧Below W.heap.size W w'):=hide (fun W hb=>rCyclic_any G (uh HG) ka pa ra qa kc pc rc qc nb G.nr B W (by have:=hb.size;omega) (gst_kept (below_le hb (by omega)) hB hst5).gin (rowIs_below (uh Hnr5) hb))
 have hS:Below w5.heap.size w5 w5.drew:=(Below.refl _ _).drew
 have Hst5:=hide hst5
 clear hst5
 go_wp2
 go_cut [7] from 19 to 26 (fun v wx=>∃ rb pb cb,v=.pointer (some ⟨rb,0,none⟩)∧w5.heap.size≤rb∧wx.heap[rb]? = some (.cells #[.slice (some ⟨nb,0,none⟩) G.nr G.nr,.slice (some ⟨pb,0,none⟩) G.nr G.nr,.slice (some ⟨ab,0,none⟩) G.nr G.nr,.slice (some ⟨cb,0,none⟩) G.nr G.nr,.slice none 0 0,.slice none 0 0] 31)∧wx.rowIs pb 4 G.nr (fun r=>.bool (prdF G r))∧wx.rowIs cb 4 G.nr (fun r=>.bool (mksF G r r))∧Below w5.heap.size w5 wx)
 case first =>
   refine wp_region_held_drew (S:=fun W:World=>W.cell? ⟨w.heap.size,0,none⟩=some (.slice ka G.kinds.length kc)∧W.cell? ⟨w.heap.size,1,none⟩=some (.slice pa G.precs.length pc)∧W.cell? ⟨w.heap.size,2,none⟩=some (.slice ra G.rules.length rc)∧W.cell? ⟨w.heap.size,3,none⟩=some (.slice qa G.prods.length qc)∧W.cell? ⟨w.heap.size,4,none⟩=some (.int .i64 G.start)) (by kernel_rfl) (uh HS _ hS) (fun hHeld=>?_)
   refine take_dst (i:=0) (dst:=some 19) (v:=?_) rfl rfl (by kernel_rfl) (by kernel_rfl) (by kernel_rfl) (fun _ _ _ h=>h) (Or.inl ⟨by rfl,?_⟩) hHeld ?_
   rotate_left
   · intro w hSw;obtain⟨k0,k1,k2,k3,k4⟩:=hSw;go_simp;try (with_reducible rfl)
   simp only[Act.put,zsA,zsB,zsC]
   refine take_dst (i:=1) (dst:=some 20) (v:=?_) rfl rfl (by kernel_rfl) (by kernel_rfl) (by kernel_rfl) (fun _ _ _ h=>h) (Or.inl ⟨by rfl,?_⟩) hHeld ?_
   rotate_left
   · intro w hSw;obtain⟨k0,k1,k2,k3,k4⟩:=hSw;go_simp;try (with_reducible rfl)
   simp only[Act.put,zsA,zsB,zsC]
   refine take_dst (i:=3) (dst:=some 22) (v:=?_) rfl rfl (by kernel_rfl) (by kernel_rfl) (by kernel_rfl) (fun _ _ _ h=>h) (Or.inl ⟨by rfl,?_⟩) hHeld ?_
   rotate_left
   · intro w hSw;obtain⟨k0,k1,k2,k3,k4⟩:=hSw;go_simp;try (with_reducible rfl)
   simp only[Act.put,zsA,zsB,zsC]
   refine take_dst (i:=4) (dst:=some 23) (v:=?_) rfl rfl (by kernel_rfl) (by kernel_rfl) (by kernel_rfl) (fun _ _ _ h=>h) (Or.inl ⟨by rfl,?_⟩) hHeld ?_
   rotate_left
   · intro w hSw;obtain⟨k0,k1,k2,k3,k4⟩:=hSw;go_simp;try (with_reducible rfl)
   simp only[Act.put,zsA,zsB,zsC]
   refine take_dst (i:=5) (dst:=some 24) (v:=?_) rfl rfl (by kernel_rfl) (by kernel_rfl) (by kernel_rfl) (fun _ _ _ h=>h) (Or.inl ⟨by rfl,?_⟩) hHeld ?_
   rotate_left
   · intro w hSw;obtain⟨k0,k1,k2,k3,k4⟩:=hSw;go_simp;try (with_reducible rfl)
   simp only[Act.put,zsA,zsB,zsC]
   refine wpAnyH_ready (rs:=[2,8]) (by kernel_rfl) (by simp) ?_
   refine AllReadyH.cons rfl (fun K hK=>?_) (AllReadyH.cons rfl (fun K hK=>?_) AllReadyH.nil)
   · go_simp
     go_at_call 41
     refine(uh HP _ hS).mono ?_
     rintro e W6 ⟨pb,rfl,hpb,hpr,hb6⟩
     have hS:=hS.trans (below_le hb6 hS.size)
     clear hb6
     go_wp2_with fail
     refine hK.out _ _ (uh HS _ hS) (fun hHeld=>?_)
     clear hK K
     refine wpAnyH_ready (rs:=[6,8]) (by kernel_rfl) (by simp) ?_
     refine AllReadyH.cons rfl (fun K hK=>?_) (AllReadyH.cons rfl (fun K hK=>?_) AllReadyH.nil)
     · go_simp
       go_at_call 42
       refine(uh HY _ hS).mono ?_
       rintro e W7 ⟨cb,rfl,hcb,hcr,hb7⟩
       have hpr:=rowIs_below hpr hb7
       have hS:=hS.trans (below_le hb7 hS.size)
       clear hb7
       go_wp2_with fail
       refine hK.out _ _ (uh HS _ hS) (fun hHeld=>?_)
       clear hK K
       refine take_dst (i:=7) (dst:=some 26) (v:=?_) rfl rfl (by kernel_rfl) (by kernel_rfl) (by kernel_rfl) (fun _ _ _ h=>h) (Or.inl ⟨by rfl,?_⟩) hHeld ?_
       rotate_left
       · intro w hSw;obtain⟨k0,k1,k2,k3,k4⟩:=hSw;go_simp;try (with_reducible rfl)
       simp only[Act.put,zsA,zsB,zsC]
       refine wpAnyH_ready (rs:=[8]) (by kernel_rfl) (by simp) ?_
       refine AllReadyH.cons rfl (fun K hK=>?_) AllReadyH.nil
       go_simp
       have hrb:=hS.size
       refine hK.out _ _ (uh HS _ (hS.alloc hS.size _)) (fun hHeld=>?_)
       clear hK K
       refine wpAnyH_ready (rs:=[9]) (by kernel_rfl) (by simp) ?_
       refine AllReadyH.cons rfl (fun K hK=>?_) AllReadyH.nil
       go_simp
       refine hK.out _ _ (uh HS _ (hS.alloc hS.size _)) (fun hHeld=>?_)
       clear hK K
       refine wpAnyH_done (by kernel_rfl) ?_ _
       go_wp2_with fail
       go_meet
       exact⟨W7.heap.size,pb,cb,rfl,hrb,Go.Deep.blk_alloc_new _ _,hpr.alloc _,hcr.alloc _,hS.alloc hS.size _⟩
     · go_simp
       have hbx:(W6.alloc (.cells #[.slice none 0 0,.slice none 0 0,.slice none 0 0,.slice none 0 0,.slice none 0 0,.slice none 0 0] 31)).heap[W6.heap.size]? = some (.cells #[.slice none 0 0,.slice none 0 0,.slice none 0 0,.slice none 0 0,.slice none 0 0,.slice none 0 0] 31):=Go.Deep.blk_alloc_new _ _
       have hrb:=hS.size
       have hS:=hS.alloc hS.size (.cells #[.slice none 0 0,.slice none 0 0,.slice none 0 0,.slice none 0 0,.slice none 0 0,.slice none 0 0] 31)
       refine hK.out _ _ (uh HS _ hS) (fun hHeld=>?_)
       clear hK K
       have hpr:=hpr.alloc (.cells #[.slice none 0 0,.slice none 0 0,.slice none 0 0,.slice none 0 0,.slice none 0 0,.slice none 0 0] 31)
       refine wpAnyH_ready (rs:=[6]) (by kernel_rfl) (by simp) ?_
       refine AllReadyH.cons rfl (fun K hK=>?_) AllReadyH.nil
       go_simp
       go_at_call 42
       refine(uh HY _ hS).mono ?_
       rintro e W7 ⟨cb,rfl,hcb,hcr,hb7⟩
       have hpr:=rowIs_below hpr hb7
       have hbx:=(hb7.block _ (Array.getElem?_eq_some_iff.1 hbx).1).trans hbx
       have hS:=hS.trans (below_le hb7 hS.size)
       clear hb7
       go_wp2_with fail
       refine hK.out _ _ (uh HS _ hS) (fun hHeld=>?_)
       clear hK K
       refine take_dst (i:=7) (dst:=some 26) (v:=?_) rfl rfl (by kernel_rfl) (by kernel_rfl) (by kernel_rfl) (fun _ _ _ h=>h) (Or.inl ⟨by rfl,?_⟩) hHeld ?_
       rotate_left
       · intro w hSw;obtain⟨k0,k1,k2,k3,k4⟩:=hSw;go_simp;try (with_reducible rfl)
       simp only[Act.put,zsA,zsB,zsC]
       refine wpAnyH_ready (rs:=[9]) (by kernel_rfl) (by simp) ?_
       refine AllReadyH.cons rfl (fun K hK=>?_) AllReadyH.nil
       obtain⟨r0,r1,r2,r3,r4,r5,z0,z1,z2,z3,z4,z5⟩:=six_cells hbx
       have hsix:=set6 hbx (.slice (some ⟨nb,0,none⟩) G.nr G.nr) (.slice (some ⟨pb,0,none⟩) G.nr G.nr) (.slice (some ⟨ab,0,none⟩) G.nr G.nr) (.slice (some ⟨cb,0,none⟩) G.nr G.nr) (.slice none 0 0) (.slice none 0 0)
       have hS:=hS.trans (fr_below hsix.2 hS.size (fun j hj=>by rw[hj];exact hrb))
       go_simp
       refine hK.out _ _ (uh HS _ hS) (fun hHeld=>?_)
       clear hK K
       refine wpAnyH_done (by kernel_rfl) ?_ _
       go_wp2_with fail
       go_meet
       exact⟨W6.heap.size,pb,cb,rfl,hrb,hsix.1,hpr.of_block (hsix.2.2.1 _ hpr.lt (fun e=>six_apart hbx hpr (by decide) e)),hcr.of_block (hsix.2.2.1 _ hcr.lt (fun e=>six_apart hbx hcr (by decide) e)),hS⟩
   · go_simp
     have hbx:(w5.drew.alloc (.cells #[.slice none 0 0,.slice none 0 0,.slice none 0 0,.slice none 0 0,.slice none 0 0,.slice none 0 0] 31)).heap[w5.heap.size]? = some (.cells #[.slice none 0 0,.slice none 0 0,.slice none 0 0,.slice none 0 0,.slice none 0 0,.slice none 0 0] 31):=Go.Deep.blk_alloc_new _ _
     have hrb:=hS.size
     have hS:=hS.alloc hS.size (.cells #[.slice none 0 0,.slice none 0 0,.slice none 0 0,.slice none 0 0,.slice none 0 0,.slice none 0 0] 31)
     refine hK.out _ _ (uh HS _ hS) (fun hHeld=>?_)
     clear hK K
     refine wpAnyH_ready (rs:=[2]) (by kernel_rfl) (by simp) ?_
     refine AllReadyH.cons rfl (fun K hK=>?_) AllReadyH.nil
     go_simp
     go_at_call 41
     refine(uh HP _ hS).mono ?_
     rintro e W6 ⟨pb,rfl,hpb,hpr,hb6⟩
     have hbx:=(hb6.block _ (Array.getElem?_eq_some_iff.1 hbx).1).trans hbx
     have hS:=hS.trans (below_le hb6 hS.size)
     clear hb6
     go_wp2_with fail
     refine hK.out _ _ (uh HS _ hS) (fun hHeld=>?_)
     clear hK K
     refine wpAnyH_ready (rs:=[6]) (by kernel_rfl) (by simp) ?_
     refine AllReadyH.cons rfl (fun K hK=>?_) AllReadyH.nil
     go_simp
     go_at_call 42
     refine(uh HY _ hS).mono ?_
     rintro e W7 ⟨cb,rfl,hcb,hcr,hb7⟩
     have hpr:=rowIs_below hpr hb7
     have hbx:=(hb7.block _ (Array.getElem?_eq_some_iff.1 hbx).1).trans hbx
     have hS:=hS.trans (below_le hb7 hS.size)
     clear hb7
     go_wp2_with fail
     refine hK.out _ _ (uh HS _ hS) (fun hHeld=>?_)
     clear hK K
     refine take_dst (i:=7) (dst:=some 26) (v:=?_) rfl rfl (by kernel_rfl) (by kernel_rfl) (by kernel_rfl) (fun _ _ _ h=>h) (Or.inl ⟨by rfl,?_⟩) hHeld ?_
     rotate_left
     · intro w hSw;obtain⟨k0,k1,k2,k3,k4⟩:=hSw;go_simp;try (with_reducible rfl)
     simp only[Act.put,zsA,zsB,zsC]
     refine wpAnyH_ready (rs:=[9]) (by kernel_rfl) (by simp) ?_
     refine AllReadyH.cons rfl (fun K hK=>?_) AllReadyH.nil
     obtain⟨r0,r1,r2,r3,r4,r5,z0,z1,z2,z3,z4,z5⟩:=six_cells hbx
     have hsix:=set6 hbx (.slice (some ⟨nb,0,none⟩) G.nr G.nr) (.slice (some ⟨pb,0,none⟩) G.nr G.nr) (.slice (some ⟨ab,0,none⟩) G.nr G.nr) (.slice (some ⟨cb,0,none⟩) G.nr G.nr) (.slice none 0 0) (.slice none 0 0)
     have hS:=hS.trans (fr_below hsix.2 hS.size (fun j hj=>by rw[hj];exact hrb))
     go_simp
     refine hK.out _ _ (uh HS _ hS) (fun hHeld=>?_)
     clear hK K
     refine wpAnyH_done (by kernel_rfl) ?_ _
     go_wp2_with fail
     go_meet
     exact⟨w5.heap.size,pb,cb,rfl,hrb,hsix.1,hpr.of_block (hsix.2.2.1 _ hpr.lt (fun e=>six_apart hbx hpr (by decide) e)),hcr.of_block (hsix.2.2.1 _ hcr.lt (fun e=>six_apart hbx hcr (by decide) e)),hS⟩
 case rest =>
   obtain⟨rb,pb,cb,rfl,hrb,hbx,hpr,hcr,hS⟩:=hcut
   have hLs:=hide (rLists_any fb fcc G.nr G.nk fk (fstF G) (by have:=(uh HG).r2;omega) (by have:=(uh HG).k3;omega) wc (tab_below (uh Hft5) hS (Nat.le_refl _)))
   have HbxC:=hide hbx;have Hpr:=hide hpr;have Hcr:=hide hcr;have HSc:=hide hS;have Hrb:=hide hrb
   have hrlt:=(Array.getElem?_eq_some_iff.1 hbx).1
   have Hrlt:=hide hrlt
   clear hbx hpr hcr hS HP HY hrb hrlt
   go_wp2_with fail
   refine(uh hLs).mono ?_
   rintro e w8 ⟨fa,fc,rfl,hfa,hb8⟩
   have hbx8:=(hb8.block _ (uh Hrlt)).trans (uh HbxC)
   obtain⟨r0,r1,r2,r3,r4,r5,z0,z1,z2,z3,z4,z5⟩:=six_cells hbx8
   have hS8:=(uh HSc).trans (below_le hb8 (uh HSc).size)
   generalize hPF:posT (fstF G) G.nk G.nr=PF at *
   obtain⟨w9,hw9⟩:∃ w9,w9=w8.setCell ⟨rb,4,none⟩ (.slice fa PF.length fc):=⟨_,rfl⟩
   have hS9:Below w5.heap.size w5 w9:=by rw[hw9];exact hS8.setCell (p:=⟨rb,4,none⟩) (uh Hrb) _
   have hbx9:w9.heap[rb]? = some (.cells #[.slice (some ⟨nb,0,none⟩) G.nr G.nr,.slice (some ⟨pb,0,none⟩) G.nr G.nr,.slice (some ⟨ab,0,none⟩) G.nr G.nr,.slice (some ⟨cb,0,none⟩) G.nr G.nr,.slice fa PF.length fc,.slice none 0 0] 31):=by rw[hw9];exact set_blk hbx8 _
   have hf9:Fr (· = rb) w8 w9:=by rw[hw9];exact fr_set (fr_refl _ _) (by rfl) _
   obtain⟨e0,e1,e2,e3,e4⟩:=uh HS _ hS9
   have hst9:=gst_kept (below_le hS9 (by omega)) hB (uh Hst5)
   have HW:=hide (rFollows_any G (uh HG) ka pa ra qa kc pc rc qc nb G.nr fb fcc fk ab G.nr B w9 (by have:=hS9.size;omega) hst9.gin (rowIs_below (uh Hnr5) hS9) (tab_below (uh Hft5) hS9 (Nat.le_refl _)) (rowIs_below (uh Har) hS9))
   have Hfa:=hide hfa;have Hb8:=hide hb8;have HS9:=hide hS9;have Hbx9:=hide hbx9;have Hf9:=hide hf9;have HPF:=hide hPF
   rw[hw9] at e0 e1 e2 e3 e4
   clear hfa hb8 hS8 hS9 hbx8 hbx9 hf9 hst9 hLs hPF
   go_wp2_with fail
   rw[← hw9]
   clear r0 r1 r2 r3 r4 r5 z0 z1 z2 z3 z4 z5 e0 e1 e2 e3 e4 hw9
   refine(uh HW).mono ?_
   rintro e w10 ⟨tb,tc,tk,rfl,htb,htk,htt,hb10⟩
   have HL2:=hide (rLists_any tb tc G.nr G.nk tk (flwF G) (by have:=(uh HG).r2;omega) (by have:=(uh HG).k3;omega) w10 htt)
   have Hb10:=hide hb10
   clear htb htk htt hb10 HW
   go_wp2_with fail
   refine(uh HL2).mono ?_
   rintro e w11 ⟨va,vc,rfl,hva,hb11⟩
   clear HL2
   have hl9:=(Array.getElem?_eq_some_iff.1 (uh Hbx9)).1
   have hbx11:=(hb11.block _ (Nat.lt_of_lt_of_le hl9 (uh Hb10).size)).trans (((uh Hb10).block _ hl9).trans (uh Hbx9))
   obtain⟨r0,r1,r2,r3,r4,r5,z0,z1,z2,z3,z4,z5⟩:=six_cells hbx11
   have hS11:=((uh HS9).trans (below_le (uh Hb10) (uh HS9).size)).trans (below_le hb11 (Nat.le_trans (uh HS9).size (uh Hb10).size))
   generalize hPV:posT (flwF G) G.nk G.nr=PV at *
   obtain⟨w12,hw12⟩:∃ w12,w12=w11.setCell ⟨rb,5,none⟩ (.slice va PV.length vc):=⟨_,rfl⟩
   have hS12:Below w5.heap.size w5 w12:=by rw[hw12];exact hS11.setCell (p:=⟨rb,5,none⟩) (uh Hrb) _
   have hbx12:w12.heap[rb]? = some (.cells #[.slice (some ⟨nb,0,none⟩) G.nr G.nr,.slice (some ⟨pb,0,none⟩) G.nr G.nr,.slice (some ⟨ab,0,none⟩) G.nr G.nr,.slice (some ⟨cb,0,none⟩) G.nr G.nr,.slice fa PF.length fc,.slice va PV.length vc] 31):=by rw[hw12];exact set_blk hbx11 _
   have hf12:Fr (· = rb) w11 w12:=by rw[hw12];exact fr_set (fr_refl _ _) (by rfl) _
   obtain⟨q0,q1,q2,q3,q4,q5,-⟩:=six_cells hbx12
   have hres:w12.heap[w.heap.size+1]? = some (.cells #[.slice none 0 0,.slice none 0 0,.slice none 0 0,.slice none 0 0,.slice none 0 0,.slice none 0 0] 31):=(hS12.block _ (by omega)).trans (((uh Hb5).block _ (by omega)).trans (uh Hbx))
   obtain⟨s0,s1,s2,s3,s4,s5,t0,t1,t2,t3,t4,t5⟩:=six_cells hres
   have hne:rb≠w.heap.size+1:=by have:=uh Hrb;omega
   have Hva:=hide hva;have Hb11:=hide hb11;have HS12:=hide hS12;have Hbx12:=hide hbx12;have Hf12:=hide hf12;have HPV:=hide hPV;have Hres:=hide hres;have Hne:=hide hne
   rw[hw12] at q0 q1 q2 q3 q4 q5 s0 s1 s2 s3 s4 s5 t0 t1 t2 t3 t4 t5
   clear hva hb11 hS11 hS12 hbx11 hbx12 hf12 hPV hres
   go_wp2
   rw[← hw12]
   clear q0 q1 q2 q3 q4 q5 s0 s1 s2 s3 s4 s5 t0 t1 t2 t3 t4 t5 r0 r1 r2 r3 r4 r5 z0 z1 z2 z3 z4 z5 hw12
   have hsix:=set6 (uh Hres) (.slice (some ⟨nb,0,none⟩) G.nr G.nr) (.slice (some ⟨pb,0,none⟩) G.nr G.nr) (.slice (some ⟨ab,0,none⟩) G.nr G.nr) (.slice (some ⟨cb,0,none⟩) G.nr G.nr) (.slice fa PF.length fc) (.slice va PV.length vc)
   obtain⟨wF,hwF⟩:∃ wF,wF=(((((w12.setCell ⟨w.heap.size+1,0,none⟩ (.slice (some ⟨nb,0,none⟩) G.nr G.nr)).setCell ⟨w.heap.size+1,1,none⟩ (.slice (some ⟨pb,0,none⟩) G.nr G.nr)).setCell ⟨w.heap.size+1,2,none⟩ (.slice (some ⟨ab,0,none⟩) G.nr G.nr)).setCell ⟨w.heap.size+1,3,none⟩ (.slice (some ⟨cb,0,none⟩) G.nr G.nr)).setCell ⟨w.heap.size+1,4,none⟩ (.slice fa PF.length fc)).setCell ⟨w.heap.size+1,5,none⟩ (.slice va PV.length vc):=⟨_,rfl⟩
   rw[← hwF] at hsix ⊢
   clear hwF
   obtain⟨hbF,hFr⟩:=hsix
   obtain⟨g0,g1,g2,g3,g4,g5,-⟩:=six_cells hbF
   have hbx8:=((uh Hb8).block _ (uh Hrlt)).trans (uh HbxC)
   have hbx11:=((uh Hb11).block _ (Nat.lt_of_lt_of_le hl9 (uh Hb10).size)).trans (((uh Hb10).block _ hl9).trans (uh Hbx9))
   have hrow:∀ (k:Nat) (f:Nat→Value),wc.rowIs k 4 G.nr f→wF.rowIs k 4 G.nr f:=fun k f h=>by
     have h8:=rowIs_below h (uh Hb8)
     have h9:=row_fr h8 (uh Hf9) (six_apart hbx8 h8 (by decide))
     have h11:=rowIs_below (rowIs_below h9 (uh Hb10)) (uh Hb11)
     have h12:=row_fr h11 (uh Hf12) (six_apart hbx11 h11 (by decide))
     exact row_fr h12 hFr (six_apart (uh Hres) h12 (by decide))
   have hz5:=(uh HSc).size;have hz8:=(uh Hb8).size;have hz10:=(uh Hb10).size;have hz11:=(uh Hb11).size;have hz12:=(uh HS12).size
   have hrlt:=uh Hrlt
   have hn1:NewKept wc.heap.size w8 wF:=newKept_t (newKept_fr (uh Hf9) (fun k hk=>by have hk:k=rb:=hk;omega)) (newKept_t (newKept_below (uh Hb10)) (newKept_t (newKept_below (uh Hb11)) (newKept_t (newKept_fr (uh Hf12) (fun k hk=>by have hk:k=rb:=hk;omega)) (newKept_fr hFr (fun k hk=>by have hk:k=w.heap.size+1:=hk;omega)))))
   have hn2:NewKept w10.heap.size w11 wF:=newKept_t (newKept_fr (uh Hf12) (fun k hk=>by have hk:k=rb:=hk;omega)) (newKept_fr hFr (fun k hk=>by have hk:k=w.heap.size+1:=hk;have:=(uh Hf9).1;omega))
   refine bodyPost_ret (v:=.tuple #[.agg #[.slice (some ⟨nb,0,none⟩) G.nr G.nr,.slice (some ⟨pb,0,none⟩) G.nr G.nr,.slice (some ⟨ab,0,none⟩) G.nr G.nr,.slice (some ⟨cb,0,none⟩) G.nr G.nr,.slice fa PF.length fc,.slice va PV.length vc],.int .i64 0]) ?zz8 rfl ⟨nb,pb,ab,cb,fa,fc,va,vc,?_⟩
   case zz8=>simp[results,Tryz.results10,go_sem,g0,g1,g2,g3,g4,g5]
   rw[uh HPF,uh HPV]
   exact⟨rfl,hrow _ _ (rowIs_below (uh Hnr5) (uh HSc)),hrow _ _ (uh Hpr),hrow _ _ (rowIs_below (uh Har) (uh HSc)),hrow _ _ (uh Hcr),uh Hfa _ hn1,uh Hva _ hn2,((uh Hb1).trans (below_le (uh Hb5) (by omega))).trans ((below_le (uh HS12) (by omega)).trans (fr_below hFr (by omega) (fun k hk=>by have hk:k=w.heap.size+1:=hk;omega)))⟩
end Go.Proofs.YtagohbpbgjelaaaGreatDoor

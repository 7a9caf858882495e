/- The law GramAgrees, walked. -/
import Derived.Test.YtagohbpbgjelaaaGreatDoorH2
import Derived.Test.YtagohbpbgjelaaaGreatDoorY1
import Derived.Test.YtagohbpbgjelaaaGreatDoorO2
import Derived.Test.YtagohbpbgjelaaaGreatDoorA5
namespace Go.Proofs.YtagohbpbgjelaaaGreatDoor
open Go.RowKit

set_option maxRecDepth 100000 in
theorem posT_at {F : Nat → Nat → Bool} {nk n r : Nat} (h : r < n) : (posT F nk n).getD r [] = posL (boolsOf (F r) nk) := by
  unfold posT
  rw [List.getD_eq_getElem?_getD, List.getElem?_map, List.getElem?_range h]; rfl
set_option maxRecDepth 100000 in
theorem posT_len {F : Nat → Nat → Bool} {nk n : Nat} : (posT F nk n).length = n := by unfold posT; simp
set_option maxRecDepth 100000 in
theorem fsR_len {G : Gm} {r : Nat} : (fsR G r).length ≤ G.nk := by
  unfold fsR posL
  refine Nat.le_trans (posTo_le _ _) ?_
  rw [boolsOf_len]
  exact Nat.le_refl _

set_option maxHeartbeats 4000000 in
set_option maxRecDepth 100000 in
theorem agrees_walk (hL : LookC 9) (hM : LeastC 24) (hR : RowC 26) (hF : FirstC 11) (hLY : LookYes 9) (hMY : LeastYes 24) (G : Gm) (ka pa ra qa : Option Addr) (kc pc rc qc : Nat) (rule : Int) (w : World) (hin : GIn w.heap.size w G ka pa ra qa) (hsm : smG G) :
    Calls Tryz.prog 6 #[.agg #[.slice ka G.kinds.length kc, .slice pa G.precs.length pc, .slice ra G.rules.length rc, .slice qa G.prods.length qc, .int .i64 G.start], .int .i64 rule] w fun e w' => e = .returned (.bool true) ∧ Below w.heap.size w w' := by
  have hst := gst_new (kc := kc) (pc := pc) (rc := rc) (qc := qc) (Nat.le_refl _) hin 26
  have hb1 := (Below.refl w.heap.size w).alloc (Nat.le_refl _) (.cells #[.slice ka G.kinds.length kc, .slice pa G.precs.length pc, .slice ra G.rules.length rc, .slice qa G.prods.length qc, .int .i64 G.start] 26)
  have hs1 : (w.alloc (.cells #[.slice ka G.kinds.length kc, .slice pa G.precs.length pc, .slice ra G.rules.length rc, .slice qa G.prods.length qc, .int .i64 G.start] 26)).heap.size = w.heap.size + 1 := by simp
  have d0 := hst.c0; have d1 := hst.c1; have d2 := hst.c2; have d3 := hst.c3; have d4 := hst.c4
  have HM := hide hM; have HR := hide hR; have HF := hide hF; have HAw := hide (fun (W : World) (hW : Below w.heap.size w W) => awake_any hLY hMY W (tb_up hin.tab (Nat.le_refl _) hW))
  have H1 := hide (hL G ka pa ra qa kc pc rc qc _ (gin_up hin hb1) hsm)
  have Hin := hide hin; have Hsm := hide hsm; have Hb1 := hide hb1; have Hst := hide hst
  have hnot := run_not
  clear hL hM hR hF hLY hMY hin hsm hb1 hst
  go_enter Tryz.func6, Tryz.ntmps6
  go_wp2_with fail
  clear d0 d1 d2 d3 d4
  generalize w.alloc (.cells #[.slice ka G.kinds.length kc, .slice pa G.precs.length pc, .slice ra G.rules.length rc, .slice qa G.prods.length qc, .int .i64 G.start] 26) = w1 at *
  refine (unhide H1).mono ?_
  rintro e w2 ⟨a0, m0, a1, m1, a2, m2, a3, m3, a4, m4, a5, m5, rfl, hr2, hb2⟩
  have hs2 := hb2.size
  by_cases hyes : checkB G = true ∧ 0 ≤ rule ∧ rule < G.rules.length
  · obtain ⟨hc, hr0, hr1⟩ := hyes
    obtain ⟨r, rfl⟩ : ∃ r : Nat, rule = (r : Int) := ⟨rule.toNat, by omega⟩
    have hr : r < G.rules.length := by omega
    have hG := check_ok hc
    have hnk : G.kinds.length ≤ 1024 := hG.k3
    have hnr : G.rules.length ≤ 2048 := hG.r2
    have Hag := hide (ag_of hc hr)
    have ev : checkV G = 0 := by unfold checkV; rw [hc]; rfl
    have eN : lkN G = boolsOf (nullF G) G.rules.length := by unfold lkN; rw [hc]; rfl
    have eP : lkP G = boolsOf (prdF G) G.rules.length := by unfold lkP; rw [hc]; rfl
    have eF : lkF G = posT (fstF G) G.nk G.rules.length := by unfold lkF; rw [hc]; rfl
    have lN : (lkN G).length = G.rules.length := by rw [eN, boolsOf_len]
    have lP : (lkP G).length = G.rules.length := by rw [eP, boolsOf_len]
    have lF : (lkF G).length = G.rules.length := by rw [eF, posT_len]
    obtain ⟨hmN, hmP, -, -, hmF, -⟩ := hr2
    have gN : (lkN G).getD r false = nullF G r := by rw [eN, boolsOf_getD hr]
    have gP : (lkP G).getD r false = prdF G r := by rw [eP, boolsOf_getD hr]
    have gF : (lkF G).getD r [] = fsR G r := by rw [eF, posT_at hr]; rfl
    obtain ⟨b0, o0, rfl, hlt0, c0⟩ := mrow_at hmN (k := r) (by rw [lN]; exact hr)
    obtain ⟨b1, o1, rfl, hlt1, c1⟩ := mrow_at hmP (k := r) (by rw [lP]; exact hr)
    obtain ⟨b4, o4, rfl, hlt4, fa, fc, c4, hfr⟩ := nnrow_at hmF (k := r) (by rw [lF]; exact hr)
    rw [gN] at c0
    rw [gP] at c1
    rw [gF] at c4 hfr
    rw [lN, lP, lF, ev]
    have hfl : (fsR G r).length ≤ 1024 := Nat.le_trans fsR_len hnk
    clear ev eN eP eF lN lP lF hmN hmP hmF gN gP gF hG hr1 hr0
    generalize (lkA G).length = z2 at *
    generalize (lkC G).length = z3 at *
    generalize (lkV G).length = z5 at *
    obtain ⟨v, hv⟩ : ∃ v, lstF G r = v := ⟨_, rfl⟩
    rw [hv] at Hag
    clear hv
    rw [(unhide Hag).null] at c0
    rw [(unhide Hag).prd] at c1
    obtain ⟨w3, hw3⟩ : ∃ w3, w3 = w2.alloc (.cells #[.slice (some ⟨b0, o0, none⟩) G.rules.length m0, .slice (some ⟨b1, o1, none⟩) G.rules.length m1, .slice a2 z2 m2, .slice a3 z3 m3, .slice (some ⟨b4, o4, none⟩) G.rules.length m4, .slice a5 z5 m5] 31) := ⟨_, rfl⟩
    have hb3 : Below w2.heap.size w2 w3 := by rw [hw3]; exact (Below.refl _ _).alloc (Nat.le_refl _) _
    have hs3 : w3.heap.size = w2.heap.size + 1 := by rw [hw3]; simp
    have hx3 : w3.heap[w2.heap.size]? = some (.cells #[.slice (some ⟨b0, o0, none⟩) G.rules.length m0, .slice (some ⟨b1, o1, none⟩) G.rules.length m1, .slice a2 z2 m2, .slice a3 z3 m3, .slice (some ⟨b4, o4, none⟩) G.rules.length m4, .slice a5 z5 m5] 31) := by rw [hw3]; exact Go.Deep.blk_alloc_new _ _
    have hb13 := hb2.trans (below_le hb3 (by omega))
    have hst3 := gst_kept (below_le hb13 (by omega)) (Nat.le_refl _) (unhide Hst)
    have hbw3 := (unhide Hb1).trans (below_le hb13 (by omega))
    -- what every later world holds
    have HS : Hid (∀ W : World, Below w3.heap.size w3 W → (W.cell? ⟨w.heap.size, 0, none⟩ = some (.slice ka G.kinds.length kc) ∧ W.cell? ⟨w.heap.size, 1, none⟩ = some (.slice pa G.precs.length pc) ∧ W.cell? ⟨w.heap.size, 2, none⟩ = some (.slice ra G.rules.length rc) ∧ W.cell? ⟨w.heap.size, 3, none⟩ = some (.slice qa G.prods.length qc) ∧ W.cell? ⟨w.heap.size, 4, none⟩ = some (.int .i64 G.start)) ∧ (W.cell? ⟨w2.heap.size, 0, none⟩ = some (.slice (some ⟨b0, o0, none⟩) G.rules.length m0) ∧ W.cell? ⟨w2.heap.size, 1, none⟩ = some (.slice (some ⟨b1, o1, none⟩) G.rules.length m1) ∧ W.cell? ⟨w2.heap.size, 4, none⟩ = some (.slice (some ⟨b4, o4, none⟩) G.rules.length m4)) ∧ (W.cell? ⟨b0, o0 + r, none⟩ = some (.bool (decide (v = 0))) ∧ W.cell? ⟨b1, o1 + r, none⟩ = some (.bool (decide (0 ≤ v))) ∧ W.cell? ⟨b4, o4 + r, none⟩ = some (.slice fa (fsR G r).length fc)) ∧ NRow W.heap.size W fa (fsR G r) ∧ GIn W.heap.size W G ka pa ra qa ∧ Below w.heap.size w W) := hide (fun W hW => by
      have hg := gst_kept (below_le hW (by omega)) (Nat.le_refl _) hst3
      obtain ⟨p0, p1, p2, p3, p4, p5, -⟩ := six_cells (bx_below hx3 hW)
      have hb2W := hb3.trans (below_le hW (by omega))
      have cell : ∀ (b o : Nat) (x : Value), b < w2.heap.size → w2.cell? ⟨b, o, none⟩ = some x → W.cell? ⟨b, o, none⟩ = some x := fun b o x hb hx => by
        rw [hb2W.cell hb]; exact hx
      exact ⟨⟨hg.c0, hg.c1, hg.c2, hg.c3, hg.c4⟩, ⟨p0, p1, p4⟩, ⟨cell _ _ _ hlt0 c0, cell _ _ _ hlt1 c1, cell _ _ _ hlt4 c4⟩, nrow_up hfr hb2W, gin_up (unhide Hin) (hbw3.trans (below_le hW (by omega))), hbw3.trans (below_le hW (by omega))⟩)
    obtain ⟨⟨d0, d1, d2, d3, d4⟩, ⟨p0, p1, p4⟩, ⟨y0, y1, y4⟩, -, hg3, -⟩ := unhide HS w3 (Below.refl _ _)
    have H2 := unhide HM G ka pa ra qa kc pc rc qc (r : Int) w3 hg3 (unhide Hsm)
    rw [(unhide Hag).ln, (unhide Hag).lb, (unhide Hag).lv] at H2
    have H2 := hide H2
    rw [hw3] at d0 d1 d2 d3 d4 p0 p1 p4 y0 y1 y4
    clear hb2 hb3 hx3 hb13 hst3 hbw3 hg3 c0 c1 c4 hfr hc H1 Hst
    go_wp2_with fail
    rw [← hw3]
    clear d0 d1 d2 d3 d4 p0 p1 p4 y0 y1 y4 hw3
    refine (unhide H2).mono ?_
    rintro e w4 ⟨rfl, hb4⟩
    have hs4 := hb4.size
    obtain ⟨⟨d0, d1, d2, d3, d4⟩, ⟨p0, p1, p4⟩, ⟨y0, y1, y4⟩, -, hg4, -⟩ := unhide HS w4 hb4
    have H3 := hide (unhide HR G ka pa ra qa kc pc rc qc (r : Int) w4 hg4 (unhide Hsm))
    have Hb4 := hide hb4
    clear hb4 hg4 H2
    rcases (by omega : v < 0 ∨ 65537 ≤ v ∨ v = 0 ∨ (0 < v ∧ v ≤ 65536)) with hv | hv | hv | ⟨hv, hv2⟩
    · rw [decide_eq_false (by omega)] at y0
      rw [decide_eq_false (by omega), show max v 0 = 0 by omega]
      rw [decide_eq_false (by omega)] at y1
      have H3 := unhide H3
      rw [(unhide Hag).r8 hv] at H3
      have H3 := hide H3
      go_wp2_with fail
      clear d0 d1 d2 d3 d4 p0 p1 p4 y0 y1 y4
      refine (unhide H3).mono ?_
      rintro e w5 ⟨xa, xc, rfl, -, -, hb5⟩
      have hs5 := hb5.size
      have Hb5 := hide (unhide HS w5 ((unhide Hb4).trans (below_le hb5 (by omega)))).2.2.2.2.2
      clear hb5 H3
      generalize (rwL G r).length = ll at *
      go_wp2_with fail
      refine (unhide HAw _ (unhide Hb5)).mono ?_
      rintro e w6 ⟨rfl, hb6⟩
      have Hb6 := hide ((unhide Hb5).trans (below_le hb6 (by omega)))
      clear hb6
      go_wp2
      go_ret
      exact ⟨rfl, unhide Hb6⟩
    · rw [decide_eq_false (by omega)] at y0
      rw [decide_eq_true (by omega), show max v 0 = v by omega]
      rw [decide_eq_true (by omega)] at y1
      have H3 := unhide H3
      rw [(unhide Hag).r3 hv] at H3
      have H3 := hide H3
      go_wp2_with fail
      clear d0 d1 d2 d3 d4 p0 p1 p4 y0 y1 y4
      refine (unhide H3).mono ?_
      rintro e w5 ⟨xa, xc, rfl, -, -, hb5⟩
      have hs5 := hb5.size
      have Hb5 := hide (unhide HS w5 ((unhide Hb4).trans (below_le hb5 (by omega)))).2.2.2.2.2
      clear hb5 H3
      generalize (rwL G r).length = ll at *
      go_wp2_with fail
      refine (unhide HAw _ (unhide Hb5)).mono ?_
      rintro e w6 ⟨rfl, hb6⟩
      have Hb6 := hide ((unhide Hb5).trans (below_le hb6 (by omega)))
      clear hb6
      go_wp2
      go_ret
      exact ⟨rfl, unhide Hb6⟩
    · subst hv
      rw [decide_eq_true rfl] at y0
      rw [decide_eq_true (by omega)] at y1
      rw [decide_eq_true (by omega), show max (0 : Int) 0 = 0 by omega]
      obtain ⟨h30, h31⟩ := (unhide Hag).r0 (by omega) (by omega)
      have hlen : (rwL G r).length = 0 := by omega
      have H3 := unhide H3
      rw [h30, hlen] at H3
      have H3 := hide H3
      clear h30 h31 hlen
      go_wp2_with fail
      clear d0 d1 d2 d3 d4 p0 p1 p4 y0 y1 y4
      refine (unhide H3).mono ?_
      rintro e w5 ⟨xa, xc, rfl, -, -, hb5⟩
      have hs5 := hb5.size
      have HbS := hide ((unhide Hb4).trans (below_le hb5 (by omega)))
      clear hb5 H3 Hb4
      obtain ⟨⟨d0, d1, d2, d3, d4⟩, ⟨p0, p1, p4⟩, ⟨y0, y1, y4⟩, -, -, -⟩ := unhide HS w5 (unhide HbS)
      go_upto_region 12 with fail
      go_quiet (fail)
      clear d0 d1 d2 d3 d4 p0 p1 p4 y0 y1 y4
      have HbS := hide (below_drewN (unhide HbS) nq)
      generalize w5.drewN nq = WW at *
      obtain ⟨⟨d0, d1, d2, d3, d4⟩, ⟨p0, p1, p4⟩, ⟨y0, y1, y4⟩, -, hg5, -⟩ := unhide HS WW (unhide HbS)
      have hbA : Below WW.heap.size WW (WW.alloc (.cells #[.int .i64 (((G.kinds.length : Nat) : Int) + r)] 3)) := (Below.refl _ _).alloc (Nat.le_refl _) _
      have hsA : (WW.alloc (.cells #[.int .i64 (((G.kinds.length : Nat) : Int) + r)] 3)).heap.size = WW.heap.size + 1 := by simp
      have H5 := unhide HF G ka pa ra qa kc pc rc qc (some ⟨WW.heap.size, 0, none⟩) 1 [((G.kinds.length : Nat) : Int) + r] (by simp) _ (gin_up hg5 hbA) (unhide Hsm) (nrow_one WW _)
      rw [(unhide Hag).fl, (unhide Hag).fe, (unhide Hag).fv, (unhide Hag).null, decide_eq_true (by omega)] at H5
      have H5 := hide H5
      have hsS := (unhide HbS).size
      have HbA := hide ((unhide HbS).trans (below_le hbA (by omega)))
      clear hbA hg5 y0 y1 y4
      go_wp2_with fail
      clear d0 d1 d2 d3 d4 p0 p1 p4
      generalize WW.alloc (.cells #[.int .i64 (((G.kinds.length : Nat) : Int) + r)] 3) = wA at *
      refine (unhide H5).mono ?_
      rintro e w6 ⟨ca, cc, rfl, hr6, hb6⟩
      have hs6 := hb6.size
      obtain ⟨-, ⟨p0, p1, p4⟩, ⟨y0, y1, y4⟩, hfr6, -, hbw6⟩ := unhide HS w6 ((unhide HbA).trans (below_le hb6 (by omega)))
      rw [decide_eq_true True.intro] at y0
      have H6 := rSameInts_any ca fa cc fc (fsR G r) (fsR G r) (by omega) w6 hr6 hfr6
      rw [decide_eq_true rfl] at H6
      have H6 := hide H6
      have Hb6 := hide hbw6
      clear hr6 hb6 hfr6 hbw6 H5
      generalize fsR G r = FR at *
      go_wp2_with fail
      clear p0 p1 p4 y0 y1 y4
      refine (unhide H6).mono ?_
      rintro e w7 ⟨rfl, q7, rfl⟩
      go_wp2_with fail
      refine (unhide HAw _ (below_drewN (unhide Hb6) q7)).mono ?_
      rintro e w8 ⟨rfl, hb8⟩
      have Hb8 := hide ((below_drewN (unhide Hb6) q7).trans (below_le hb8 (by show w.heap.size ≤ w6.heap.size; omega)))
      clear hb8
      go_wp2
      go_ret
      exact ⟨rfl, unhide Hb8⟩
    · rw [decide_eq_false (by omega)] at y0
      rw [decide_eq_true (by omega)] at y1
      obtain ⟨h30, h31⟩ := (unhide Hag).r0 (by omega) (by omega)
      have hmem := (unhide Hag).rf hv hv2
      have H3 := unhide H3
      rw [h30] at H3
      rw [decide_eq_true (by omega), show max v 0 = ((rwL G r).length : Int) by omega]
      generalize rwL G r = RL at *
      have H3 := hide H3
      have hn0 : (v == 0) = false := by rw [beq_eq_false_iff_ne]; omega
      have hn1 : (0 : Int) < RL.length := by omega
      have hmem' : decide (RL.getD 0 0 ∈ fsR G r) = true := decide_eq_true hmem
      have Hmem := hide hmem'
      clear h30 hmem hmem'
      go_wp2_with fail
      clear d0 d1 d2 d3 d4 p0 p1 p4 y0 y1 y4
      refine (unhide H3).mono ?_
      rintro e w5 ⟨xa, xc, rfl, hx5, -, hb5⟩
      have hs5 := hb5.size
      have HbS := hide ((unhide Hb4).trans (below_le hb5 (by omega)))
      clear hb5 H3 Hb4
      obtain ⟨⟨d0, d1, d2, d3, d4⟩, ⟨p0, p1, p4⟩, ⟨y0, y1, y4⟩, hfr5, -, -⟩ := unhide HS w5 (unhide HbS)
      obtain ⟨xb, xo, rfl, hxb, x0⟩ := nrow_at hx5 (k := 0) (by omega)
      rw [Nat.add_zero] at x0
      have HX : Hid (Calls Tryz.prog 28 #[.slice fa (fsR G r).length fc, .int .i64 (RL.getD 0 0)] w5.drew fun e w' => e = .returned (.bool true) ∧ Below w5.drew.heap.size w5.drew w') := hide (by
        have h := rHas_any fa fc (fsR G r) (RL.getD 0 0) (by omega) w5.drew hfr5
        rw [unhide Hmem] at h
        refine h.mono ?_
        rintro e w' ⟨rfl, q, rfl⟩
        exact ⟨rfl, below_drewN (Below.refl _ _) q⟩)
      have HS9 : Hid (∀ W : World, Below w5.heap.size w5 W → W.cell? ⟨w2.heap.size, 4, none⟩ = some (.slice (some ⟨b4, o4, none⟩) G.rules.length m4) ∧ W.cell? ⟨b4, o4 + r, none⟩ = some (.slice fa (fsR G r).length fc) ∧ W.cell? ⟨xb, xo, none⟩ = some (.int .i64 (RL.getD 0 0))) := hide (fun W hW => ⟨(hW.cell (show w2.heap.size < _ by omega)).trans p4, (hW.cell (show b4 < _ by omega)).trans y4, (hW.cell hxb).trans x0⟩)
      have hS : Below w5.heap.size w5 w5.drew := (Below.refl _ _).drew
      have hsz5 : w5.heap.size ≤ w5.drew.heap.size := Nat.le_refl _
      clear hfr5 hx5 Hmem
      generalize RL.getD 0 0 = y at *
      go_upto_region 12 with fail
      clear d0 d1 d2 d3 d4 p0 p1 p4 y0 y1 y4 x0
      go_cut [132] from 113 to 132 (fun s wx => s = .bool false ∧ Below w5.heap.size w5 wx)
      case first =>
        go_region_held3 (fun W : World => W.cell? ⟨w2.heap.size, 4, none⟩ = some (.slice (some ⟨b4, o4, none⟩) G.rules.length m4) ∧ W.cell? ⟨b4, o4 + r, none⟩ = some (.slice fa (fsR G r).length fc) ∧ W.cell? ⟨xb, xo, none⟩ = some (.int .i64 y))
          (first | exact unhide HS9 _ hS | fail)
          (first
            | (go_at_call 28; refine (unhide HX).mono ?_; rintro e W6 ⟨rfl, hb6⟩; have hS := hS.trans (below_le hb6 hsz5); clear hb6)
            | fail)
        all_goals
          go_wp2_with fail
          go_meet
          exact ⟨rfl, hS⟩
      case rest =>
        obtain ⟨rfl, hbC⟩ := hcut
        have HbS := hide ((unhide HbS).trans (below_le hbC (by omega)))
        clear hbC hS HS9 HX
        obtain ⟨⟨d0, d1, d2, d3, d4⟩, ⟨p0, p1, p4⟩, ⟨y0, y1, y4⟩, -, hg5, -⟩ := unhide HS wc (unhide HbS)
        have hbA : Below wc.heap.size wc (wc.alloc (.cells #[.int .i64 (((G.kinds.length : Nat) : Int) + r)] 3)) := (Below.refl _ _).alloc (Nat.le_refl _) _
        have hsA : (wc.alloc (.cells #[.int .i64 (((G.kinds.length : Nat) : Int) + r)] 3)).heap.size = wc.heap.size + 1 := by simp
        have H5 := unhide HF G ka pa ra qa kc pc rc qc (some ⟨wc.heap.size, 0, none⟩) 1 [((G.kinds.length : Nat) : Int) + r] (by simp) _ (gin_up hg5 hbA) (unhide Hsm) (nrow_one wc _)
        rw [(unhide Hag).fl, (unhide Hag).fe, (unhide Hag).fv, (unhide Hag).null, decide_eq_false (by omega)] at H5
        have H5 := hide H5
        have hsS := (unhide HbS).size
        have HbA := hide ((unhide HbS).trans (below_le hbA (by omega)))
        clear hbA hg5 y0 y1 y4
        go_wp2_with fail
        clear d0 d1 d2 d3 d4 p0 p1 p4
        generalize wc.alloc (.cells #[.int .i64 (((G.kinds.length : Nat) : Int) + r)] 3) = wA at *
        refine (unhide H5).mono ?_
        rintro e w6 ⟨ca, cc, rfl, hr6, hb6⟩
        have hs6 := hb6.size
        obtain ⟨-, ⟨p0, p1, p4⟩, ⟨y0, y1, y4⟩, hfr6, -, hbw6⟩ := unhide HS w6 ((unhide HbA).trans (below_le hb6 (by omega)))
        rw [decide_eq_false (by omega)] at y0
        have H6 := rSameInts_any ca fa cc fc (fsR G r) (fsR G r) (by omega) w6 hr6 hfr6
        rw [decide_eq_true rfl] at H6
        have H6 := hide H6
        have Hb6 := hide hbw6
        clear hr6 hb6 hfr6 hbw6 H5
        generalize fsR G r = FR at *
        go_wp2_with fail
        clear p0 p1 p4 y0 y1 y4
        refine (unhide H6).mono ?_
        rintro e w7 ⟨rfl, q7, rfl⟩
        go_wp2_with fail
        refine (unhide HAw _ (below_drewN (unhide Hb6) q7)).mono ?_
        rintro e w8 ⟨rfl, hb8⟩
        have Hb8 := hide ((below_drewN (unhide Hb6) q7).trans (below_le hb8 (by show w.heap.size ≤ w6.heap.size; omega)))
        clear hb8
        go_wp2
        go_ret
        exact ⟨rfl, unhide Hb8⟩
  · have Hb2 := hide ((unhide Hb1).trans (below_le hb2 (by omega)))
    have hst2 := gst_kept (below_le ((hb2).trans (below_le ((Below.refl w2.heap.size w2).alloc (Nat.le_refl _) (.cells #[.slice a0 (lkN G).length m0, .slice a1 (lkP G).length m1, .slice a2 (lkA G).length m2, .slice a3 (lkC G).length m3, .slice a4 (lkF G).length m4, .slice a5 (lkV G).length m5] 31)) (by omega))) (by omega)) (Nat.le_refl _) (unhide Hst)
    have d2 := hst2.c2
    have hwhy : checkV G = 130 ∨ (checkV G = 0 ∧ (rule < 0 ∨ (G.rules.length : Int) ≤ rule)) := by
      unfold checkV
      cases hc : checkB G
      · exact .inl rfl
      · refine .inr ⟨rfl, ?_⟩
        rcases Int.lt_or_le rule 0 with h | h
        · exact .inl h
        · exact .inr (Int.not_lt.1 (fun h2 => hyes ⟨hc, h, h2⟩))
    clear hyes H1 hr2 hb2 HM HR HF hst2 Hst
    rcases hwhy with e2 | ⟨e2, hw | hw⟩
    all_goals
      rw [e2]
      clear e2
      go_wp2_with fail
      refine (unhide HAw _ ((unhide Hb2).trans (below_le ((Below.refl w2.heap.size w2).alloc (Nat.le_refl _) _) (by omega)))).mono ?_
      rintro e w3 ⟨rfl, hb3⟩
      have Hb3 := hide ((unhide Hb2).trans ((below_le ((Below.refl w2.heap.size w2).alloc (Nat.le_refl _) _) (by omega)).trans (below_le hb3 (by simp; omega))))
      clear hb3
      go_wp2
      go_ret
      exact ⟨rfl, unhide Hb3⟩
end Go.Proofs.YtagohbpbgjelaaaGreatDoor

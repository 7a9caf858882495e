/- The code's Trim, where it is refused. -/
import Derived.Test.YtagohbpbgjelaaaGreatDoorJA
import Derived.Test.YtagohbpbgjelaaaGreatDoorX3
import Derived.Test.YtagohbpbgjelaaaGreatDoorLJ
namespace Go.Proofs.YtagohbpbgjelaaaGreatDoor
open Go.RowKit

set_option maxHeartbeats 2000000 in
set_option maxRecDepth 100000 in
theorem trimno18 (G : Gm) (hc : checkB G = false) (ka pa ra qa : Option Addr) (kc pc rc qc : Nat) (w : World) (hin : GIn w.heap.size w G ka pa ra qa) (hsm : ∀ p, p ∈ G.prods → p.right.length ≤ 281474976710656) :
    Calls Tryz.prog 18 #[.agg #[.slice ka G.kinds.length kc, .slice pa G.precs.length pc, .slice ra G.rules.length rc, .slice qa G.prods.length qc, .int .i64 G.start]] w fun e w' => e = .returned (.tuple #[.agg #[.slice none 0 0, .slice none 0 0, .slice none 0 0, .slice none 0 0, .int .i64 0], .int .i64 130]) ∧ Below w.heap.size w w' := by
  obtain ⟨w1, hw1, hst, hb1, hs1, hbx⟩ := trim_in kc pc rc qc (Nat.le_refl _) hin
  have d0 := hst.c0; have d1 := hst.c1; have d2 := hst.c2; have d3 := hst.c3; have d4 := hst.c4
  have hC := mayBe_any G ka pa ra qa kc pc rc qc w1 (gin_up hin hb1) hsm
  rw [hc] at hC
  have hnot := run_not
  have HC := hide hC
  have Hb1 := hide hb1; have Hbx := hide hbx
  clear hst hC hb1 hin hsm hc hbx
  go_enter Tryz.func18, Tryz.ntmps18
  rw [hw1] at d0 d1 d2 d3 d4
  go_wp2_with fail
  rw [← hw1]
  clear d0 d1 d2 d3 d4 hw1
  refine (unhide HC).mono ?_
  rintro e w2 ⟨rfl, hb2⟩
  have hbx2 := bx_below (unhide Hbx) hb2
  obtain ⟨r0, r1, r2, r3, r4, z0, z1, z2, z3, z4⟩ := five_cellsZ hbx2
  have h5 := set5 hbx2 (.slice none 0 0) (.slice none 0 0) (.slice none 0 0) (.slice none 0 0) (.int .i64 0)
  have Hb2 := hide hb2; have Hh5 := hide h5
  have hs2 := hb2.size
  clear hb2 hbx2 h5
  go_wp2
  obtain ⟨WF, hWF⟩ : ∃ WF, WF = ((((w2.setCell ⟨w.heap.size + 1, 0, none⟩ (.slice none 0 0)).setCell ⟨w.heap.size + 1, 1, none⟩ (.slice none 0 0)).setCell ⟨w.heap.size + 1, 2, none⟩ (.slice none 0 0)).setCell ⟨w.heap.size + 1, 3, none⟩ (.slice none 0 0)).setCell ⟨w.heap.size + 1, 4, none⟩ (.int .i64 0) := ⟨_, rfl⟩
  have h5 := unhide Hh5
  rw [← hWF] at h5 ⊢
  obtain ⟨y0, y1, y2, y3, y4, -⟩ := five_cellsZ h5.1
  refine bodyPost_ret (v := .tuple #[.agg #[.slice none 0 0, .slice none 0 0, .slice none 0 0, .slice none 0 0, .int .i64 0], .int .i64 130]) ?zz8 rfl ⟨rfl, (unhide Hb1).trans ((below_le (unhide Hb2) (by omega)).trans (fr_below h5.2 (by omega) (fun j hj => by have hj : j = w.heap.size + 1 := hj; omega)))⟩
  case zz8 => simp [results, Tryz.results18, go_sem, y0, y1, y2, y3, y4]

set_option maxHeartbeats 2000000 in
set_option maxRecDepth 100000 in
theorem trimnone18 (G : Gm) (hc : checkB G = true) (hgs : prdF G G.start.toNat = false) (ka pa ra qa : Option Addr) (kc pc rc qc : Nat) (w : World) (hin : GIn w.heap.size w G ka pa ra qa) :
    Calls Tryz.prog 18 #[.agg #[.slice ka G.kinds.length kc, .slice pa G.precs.length pc, .slice ra G.rules.length rc, .slice qa G.prods.length qc, .int .i64 G.start]] w fun e w' => e = .returned (.tuple #[.agg #[.slice none 0 0, .slice none 0 0, .slice none 0 0, .slice none 0 0, .int .i64 0], .int .i64 8]) ∧ Below w.heap.size w w' := by
  obtain ⟨w1, hw1, hst, hb1, hs1, hbx⟩ := trim_in kc pc rc qc (Nat.le_refl _) hin
  have hG := check_ok hc
  have hst0 := hG.s0; have hst1 := hG.s1
  unfold Gm.nr at hst1
  have d0 := hst.c0; have d1 := hst.c1; have d2 := hst.c2; have d3 := hst.c3; have d4 := hst.c4
  have hC := mayBe_any G ka pa ra qa kc pc rc qc w1 (gin_up hin hb1) (fun p hp => by have := hG.pr p hp; omega)
  rw [hc] at hC
  have HC := hide hC
  obtain ⟨st, hse⟩ : ∃ st : Nat, G.start = (st : Int) := ⟨G.start.toNat, by omega⟩
  have hst' : st < G.rules.length := by omega
  have hst'' : (st : Int) < G.rules.length := by omega
  rw [hse, Int.toNat_natCast] at hgs
  have Hin := hide hin; have Hgs := hide hgs; have Hse := hide hse
  have Hb1 := hide hb1; have Hbx := hide hbx; have HG := hide hG; have Hst := hide hst
  have hnot := run_not
  clear hst hC hb1 hin hc hbx hG hgs hse
  go_enter Tryz.func18, Tryz.ntmps18
  rw [hw1] at d0 d1 d2 d3 d4
  go_wp2_with fail
  rw [← hw1]
  clear d0 d1 d2 d3 d4 hw1
  refine (unhide HC).mono ?_
  rintro e w2 ⟨rfl, hb2⟩
  have hs2 := hb2.size
  have hst2 := gst_kept (below_le hb2 (by omega)) (Nat.le_refl _) (unhide Hst)
  have d0 := hst2.c0; have d1 := hst2.c1; have d2 := hst2.c2; have d3 := hst2.c3; have d4 := hst2.c4
  have HNG := hide (newGrammar_any G (unhide HG) ka pa ra qa kc pc rc qc w2 (gin_up (unhide Hin) ((unhide Hb1).trans (below_le hb2 (by omega)))))
  have Hst2 := hide hst2; have Hb2 := hide hb2
  clear hst2 hb2 HC
  go_wp2_with fail
  clear d0 d1 d2 d3 d4
  refine (unhide HNG).mono ?_
  rintro e w9 ⟨gb, ob, ub, rfl, hg9, hb9⟩
  have hs9 := hb9.size
  have HP := hide (productiveRules_any G (unhide HG) ka pa ra qa kc pc rc qc gb ob ub w9.heap.size w9 (Nat.le_refl _) hg9)
  have Hb9 := hide hb9
  clear hg9 hb9 HNG
  go_wp2_with fail
  refine (unhide HP).mono ?_
  rintro e w3 ⟨mb, rfl, hmr, hmb, hb3'⟩
  have hb3 : Below w2.heap.size w2 w3 := (unhide Hb9).trans (below_le hb3' hs9)
  have hst3 := gst_kept (below_le hb3 (by omega)) (Nat.le_refl _) (unhide Hst2)
  have d4 := hst3.c4
  rw [unhide Hse] at d4
  have cg := hmr.cell (show st < G.nr from hst')
  rw [unhide Hgs] at cg
  have hbx3 := bx_below (bx_below (unhide Hbx) (unhide Hb2)) hb3
  obtain ⟨r0, r1, r2, r3, r4, z0, z1, z2, z3, z4⟩ := five_cellsZ hbx3
  have h5 := set5 hbx3 (.slice none 0 0) (.slice none 0 0) (.slice none 0 0) (.slice none 0 0) (.int .i64 0)
  have Hb3 := hide hb3; have Hh5 := hide h5
  have hs3 := hb3.size
  clear hb3 hb3' hbx3 h5 hst3 hmr HP
  go_wp2
  obtain ⟨WF, hWF⟩ : ∃ WF, WF = ((((w3.setCell ⟨w.heap.size + 1, 0, none⟩ (.slice none 0 0)).setCell ⟨w.heap.size + 1, 1, none⟩ (.slice none 0 0)).setCell ⟨w.heap.size + 1, 2, none⟩ (.slice none 0 0)).setCell ⟨w.heap.size + 1, 3, none⟩ (.slice none 0 0)).setCell ⟨w.heap.size + 1, 4, none⟩ (.int .i64 0) := ⟨_, rfl⟩
  have h5 := unhide Hh5
  rw [← hWF] at h5 ⊢
  obtain ⟨y0, y1, y2, y3, y4, -⟩ := five_cellsZ h5.1
  refine bodyPost_ret (v := .tuple #[.agg #[.slice none 0 0, .slice none 0 0, .slice none 0 0, .slice none 0 0, .int .i64 0], .int .i64 8]) ?zz8 rfl ⟨rfl, (unhide Hb1).trans ((below_le (unhide Hb2) (by omega)).trans ((below_le (unhide Hb3) (by omega)).trans (fr_below h5.2 (by omega) (fun j hj => by have hj : j = w.heap.size + 1 := hj; omega))))⟩
  case zz8 => simp [results, Tryz.results18, go_sem, y0, y1, y2, y3, y4]

end Go.Proofs.YtagohbpbgjelaaaGreatDoor

namespace Go.Proofs.YtagohbpbgjelaaaGreatDoor
open Go.RowKit

set_option maxHeartbeats 2000000 in
set_option maxRecDepth 100000 in
theorem trimyes18 (G : Gm) (hc : checkB G = true) (hgs : prdF G G.start.toNat = true) (ka pa ra qa : Option Addr) (kc pc rc qc : Nat) (w : World) (hin : GIn w.heap.size w G ka pa ra qa) :
    Calls Tryz.prog 18 #[.agg #[.slice ka G.kinds.length kc, .slice pa G.precs.length pc, .slice ra G.rules.length rc, .slice qa G.prods.length qc, .int .i64 G.start]] w fun e w' => ∃ ka' pa' ra' qa' kc' pc' rc' qc', e = .returned (.tuple #[gV (trimG G) ka' pa' ra' qa' kc' pc' rc' qc', .int .i64 0]) ∧ GIn w'.heap.size w' (trimG G) ka' pa' ra' qa' ∧ Below w.heap.size w w' := by
  have Hgs0 := hide hgs
  obtain ⟨w1, hw1, hst, hb1, hs1, hbx⟩ := trim_in kc pc rc qc (Nat.le_refl _) hin
  have hG := check_ok hc
  have hst0 := hG.s0; have hst1 := hG.s1
  unfold Gm.nr at hst1
  have d0 := hst.c0; have d1 := hst.c1; have d2 := hst.c2; have d3 := hst.c3; have d4 := hst.c4
  have hC := mayBe_any G ka pa ra qa kc pc rc qc w1 (gin_up hin hb1) (fun p hp => by have := hG.pr p hp; omega)
  rw [hc] at hC
  have HC := hide hC
  obtain ⟨st, hse⟩ : ∃ st : Nat, G.start = (st : Int) := ⟨G.start.toNat, by omega⟩
  have hst' : st < G.rules.length := by omega
  have hst'' : (st : Int) < G.rules.length := by omega
  rw [hse, Int.toNat_natCast] at hgs
  have Hin := hide hin; have Hgs := hide hgs; have Hse := hide hse
  have Hb1 := hide hb1; have Hbx := hide hbx; have HG := hide hG; have Hst := hide hst
  have hnot := run_not
  have Hc := hide hc
  clear hst hC hb1 hin hc hbx hG hgs hse
  go_enter Tryz.func18, Tryz.ntmps18
  rw [hw1] at d0 d1 d2 d3 d4
  go_wp2_with fail
  rw [← hw1]
  clear d0 d1 d2 d3 d4 hw1
  refine (unhide HC).mono ?_
  rintro e w2 ⟨rfl, hb2⟩
  have hs2 := hb2.size
  have hst2 := gst_kept (below_le hb2 (by omega)) (Nat.le_refl _) (unhide Hst)
  have d0 := hst2.c0; have d1 := hst2.c1; have d2 := hst2.c2; have d3 := hst2.c3; have d4 := hst2.c4
  have HNG := hide (newGrammar_any G (unhide HG) ka pa ra qa kc pc rc qc w2 (gin_up (unhide Hin) ((unhide Hb1).trans (below_le hb2 (by omega)))))
  have Hst2 := hide hst2; have Hb2 := hide hb2
  clear hst2 hb2 HC
  go_wp2_with fail
  clear d0 d1 d2 d3 d4
  refine (unhide HNG).mono ?_
  rintro e w9 ⟨gb, ob, ub, rfl, hg9, hb9⟩
  have hs9 := hb9.size
  have HP := hide (productiveRules_any G (unhide HG) ka pa ra qa kc pc rc qc gb ob ub w9.heap.size w9 (Nat.le_refl _) hg9)
  have Hb9 := hide hb9
  have Hg9 := hide hg9
  clear hg9 hb9 HNG
  go_wp2_with fail
  refine (unhide HP).mono ?_
  rintro e w3 ⟨mb, rfl, hmr, hmb, hb3'⟩
  have hb3 : Below w2.heap.size w2 w3 := (unhide Hb9).trans (below_le hb3' hs9)
  have hst3 := gst_kept (below_le hb3 (by omega)) (Nat.le_refl _) (unhide Hst2)
  have d4 := hst3.c4
  rw [unhide Hse] at d4
  have cg := hmr.cell (show st < G.nr from hst')
  rw [unhide Hgs] at cg
  have hbx3 := bx_below (bx_below (unhide Hbx) (unhide Hb2)) hb3
  have hs3 := hb3.size
  have HA := hide (allAre58_any gb mb G.rules.length w3)
  have hg3 := gr_kept (unhide Hg9) hb3'
  have Hb3 := hide hb3; have Hbx3 := hide hbx3; have Hmr := hide hmr; have Hg3 := hide hg3
  have hs93 := hb3'.size
  clear hb3 hb3' hbx3 hst3 hmr HP hg3
  go_wp2_with fail
  refine (unhide HA).mono ?_
  rintro e w4 ⟨rfl, hgx, hmx, hs4, hb4⟩
  have hg4 := gr_kept (unhide Hg3) (below_le hb4 hs93)
  have hmr4 := rowIs_below (unhide Hmr) hb4
  have HR := hide (reachedU_any G (unhide HG) ka pa ra qa kc pc rc qc gb ob ub w9.heap.size w3.heap.size (w3.heap.size + 1) mb w4 (by omega) hg4 hgx hmx hmr4)
  have HR2 := hide (reachedU_any G (unhide HG) ka pa ra qa kc pc rc qc gb ob ub w9.heap.size w3.heap.size (w3.heap.size + 1) mb w4.drew (by show _ ≤ w4.heap.size; omega) (gr_kept hg4 (below_le (Below.refl _ _).drew (by omega))) hgx hmx hmr4)
  have Hg4 := hide hg4; have Hgx := hide hgx; have Hmx := hide hmx; have Hmr4 := hide hmr4; have Hb4 := hide hb4
  clear hg4 hgx hmx hmr4 hb4 HA cg d4
  go_wp2_with fail
  first
    | refine (unhide HR).mono ?_
    | refine (unhide HR2).mono ?_
  rintro e w5 ⟨rb, rfl, hrr, hrb, hb5⟩
  have hb5 : Below w4.heap.size w4 w5 := ⟨hb5.os, hb5.tape, hb5.output, hb5.size, hb5.block⟩
  have hs5 := hb5.size
  have HO := hide (only_any G (unhide Hc) (unhide Hgs0) ka pa ra qa kc pc rc qc gb ob ub w9.heap.size w3.heap.size (w3.heap.size + 1) mb rb w5 (by omega) (gr_kept (unhide Hg4) (below_le hb5 (by omega))) ((hb5.cell (p := ⟨w3.heap.size, 0, none⟩) (by show w3.heap.size < _; omega)).trans (unhide Hgx)) ((hb5.cell (p := ⟨w3.heap.size + 1, 0, none⟩) (by show w3.heap.size + 1 < _; omega)).trans (unhide Hmx)) (rowIs_below (unhide Hmr4) hb5) hrr)
  have Hb5 := hide hb5
  clear hrr hrb hb5 HR HR2
  go_wp2_with fail
  refine (unhide HO).mono ?_
  rintro e w6 ⟨ka', pa', ra', qa', kc', pc', rc', qc', rfl, hg6, hb6⟩
  have hs6 := hb6.size
  have hb46 : Below w3.heap.size w3 w6 := (unhide Hb4).trans ((below_le (unhide Hb5) (by omega)).trans (below_le hb6 (by omega)))
  have hbx6 := bx_below (unhide Hbx3) hb46
  obtain ⟨r0, r1, r2, r3, r4, z0, z1, z2, z3, z4⟩ := five_cellsZ hbx6
  have h5 := set5 hbx6 (.slice ka' (trimG G).kinds.length kc') (.slice pa' (trimG G).precs.length pc') (.slice ra' (trimG G).rules.length rc') (.slice qa' (trimG G).prods.length qc') (.int .i64 (trimG G).start)
  have Hh5 := hide h5; have Hb46 := hide hb46; have Hg6 := hide hg6
  clear h5 hb46 hbx6 hg6 hb6 HO
  have hgv : gV (trimG G) ka' pa' ra' qa' kc' pc' rc' qc' = .agg #[.slice ka' (trimG G).kinds.length kc', .slice pa' (trimG G).precs.length pc', .slice ra' (trimG G).rules.length rc', .slice qa' (trimG G).prods.length qc', .int .i64 (trimG G).start] := rfl
  rw [hgv]
  go_wp2
  obtain ⟨WF, hWF⟩ : ∃ WF, WF = ((((w6.setCell ⟨w.heap.size + 1, 0, none⟩ (.slice ka' (trimG G).kinds.length kc')).setCell ⟨w.heap.size + 1, 1, none⟩ (.slice pa' (trimG G).precs.length pc')).setCell ⟨w.heap.size + 1, 2, none⟩ (.slice ra' (trimG G).rules.length rc')).setCell ⟨w.heap.size + 1, 3, none⟩ (.slice qa' (trimG G).prods.length qc')).setCell ⟨w.heap.size + 1, 4, none⟩ (.int .i64 (trimG G).start) := ⟨_, rfl⟩
  have h5 := unhide Hh5
  rw [← hWF] at h5 ⊢
  obtain ⟨y0, y1, y2, y3, y4, -⟩ := five_cellsZ h5.1
  refine bodyPost_ret (v := .tuple #[.agg #[.slice ka' (trimG G).kinds.length kc', .slice pa' (trimG G).precs.length pc', .slice ra' (trimG G).rules.length rc', .slice qa' (trimG G).prods.length qc', .int .i64 (trimG G).start], .int .i64 0]) ?zz8 rfl ⟨ka', pa', ra', qa', kc', pc', rc', qc', rfl, unhide Hg6 (w.heap.size + 1) WF (by omega) (by omega) h5.2, (unhide Hb1).trans ((below_le (unhide Hb2) (by omega)).trans ((below_le (unhide Hb3) (by omega)).trans ((below_le (unhide Hb46) (by omega)).trans (fr_below h5.2 (by have := (unhide Hb46).size; omega) (fun j hj => by have hj : j = w.heap.size + 1 := hj; omega)))))⟩
  case zz8 => simp [results, Tryz.results18, go_sem, y0, y1, y2, y3, y4]
theorem trim18 : TrimC 18 := fun G ka pa ra qa kc pc rc qc w hin hsm => by
  cases hc : checkB G
  · refine (trimno18 G hc ka pa ra qa kc pc rc qc w hin hsm).mono ?_
    rintro e w' ⟨rfl, hb⟩
    have e1 : trG G = gm0 := by unfold trG; rw [if_neg (fun h => by rw [hc] at h; cases h.1)]
    have e2 : trV G = 130 := by unfold trV; rw [hc]; rfl
    rw [e1, e2]
    exact ⟨none, none, none, none, 0, 0, 0, 0, rfl, gin0 w' (tb_up hin.tab (Nat.le_refl _) hb), hb⟩
  · cases hs : prdF G G.start.toNat
    · refine (trimnone18 G hc hs ka pa ra qa kc pc rc qc w hin).mono ?_
      rintro e w' ⟨rfl, hb⟩
      have e1 : trG G = gm0 := by unfold trG; rw [if_neg (fun h => by rw [hs] at h; cases h.2)]
      have e2 : trV G = 8 := by unfold trV; rw [hc, hs]; rfl
      rw [e1, e2]
      exact ⟨none, none, none, none, 0, 0, 0, 0, rfl, gin0 w' (tb_up hin.tab (Nat.le_refl _) hb), hb⟩
    · refine (trimyes18 G hc hs ka pa ra qa kc pc rc qc w hin).mono ?_
      rintro e w' ⟨ka', pa', ra', qa', kc', pc', rc', qc', rfl, hg, hb⟩
      have e1 : trG G = trimG G := by unfold trG; rw [if_pos ⟨hc, hs⟩]
      have e2 : trV G = 0 := by unfold trV; rw [hc, hs]; rfl
      rw [e1, e2]
      exact ⟨ka', pa', ra', qa', kc', pc', rc', qc', rfl, hg, hb⟩
end Go.Proofs.YtagohbpbgjelaaaGreatDoor

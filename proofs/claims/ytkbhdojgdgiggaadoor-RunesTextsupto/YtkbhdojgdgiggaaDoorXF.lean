/- The document's reader of a rune. -/
import Derived.Test.YtkbhdojgdgiggaaDoorXE
namespace Go.Proofs.YtkbhdojgdgiggaaDoor
open Go.RowKit Go.Lib Go.Sort

set_option maxHeartbeats 2000000 in
set_option maxRecDepth 100000 in
theorem rRead_esc (s : ByteArray) (i : Nat) (hs : s.size < 4611686018427387904) (hc : gb s i = 92) (w : World) :
    Calls Tryd.prog 76 #[.string s, .int .i64 i] w fun e w' => e = .returned (escM s i).val ∧ Below w.heap.size w w' := by
  have hin : i < s.size := gb_pos (by rw [hc]; omega)
  have HI := hide (rAt_any s i)
  rw [atB_in hin, hc] at HI
  have HH := hide (rEscape_any s i hs hin)
  generalize escM s i = R at *
  obtain ⟨r, n, why, pos⟩ := R
  have Hbel : Hid (Below w.heap.size w (w.alloc (.cells #[.int .i64 0, .int .i64 0] 48))) := hide ((Below.refl _ _).alloc (Nat.le_refl _) _)
  go_enter Tryd.func76, Tryd.ntmps76
  go_wp2_with fail
  refine (unhide HI _).mono ?_
  rintro e w' ⟨rfl, hw⟩
  obtain rfl := hw.symm
  go_wp2_with fail
  refine (unhide HH _).mono ?_
  rintro e w1 ⟨rfl, hb⟩
  have hfb := (FX.start w 0 0).below hb (by simp)
  have f0 := hfb.cell0; have f1 := hfb.cell1; have z0 := hfb.fz 0; have z1 := hfb.fz 1
  have g1 := hfb.set0 why; have y0 := g1.fz 1; have y1 := g1.cell1
  have g2 := g1.set1 pos; have x0 := g2.cell0; have x1 := g2.cell1
  have Hb2 := hide (below_fault ((unhide Hbel).trans (belowLe hb (by simp))) (Nat.le_refl _) (.int .i64 why) (.int .i64 pos))
  clear hb hfb g1 g2
  unfold Rd.val
  go_wp2
  refine bodyPost_ret (v := Rd.val ⟨r, n, why, pos⟩) (by simp [results, Tryd.results76, go_sem, Rd.val, x0, x1]) rfl ⟨rfl, unhide Hb2⟩
set_option maxHeartbeats 2000000 in
set_option maxRecDepth 100000 in
theorem rRead_next (s : ByteArray) (i : Nat) (hs : s.size < 4611686018427387904) (hi : i ≤ s.size) (hc : gb s i ≠ 92) (r : Int) (k : Nat) (ok : Bool) (hk : k ≤ 4) (hn : nextT s i = (r, (k : Int), ok)) (w : World) :
    Calls Tryd.prog 76 #[.string s, .int .i64 i] w fun e w' => e = .returned (if ok && loneB r then ⟨r, i + k, 0, 0⟩ else badRd i).val ∧ Below w.heap.size w w' := by
  have HI := hide (rAt_any s i)
  have hc' : (atB s i == 92) = false := by rw [atB_eq s i 92 (by omega)]; simpa using hc
  generalize atB s i = a at *
  have HN := hide (rNext_any s i (by omega))
  unfold nextV at HN
  rw [hn] at HN
  simp only at HN
  have Hbel : Hid (Below w.heap.size w (w.alloc (.cells #[.int .i64 0, .int .i64 0] 48))) := hide ((Below.refl _ _).alloc (Nat.le_refl _) _)
  clear hn
  cases ok with
  | false =>
    simp only [Bool.false_and, Bool.false_eq_true, if_false]
    go_enter Tryd.func76, Tryd.ntmps76
    go_wp2_with fail
    refine (unhide HI _).mono ?_
    rintro e w' ⟨rfl, hw⟩
    obtain rfl := hw.symm
    go_wp2_with fail
    refine (unhide HN _).mono ?_
    rintro e w1 ⟨rfl, hb⟩
    have hfb := (FX.start w 0 0).below hb (by simp)
    have Hb1 := hide ((unhide Hbel).trans (belowLe hb (by simp)))
    clear hb
    have z0 := hfb.fz 0; have z1 := hfb.fz 1; have f0 := hfb.cell0; have f1 := hfb.cell1
    have g1 := hfb.set0 5; have y0 := g1.fz 1; have y1 := g1.cell1
    have g2 := g1.set1 (i : Int); have x0 := g2.cell0; have x1 := g2.cell1
    have Hb2 := hide (below_fault (unhide Hb1) (Nat.le_refl _) (.int .i64 5) (.int .i64 (i : Int)))
    clear hfb g1 g2
    go_wp2
    refine bodyPost_ret (v := (badRd i).val) (by simp [results, Tryd.results76, go_sem, Rd.val, badRd, x0, x1]) rfl ⟨rfl, unhide Hb2⟩
  | true =>
    simp only [Bool.true_and]
    cases hl : loneB r with
    | true =>
      simp only [if_true]
      have h : ¬ r ≤ 32 ∧ r ≠ 127 ∧ r ≠ 91 ∧ r ≠ 93 ∧ r ≠ 45 ∧ r ≠ 34 := by simpa [loneB, and_assoc] using hl
      obtain ⟨k1, k2, k3, k4, k5, k6⟩ := h
      have e2 : (r == 127) = false := by simpa using k2
      have e3 : (r == 91) = false := by simpa using k3
      have e4 : (r == 93) = false := by simpa using k4
      have e5 : (r == 45) = false := by simpa using k5
      have e6 : (r == 34) = false := by simpa using k6
      clear hl k2 k3 k4 k5 k6
      go_enter Tryd.func76, Tryd.ntmps76
      go_wp2_with fail
      refine (unhide HI _).mono ?_
      rintro e w' ⟨rfl, hw⟩
      obtain rfl := hw.symm
      go_wp2_with fail
      refine (unhide HN _).mono ?_
      rintro e w1 ⟨rfl, hb⟩
      have hfb := (FX.start w 0 0).below hb (by simp)
      have Hb1 := hide ((unhide Hbel).trans (belowLe hb (by simp)))
      clear hb
      have z0 := hfb.fz 0; have z1 := hfb.fz 1; have f0 := hfb.cell0; have f1 := hfb.cell1
      have g1 := hfb.set0 0; have y0 := g1.fz 1; have y1 := g1.cell1
      have g2 := g1.set1 0; have x0 := g2.cell0; have x1 := g2.cell1
      have Hb2 := hide (below_fault (unhide Hb1) (Nat.le_refl _) (.int .i64 0) (.int .i64 0))
      clear hfb g1 g2
      go_wp2
      refine bodyPost_ret (v := Rd.val ⟨r, i + k, 0, 0⟩) (by simp [results, Tryd.results76, go_sem, Rd.val, x0, x1]) rfl ⟨rfl, unhide Hb2⟩
    | false =>
      simp only [Bool.false_eq_true, if_false]
      have h : r ≤ 32 ∨ r = 127 ∨ r = 91 ∨ r = 93 ∨ r = 45 ∨ r = 34 := by
        have : ¬ (loneB r = true) := by rw [hl]; simp
        by_cases h0 : r ≤ 32
        · exact .inl h0
        · right
          simp only [loneB] at hl
          simp only [Bool.not_eq_false', Bool.or_eq_true, decide_eq_true_eq, beq_iff_eq] at hl
          omega
      clear hl
      go_enter Tryd.func76, Tryd.ntmps76
      go_wp2_with fail
      refine (unhide HI _).mono ?_
      rintro e w' ⟨rfl, hw⟩
      obtain rfl := hw.symm
      go_wp2_with fail
      refine (unhide HN _).mono ?_
      rintro e w1 ⟨rfl, hb⟩
      have hfb := (FX.start w 0 0).below hb (by simp)
      have Hb1 := hide ((unhide Hbel).trans (belowLe hb (by simp)))
      clear hb
      rcases h with h | rfl | rfl | rfl | rfl | rfl
      all_goals
        have z0 := hfb.fz 0; have z1 := hfb.fz 1; have f0 := hfb.cell0; have f1 := hfb.cell1
        have g1 := hfb.set0 5; have y0 := g1.fz 1; have y1 := g1.cell1
        have g2 := g1.set1 (i : Int); have x0 := g2.cell0; have x1 := g2.cell1
        have Hb2 := hide (below_fault (unhide Hb1) (Nat.le_refl _) (.int .i64 5) (.int .i64 (i : Int)))
        clear hfb g1 g2
        go_wp2
        refine bodyPost_ret (v := (badRd i).val) (by simp [results, Tryd.results76, go_sem, Rd.val, badRd, x0, x1]) rfl ⟨rfl, unhide Hb2⟩
theorem rRead_any (s : ByteArray) (i : Nat) (hs : s.size < 4611686018427387904) (hi : i ≤ s.size) (w : World) :
    Calls Tryd.prog 76 #[.string s, .int .i64 i] w fun e w' => e = .returned (runM s i).val ∧ Below w.heap.size w w' := by
  unfold runM
  by_cases hc : gb s i = 92
  · rw [if_pos hc]; exact rRead_esc s i hs hc w
  · rw [if_neg hc]
    have hk : ∃ k : Nat, k ≤ 4 ∧ (nextT s i).2.1 = (k : Int) := by
      by_cases hin : i < s.size
      · cases hn : noneB s i with
        | true => rw [nextT_none s i hin hn]; exact ⟨1, by omega, rfl⟩
        | false => rw [nextT_rune s i hin hn]; exact ⟨_, (width_pos s i hin).2.1, rfl⟩
      · rw [nextT_out s i (.inr (by omega))]; exact ⟨0, by omega, rfl⟩
    obtain ⟨k, hk4, e⟩ := hk
    rw [e, Int.toNat_natCast]
    exact rRead_next s i hs hi hc _ k _ hk4 (by rw [← e]) w
end Go.Proofs.YtkbhdojgdgiggaaDoor

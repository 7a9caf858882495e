/- slices.Sort at rune: siftDownOrdered, heapSortOrdered, reverseRangeOrdered. -/
import Derived.Test.YtkbhdojgdgiggabDoorQ2
namespace Go.Proofs.YtkbhdojgdgiggabDoor
open Go.RowKit Go.Sort

set_option maxRecDepth 100000 in
set_option maxHeartbeats 4000000 in
theorem sift_any (b cap n lo hi first : Nat) (d : Array Int) (hf : first + hi ≤ n) (hn : n ≤ 281474976710656) (hlo : lo ≤ n) (w : World) (h : RW w b cap n d) :
    Calls Tryd.prog 83 #[.slice (some ⟨b, 0, none⟩) n cap, .int .i64 lo, .int .i64 hi, .int .i64 first] w fun e w' => (∃ v, e = .returned v) ∧ RW w' b cap n (siftDown ltInt hi first lo d) ∧ OfB b w w' := by
  go_enter Tryd.func83, Tryd.ntmps83
  go_wp2
  go_loopw [8] (fun x wr => ∃ (r : Nat) (d1 : Array Int), x = .int .i64 r ∧ r ≤ n ∧ RW wr b cap n d1 ∧ OfB b w wr ∧ siftDown ltInt hi first r d1 = siftDown ltInt hi first lo d) (fun x _ => hi - (intOf x).toNat)
  case atStart => exact ⟨lo, d, rfl, hlo, h, ofB_refl _ _, rfl⟩
  case round =>
    obtain ⟨r, d1, rfl, hrn, hrw, hof, heq⟩ := hrel
    rw [siftDown] at heq
    by_cases hge : 2 * r + 1 ≥ hi
    · rw [dif_pos hge] at heq
      have hge' : (hi : Int) ≤ 2 * (r : Int) + 1 := by omega
      go_wp2
      first | refine bodyPost_ret (results_none rfl _ _ _) rfl ?_ | go_end0
      exact ⟨⟨_, rfl⟩, heq ▸ hrw, hof⟩
    · rw [dif_neg hge] at heq
      have hge' : ¬ (hi : Int) ≤ 2 * (r : Int) + 1 := by omega
      obtain ⟨R, hR⟩ : ∃ R : Nat, R = first + r := ⟨_, rfl⟩
      obtain ⟨X, hX⟩ : ∃ X : Nat, X = first + (2 * r + 1) := ⟨_, rfl⟩
      have hX2 : X + 1 = first + (2 * r + 2) := by omega
      rw [← hR, ← hX2, ← hX] at heq
      have e1 : (first : Int) + (r : Int) = (R : Int) := by omega
      have e2 : (first : Int) + (2 * (r : Int) + 1) = (X : Int) := by omega
      have b1 : (R : Int) < n := by omega
      have wR : IntKind.i64.wrap (R : Int) = (R : Int) := IntWalk.i64_in _ (by omega)
      have b2 : (X : Int) < n := by omega
      have p1 : (0 : Int) ≤ (X : Int) + 1 := by omega
      have wX : IntKind.i64.wrap (X : Int) = (X : Int) := IntWalk.i64_in _ (by omega)
      have wX1 : IntKind.i64.wrap ((X : Int) + 1) = (X : Int) + 1 := IntWalk.i64_in _ (by omega)
      by_cases h2 : 2 * r + 1 + 1 < hi
      · have h2' : decide (2 * (r : Int) + 1 + 1 < (hi : Int)) = true := by simp; omega
        have e4 : (first : Int) + (2 * (r : Int) + 1 + 1) = (X : Int) + 1 := by omega
        have b3 : (X : Int) + 1 < n := by omega
        have c1 := rw_cell hrw X (by omega)
        have c2 := rw_cell hrw (X + 1) (by omega)
        by_cases hc : d1[X]! < d1[X + 1]!
        · have hc' : decide (d1[X]! < d1[X + 1]!) = true := by simpa using hc
          rw [if_pos (by rw [Bool.and_eq_true]; exact ⟨by simpa using h2, hc'⟩)] at heq
          have cr := rw_cell hrw R (by omega)
          have cx := rw_cell hrw (X + 1) (by omega)
          have fr := rw_frozen hrw R
          have fx := rw_frozen hrw (X + 1)
          have Hrw := hide hrw; have Hof := hide hof
          clear hrw hof hX hX2 hR
          by_cases hl : d1[R]! < d1[(X + 1)]!
          · have hl' : decide (d1[R]! < d1[(X + 1)]!) = true := by simpa using hl
            rw [if_neg (by simp only [ltInt, hl']; simp)] at heq
            rw [dif_pos (by omega)] at heq
            have Heq := hide heq
            clear heq
            go_wp2
            go_quiet ((go_at_call 67; exact Calls.quiet_of_same (less_same _ _ _)))
            go_wp2
            have Hrw5 := hide (rw_drew nq (unhide Hrw)); have Hof5 := hide (ofB_drew nq (unhide Hof))
            have cr5 := rw_cell (unhide Hrw5) R (by omega)
            have cx5 := rw_cell (unhide Hrw5) (X + 1) (by omega)
            have fr5 := rw_frozen (unhide Hrw5) R
            have fx5 := rw_frozen (unhide Hrw5) (X + 1)
            generalize wr.drewN nq = w5 at Hrw5 Hof5 cr5 cx5 fr5 fx5 ⊢
            clear Hrw Hof cr cx fr fx
            go_quiet ((go_at_call 67; exact Calls.quiet_of_same (less_same _ _ _)))
            go_wp2
            go_region
            go_wp2
            go_roundw
            case rel =>
              have hs := rw_swp (rw_drew (nq + 1) (unhide Hrw5)) R (X + 1)
              exact ⟨(2 * r + 2), swp d1 R (X + 1), by go_num, by omega, hs.1, ofB_t (ofB_drew (nq + 1) (unhide Hof5)) hs.2, unhide Heq⟩
            case measure => simp [intOf]; omega
          · have hl' : decide (d1[R]! < d1[(X + 1)]!) = false := by simpa using hl
            rw [if_pos (by simp only [ltInt, hl']; simp)] at heq
            have Heq := hide heq
            clear heq
            go_wp2
            go_quiet ((go_at_call 67; exact Calls.quiet_of_same (less_same _ _ _)))
            go_wp2
            have Hrw5 := hide (rw_drew nq (unhide Hrw)); have Hof5 := hide (ofB_drew nq (unhide Hof))
            have cr5 := rw_cell (unhide Hrw5) R (by omega)
            have cx5 := rw_cell (unhide Hrw5) (X + 1) (by omega)
            have fr5 := rw_frozen (unhide Hrw5) R
            have fx5 := rw_frozen (unhide Hrw5) (X + 1)
            generalize wr.drewN nq = w5 at Hrw5 Hof5 cr5 cx5 fr5 fx5 ⊢
            clear Hrw Hof cr cx fr fx
            go_quiet ((go_at_call 67; exact Calls.quiet_of_same (less_same _ _ _)))
            go_wp2
            first | refine bodyPost_ret (results_none rfl _ _ _) rfl ?_ | go_end0
            exact ⟨⟨_, rfl⟩, by rw [← unhide Heq]; exact rw_drew _ (unhide Hrw5), ofB_drew _ (unhide Hof5)⟩

        · have hc' : decide (d1[X]! < d1[X + 1]!) = false := by simpa using hc
          rw [if_neg (by rw [Bool.and_eq_true]; intro hh; exact absurd hh.2 (by rw [show ltInt d1[X]! d1[X + 1]! = false from hc']; simp))] at heq
          have cr := rw_cell hrw R (by omega)
          have cx := rw_cell hrw X (by omega)
          have fr := rw_frozen hrw R
          have fx := rw_frozen hrw X
          have Hrw := hide hrw; have Hof := hide hof
          clear hrw hof hX hX2 hR
          by_cases hl : d1[R]! < d1[X]!
          · have hl' : decide (d1[R]! < d1[X]!) = true := by simpa using hl
            rw [if_neg (by simp only [ltInt, hl']; simp)] at heq
            have Heq := hide heq
            clear heq
            go_wp2
            go_quiet ((go_at_call 67; exact Calls.quiet_of_same (less_same _ _ _)))
            go_wp2
            have Hrw5 := hide (rw_drew nq (unhide Hrw)); have Hof5 := hide (ofB_drew nq (unhide Hof))
            have cr5 := rw_cell (unhide Hrw5) R (by omega)
            have cx5 := rw_cell (unhide Hrw5) X (by omega)
            have fr5 := rw_frozen (unhide Hrw5) R
            have fx5 := rw_frozen (unhide Hrw5) X
            generalize wr.drewN nq = w5 at Hrw5 Hof5 cr5 cx5 fr5 fx5 ⊢
            clear Hrw Hof cr cx fr fx
            go_quiet ((go_at_call 67; exact Calls.quiet_of_same (less_same _ _ _)))
            go_wp2
            go_region
            go_wp2
            go_roundw
            case rel =>
              have hs := rw_swp (rw_drew (nq + 1) (unhide Hrw5)) R X
              exact ⟨(2 * r + 1), swp d1 R X, by go_num, by omega, hs.1, ofB_t (ofB_drew (nq + 1) (unhide Hof5)) hs.2, unhide Heq⟩
            case measure => simp [intOf]; omega
          · have hl' : decide (d1[R]! < d1[X]!) = false := by simpa using hl
            rw [if_pos (by simp only [ltInt, hl']; simp)] at heq
            have Heq := hide heq
            clear heq
            go_wp2
            go_quiet ((go_at_call 67; exact Calls.quiet_of_same (less_same _ _ _)))
            go_wp2
            have Hrw5 := hide (rw_drew nq (unhide Hrw)); have Hof5 := hide (ofB_drew nq (unhide Hof))
            have cr5 := rw_cell (unhide Hrw5) R (by omega)
            have cx5 := rw_cell (unhide Hrw5) X (by omega)
            have fr5 := rw_frozen (unhide Hrw5) R
            have fx5 := rw_frozen (unhide Hrw5) X
            generalize wr.drewN nq = w5 at Hrw5 Hof5 cr5 cx5 fr5 fx5 ⊢
            clear Hrw Hof cr cx fr fx
            go_quiet ((go_at_call 67; exact Calls.quiet_of_same (less_same _ _ _)))
            go_wp2
            first | refine bodyPost_ret (results_none rfl _ _ _) rfl ?_ | go_end0
            exact ⟨⟨_, rfl⟩, by rw [← unhide Heq]; exact rw_drew _ (unhide Hrw5), ofB_drew _ (unhide Hof5)⟩

      · have h2' : decide (2 * (r : Int) + 1 + 1 < (hi : Int)) = false := by simp; omega
        rw [if_neg (by rw [Bool.and_eq_true]; intro hh; exact absurd hh.1 (by simpa using h2))] at heq
        have cr := rw_cell hrw R (by omega)
        have cx := rw_cell hrw X (by omega)
        have fr := rw_frozen hrw R
        have fx := rw_frozen hrw X
        have Hrw := hide hrw; have Hof := hide hof
        clear hrw hof hX hX2 hR
        by_cases hl : d1[R]! < d1[X]!
        · have hl' : decide (d1[R]! < d1[X]!) = true := by simpa using hl
          rw [if_neg (by simp only [ltInt, hl']; simp)] at heq
          have Heq := hide heq
          clear heq
          go_wp2
          go_quiet (fail)
          go_wp2
          have Hrw5 := hide (rw_drew nq (unhide Hrw)); have Hof5 := hide (ofB_drew nq (unhide Hof))
          have cr5 := rw_cell (unhide Hrw5) R (by omega)
          have cx5 := rw_cell (unhide Hrw5) X (by omega)
          have fr5 := rw_frozen (unhide Hrw5) R
          have fx5 := rw_frozen (unhide Hrw5) X
          generalize wr.drewN nq = w5 at Hrw5 Hof5 cr5 cx5 fr5 fx5 ⊢
          clear Hrw Hof cr cx fr fx
          go_quiet ((go_at_call 67; exact Calls.quiet_of_same (less_same _ _ _)))
          go_wp2
          go_region
          go_wp2
          go_roundw
          case rel =>
            have hs := rw_swp (rw_drew (nq + 1) (unhide Hrw5)) R X
            exact ⟨(2 * r + 1), swp d1 R X, by go_num, by omega, hs.1, ofB_t (ofB_drew (nq + 1) (unhide Hof5)) hs.2, unhide Heq⟩
          case measure => simp [intOf]; omega
        · have hl' : decide (d1[R]! < d1[X]!) = false := by simpa using hl
          rw [if_pos (by simp only [ltInt, hl']; simp)] at heq
          have Heq := hide heq
          clear heq
          go_wp2
          go_quiet (fail)
          go_wp2
          have Hrw5 := hide (rw_drew nq (unhide Hrw)); have Hof5 := hide (ofB_drew nq (unhide Hof))
          have cr5 := rw_cell (unhide Hrw5) R (by omega)
          have cx5 := rw_cell (unhide Hrw5) X (by omega)
          have fr5 := rw_frozen (unhide Hrw5) R
          have fx5 := rw_frozen (unhide Hrw5) X
          generalize wr.drewN nq = w5 at Hrw5 Hof5 cr5 cx5 fr5 fx5 ⊢
          clear Hrw Hof cr cx fr fx
          go_quiet ((go_at_call 67; exact Calls.quiet_of_same (less_same _ _ _)))
          go_wp2
          first | refine bodyPost_ret (results_none rfl _ _ _) rfl ?_ | go_end0
          exact ⟨⟨_, rfl⟩, by rw [← unhide Heq]; exact rw_drew _ (unhide Hrw5), ofB_drew _ (unhide Hof5)⟩

end Go.Proofs.YtkbhdojgdgiggabDoor

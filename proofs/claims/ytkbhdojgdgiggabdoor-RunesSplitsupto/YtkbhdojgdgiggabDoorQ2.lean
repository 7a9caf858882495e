/- slices.Sort at rune: insertionSortOrdered. -/
import Derived.Test.YtkbhdojgdgiggabDoorQ1
namespace Go.Proofs.YtkbhdojgdgiggabDoor
open Go.RowKit Go.Sort

set_option maxRecDepth 100000 in
set_option maxHeartbeats 2000000 in
theorem ins_any (b cap n a c : Nat) (d : Array Int) (hc : c ≤ n) (hn : n ≤ 281474976710656) (ha : a ≤ n) (w : World) (h : RW w b cap n d) :
    Calls Tryd.prog 61 #[.slice (some ⟨b, 0, none⟩) n cap, .int .i64 a, .int .i64 c] w fun e w' => (∃ v, e = .returned v) ∧ RW w' b cap n (insertionSort ltInt d a c) ∧ OfB b w w' := by
  unfold insertionSort
  go_enter Tryd.func61, Tryd.ntmps61
  go_wp2
  go_loopw [6] (fun x wr => ∃ (i : Nat) (d1 : Array Int), x = .int .i64 i ∧ a < i ∧ i ≤ n + 1 ∧ RW wr b cap n d1 ∧ OfB b w wr ∧ insOuter ltInt a c i d1 = insOuter ltInt a c (a + 1) d) (fun x _ => c - (intOf x).toNat)
  case atStart => exact ⟨a + 1, d, by go_num, by omega, by omega, h, ofB_refl _ _, rfl⟩
  case round =>
    obtain ⟨i, d1, rfl, hai, hin, hrw, hof, heq⟩ := hrel
    rw [insOuter] at heq
    by_cases hlt : i < c
    · rw [if_pos hlt] at heq
      have hlt' : (i : Int) < c := by omega
      have Hrw := hide hrw; have Hof := hide hof; have Heq := hide heq
      clear hrw hof heq
      go_wp2
      go_loopw [7] (fun x wr2 => ∃ (j : Nat) (d2 : Array Int), x = .int .i64 j ∧ j ≤ i ∧ RW wr2 b cap n d2 ∧ OfB b w wr2 ∧ insInner ltInt a j d2 = insInner ltInt a i d1) (fun x _ => (intOf x).toNat)
      case atStart => exact ⟨i, d1, rfl, Nat.le_refl _, unhide Hrw, unhide Hof, rfl⟩
      case round =>
        obtain ⟨j, d2, rfl, hji, hrw, hof, heq⟩ := hrel
        by_cases hja : a < j
        · obtain ⟨k, rfl⟩ : ∃ k, j = k + 1 := ⟨j - 1, by omega⟩
          have hja' : decide ((a : Int) < (k : Int) + 1) = true := by simp; omega
          have hkn : (k : Int) + 1 < n := by omega
          have hkn0 : (k : Int) < n := by omega
          have c0 := rw_cell hrw k (by omega)
          have c1 := rw_cell hrw (k + 1) (by omega)
          have f0 := rw_frozen hrw k
          have f1 := rw_frozen hrw (k + 1)
          rw [insInner] at heq
          have Hrw := hide hrw; have Hof := hide hof
          clear hrw hof
          by_cases hl : d2[k + 1]! < d2[k]!
          · have hl' : decide (d2[k + 1]! < d2[k]!) = true := by simpa using hl
            rw [if_pos (by simp only [ltInt, hl', Bool.and_true, decide_eq_true_eq]; omega)] at heq
            have Heq := hide heq
            clear heq
            go_wp2
            go_quiet ((go_at_call 67; exact Calls.quiet_of_same (less_same _ _ _)))
            go_wp2
            go_region
            go_wp2
            go_roundw
            case rel =>
              have hs := rw_swp (rw_drew (nq + 1) (unhide Hrw)) (k + 1) k
              exact ⟨k, swp d2 (k + 1) k, rfl, by omega, hs.1, ofB_t (ofB_drew (nq + 1) (unhide Hof)) hs.2, unhide Heq⟩
            case measure => simp [intOf]
          · have hl' : decide (d2[k + 1]! < d2[k]!) = false := by simpa using hl
            rw [if_neg (by simp only [ltInt, hl', Bool.and_false]; simp)] at heq
            have Heq := hide heq
            clear heq
            go_wp2
            go_quiet ((go_at_call 67; exact Calls.quiet_of_same (less_same _ _ _)))
            go_wp2
            go_roundw
            case rel => exact ⟨i + 1, d2, by go_num, by omega, by omega, rw_drew _ (unhide Hrw), ofB_drew _ (unhide Hof), by rw [unhide Heq]; assumption⟩
            case measure => simp [intOf]; omega
        · have hja' : decide ((a : Int) < (j : Int)) = false := by simp; omega
          have heq2 : d2 = insInner ltInt a i d1 := by
            rw [← heq]
            cases j with
            | zero => rfl
            | succ k => rw [insInner, if_neg (by simp; omega)]
          have Hrw := hide hrw; have Hof := hide hof; have Heq := hide heq2
          clear hrw hof heq heq2
          go_wp2
          go_quiet (fail)
          go_wp2
          go_roundw
          case rel => exact ⟨i + 1, d2, by go_num, by omega, by omega, rw_drew _ (unhide Hrw), ofB_drew _ (unhide Hof), by rw [unhide Heq]; assumption⟩
          case measure => simp [intOf]; omega
    · rw [if_neg hlt] at heq
      go_wp2
      go_end0
      exact ⟨⟨_, rfl⟩, heq ▸ hrw, hof⟩
end Go.Proofs.YtkbhdojgdgiggabDoor

/- slices.Sort at rune: partialInsertionSortOrdered. -/
import Derived.Test.YtkbhdojgdgiggabDoorQ6
namespace Go.Proofs.YtkbhdojgdgiggabDoor
open Go.RowKit Go.Sort

theorem partialIns_succ (a c s i : Nat) (d : Array Int) : partialIns ltInt a c (s + 1) i d = (if scanSorted ltInt d c i = c then (d, true) else if c - a < 50 then (d, false) else
    partialIns ltInt a c s (scanSorted ltInt d c i) (if c - scanSorted ltInt d c i ≥ 2 then shiftUp ltInt c (scanSorted ltInt d c i + 1) (if scanSorted ltInt d c i - a ≥ 2 then shiftDown ltInt (scanSorted ltInt d c i - 1) (swp d (scanSorted ltInt d c i) (scanSorted ltInt d c i - 1)) else swp d (scanSorted ltInt d c i) (scanSorted ltInt d c i - 1)) else (if scanSorted ltInt d c i - a ≥ 2 then shiftDown ltInt (scanSorted ltInt d c i - 1) (swp d (scanSorted ltInt d c i) (scanSorted ltInt d c i - 1)) else swp d (scanSorted ltInt d c i) (scanSorted ltInt d c i - 1)))) := rfl

set_option maxRecDepth 100000 in
set_option maxHeartbeats 8000000 in
theorem pins_any (b cap n a c : Nat) (d : Array Int) (hac : a < c) (hc : c ≤ n) (hn : n ≤ 281474976710656) (w : World) (h : RW w b cap n d) :
    Calls Tryd.prog 66 #[.slice (some ⟨b, 0, none⟩) n cap, .int .i64 a, .int .i64 c] w fun e w' => e = .returned (.bool (partialInsertionSort ltInt d a c).2) ∧ RW w' b cap n (partialInsertionSort ltInt d a c).1 ∧ OfB b w w' := by
  have hres : partialInsertionSort ltInt d a c = partialIns ltInt a c 5 (a + 1) d := rfl
  generalize partialInsertionSort ltInt d a c = RES at *
  have Hres := hide hres.symm
  clear hres
  go_enter Tryd.func66, Tryd.ntmps66
  go_wp2
  go_loopw [7, 8] (fun x y wr => ∃ (i t s : Nat) (d1 : Array Int), x = .int .i64 i ∧ y = .int .i64 t ∧ t + s = 5 ∧ a < i ∧ i ≤ c ∧ RW wr b cap n d1 ∧ OfB b w wr ∧ partialIns ltInt a c s i d1 = RES) (fun _ y _ => 5 - (intOf y).toNat)
  case atStart => exact ⟨a + 1, 0, 5, d, by go_num, rfl, rfl, by omega, by omega, h, ofB_refl _ _, unhide Hres⟩
  case round =>
    obtain ⟨i3, t, s, d1, rfl, rfl, hts, hai, hic, hrw, hof, heq⟩ := hrel
    cases s with
    | zero =>
      obtain rfl : t = 5 := by omega
      have Heq2 : Hid (RES = (d1, false)) := hide heq.symm
      clear heq
      go_wp2
      go_ret
      exact ⟨by rw [unhide Heq2]; rfl, by rw [unhide Heq2]; exact hrw, hof⟩
    | succ s =>
      rw [partialIns_succ] at heq
      have ht : (t : Int) < 5 := by omega
      have Hrw := hide hrw; have Hof := hide hof; have Hloop := hide heq
      clear hrw hof heq
      go_wp2
      go_loopw [7] (fun x wr => ∃ i : Nat, x = .int .i64 i ∧ i3 ≤ i ∧ i ≤ c ∧ RW wr b cap n d1 ∧ OfB b w wr ∧ scanSorted ltInt d1 c i = scanSorted ltInt d1 c i3) (fun x _ => c - (intOf x).toNat)
      case atStart => exact ⟨i3, rfl, Nat.le_refl _, by omega, unhide Hrw, unhide Hof, rfl⟩
      case round =>
        obtain ⟨i, rfl, hi0, hin, hrw, hof, heq⟩ := hrel
        obtain ⟨k, rfl⟩ : ∃ k, i = k + 1 := ⟨i - 1, by omega⟩
        rw [scanSorted, Nat.add_sub_cancel] at heq
        obtain ⟨B, hB⟩ : ∃ B, B = (decide (k + 1 < c) && !ltInt d1[k + 1]! d1[k]!) := ⟨_, rfl⟩
        rw [← hB] at heq
        have HB := hide hB
        have Heq := hide heq
        clear hB heq
        go_wp2
        go_cut [32] from 17 to 34 (fun s wx => s = .bool B ∧ RW wx b cap n d1 ∧ OfB b w wx)
        case first =>
          by_cases hij : k + 1 < c
          · have hij' : decide ((k : Int) + 1 < (c : Int)) = true := by simp; omega
            have c0 := rw_cell hrw k (by omega)
            have c1 := rw_cell hrw (k + 1) (by omega)
            have b0 : (k : Int) < n := by omega
            have b1 : (k : Int) + 1 < n := by omega
            go_quiet ((go_at_call 67; exact Calls.quiet_of_same (less_same _ _ _)))
            go_wp2_with fail
            go_meet
            case rel => exact ⟨by rw [unhide HB]; simp [hij, ltInt], rw_drew _ hrw, ofB_drew _ hof⟩
          · have hij' : decide ((k : Int) + 1 < (c : Int)) = false := by simp; omega
            go_quiet (fail)
            go_wp2_with fail
            go_meet
            case rel => exact ⟨by rw [unhide HB]; simp [hij], rw_drew _ hrw, ofB_drew _ hof⟩
        case rest =>
          clear hrw hof
          obtain ⟨rfl, hrw, hof⟩ := hcut
          have Hrw := hide hrw; have Hof := hide hof
          clear hrw hof
          cases B with
          | true =>
            have hij : k + 1 < c := by have := unhide HB; simp at this; omega
            have heq2 := unhide Heq
            rw [if_pos rfl] at heq2
            have Heq2 := hide heq2
            clear heq2 Heq HB
            go_wp2
            go_roundw
            case rel => exact ⟨k + 1 + 1, by go_num, by omega, by omega, unhide Hrw, unhide Hof, unhide Heq2⟩
            case measure => simp [intOf]; omega
          | false =>
            have heq2 := unhide Heq
            rw [if_neg (by simp)] at heq2
            have hloop := unhide Hloop
            rw [← heq2] at hloop
            have Hloop2 := hide hloop
            clear heq2 Heq HB hloop Hloop
            by_cases hend : k + 1 = c
            · have heq3 : RES = (d1, true) := by have := unhide Hloop2; rw [if_pos hend] at this; exact this.symm
              have hend' : ((k : Int) + 1 == (c : Int)) = true := by simp; omega
              have Heq3 := hide heq3
              clear heq3 Hloop2
              go_wp2
              go_ret
              exact ⟨by rw [unhide Heq3]; rfl, by rw [unhide Heq3]; exact unhide Hrw, unhide Hof⟩
            · have hend' : ((k : Int) + 1 == (c : Int)) = false := by simp; omega
              obtain ⟨L, hL⟩ : ∃ L, L = c - a := ⟨_, rfl⟩
              have eL : (c : Int) - (a : Int) = (L : Int) := by omega
              by_cases h50 : c - a < 50
              · have h50' : (L : Int) < 50 := by omega
                have heq3 : RES = (d1, false) := by have := unhide Hloop2; rw [if_neg hend, if_pos h50] at this; exact this.symm
                have Heq3 := hide heq3
                clear heq3 Hloop2 hL
                go_wp2
                go_ret
                exact ⟨by rw [unhide Heq3]; rfl, by rw [unhide Heq3]; exact unhide Hrw, unhide Hof⟩
              · have h50' : ¬ (L : Int) < 50 := by omega
                have hkc : k + 1 < c := by omega
                obtain ⟨D2, hD2⟩ : ∃ D2, D2 = swp d1 (k + 1) k := ⟨_, rfl⟩
                have heq3 := unhide Hloop2
                rw [if_neg hend, if_neg h50, Nat.add_sub_cancel, ← hD2] at heq3
                have hs := rw_swp (unhide Hrw) (k + 1) k
                rw [← hD2] at hs
                have c0 := rw_cell (unhide Hrw) k (by omega)
                have c1 := rw_cell (unhide Hrw) (k + 1) (by omega)
                have f0 := rw_frozen (unhide Hrw) k
                have f1 := rw_frozen (unhide Hrw) (k + 1)
                have b0 : (k : Int) < n := by omega
                have b1 : (k : Int) + 1 < n := by omega
                have Heq3 := hide heq3; have Hs := hide hs
                clear heq3 hs Hloop2 hL hD2
                go_wp2
                go_region
                have Hrw3 : Hid (RW ((wc.setCell ⟨b, k + 1, none⟩ (.int .i32 d1[k]!)).setCell ⟨b, k, none⟩ (.int .i32 d1[k + 1]!)).drew b cap n D2) := hide (unhide Hs).1
                have Hof3 : Hid (OfB b w ((wc.setCell ⟨b, k + 1, none⟩ (.int .i32 d1[k]!)).setCell ⟨b, k, none⟩ (.int .i32 d1[k + 1]!)).drew) := hide (ofB_t (unhide Hof) (unhide Hs).2)
                generalize ((wc.setCell ⟨b, k + 1, none⟩ (.int .i32 d1[k]!)).setCell ⟨b, k, none⟩ (.int .i32 d1[k + 1]!)).drew = W3 at Hrw3 Hof3 ⊢
                clear Hrw Hof Hs c0 c1 f0 f1
                obtain ⟨M, hM⟩ : ∃ M, M = k + 1 - a := ⟨_, rfl⟩
                have eM : (k : Int) + 1 - (a : Int) = (M : Int) := by omega
                rw [← hM] at Heq3
                obtain ⟨D3, hD3⟩ : ∃ D3, D3 = (if M ≥ 2 then shiftDown ltInt k D2 else D2) := ⟨_, rfl⟩
                have heq4 := unhide Heq3
                rw [← hD3] at heq4
                have Heq4 := hide heq4; have HD3 := hide hD3
                clear heq4 hD3 Heq3 hM
                go_upto_if 61 with fail
                go_cut [9] from 13 to 132 (fun _ wx => RW wx b cap n D3 ∧ OfB b w wx)
                case first =>
                  by_cases hM2 : M ≥ 2
                  · have hM2' : (2 : Int) ≤ (M : Int) := by omega
                    have HD4 : Hid (D3 = shiftDown ltInt k D2) := hide (by rw [unhide HD3, if_pos hM2])
                    clear HD3
                    go_wp2
                    go_loopw [9] (fun x wr => ∃ (j : Nat) (d3 : Array Int), x = .int .i64 j ∧ j ≤ k ∧ RW wr b cap n d3 ∧ OfB b w wr ∧ shiftDown ltInt j d3 = D3) (fun x _ => (intOf x).toNat)
                    case atStart => exact ⟨k, D2, rfl, Nat.le_refl _, unhide Hrw3, unhide Hof3, (unhide HD4).symm⟩
                    case round =>
                      obtain ⟨j, d3, rfl, hjk, hrw, hof, heq⟩ := hrel
                      cases j with
                      | zero =>
                        have Heq2 : Hid (d3 = D3) := hide heq
                        clear heq
                        go_wp2_with fail
                        go_meet
                        case rel => exact ⟨by rw [← unhide Heq2]; exact hrw, hof⟩
                      | succ m =>
                        rw [shiftDown] at heq
                        have c0 := rw_cell hrw m (by omega)
                        have c1 := rw_cell hrw (m + 1) (by omega)
                        have f0 := rw_frozen hrw m
                        have f1 := rw_frozen hrw (m + 1)
                        have m0 : (m : Int) < n := by omega
                        have m1 : (m : Int) + 1 < n := by omega
                        have m2 : (1 : Int) ≤ (m : Int) + 1 := by omega
                        have Hrw := hide hrw; have Hof := hide hof
                        clear hrw hof
                        by_cases hl : d3[m + 1]! < d3[m]!
                        · have hl' : decide (d3[m + 1]! < d3[m]!) = true := by simpa using hl
                          rw [if_neg (by simp only [ltInt, hl']; simp)] at heq
                          have Heq := hide heq
                          clear heq
                          go_wp2
                          go_quiet ((go_at_call 67; exact Calls.quiet_of_same (less_same _ _ _)))
                          go_wp2
                          go_region
                          go_wp2
                          go_roundw
                          case rel =>
                            have hs := rw_swp (rw_drew (nq + 1) (unhide Hrw)) (m + 1) m
                            exact ⟨m, swp d3 (m + 1) m, rfl, by omega, hs.1, ofB_t (ofB_drew (nq + 1) (unhide Hof)) hs.2, unhide Heq⟩
                          case measure => simp [intOf]
                        · have hl' : decide (d3[m + 1]! < d3[m]!) = false := by simpa using hl
                          rw [if_pos (by simp only [ltInt, hl']; simp)] at heq
                          have Heq := hide heq
                          clear heq
                          go_wp2
                          go_quiet ((go_at_call 67; exact Calls.quiet_of_same (less_same _ _ _)))
                          go_wp2_with fail
                          go_meet
                          case rel => exact ⟨by rw [← unhide Heq]; exact rw_drew _ (unhide Hrw), ofB_drew _ (unhide Hof)⟩
                  · have hM2' : ¬ (2 : Int) ≤ (M : Int) := by omega
                    have HD4 : Hid (D3 = D2) := hide (by rw [unhide HD3, if_neg hM2])
                    clear HD3
                    go_wp2_with fail
                    go_meet
                    case rel => exact ⟨by rw [unhide HD4]; exact unhide Hrw3, unhide Hof3⟩
                case rest =>
                  clear Hrw3 Hof3 HD3
                  obtain ⟨hrw, hof⟩ := hcut
                  have Hrw := hide hrw; have Hof := hide hof
                  clear hrw hof
                  obtain ⟨Q, hQ⟩ : ∃ Q, Q = c - (k + 1) := ⟨_, rfl⟩
                  have eQ : (c : Int) - ((k : Int) + 1) = (Q : Int) := by omega
                  rw [← hQ] at Heq4
                  obtain ⟨D4, hD4⟩ : ∃ D4, D4 = (if Q ≥ 2 then shiftUp ltInt c (k + 1 + 1) D3 else D3) := ⟨_, rfl⟩
                  have heq5 := unhide Heq4
                  rw [← hD4] at heq5
                  have Heq5 := hide heq5; have HD4 := hide hD4
                  clear heq5 hD4 Heq4 hQ
                  go_upto_if 98 with fail
                  by_cases hQ2 : Q ≥ 2
                  · have hQ2' : (2 : Int) ≤ (Q : Int) := by omega
                    have HD5 : Hid (D4 = shiftUp ltInt c (k + 1 + 1) D3) := hide (by rw [unhide HD4, if_pos hQ2])
                    clear HD4
                    go_wp2
                    go_loopw [10] (fun x wr => ∃ (j : Nat) (d3 : Array Int), x = .int .i64 j ∧ k + 1 < j ∧ j ≤ c ∧ RW wr b cap n d3 ∧ OfB b w wr ∧ shiftUp ltInt c j d3 = D4) (fun x _ => c - (intOf x).toNat)
                    case atStart => exact ⟨k + 1 + 1, D3, by go_num, by omega, by omega, unhide Hrw, unhide Hof, (unhide HD5).symm⟩
                    case round =>
                      obtain ⟨j, d3, rfl, hjk, hjc, hrw, hof, heq⟩ := hrel
                      obtain ⟨m, rfl⟩ : ∃ m, j = m + 1 := ⟨j - 1, by omega⟩
                      rw [shiftUp, Nat.add_sub_cancel] at heq
                      by_cases hmc : m + 1 < c
                      · rw [if_pos hmc] at heq
                        have hmc' : (m : Int) + 1 < (c : Int) := by omega
                        have c0 := rw_cell hrw m (by omega)
                        have c1 := rw_cell hrw (m + 1) (by omega)
                        have f0 := rw_frozen hrw m
                        have f1 := rw_frozen hrw (m + 1)
                        have m0 : (m : Int) < n := by omega
                        have m1 : (m : Int) + 1 < n := by omega
                        have Hrw := hide hrw; have Hof := hide hof
                        clear hrw hof
                        by_cases hl : d3[m + 1]! < d3[m]!
                        · have hl' : decide (d3[m + 1]! < d3[m]!) = true := by simpa using hl
                          rw [if_neg (by simp only [ltInt, hl']; simp)] at heq
                          have Heq := hide heq
                          clear heq
                          go_wp2
                          go_quiet ((go_at_call 67; exact Calls.quiet_of_same (less_same _ _ _)))
                          go_wp2
                          go_region
                          go_wp2
                          go_roundw
                          case rel =>
                            have hs := rw_swp (rw_drew (nq + 1) (unhide Hrw)) (m + 1) m
                            exact ⟨m + 1 + 1, swp d3 (m + 1) m, by go_num, by omega, by omega, hs.1, ofB_t (ofB_drew (nq + 1) (unhide Hof)) hs.2, unhide Heq⟩
                          case measure => simp [intOf]; omega
                        · have hl' : decide (d3[m + 1]! < d3[m]!) = false := by simpa using hl
                          rw [if_pos (by simp only [ltInt, hl']; simp)] at heq
                          have Heq := hide heq
                          clear heq
                          go_wp2
                          go_quiet ((go_at_call 67; exact Calls.quiet_of_same (less_same _ _ _)))
                          go_wp2
                          go_roundw
                          case rel => exact ⟨k + 1, t + 1, s, D4, by go_num, by go_num, by omega, by omega, by omega, (by rw [← unhide Heq]; exact rw_drew _ (unhide Hrw)), ofB_drew _ (unhide Hof), unhide Heq5⟩
                          case measure => simp [intOf]; omega
                      · rw [if_neg hmc] at heq
                        have hmc' : ¬ (m : Int) + 1 < (c : Int) := by omega
                        have Heq2 : Hid (d3 = D4) := hide heq
                        clear heq
                        go_wp2
                        go_roundw
                        case rel => exact ⟨k + 1, t + 1, s, D4, by go_num, by go_num, by omega, by omega, by omega, (by rw [← unhide Heq2]; exact hrw), hof, unhide Heq5⟩
                        case measure => simp [intOf]; omega
                  · have hQ2' : ¬ (2 : Int) ≤ (Q : Int) := by omega
                    have HD5 : Hid (D4 = D3) := hide (by rw [unhide HD4, if_neg hQ2])
                    clear HD4
                    go_wp2
                    go_roundw
                    case rel => exact ⟨k + 1, t + 1, s, D4, by go_num, by go_num, by omega, by omega, by omega, (by rw [unhide HD5]; exact unhide Hrw), unhide Hof, unhide Heq5⟩
                    case measure => simp [intOf]; omega
end Go.Proofs.YtkbhdojgdgiggabDoor

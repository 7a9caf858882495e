/- Contract of the reference's number. -/
import Derived.Test.YtodncpnhmmnclaaW20
import Derived.Deep.DeepCutAuto
namespace Go.Proofs.Ytodncpnhmmnclaa
open Go.RowKit
attribute [local go_sem ↓] Go.wp_at_zero Go.wp_at_succ

theorem index_add (s : ByteArray) (i k : Nat) (h : i + k < s.size) (w : World) : (Instr.index 9 (.string s) (.int .i64 ((i : Int) + (k : Int)))).run Try.prog w = .ok (.int .u8 (bt s (i + k) : Int)) w := by
  have := index_bt s (i + k) h w
  rwa [Int.natCast_add] at this

theorem bt_out (s : ByteArray) (i : Nat) (h : s.size ≤ i) : bt s i = 0 := by
  have hl : s.size = s.data.toList.length := Lib.size_eq s
  rw [bt_list, List.getD_eq_getElem?_getD, List.getElem?_eq_none (by omega)]; rfl

set_option maxHeartbeats 4000000 in
set_option maxRecDepth 100000 in
theorem rNumber_any (s : ByteArray) (hs : s.size ≤ 281474976710656) (i : Nat) (hi : i + 1 < s.size) (w : World) :
    Calls Try.prog 47 #[.string s, .int .i64 i] w fun e w' => e = .returned (.tuple #[.string ⟨(numF (s.size - i) (fun j => bt s (i + j))).1.toArray⟩, .int .i64 ((numF (s.size - i) (fun j => bt s (i + j))).2 : Int)]) ∧ Below w.heap.size w w' := by
  have Hno1 := hide (numF_no1 (s.size - i) (fun j => bt s (i + j)))
  have Hno := hide (numF_no (s.size - i) (fun j => bt s (i + j)))
  have Hye := hide (numF_yes (s.size - i) (fun j => bt s (i + j)))
  generalize numF (s.size - i) (fun j => bt s (i + j)) = X at *
  go_enter Try.func47, Try.ntmps47
  go_wp2
  go_loopw [6, 7] (fun x y wr => ∃ k v : Nat, 3 ≤ k ∧ k ≤ 9 ∧ (k = 3 ∨ i + k ≤ s.size) ∧ x = .int .i64 ((i : Int) + (k : Int)) ∧ y = .int .i64 (v : Int) ∧ v < 16 ^ (k - 3) ∧ numGo (s.size - i) (fun j => bt s (i + j)) (9 - k) k v = numGo (s.size - i) (fun j => bt s (i + j)) 6 3 0 ∧ wr = w) (fun x _ _ => i + 9 - (intOf x).toNat)
  case atStart => exact ⟨3, 0, by omega, by omega, by omega, rfl, rfl, by simp, rfl, rfl⟩
  case round =>
    obtain ⟨k, v, hk3, hk9, hkn, rfl, rfl, hv, hgo, hw⟩ := hrel
    subst hw
    have hv9 := pow_bd9 k v hv hk9
    have Hv := hide hv; have Hgo := hide hgo
    clear hv hgo
    have bk := bt_lt s (i + k)
    have hb := hexV_bd (bt s (i + k))
    go_upto_region 3 with fail
    go_cut [27] (fun c wx => c = .bool (decide (i + k < s.size ∧ k < 9 ∧ 0 ≤ hexV (bt s (i + k)))) ∧ wx = wr)
    case first =>
      by_cases c1 : i + k < s.size
      · have c1' : (i : Int) + (k : Int) < (s.size : Int) := by omega
        by_cases c2 : k < 9
        · have c2' : (i : Int) + (k : Int) < (i : Int) + 9 := by omega
          have c2'' : (k : Int) < 9 := by omega
          have j := index_add s i k c1
          have HD := hide (digit_any (bt s (i + k)) bk)
          generalize hexV (bt s (i + k)) = d at *
          generalize bt s (i + k) = b at *
          by_cases c3 : 0 ≤ d
          · go_wp2_with fail
            refine (unhide HD _).mono ?_
            rintro e w1 ⟨rfl, rfl⟩
            go_wp2
            go_meet
            exact ⟨congrArg Value.bool (decide_eq_true ⟨c1, c2, c3⟩).symm, rfl⟩
          · go_wp2_with fail
            refine (unhide HD _).mono ?_
            rintro e w1 ⟨rfl, rfl⟩
            go_wp2
            go_meet
            exact ⟨congrArg Value.bool (by rw [decide_eq_false (p := 0 ≤ d) (by omega), decide_eq_false (p := i + k < s.size ∧ k < 9 ∧ 0 ≤ d) (by omega)]), rfl⟩
        · have c2' : ¬ (i : Int) + (k : Int) < (i : Int) + 9 := by omega
          have c2'' : ¬ (k : Int) < 9 := by omega
          go_wp2
          go_meet
          exact ⟨congrArg Value.bool (decide_eq_false (fun h => c2 h.2.1)).symm, rfl⟩
      · have c1' : ¬ (i : Int) + (k : Int) < (s.size : Int) := by omega
        go_wp2
        go_meet
        exact ⟨congrArg Value.bool (decide_eq_false (fun h => c1 h.1)).symm, rfl⟩
    case rest =>
      obtain ⟨rfl, rfl⟩ := hcut
      by_cases hc : i + k < s.size ∧ k < 9 ∧ 0 ≤ hexV (bt s (i + k))
      · rw [decide_eq_true hc]
        obtain ⟨c1, c2, c3⟩ := hc
        have j := index_add s i k c1
        have HD := hide (digit_any (bt s (i + k)) bk)
        have Hst := hide (numGo_step (s.size - i) (fun j => bt s (i + j)) (8 - k) k v (by omega) c3)
        generalize hd : hexV (bt s (i + k)) = d at *
        have hv8 := pow_bd k v (unhide Hv) (by omega)
        have Hd := hide hd
        clear hd
        generalize bt s (i + k) = b at *
        go_wp2_with fail
        refine (unhide HD _).mono ?_
        rintro e w1 ⟨rfl, rfl⟩
        go_wp2
        go_roundw
        case rel =>
          refine ⟨k + 1, 16 * v + d.toNat, by omega, by omega, by omega, by go_num, ?_, pow_step k v _ (unhide Hv) hk3 (by omega), ?_, by first | rfl | trivial⟩
          · exact congrArg (Value.int .i64) (by omega)
          · rw [← unhide Hgo, show 9 - k = (8 - k) + 1 by omega, unhide Hst, show 9 - (k + 1) = 8 - k by omega]
        case measure => simp [intOf]; omega
      · rw [decide_eq_false hc]
        have HG : Hid (numGo (s.size - i) (fun j => bt s (i + j)) 6 3 0 = (k, v)) := hide (by
          rw [← unhide Hgo]
          by_cases e : k = 9
          · subst e; rfl
          · exact numGo_stop _ _ _ _ _ (fun h => hc ⟨by omega, by omega, h.2⟩))
        have Hok := hide (unhide Hno k v (unhide HG))
        have Hyes := hide (unhide Hye k v (unhide HG))
        clear Hgo Hv Hno Hye hc HG
        have b2 := bt_lt s (i + 2)
        by_cases a0 : i + 2 < s.size
        · have a0' : ¬ (s.size : Int) ≤ (i : Int) + 2 := by omega
          have j2 : ∀ w, (Instr.index 9 (.string s) (.int .i64 ((i : Int) + 2))).run Try.prog w = _ := fun w => index_add s i 2 a0 w
          by_cases a1 : bt s (i + 2) = 123
          · have a1' : ((bt s (i + 2) : Int) != 123) = false := by simp; omega
            have Hyes := hide (unhide Hyes (by omega) a1)
            clear a1
            by_cases a2 : k = 3
            · have a2' : (k : Int) - 3 < 1 := by omega
              have a2'' : (i : Int) + (k : Int) - (i : Int) - 3 < 1 := by omega
              have Hr := hide (unhide Hok (by omega))
              clear a2
              go_wp2
              go_ret2
              rw [unhide Hr]
              exact ⟨rfl, Below.refl _ _⟩
            · have a2' : ¬ (k : Int) - 3 < 1 := by omega
              have a2'' : ¬ (i : Int) + (k : Int) - (i : Int) - 3 < 1 := by omega
              have b3 := bt_lt s (i + 3)
              by_cases a3 : 4 < k ∧ bt s (i + 3) = 48
              · have Hr := hide (unhide Hok (fun h => h.2.1 a3))
                have hle : i + 3 < s.size := by
                  by_cases e : i + 3 < s.size
                  · exact e
                  · have := a3.2
                    exact absurd this (by rw [bt_out s (i + 3) (by omega)]; omega)
                have j3 : ∀ w, (Instr.index 9 (.string s) (.int .i64 ((i : Int) + 3))).run Try.prog w = _ := fun w => index_add s i 3 hle w
                have d1 : (1 : Int) < (k : Int) - 3 := by omega
                have d1' : (1 : Int) < (i : Int) + (k : Int) - (i : Int) - 3 := by omega
                have d2 : ((bt s (i + 3) : Int) == 48) = true := by simp; omega
                clear a3
                go_wp2
                go_ret2
                rw [unhide Hr]
                exact ⟨rfl, Below.refl _ _⟩
              · have hone : (¬ (1 : Int) < (k : Int) - 3 ∧ ¬ (1 : Int) < (i : Int) + (k : Int) - (i : Int) - 3) ∨ (((1 : Int) < (k : Int) - 3 ∧ (1 : Int) < (i : Int) + (k : Int) - (i : Int) - 3) ∧ 4 < k ∧ ((bt s (i + 3) : Int) == 48) = false) := by
                  by_cases e : k = 4
                  · left; omega
                  · right; refine ⟨⟨by omega, by omega⟩, by omega, by simp; omega⟩
                by_cases a4 : i + k < s.size
                · have a4' : ¬ (s.size : Int) ≤ (i : Int) + (k : Int) := by omega
                  have jk : ∀ w, (Instr.index 9 (.string s) (.int .i64 ((i : Int) + (k : Int)))).run Try.prog w = _ := fun w => index_add s i k a4 w
                  have j3 : 4 < k → ∀ w, (Instr.index 9 (.string s) (.int .i64 ((i : Int) + 3))).run Try.prog w = .ok (.int .u8 (bt s (i + 3) : Int)) w := fun h w => index_add s i 3 (by omega) w
                  by_cases a5 : bt s (i + k) = 125
                  · have a5' : ((bt s (i + k) : Int) != 125) = false := by simp; omega
                    by_cases a6 : v ≤ 1114111
                    · have a6' : ¬ (1114111 : Int) < (v : Int) := by omega
                      cases a7 : Utf8.valid (v : Int)
                      · have Hr := hide (unhide Hok (fun h => by rw [a7] at h; exact absurd h.2.2.2.2 (by simp)))
                        have HE : Hid (∀ w, Calls Try.prog 32 #[.int .i32 (v : Int)] w fun e w' => e = .returned (.bool false) ∧ w = w') := hide (fun w => by have := rRune_any (v : Int) w; rwa [a7] at this)
                        clear a7 a5 a3
                        rcases hone with ⟨d1, d1'⟩ | ⟨⟨d1, d1'⟩, d4, d2⟩
                        all_goals
                          try have j3 := j3 d4
                          go_wp2_with fail
                          refine (unhide HE _).mono ?_
                          rintro e w1 ⟨rfl, rfl⟩
                          go_wp2
                          go_ret2
                          rw [unhide Hr]
                          exact ⟨rfl, Below.refl _ _⟩
                      · have Hr := hide (unhide Hyes ⟨by omega, a3, by omega, a5, a7⟩)
                        have HE : Hid (∀ w, Calls Try.prog 32 #[.int .i32 (v : Int)] w fun e w' => e = .returned (.bool true) ∧ w = w') := hide (fun w => by have := rRune_any (v : Int) w; rwa [a7] at this)
                        have HY := hide (bytes_any (v : Int) a7)
                        have hcv := fun w => convert_rune_cells (v : Int) w
                        clear a7 a5 a3
                        rcases hone with ⟨d1, d1'⟩ | ⟨⟨d1, d1'⟩, d4, d2⟩
                        all_goals
                          try have j3 := j3 d4
                          go_wp2_with fail
                          refine (unhide HE _).mono ?_
                          rintro e w1 ⟨rfl, rfl⟩
                          go_wp2_with fail
                          refine (unhide HY _).mono ?_
                          rintro e w1 ⟨rfl, rfl⟩
                          go_wp2
                          go_ret2
                          rw [unhide Hr]
                          refine ⟨?_, (Below.refl _ _).alloc (Nat.le_refl _) _⟩
                          have e1 : (i : Int) + (k : Int) + 1 - (i : Int) = ((k + 1 : Nat) : Int) := by omega
                          rw [← e1]
                          rfl
                    · have a6' : (1114111 : Int) < (v : Int) := by omega
                      have Hr := hide (unhide Hok (fun h => by have := (valid_iff (v : Int)).1 h.2.2.2.2; omega))
                      clear a5 a3
                      rcases hone with ⟨d1, d1'⟩ | ⟨⟨d1, d1'⟩, d4, d2⟩
                      all_goals
                        try have j3 := j3 d4
                        go_wp2
                        go_ret2
                        rw [unhide Hr]
                        exact ⟨rfl, Below.refl _ _⟩
                  · have a5' : ((bt s (i + k) : Int) != 125) = true := by simp; omega
                    have Hr := hide (unhide Hok (fun h => a5 h.2.2.2.1))
                    clear a5 a3
                    rcases hone with ⟨d1, d1'⟩ | ⟨⟨d1, d1'⟩, d4, d2⟩
                    all_goals
                      try have j3 := j3 d4
                      go_wp2
                      go_ret2
                      rw [unhide Hr]
                      exact ⟨rfl, Below.refl _ _⟩
                · have a4' : (s.size : Int) ≤ (i : Int) + (k : Int) := by omega
                  have Hr := hide (unhide Hok (fun h => by omega))
                  by_cases a8 : i + 3 < s.size
                  · have j3 : ∀ w, (Instr.index 9 (.string s) (.int .i64 ((i : Int) + 3))).run Try.prog w = _ := fun w => index_add s i 3 a8 w
                    clear a3
                    rcases hone with ⟨d1, d1'⟩ | ⟨⟨d1, d1'⟩, d4, d2⟩
                    all_goals
                      go_wp2
                      go_ret2
                      rw [unhide Hr]
                      exact ⟨rfl, Below.refl _ _⟩
                  · exfalso; omega
          · have a1' : ((bt s (i + 2) : Int) != 123) = true := by simp; omega
            have Hr := hide (unhide Hno1 (fun h => a1 h.2))
            clear a1
            go_wp2
            go_ret2
            rw [unhide Hr]
            exact ⟨rfl, Below.refl _ _⟩
        · have a0' : (s.size : Int) ≤ (i : Int) + 2 := by omega
          have Hr := hide (unhide Hno1 (fun h => by omega))
          clear a0
          go_wp2
          go_ret2
          rw [unhide Hr]
          exact ⟨rfl, Below.refl _ _⟩
end Go.Proofs.Ytodncpnhmmnclaa

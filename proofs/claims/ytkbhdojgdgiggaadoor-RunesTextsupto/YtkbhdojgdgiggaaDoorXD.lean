/- The document's readers: at, hexed, marked. -/
import Derived.Test.YtkbhdojgdgiggaaDoorY3
namespace Go.Proofs.YtkbhdojgdgiggaaDoor
open Go.RowKit Go.Lib Go.Sort

/-- The byte at a place; 0 behind the end. -/
def atB (s : ByteArray) (i : Nat) : Int := if gb s i < 0 then 0 else gb s i
theorem atB_in {s : ByteArray} {i : Nat} (h : i < s.size) : atB s i = gb s i := by
  have := gb_in h
  unfold atB; rw [if_neg (by rw [← this]; omega)]
theorem atB_out {s : ByteArray} {i : Nat} (h : ¬ i < s.size) : atB s i = 0 := by unfold atB; rw [gb_out h]; rfl
theorem atB_ge (s : ByteArray) (i : Nat) : 0 ≤ atB s i := by unfold atB; split <;> omega
theorem atB_lt (s : ByteArray) (i : Nat) : atB s i < 256 := by have := gb_lt s i; unfold atB; split <;> omega
theorem atB_eq (s : ByteArray) (i : Nat) (c : Int) (hc : 0 < c) : (atB s i == c) = (gb s i == c) := by
  have := gb_ge s i
  unfold atB; split
  · rw [Bool.eq_iff_iff]; simp; omega
  · rfl
theorem digV_neg {c : Int} (h : c ≤ 0) : digV c = -1 := by unfold digV; rw [if_neg (by omega), if_neg (by omega), if_neg (by omega)]
theorem digV_at (s : ByteArray) (i : Nat) : digV (atB s i) = digV (gb s i) := by
  unfold atB; split
  · rw [digV_neg (by omega), digV_neg (by omega)]
  · rfl
theorem rAt_any (s : ByteArray) (i : Nat) (w : World) :
    Calls Tryd.prog 75 #[.string s, .int .i64 i] w fun e w' => e = .returned (.int .u8 (atB s i)) ∧ w' = w := by
  by_cases h : i < s.size
  · have h1 : (i : Int) < s.size := by omega
    have h2 := gb_in h
    rw [atB_in h]
    go_enter Tryd.func75, Tryd.ntmps75
    go_wp2
    go_ret
    exact ⟨rfl, rfl⟩
  · have h1 : ¬ (i : Int) < s.size := by omega
    rw [atB_out h]
    go_enter Tryd.func75, Tryd.ntmps75
    go_wp2
    go_ret
    exact ⟨rfl, rfl⟩
theorem hexed_any (c : Int) (h0 : 0 ≤ c) (hc : c < 256) (w : World) :
    Calls Tryd.prog 117 #[.int .u8 c] w fun e w' => e = .returned (.int .i64 (digV c)) ∧ w' = w := by
  go_enter Tryd.func117, Tryd.ntmps117
  by_cases h1 : 48 ≤ c ∧ c ≤ 57
  · have e : digV c = c - 48 := if_pos h1
    rw [e]
    obtain ⟨h1, h2⟩ := h1
    clear e
    go_wp2
    go_ret
    exact ⟨rfl, rfl⟩
  · by_cases h2 : 97 ≤ c ∧ c ≤ 102
    · have e : digV c = c - 87 := by rw [digV, if_neg h1, if_pos h2]
      have h3 : (48 : Int) ≤ c := by omega
      have h4 : ¬ c ≤ 57 := by omega
      rw [e]
      obtain ⟨h5, h6⟩ := h2
      clear e h1
      go_wp2
      go_ret
      exact ⟨by go_num, rfl⟩
    · by_cases h3 : 65 ≤ c ∧ c ≤ 70
      · have e : digV c = c - 55 := by rw [digV, if_neg h1, if_neg h2, if_pos h3]
        have h4 : (48 : Int) ≤ c := by omega
        have h5 : ¬ c ≤ 57 := by omega
        have h6 : ¬ (97 : Int) ≤ c := by omega
        rw [e]
        obtain ⟨h7, h8⟩ := h3
        clear e h1 h2
        go_wp2
        go_ret
        exact ⟨by go_num, rfl⟩
      · have e : digV c = -1 := by rw [digV, if_neg h1, if_neg h2, if_neg h3]
        rw [e]
        clear e
        by_cases k1 : (48 : Int) ≤ c
        · have k2 : ¬ c ≤ 57 := by omega
          by_cases k3 : (97 : Int) ≤ c
          · have k4 : ¬ c ≤ 102 := by omega
            have k5 : (65 : Int) ≤ c := by omega
            have k6 : ¬ c ≤ 70 := by omega
            clear h1 h2 h3
            go_wp2
            go_ret
            exact ⟨rfl, rfl⟩
          · by_cases k5 : (65 : Int) ≤ c
            · have k6 : ¬ c ≤ 70 := by omega
              clear h1 h2 h3
              go_wp2
              go_ret
              exact ⟨rfl, rfl⟩
            · clear h1 h2 h3
              go_wp2
              go_ret
              exact ⟨rfl, rfl⟩
        · have k3 : ¬ (97 : Int) ≤ c := by omega
          have k5 : ¬ (65 : Int) ≤ c := by omega
          clear h1 h2 h3
          go_wp2
          go_ret
          exact ⟨rfl, rfl⟩
theorem marked_any (r : Int) (w : World) :
    Calls Tryd.prog 69 #[.int .i32 r] w fun e w' => e = .returned (.bool (markedB r)) ∧ w' = w := by
  go_enter Tryd.func69, Tryd.ntmps69
  go_wp2
  all_goals
    go_ret
    refine ⟨ret_bool ?_, rfl⟩
    rw [Bool.eq_iff_iff]; simp [markedB] at *; omega
theorem plain_any (r : Int) (w : World) :
    Calls Tryd.prog 70 #[.int .i32 r] w fun e w' => e = .returned (.bool (decide (32 < r ∧ r < 127))) ∧ w' = w := by
  go_enter Tryd.func70, Tryd.ntmps70
  go_wp2
  all_goals
    go_ret
    refine ⟨ret_bool ?_, rfl⟩
    rw [Bool.eq_iff_iff]; simp; omega
end Go.Proofs.YtkbhdojgdgiggaaDoor

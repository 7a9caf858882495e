/- The readers: isByte, noForm, digit. -/
import Derived.Test.YtkbhdojgdgiggaaDoorX2
namespace Go.Proofs.YtkbhdojgdgiggaaDoor
open Go.RowKit Go.Lib

/-- The byte at a place; -1 behind the end. -/
def gb (s : ByteArray) (i : Nat) : Int := if h : i < s.size then (s[i].toNat : Int) else -1
theorem gb_in {s : ByteArray} {i : Nat} (h : i < s.size) : (s[i].toNat : Int) = gb s i := by rw [gb, dif_pos h]
theorem gb_out {s : ByteArray} {i : Nat} (h : ¬ i < s.size) : gb s i = -1 := by rw [gb, dif_neg h]
theorem gb_lt (s : ByteArray) (i : Nat) : gb s i < 256 := by
  unfold gb; split
  · have := UInt8.toNat_lt s[i]; omega
  · omega
theorem gb_ge (s : ByteArray) (i : Nat) : -1 ≤ gb s i := by unfold gb; split <;> omega
theorem gb_pos {s : ByteArray} {i : Nat} (h : 0 ≤ gb s i) : i < s.size := by
  by_cases h2 : i < s.size
  · exact h2
  · rw [gb_out h2] at h; omega
theorem isByte_any (s : ByteArray) (i : Nat) (b : Int) (hb : 0 ≤ b) (w : World) :
    Calls Tryd.prog 72 #[.string s, .int .i64 i, .int .u8 b] w fun e w' => e = .returned (.bool (gb s i == b)) ∧ w' = w := by
  by_cases h : i < s.size
  · have h1 : (i : Int) < s.size := by omega
    have h2 := gb_in h
    go_enter Tryd.func72, Tryd.ntmps72
    go_wp2
    go_ret
    exact ⟨rfl, rfl⟩
  · have h1 : ¬ (i : Int) < s.size := by omega
    have e : (gb s i == b) = false := by rw [gb_out h]; simp; omega
    rw [e]
    go_enter Tryd.func72, Tryd.ntmps72
    go_wp2
    go_ret
    exact ⟨rfl, rfl⟩
theorem noForm_any (i : Int) (w : World) :
    Calls Tryd.prog 73 #[.int .i64 i] w fun e w' => e = .returned (.agg #[.int .i64 5, .int .i64 i]) ∧ Below w.heap.size w w' := by
  go_enter Tryd.func73, Tryd.ntmps73
  go_wp2
  refine bodyPost_ret (v := .agg #[.int .i64 5, .int .i64 i]) (by simp [results, Tryd.results73, go_sem]) rfl ⟨rfl, ?_⟩
  exact (Below.refl _ _).alloc (Nat.le_refl _) _
/-- What a digit counts. -/
def digV (c : Int) : Int := if 48 ≤ c ∧ c ≤ 57 then c - 48 else if 97 ≤ c ∧ c ≤ 102 then c - 87 else if 65 ≤ c ∧ c ≤ 70 then c - 55 else -1
theorem digit_any (c : Nat) (hc : c < 256) (w : World) :
    Calls Tryd.prog 134 #[.int .u8 c] w fun e w' => e = .returned (.int .i32 (digV c)) ∧ w' = w := by
  go_enter Tryd.func134, Tryd.ntmps134
  by_cases h1 : 48 ≤ (c : Int) ∧ (c : Int) ≤ 57
  · have e : digV c = c - 48 := if_pos h1
    rw [e]
    obtain ⟨h1, h2⟩ := h1
    clear e
    go_wp2
    go_ret
    exact ⟨rfl, rfl⟩
  · by_cases h2 : 97 ≤ (c : Int) ∧ (c : Int) ≤ 102
    · have e : digV c = c - 87 := by rw [digV, if_neg h1, if_pos h2]
      have h3 : (48 : Int) ≤ c := by omega
      have h4 : ¬ (c : Int) ≤ 57 := by omega
      rw [e]
      obtain ⟨h5, h6⟩ := h2
      clear e h1
      go_wp2
      go_ret
      exact ⟨by go_num, rfl⟩
    · by_cases h3 : 65 ≤ (c : Int) ∧ (c : Int) ≤ 70
      · have e : digV c = c - 55 := by rw [digV, if_neg h1, if_neg h2, if_pos h3]
        have h4 : (48 : Int) ≤ c := by omega
        have h5 : ¬ (c : Int) ≤ 57 := by omega
        have h6 : ¬ (97 : Int) ≤ c := by omega
        rw [e]
        obtain ⟨h7, h8⟩ := h3
        clear e h1 h2
        go_wp2
        go_ret
        exact ⟨by go_num, rfl⟩
      · have e : digV c = -1 := by rw [digV, if_neg h1, if_neg h2, if_neg h3]
        rw [e]
        clear e
        by_cases k1 : (48 : Int) ≤ c
        · have k2 : ¬ (c : Int) ≤ 57 := by omega
          by_cases k3 : (97 : Int) ≤ c
          · have k4 : ¬ (c : Int) ≤ 102 := by omega
            have k5 : (65 : Int) ≤ c := by omega
            have k6 : ¬ (c : Int) ≤ 70 := by omega
            clear h1 h2 h3
            go_wp2
            go_ret
            exact ⟨rfl, rfl⟩
          · by_cases k5 : (65 : Int) ≤ c
            · have k6 : ¬ (c : Int) ≤ 70 := by omega
              clear h1 h2 h3
              go_wp2
              go_ret
              exact ⟨rfl, rfl⟩
            · clear h1 h2 h3
              go_wp2
              go_ret
              exact ⟨rfl, rfl⟩
        · have k3 : ¬ (97 : Int) ≤ c := by omega
          have k5 : ¬ (65 : Int) ≤ c := by omega
          clear h1 h2 h3
          go_wp2
          go_ret
          exact ⟨rfl, rfl⟩
end Go.Proofs.YtkbhdojgdgiggaaDoor

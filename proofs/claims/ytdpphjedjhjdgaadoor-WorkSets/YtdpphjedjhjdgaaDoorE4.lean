/- The lowest bit of a word; TrailingZeros64; the bits of a word, one after another. -/
import Derived.Test.YtdpphjedjhjdgaaDoorE2
namespace Go.Proofs.YtdpphjedjhjdgaaDoor
open Go.RowKit Go.Maps

theorem low_of : ∀ (X : Nat), X ≠ 0 → ∃ k q, X = 2 ^ k * (2 * q + 1) := by
  intro X
  induction X using Nat.strongRecOn with
  | ind X ih =>
    intro h
    by_cases ho : X % 2 = 1
    · exact ⟨0, X / 2, by omega⟩
    · obtain ⟨k, q, e⟩ := ih (X / 2) (by omega) (by omega)
      refine ⟨k + 1, q, ?_⟩
      rw [Nat.pow_succ, Nat.mul_assoc, Nat.mul_comm 2, ← Nat.mul_assoc, ← e]
      omega
theorem low_bits (k q i : Nat) : (2 ^ k * (2 * q + 1)).testBit i = if i < k then false else if i = k then true else q.testBit (i - k - 1) := by
  have := Nat.testBit_two_pow_mul_add (2 * q + 1) (b := 0) (i := k) (Nat.two_pow_pos k) i
  rw [Nat.add_zero] at this
  rw [this]
  by_cases h1 : i < k
  · rw [if_pos h1, if_pos h1]; simp
  · rw [if_neg h1, if_neg h1]
    by_cases h2 : i = k
    · subst h2
      rw [if_pos rfl, Nat.sub_self]
      simp [Nat.testBit_zero]
    · rw [if_neg h2]
      obtain ⟨j, rfl⟩ : ∃ j, i = k + j + 1 := ⟨i - k - 1, by omega⟩
      rw [show k + j + 1 - k = j + 1 by omega, Nat.testBit_succ, show (2 * q + 1) / 2 = q by omega, Nat.add_sub_cancel]
theorem pred_bits (k q i : Nat) : (2 ^ k * (2 * q + 1) - 1).testBit i = if i < k then true else if i = k then false else q.testBit (i - k - 1) := by
  have hp := Nat.two_pow_pos k
  have e : 2 ^ k * (2 * q + 1) - 1 = 2 ^ k * (2 * q) + (2 ^ k - 1) := by rw [Nat.mul_add, Nat.mul_one]; omega
  have := Nat.testBit_two_pow_mul_add (2 * q) (b := 2 ^ k - 1) (i := k) (by omega) i
  rw [e, this]
  by_cases h1 : i < k
  · rw [if_pos h1, if_pos h1, Nat.testBit_two_pow_sub_one]; simpa using h1
  · rw [if_neg h1, if_neg h1]
    by_cases h2 : i = k
    · subst h2
      rw [if_pos rfl, Nat.sub_self]
      simp [Nat.testBit_zero]
    · rw [if_neg h2]
      obtain ⟨j, rfl⟩ : ∃ j, i = k + j + 1 := ⟨i - k - 1, by omega⟩
      rw [show k + j + 1 - k = j + 1 by omega, Nat.testBit_succ, show 2 * q / 2 = q by omega, Nat.add_sub_cancel]
theorem low_lt {k q : Nat} (h : 2 ^ k * (2 * q + 1) < 2 ^ 64) : k < 64 := by
  by_cases hk : k < 64
  · exact hk
  · exfalso
    have h1 : 2 ^ 64 ≤ 2 ^ k := Nat.pow_le_pow_right (by decide) (by omega)
    have h2 : 2 ^ k ≤ 2 ^ k * (2 * q + 1) := Nat.le_mul_of_pos_right _ (by omega)
    omega
/-- The lowest bit alone. -/
theorem low_and {k q : Nat} (h : 2 ^ k * (2 * q + 1) < 2 ^ 64) : 2 ^ k * (2 * q + 1) &&& (2 ^ 64 - 2 ^ k * (2 * q + 1)) = 2 ^ k := by
  have hk := low_lt h
  have hpos : 0 < 2 ^ k * (2 * q + 1) := Nat.mul_pos (Nat.two_pow_pos k) (by omega)
  apply Nat.eq_of_testBit_eq
  intro i
  have e : 2 ^ 64 - 2 ^ k * (2 * q + 1) = 2 ^ 64 - ((2 ^ k * (2 * q + 1) - 1) + 1) := by omega
  rw [Nat.testBit_and, e, Nat.testBit_two_pow_sub_succ (by omega), Nat.testBit_two_pow, low_bits, pred_bits]
  by_cases h1 : i < k
  · rw [if_pos h1]; simp; omega
  · rw [if_neg h1, if_neg h1]
    by_cases h2 : i = k
    · subst h2; simp [hk]
    · rw [if_neg h2, if_neg h2]
      have h3 : ¬ k = i := fun e => h2 e.symm
      cases q.testBit (i - k - 1) <;> simp [h3]
/-- The rest without its lowest bit. -/
theorem rest_bits {k q : Nat} (i : Nat) : (2 ^ k * (2 * q + 1) &&& (2 ^ k * (2 * q + 1) - 1)).testBit i = if i ≤ k then false else (2 ^ k * (2 * q + 1)).testBit i := by
  rw [Nat.testBit_and, pred_bits]
  by_cases h1 : i < k
  · rw [if_pos h1, if_pos (show i ≤ k by omega), low_bits, if_pos h1]; rfl
  · rw [if_neg h1]
    by_cases h2 : i = k
    · rw [if_pos h2, if_pos (show i ≤ k by omega)]; simp
    · rw [if_neg h2, if_neg (show ¬ i ≤ k by omega), low_bits, if_neg h1, if_neg h2]; simp
/-- The bits of a word, rising. -/
def bitsL (X : Nat) : List Nat := (List.range 64).filter fun i => X.testBit i
theorem bitsL_zero : bitsL 0 = [] := by unfold bitsL; rw [List.filter_eq_nil_iff.2]; intro a _; simp
theorem bitsL_step {k q : Nat} (h : 2 ^ k * (2 * q + 1) < 2 ^ 64) : bitsL (2 ^ k * (2 * q + 1)) = k :: bitsL (2 ^ k * (2 * q + 1) &&& (2 ^ k * (2 * q + 1) - 1)) := by
  have hk := low_lt h
  unfold bitsL
  have e : List.range 64 = (List.range k ++ [k]) ++ (List.range (63 - k)).map (fun j => k + 1 + j) := by
    rw [← List.range_succ, ← List.range_add]
    congr 1
    omega
  rw [e, List.filter_append, List.filter_append, List.filter_append, List.filter_append]
  have f1 : (List.range k).filter (fun i => (2 ^ k * (2 * q + 1)).testBit i) = [] := by
    rw [List.filter_eq_nil_iff]; intro i hi
    rw [low_bits, if_pos (List.mem_range.1 hi)]; simp
  have f2 : [k].filter (fun i => (2 ^ k * (2 * q + 1)).testBit i) = [k] := by
    rw [List.filter_cons, if_pos (by rw [low_bits, if_neg (by omega), if_pos rfl])]; rfl
  have g1 : (List.range k).filter (fun i => (2 ^ k * (2 * q + 1) &&& (2 ^ k * (2 * q + 1) - 1)).testBit i) = [] := by
    rw [List.filter_eq_nil_iff]; intro i hi
    have := List.mem_range.1 hi
    rw [rest_bits, if_pos (by omega)]; simp
  have g2 : [k].filter (fun i => (2 ^ k * (2 * q + 1) &&& (2 ^ k * (2 * q + 1) - 1)).testBit i) = [] := by
    rw [List.filter_cons, if_neg (by rw [rest_bits, if_pos (by omega)]; simp)]; rfl
  have g3 : ((List.range (63 - k)).map (fun j => k + 1 + j)).filter (fun i => (2 ^ k * (2 * q + 1) &&& (2 ^ k * (2 * q + 1) - 1)).testBit i) = ((List.range (63 - k)).map (fun j => k + 1 + j)).filter (fun i => (2 ^ k * (2 * q + 1)).testBit i) := by
    apply List.filter_congr
    intro i hi
    obtain ⟨j, -, rfl⟩ := List.mem_map.1 hi
    rw [rest_bits, if_neg (by omega)]
  rw [f1, f2, g1, g2, g3]
  rfl

/-- The table of TrailingZeros64. -/
def tzTab : List Nat := [0, 1, 56, 2, 57, 49, 28, 3, 61, 58, 42, 50, 38, 29, 17, 4, 62, 47, 59, 36, 45, 43, 51, 22, 53, 39, 33, 30, 24, 18, 12, 5, 63, 55, 48, 27, 60, 41, 37, 16, 46, 35, 44, 21, 52, 32, 23, 11, 54, 26, 40, 15, 34, 20, 31, 10, 25, 14, 19, 9, 13, 8, 7, 6]
theorem tz_at : ∀ k : Fin 64, tzTab.getD (((2 ^ k.val * 285870213051353865) % 18446744073709551616) / 288230376151711744) 0 = k.val := by decide +kernel
theorem tz_lt (n : Nat) : (n % 18446744073709551616) / 288230376151711744 < 64 := by omega
end Go.Proofs.YtdpphjedjhjdgaaDoor

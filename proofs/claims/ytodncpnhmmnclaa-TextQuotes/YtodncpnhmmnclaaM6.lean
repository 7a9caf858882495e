/- Plain mathematics on places: the byte, the line and the column behind so many pieces. -/
import Derived.Test.YtodncpnhmmnclaaM5
namespace Go.Proofs.Ytodncpnhmmnclaa

/-- One piece further: byte, line, column; at the text's end nothing turns. -/
def stp (s : ByteArray) (x : Nat × Nat × Nat) : Nat × Nat × Nat :=
  if x.1 < s.size then (x.1 + (Utf8.decode s x.1).2, if (Utf8.decode s x.1).1 = 10 then (x.2.1 + 1, 1) else (x.2.1, x.2.2 + 1)) else x
/-- Behind k pieces. -/
def st (s : ByteArray) : Nat → Nat × Nat × Nat
  | 0 => (0, 1, 1)
  | k + 1 => stp s (st s k)
theorem st_end (s : ByteArray) (k : Nat) (h : ¬ (st s k).1 < s.size) : st s (k + 1) = st s k := by simp only [st, stp]; rw [if_neg h]
theorem st_nl (s : ByteArray) (k : Nat) (h : (st s k).1 < s.size) (hr : (Utf8.decode s (st s k).1).1 = 10) : st s (k + 1) = ((st s k).1 + (Utf8.decode s (st s k).1).2, (st s k).2.1 + 1, 1) := by simp only [st, stp]; rw [if_pos h, if_pos hr]
theorem st_else (s : ByteArray) (k : Nat) (h : (st s k).1 < s.size) (hr : (Utf8.decode s (st s k).1).1 ≠ 10) : st s (k + 1) = ((st s k).1 + (Utf8.decode s (st s k).1).2, (st s k).2.1, (st s k).2.2 + 1) := by simp only [st, stp]; rw [if_pos h, if_neg hr]
theorem st_pos (s : ByteArray) (k : Nat) (h : (st s k).1 < s.size) : (st s (k + 1)).1 = (st s k).1 + (Utf8.decode s (st s k).1).2 := by
  by_cases hr : (Utf8.decode s (st s k).1).1 = 10
  · rw [st_nl s k h hr]
  · rw [st_else s k h hr]
theorem st_bounds (s : ByteArray) (k : Nat) : (st s k).1 ≤ s.size ∧ 1 ≤ (st s k).2.1 ∧ 1 ≤ (st s k).2.2 ∧ (st s k).2.1 ≤ (st s k).1 + 1 ∧ (st s k).2.2 ≤ (st s k).1 + 1 := by
  induction k with
  | zero => simp [st]
  | succ k ih =>
    by_cases h : (st s k).1 < s.size
    · have hw := width_pos s _ h
      by_cases hr : (Utf8.decode s (st s k).1).1 = 10
      · rw [st_nl s k h hr]; simp only; omega
      · rw [st_else s k h hr]; simp only; omega
    · rw [st_end s k h]; exact ih
theorem st_mono (s : ByteArray) (j k : Nat) (h : j ≤ k) : (st s j).1 ≤ (st s k).1 := by
  induction k with
  | zero => have : j = 0 := by omega
            subst this; exact Nat.le_refl _
  | succ k ih =>
    by_cases e : j = k + 1
    · subst e; exact Nat.le_refl _
    · have := ih (by omega)
      by_cases hp : (st s k).1 < s.size
      · rw [st_pos s k hp]; omega
      · rw [st_end s k hp]; exact this
theorem st_lt (s : ByteArray) (j k : Nat) (h : j < k) (hp : (st s j).1 < s.size) : (st s j).1 < (st s k).1 := by
  have h1 := st_mono s (j + 1) k h
  have h2 := (width_pos s _ hp).1
  rw [st_pos s j hp] at h1
  omega
theorem st_stay (s : ByteArray) (j k : Nat) (h : j ≤ k) (hp : ¬ (st s j).1 < s.size) : st s k = st s j := by
  induction k with
  | zero => have : j = 0 := by omega
            subst this; rfl
  | succ k ih =>
    by_cases e : j = k + 1
    · subst e; rfl
    · have h1 := ih (by omega)
      rw [st_end s k (by rw [h1]; exact hp), h1]
/-- Places rise. -/
theorem st_lex (s : ByteArray) (j k : Nat) (h : j < k) (hp : (st s j).1 < s.size) : (st s j).2.1 < (st s k).2.1 ∨ ((st s j).2.1 = (st s k).2.1 ∧ (st s j).2.2 < (st s k).2.2) := by
  induction k with
  | zero => omega
  | succ k ih =>
    by_cases hq : (st s k).1 < s.size
    · have hstep : (st s k).2.1 < (st s (k + 1)).2.1 ∨ ((st s k).2.1 = (st s (k + 1)).2.1 ∧ (st s k).2.2 < (st s (k + 1)).2.2) := by
        by_cases hr : (Utf8.decode s (st s k).1).1 = 10
        · rw [st_nl s k hq hr]; simp
        · rw [st_else s k hq hr]; simp
      by_cases e : j = k
      · subst e; exact hstep
      · have := ih (by omega)
        omega
    · by_cases e : j = k
      · subst e; exact absurd hp hq
      · rw [st_end s k hq]; exact ih (by omega)
/-- The place of a byte at which a piece begins is no other one's. -/
theorem st_found (s : ByteArray) (m k : Nat) (hm : ∀ j, j < m → (st s j).1 < s.size) (hk : ∀ j, j < k → (st s j).1 < s.size ∧ (st s j).2 ≠ (st s m).2) (he : (st s k).2 = (st s m).2) : k = m := by
  by_cases h1 : k < m
  · have := st_lex s k m h1 (hm k h1)
    rw [he] at this
    omega
  · by_cases h2 : m < k
    · exact absurd rfl (hk m h2).2
    · omega
theorem st_at (s : ByteArray) (m k : Nat) (hm : ∀ j, j < m → (st s j).1 < s.size) (hk : ∀ j, j < k → (st s j).1 < (st s m).1 ∧ (st s j).1 < s.size) (he : (st s m).1 ≤ (st s k).1 ∨ ¬ (st s k).1 < s.size) : k = m := by
  by_cases h1 : k < m
  · have := st_lt s k m h1 (hm k h1)
    have := hm k h1
    omega
  · by_cases h2 : m < k
    · have := (hk m h2).1; omega
    · omega
end Go.Proofs.Ytodncpnhmmnclaa

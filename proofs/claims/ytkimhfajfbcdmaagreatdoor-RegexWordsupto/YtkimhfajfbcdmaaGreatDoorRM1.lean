/- Plain mathematics on ranges. -/
namespace Go.Proofs.YtkimhfajfbcdmaaGreatDoor

/-- A range: its first number, its last. -/
abbrev Rng := Int × Int
/-- A range of runes. -/
def isR (x : Rng) : Bool := decide (0 ≤ x.1 ∧ x.1 ≤ x.2 ∧ x.2 ≤ 1114111)
/-- The range at i is a set's: of runes, and well above the one ahead. -/
def okAt (l : List Rng) (i : Nat) : Bool := isR (l.getD i (0, 0)) && (decide (i = 0) || decide ((l.getD (i - 1) (0, 0)).2 + 2 ≤ (l.getD i (0, 0)).1))
def okTo (l : List Rng) (n : Nat) : Prop := ∀ i, i < n → okAt l i = true
/-- Check's answer. -/
def rising (l : List Rng) : Bool := (List.range l.length).all (okAt l)
def checkV (l : List Rng) : Int := if rising l then (if 2048 < l.length then 21 else 0) else 20
theorem okTo_zero (l : List Rng) : okTo l 0 := fun i h => by omega
theorem okTo_succ {l : List Rng} {n : Nat} (h : okTo l n) (k : okAt l n = true) : okTo l (n + 1) := fun i hi => by
  by_cases e : i = n
  · subst e; exact k
  · exact h i (by omega)
theorem rising_iff (l : List Rng) : rising l = true ↔ okTo l l.length := by
  simp [rising, okTo]
theorem checkV_bad {l : List Rng} {n : Nat} (hn : n < l.length) (k : okAt l n = false) : checkV l = 20 := by
  have : rising l = false := by
    rw [Bool.eq_false_iff]; intro h
    have := (rising_iff l).1 h n hn
    rw [k] at this; cases this
  simp [checkV, this]
theorem checkV_long {l : List Rng} (h : okTo l l.length) (k : 2048 < l.length) : checkV l = 21 := by
  simp [checkV, (rising_iff l).2 h, k]
theorem checkV_ok {l : List Rng} (h : okTo l l.length) (k : ¬ 2048 < l.length) : checkV l = 0 := by
  simp [checkV, (rising_iff l).2 h, k]
theorem checkV_zero {l : List Rng} (h : checkV l = 0) : okTo l l.length ∧ l.length ≤ 2048 := by
  unfold checkV at h
  split at h
  · split at h
    · omega
    · exact ⟨(rising_iff l).1 ‹_›, by omega⟩
  · omega
theorem okAt_isR {l : List Rng} {i : Nat} (h : okAt l i = true) : 0 ≤ (l.getD i (0, 0)).1 ∧ (l.getD i (0, 0)).1 ≤ (l.getD i (0, 0)).2 ∧ (l.getD i (0, 0)).2 ≤ 1114111 := by
  simp only [okAt, isR, Bool.and_eq_true, decide_eq_true_eq] at h
  exact h.1
end Go.Proofs.YtkimhfajfbcdmaaGreatDoor

/- Plain mathematics on what a set has. -/
import Derived.Test.YtkbhdojgdgiggaaDoorM1
namespace Go.Proofs.YtkbhdojgdgiggaaDoor

/-- How many runes the first n ranges have. -/
def sizeTo (l : List Rng) : Nat → Int
  | 0 => 0
  | n + 1 => sizeTo l n + ((l.getD n (0, 0)).2 - (l.getD n (0, 0)).1 + 1)
def sizeV (l : List Rng) : Int := if checkV l = 0 then sizeTo l l.length else 0
theorem sizeTo_bd {l : List Rng} (h : okTo l l.length) (n : Nat) (hn : n ≤ l.length) : 0 ≤ sizeTo l n ∧ sizeTo l n ≤ 1114112 * n := by
  induction n with
  | zero => simp [sizeTo]
  | succ n ih =>
    have := ih (by omega)
    have h1 := okAt_isR (h n (by omega))
    simp only [sizeTo]
    omega
/-- Is a number in one of the ranges? -/
def hasB (l : List Rng) (r : Int) : Bool := l.any fun x => decide (x.1 ≤ r ∧ r ≤ x.2)
theorem hasB_at {l : List Rng} {n : Nat} {r : Int} (hn : n < l.length) (h : (l.getD n (0, 0)).1 ≤ r ∧ r ≤ (l.getD n (0, 0)).2) : hasB l r = true := by
  simp only [hasB, List.any_eq_true, decide_eq_true_eq]
  exact ⟨l[n], List.getElem_mem hn, by rw [List.getD_eq_getElem?_getD, List.getElem?_eq_getElem hn] at h; exact h⟩
theorem hasB_none {l : List Rng} {r : Int} (h : ∀ n, n < l.length → ¬ ((l.getD n (0, 0)).1 ≤ r ∧ r ≤ (l.getD n (0, 0)).2)) : hasB l r = false := by
  rw [Bool.eq_false_iff]
  intro hc
  simp only [hasB, List.any_eq_true, decide_eq_true_eq] at hc
  obtain ⟨x, hx, h1⟩ := hc
  obtain ⟨n, hn, rfl⟩ := List.getElem_of_mem hx
  exact h n hn (by rw [List.getD_eq_getElem?_getD, List.getElem?_eq_getElem hn]; exact h1)
end Go.Proofs.YtkbhdojgdgiggaaDoor

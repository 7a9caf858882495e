/- Plain mathematics on joining ranges. -/
import Derived.Test.YtkbhdojgdgiggaaDoorM2
namespace Go.Proofs.YtkbhdojgdgiggaaDoor

/-- One more range behind those that are joined so far. -/
def mergeStep (acc : List Rng) (x : Rng) : List Rng := match acc.getLast? with
  | some y => if x.1 ≤ y.2 + 1 then acc.dropLast ++ [(y.1, max y.2 x.2)] else acc ++ [x]
  | none => acc ++ [x]
def mergeL (l : List Rng) : List Rng := l.foldl mergeStep []
theorem mergeStep_nil (x : Rng) : mergeStep [] x = [x] := rfl
theorem mergeStep_join (pre : List Rng) (y x : Rng) (h : x.1 ≤ y.2 + 1) : mergeStep (pre ++ [y]) x = pre ++ [(y.1, max y.2 x.2)] := by
  simp [mergeStep, h]
theorem mergeStep_new (pre : List Rng) (y x : Rng) (h : ¬ x.1 ≤ y.2 + 1) : mergeStep (pre ++ [y]) x = pre ++ [y] ++ [x] := by
  simp [mergeStep, h]
theorem mergeL_take (l : List Rng) (k : Nat) (hk : k < l.length) : mergeL (l.take (k + 1)) = mergeStep (mergeL (l.take k)) (l.getD k (0, 0)) := by
  unfold mergeL
  rw [List.take_add_one, List.foldl_append]
  simp [List.getD_eq_getElem?_getD, List.getElem?_eq_getElem hk]
theorem mergeStep_isR {acc : List Rng} {x : Rng} (ha : ∀ y ∈ acc, isR y = true) (hx : isR x = true) : ∀ y ∈ mergeStep acc x, isR y = true := by
  rcases List.eq_nil_or_concat acc with rfl | ⟨pre, z, rfl⟩
  · intro y hy; rw [mergeStep_nil] at hy; simp at hy; subst hy; exact hx
  · rw [List.concat_eq_append] at *
    by_cases h : x.1 ≤ z.2 + 1
    · rw [mergeStep_join _ _ _ h]
      intro y hy
      rw [List.mem_append] at hy
      rcases hy with hy | hy
      · exact ha y (by simp [hy])
      · simp at hy; subst hy
        have hz := ha z (by simp)
        simp only [isR, decide_eq_true_eq] at hz hx ⊢
        omega
    · rw [mergeStep_new _ _ _ h]
      intro y hy
      rw [List.mem_append] at hy
      rcases hy with hy | hy
      · exact ha y hy
      · simp at hy; subst hy; exact hx
theorem mergeStep_length (acc : List Rng) (x : Rng) : (mergeStep acc x).length ≤ acc.length + 1 := by
  rcases List.eq_nil_or_concat acc with rfl | ⟨pre, z, rfl⟩
  · simp [mergeStep_nil]
  · rw [List.concat_eq_append]
    by_cases h : x.1 ≤ z.2 + 1
    · rw [mergeStep_join _ _ _ h]; simp
    · rw [mergeStep_new _ _ _ h]; simp
end Go.Proofs.YtkbhdojgdgiggaaDoor

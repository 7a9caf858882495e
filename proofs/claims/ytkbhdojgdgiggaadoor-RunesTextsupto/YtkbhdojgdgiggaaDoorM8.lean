/- Plain mathematics: what joining makes; how much is made of one row. -/
import Derived.Test.YtkbhdojgdgiggaaDoorV14
namespace Go.Proofs.YtkbhdojgdgiggaaDoor
open Go.Sort

theorem sortL_rises (l : List Rng) : (sortL l).Pairwise fun x y => x.1 ≤ y.1 := by
  have h := List.pairwise_mergeSort (le := fun x y : Rng => !ltOf cmpR y x)
    (fun x y z h1 h2 => by
      rw [cmpR_lt] at *; simp at *; omega)
    (fun x y => by rw [cmpR_lt, cmpR_lt]; simp; omega) l
  refine List.Pairwise.imp (fun {x y} hxy => ?_) h
  rw [cmpR_lt] at hxy
  simp at hxy
  omega
theorem hasB_perm {l m : List Rng} (h : l.Perm m) (r : Int) : hasB l r = hasB m r := by
  rw [Bool.eq_iff_iff]
  simp only [hasB, List.any_eq_true]
  exact ⟨fun ⟨x, hx, h1⟩ => ⟨x, h.mem_iff.1 hx, h1⟩, fun ⟨x, hx, h1⟩ => ⟨x, h.mem_iff.2 hx, h1⟩⟩
/-- What joining makes. -/
theorem mergedL_inv (l : List Rng) (hR : ∀ x ∈ l, isR x = true) : Up 0 (mergedL l) ∧ ∀ r, hasB (mergedL l) r = hasB l r := by
  have h := merge_inv (sortL l) [] trivial (fun x hx => hR x ((sortL_perm l).mem_iff.1 hx)) (sortL_rises l) (fun pre z e => by simp at e)
  refine ⟨h.1, fun r => ?_⟩
  have := h.2 r
  rw [hasB_nil, Bool.false_or, hasB_perm (sortL_perm l)] at this
  exact this
theorem hasB_isR {l : List Rng} (hR : ∀ x ∈ l, isR x = true) {r : Int} (h : hasB l r = true) : 0 ≤ r ∧ r ≤ 1114111 := by
  simp only [hasB, List.any_eq_true, decide_eq_true_eq] at h
  obtain ⟨x, hx, h1⟩ := h
  have := hR x hx
  simp only [isR, decide_eq_true_eq] at this
  omega

theorem sup_get {lo : Int} {l : List Int} (h : SUp lo l) (i : Nat) (hi : i < l.length) : lo ≤ l.getD i 0 ∧ l.getD i 0 ≤ 1114111 ∧ l.getD i 0 ≤ endAt l i ∧ endAt l i ≤ 1114111 := by
  induction l generalizing lo i with
  | nil => simp at hi
  | cons c l ih =>
    obtain ⟨h1, h2, h3⟩ := h
    cases i with
    | zero =>
      cases l with
      | nil => simp [endAt]; omega
      | cons d l => simp [endAt]; have := h3.1; have := h3.2.1; omega
    | succ i =>
      have hi' : i < l.length := by simpa using hi
      have := ih h3 i hi'
      have e : endAt (c :: l) (i + 1) = endAt l i := by simp [endAt]
      rw [e]
      simp only [List.getD_cons_succ]
      omega
theorem const_get {P : Int → Bool} {l : List Int} (h : ConstOn P l) (i : Nat) (hi : i < l.length) (r : Int) (h1 : l.getD i 0 ≤ r) (h2 : r ≤ endAt l i) : P r = P (l.getD i 0) := by
  induction l generalizing i with
  | nil => simp at hi
  | cons c l ih =>
    cases i with
    | zero =>
      cases l with
      | nil => exact h r (by simpa using h1) (by simpa [endAt] using h2)
      | cons d l => exact h.1 r (by simpa using h1) (by simp [endAt] at h2; omega)
    | succ i =>
      have hi' : i < l.length := by simpa using hi
      have e : endAt (c :: l) (i + 1) = endAt l i := by simp [endAt]
      rw [e] at h2
      cases l with
      | nil => simp at hi'
      | cons d l => simpa using ih h.2 i hi' (by simpa using h1) h2
/-- Where the i-th piece begins. -/
def posAt (cuts : List Int) (i : Nat) : Int := if i < cuts.length then cuts.getD i 0 else 1114112
theorem madeTo_inv (P : Int → Bool) (cuts : List Int) (hs : SUp 0 cuts) (hc : ConstOn P cuts) (h0 : posAt cuts 0 = 0) (i : Nat) (hi : i ≤ cuts.length) :
    Up 0 (madeTo P cuts i) ∧ ∀ r, hasB (madeTo P cuts i) r = (decide (0 ≤ r ∧ r < posAt cuts i) && P r) := by
  induction i with
  | zero =>
    refine ⟨trivial, fun r => ?_⟩
    rw [h0]
    have : ¬ (0 ≤ r ∧ r < 0) := by omega
    simp [madeTo, hasB_nil, this]
  | succ i ih =>
    have hi' : i < cuts.length := by omega
    have k := ih (by omega)
    have g := sup_get hs i hi'
    have e1 : posAt cuts i = cuts.getD i 0 := if_pos hi'
    have e2 : posAt cuts (i + 1) = endAt cuts i + 1 := by
      unfold posAt endAt; split <;> omega
    rw [e1] at k
    have st := made_step P (madeTo P cuts i) (cuts.getD i 0) (endAt cuts i) (by omega) g.2.2.1 g.2.2.2 k.1 k.2 (fun r h1 h2 => const_get hc i hi' r h1 h2)
    rw [e2]
    exact st
/-- A rising row whose every beginning is in another is no longer. -/
theorem up_count {lo : Int} {m : List Rng} (h : Up lo m) (s : List Int) (hm : ∀ y ∈ m, y.1 ∈ s) : m.length ≤ s.length := by
  induction m generalizing lo s with
  | nil => simp
  | cons y m ih =>
    have hy := hm y (by simp)
    have := ih h.2.2.2 (s.erase y.1) (fun z hz => by
      refine (List.mem_erase_of_ne ?_).2 (hm z (by simp [hz]))
      intro e
      have hz2 : ∀ (m : List Rng) (lo : Int), Up lo m → ∀ z ∈ m, lo ≤ z.1 := by
        intro m
        induction m with
        | nil => intro lo _ z hz; simp at hz
        | cons u m ih2 =>
          intro lo hu z hz
          rw [List.mem_cons] at hz
          rcases hz with rfl | hz
          · exact hu.1
          · have := ih2 _ hu.2.2.2 z hz; have := hu.1; have := hu.2.1; omega
      have h1 := hz2 m _ h.2.2.2 z hz
      have h2 := h.2.1
      omega)
    rw [List.length_erase_of_mem hy] at this
    have hp := List.length_pos_of_mem hy
    simp only [List.length_cons]
    omega
/-- What is made of one row has no more ranges than it. -/
theorem made_count (l : List Rng) (hR : ∀ x ∈ l, isR x = true) (cuts : List Int) (hs : SUp 0 cuts) (hc : ConstOn (hasB l) cuts) (h0 : posAt cuts 0 = 0) (i : Nat) (hi : i ≤ cuts.length) : ∀ y ∈ madeTo (hasB l) cuts i, y.1 ∈ l.map Prod.fst := by
  induction i with
  | zero => simp [madeTo]
  | succ i ih =>
    have hi' : i < cuts.length := by omega
    have k := ih (by omega)
    have inv := madeTo_inv (hasB l) cuts hs hc h0 i (by omega)
    have g := sup_get hs i hi'
    have e1 : posAt cuts i = cuts.getD i 0 := if_pos hi'
    rw [e1] at inv
    simp only [madeTo]
    split
    · next hp =>
      generalize cuts.getD i 0 = c at *
      generalize endAt cuts i = to at *
      -- a new beginning is a range's
      have key : (∀ pre z, madeTo (hasB l) cuts i = pre ++ [z] → ¬ z.2 + 1 = c) → c ∈ l.map Prod.fst := by
        intro hnew
        simp only [hasB, List.any_eq_true, decide_eq_true_eq] at hp
        obtain ⟨x, hx, h1, h2⟩ := hp
        by_cases e : x.1 = c
        · exact List.mem_map.2 ⟨x, hx, e⟩
        · exfalso
          have hb : hasB (madeTo (hasB l) cuts i) (c - 1) = true := by
            rw [inv.2 (c - 1)]
            have hlc : hasB l (c - 1) = true := by
              simp only [hasB, List.any_eq_true, decide_eq_true_eq]
              exact ⟨x, hx, by omega, by omega⟩
            by_cases hc0 : c = 0
            · exfalso
              have hxr := hR x hx
              simp only [isR, decide_eq_true_eq] at hxr
              omega
            · simp [hlc]; omega
          rcases List.eq_nil_or_concat (madeTo (hasB l) cuts i) with hn | ⟨pre, z, hz⟩
          · rw [hn, hasB_nil] at hb; cases hb
          · rw [List.concat_eq_append] at hz
            have hzl := up_last (by rw [← hz]; exact inv.1)
            have hz2 : hasB (madeTo (hasB l) cuts i) z.2 = true := by rw [hz, hasB_append, hasB_one]; simp; right; omega
            have hz3 : z.2 < c := by rw [inv.2] at hz2; simp at hz2; omega
            have hz4 : c - 1 ≤ z.2 := by
              have up := inv.1
              rw [hz] at up hb
              clear hz hz2 inv k
              have aux : ∀ (pre : List Rng) (lo : Int), Up lo (pre ++ [z]) → hasB (pre ++ [z]) (c - 1) = true → c - 1 ≤ z.2 := by
                intro pre
                induction pre with
                | nil => intro lo _ h; rw [List.nil_append, hasB_one] at h; simp at h; omega
                | cons y pre ih3 =>
                  intro lo hu h
                  rw [List.cons_append, hasB_cons] at h
                  simp only [Bool.or_eq_true, decide_eq_true_eq] at h
                  rcases h with h | h
                  · have := up_last hu.2.2.2; omega
                  · exact ih3 _ hu.2.2.2 h
              exact aux pre 0 up hb
            exact hnew pre z hz (by omega)
      rcases List.eq_nil_or_concat (madeTo (hasB l) cuts i) with hn | ⟨pre, z, hz⟩
      · rw [hn, madeStep_nil]
        intro y hy
        simp only [List.mem_singleton] at hy
        subst hy
        exact key (fun pre z e => by rw [hn] at e; simp at e)
      · rw [List.concat_eq_append] at hz
        rw [hz] at k ⊢
        by_cases hj : z.2 + 1 = c
        · rw [madeStep_join _ _ _ _ hj]
          intro y hy
          rw [List.mem_append] at hy
          rcases hy with hy | hy
          · exact k y (by simp [hy])
          · simp only [List.mem_singleton] at hy
            subst hy
            exact k z (by simp)
        · rw [madeStep_new _ _ _ _ hj]
          intro y hy
          rw [List.mem_append] at hy
          rcases hy with hy | hy
          · exact k y hy
          · simp only [List.mem_singleton] at hy
            subst hy
            refine key fun pre' z' e => ?_
            rw [hz] at e
            have := List.append_inj_right' e rfl
            simp at this
            rw [← this]; exact hj
    · exact k
end Go.Proofs.YtkbhdojgdgiggaaDoor

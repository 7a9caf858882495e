/- Plain mathematics: a set has one list; joining, and what is not in a set. -/
import Derived.Test.YtkbhdojgdgiggaaDoorM3
namespace Go.Proofs.YtkbhdojgdgiggaaDoor

/-- Ranges of runes that rise, from lo on. -/
def Up : Int → List Rng → Prop
  | _, [] => True
  | lo, x :: l => lo ≤ x.1 ∧ x.1 ≤ x.2 ∧ x.2 ≤ 1114111 ∧ Up (x.2 + 2) l
theorem hasB_cons (x : Rng) (l : List Rng) (r : Int) : hasB (x :: l) r = (decide (x.1 ≤ r ∧ r ≤ x.2) || hasB l r) := by simp [hasB]
theorem hasB_nil (r : Int) : hasB [] r = false := rfl
theorem hasB_append (l m : List Rng) (r : Int) : hasB (l ++ m) r = (hasB l r || hasB m r) := by simp [hasB]
theorem hasB_one (x : Rng) (r : Int) : hasB [x] r = decide (x.1 ≤ r ∧ r ≤ x.2) := by simp [hasB]
theorem up_mono {lo lo' : Int} {l : List Rng} (h : Up lo l) (hl : lo' ≤ lo) : Up lo' l := by
  cases l with
  | nil => trivial
  | cons x l => exact ⟨by have := h.1; omega, h.2⟩
theorem up_lo {lo : Int} {l : List Rng} (h : Up lo l) {r : Int} (hr : hasB l r = true) : lo ≤ r ∧ r ≤ 1114111 := by
  induction l generalizing lo with
  | nil => simp [hasB_nil] at hr
  | cons x l ih =>
    obtain ⟨h1, h2, h3, h4⟩ := h
    rw [hasB_cons] at hr
    simp only [Bool.or_eq_true, decide_eq_true_eq] at hr
    rcases hr with hr | hr
    · omega
    · have := ih h4 hr; omega
theorem up_first {lo : Int} {x : Rng} {l : List Rng} (h : Up lo (x :: l)) : hasB (x :: l) x.1 = true := by
  rw [hasB_cons]; have := h.2.1; simp [this]
/-- A set has one list. -/
theorem up_uniq {l m : List Rng} {lo : Int} (hl : Up lo l) (hm : Up lo m) (h : ∀ r, hasB l r = hasB m r) : l = m := by
  induction l generalizing m lo with
  | nil =>
    cases m with
    | nil => rfl
    | cons u m => have := h u.1; rw [up_first hm, hasB_nil] at this; cases this
  | cons x l ih =>
    cases m with
    | nil => have := h x.1; rw [up_first hl, hasB_nil] at this; cases this
    | cons u m =>
      obtain ⟨a1, a2, a3, a4⟩ := id hl
      obtain ⟨b1, b2, b3, b4⟩ := id hm
      have hx : ∀ r, hasB (x :: l) r = true → x.1 ≤ r := fun r hr => (up_lo (l := x :: l) (lo := x.1) ⟨by omega, a2, a3, a4⟩ hr).1
      have hu : ∀ r, hasB (u :: m) r = true → u.1 ≤ r := fun r hr => (up_lo (l := u :: m) (lo := u.1) ⟨by omega, b2, b3, b4⟩ hr).1
      have e1 : x.1 = u.1 := by
        have h1 := hu x.1 (by rw [← h]; exact up_first hl)
        have h2 := hx u.1 (by rw [h]; exact up_first hm)
        omega
      have e2 : x.2 = u.2 := by
        rcases Int.lt_trichotomy x.2 u.2 with hlt | he | hgt
        · have h1 : hasB (u :: m) (x.2 + 1) = true := by rw [hasB_cons]; simp; left; omega
          rw [← h, hasB_cons] at h1
          simp only [Bool.or_eq_true, decide_eq_true_eq] at h1
          rcases h1 with h1 | h1
          · omega
          · have := (up_lo a4 h1).1; omega
        · exact he
        · have h1 : hasB (x :: l) (u.2 + 1) = true := by rw [hasB_cons]; simp; left; omega
          rw [h, hasB_cons] at h1
          simp only [Bool.or_eq_true, decide_eq_true_eq] at h1
          rcases h1 with h1 | h1
          · omega
          · have := (up_lo b4 h1).1; omega
      have e : x = u := Prod.ext e1 e2
      subst e
      congr 1
      refine ih a4 b4 fun r => ?_
      have hr := h r
      rw [hasB_cons, hasB_cons] at hr
      by_cases c : x.1 ≤ r ∧ r ≤ x.2
      · have f1 : hasB l r = false := by
          rw [Bool.eq_false_iff]; intro t; have := (up_lo a4 t).1; omega
        have f2 : hasB m r = false := by
          rw [Bool.eq_false_iff]; intro t; have := (up_lo b4 t).1; omega
        rw [f1, f2]
      · simpa [c] using hr
theorem up_snoc {lo : Int} {pre : List Rng} {z x : Rng} (h : Up lo (pre ++ [z])) (h1 : z.2 + 2 ≤ x.1) (h2 : x.1 ≤ x.2) (h3 : x.2 ≤ 1114111) : Up lo (pre ++ [z] ++ [x]) := by
  induction pre generalizing lo with
  | nil => exact ⟨h.1, h.2.1, h.2.2.1, by omega, h2, h3, trivial⟩
  | cons y pre ih => exact ⟨h.1, h.2.1, h.2.2.1, ih h.2.2.2⟩
theorem up_grow {lo : Int} {pre : List Rng} {z0 z z' : Int} (h : Up lo (pre ++ [(z0, z)])) (h1 : z ≤ z') (h3 : z' ≤ 1114111) : Up lo (pre ++ [(z0, z')]) := by
  induction pre generalizing lo with
  | nil => exact ⟨h.1, by have := h.2.1; simp only at this ⊢; omega, h3, trivial⟩
  | cons y pre ih => exact ⟨h.1, h.2.1, h.2.2.1, ih h.2.2.2⟩
theorem up_last {lo : Int} {pre : List Rng} {z : Rng} (h : Up lo (pre ++ [z])) : lo ≤ z.1 ∧ z.1 ≤ z.2 ∧ z.2 ≤ 1114111 := by
  induction pre generalizing lo with
  | nil => exact ⟨h.1, h.2.1, h.2.2.1⟩
  | cons y pre ih => have := ih h.2.2.2; have := h.2.1; have := h.1; omega
theorem merge_inv (l acc : List Rng) (hup : Up 0 acc) (hR : ∀ x ∈ l, isR x = true) (hs : l.Pairwise fun x y => x.1 ≤ y.1) (hlast : ∀ pre z, acc = pre ++ [z] → ∀ x ∈ l, z.1 ≤ x.1) :
    Up 0 (l.foldl mergeStep acc) ∧ ∀ r, hasB (l.foldl mergeStep acc) r = (hasB acc r || hasB l r) := by
  induction l generalizing acc with
  | nil => exact ⟨hup, fun r => by simp [hasB_nil]⟩
  | cons x l ih =>
    have hx : 0 ≤ x.1 ∧ x.1 ≤ x.2 ∧ x.2 ≤ 1114111 := by simpa [isR] using hR x (by simp)
    rw [List.pairwise_cons] at hs
    rw [List.foldl_cons]
    have step : Up 0 (mergeStep acc x) ∧ (∀ r, hasB (mergeStep acc x) r = (hasB acc r || decide (x.1 ≤ r ∧ r ≤ x.2))) ∧ ∀ pre z, mergeStep acc x = pre ++ [z] → z.1 ≤ x.1 := by
      rcases List.eq_nil_or_concat acc with rfl | ⟨pre, z, rfl⟩
      · rw [mergeStep_nil]
        refine ⟨⟨hx.1, hx.2.1, hx.2.2, trivial⟩, fun r => by rw [hasB_one, hasB_nil, Bool.false_or], fun pre z h => ?_⟩
        have := List.append_inj_right' (s₁ := []) h rfl
        simp at this
        rw [← this]; exact Int.le_refl _
      · rw [List.concat_eq_append] at *
        have hz := hlast pre z rfl x (by simp)
        have hl := up_last hup
        by_cases hj : x.1 ≤ z.2 + 1
        · rw [mergeStep_join _ _ _ hj]
          refine ⟨up_grow hup (by omega) (by omega), fun r => ?_, fun pre' z' h => ?_⟩
          · rw [hasB_append, hasB_append, hasB_one, hasB_one, Bool.or_assoc]
            congr 1
            rw [Bool.eq_iff_iff]
            simp
            omega
          · have := List.append_inj_right' h rfl
            simp at this
            rw [← this]; exact hz
        · rw [mergeStep_new _ _ _ hj]
          refine ⟨up_snoc hup (by omega) hx.2.1 hx.2.2, fun r => ?_, fun pre' z' h => ?_⟩
          · rw [hasB_append (pre ++ [z]), hasB_one]
          · have := List.append_inj_right' h rfl
            simp at this
            rw [← this]; exact Int.le_refl _
    obtain ⟨s1, s2, s3⟩ := step
    have := ih (mergeStep acc x) s1 (fun y hy => hR y (by simp [hy])) hs.2 (fun pre z h y hy => by have := s3 pre z h; have := hs.1 y hy; omega)
    refine ⟨this.1, fun r => ?_⟩
    rw [this.2 r, s2, hasB_cons, Bool.or_assoc]
/-- What is not in it. -/
def restFrom : Int → List Rng → List Rng
  | fr, [] => if fr ≤ 1114111 then [(fr, 1114111)] else []
  | fr, x :: l => (if fr < x.1 then [(fr, x.1 - 1)] else []) ++ restFrom (x.2 + 1) l
def restL (l : List Rng) : List Rng := restFrom 0 l
theorem restFrom_inv (l : List Rng) (fr : Int) (h0 : 0 ≤ fr) (h : Up fr l) : Up fr (restFrom fr l) ∧ ∀ r, hasB (restFrom fr l) r = (decide (fr ≤ r ∧ r ≤ 1114111) && !hasB l r) := by
  induction l generalizing fr with
  | nil =>
    unfold restFrom
    split
    · refine ⟨⟨by omega, by omega, by omega, trivial⟩, fun r => ?_⟩
      rw [hasB_one, hasB_nil]; simp
    · refine ⟨trivial, fun r => ?_⟩
      rw [hasB_nil]
      have : ¬ (fr ≤ r ∧ r ≤ 1114111) := by omega
      simp [this]
  | cons x l ih =>
    obtain ⟨h1, h2, h3, h4⟩ := h
    have i := ih (x.2 + 1) (by omega) (up_mono h4 (by omega))
    have tail : ∀ r, hasB l r = true → x.2 + 2 ≤ r ∧ r ≤ 1114111 := fun r hr => up_lo h4 hr
    have has : ∀ r, hasB ((if fr < x.1 then [(fr, x.1 - 1)] else []) ++ restFrom (x.2 + 1) l) r = (decide (fr ≤ r ∧ r ≤ 1114111) && !hasB (x :: l) r) := fun r => by
      rw [hasB_append, i.2 r, hasB_cons]
      have hh : hasB (if fr < x.1 then [(fr, x.1 - 1)] else []) r = decide (fr ≤ r ∧ r ≤ x.1 - 1) := by
        split
        · rw [hasB_one]
        · rw [hasB_nil]; symm; rw [decide_eq_false_iff_not]; omega
      rw [hh]
      cases hb : hasB l r
      · rw [Bool.eq_iff_iff]; simp; omega
      · have := tail r hb
        rw [Bool.eq_iff_iff]; simp; omega
    refine ⟨?_, has⟩
    unfold restFrom
    by_cases c : fr < x.1
    · rw [if_pos c]
      refine ⟨by simp, by simp only; omega, by simp only; omega, ?_⟩
      show Up (x.1 - 1 + 2) (restFrom (x.2 + 1) l)
      cases hq : restFrom (x.2 + 1) l with
      | nil => trivial
      | cons y q =>
        have i1 := i.1
        rw [hq] at i1
        exact ⟨by have := i1.1; omega, i1.2⟩
    · rw [if_neg c, List.nil_append]
      exact up_mono i.1 (by omega)
theorem up_getD {l : List Rng} {lo : Int} (h : Up lo l) : okTo l l.length ∨ ¬ 0 ≤ lo := by
  by_cases h0 : 0 ≤ lo
  · left
    induction l generalizing lo with
    | nil => exact okTo_zero _
    | cons x l ih =>
      obtain ⟨h1, h2, h3, h4⟩ := h
      have i := ih h4 (by omega)
      intro k hk
      cases k with
      | zero => simp [okAt, isR]; omega
      | succ k =>
        have hk' : k < l.length := by simpa using hk
        have ik := i k hk'
        cases k with
        | zero =>
          cases l with
          | nil => simp at hk'
          | cons y l =>
            have := h4.1
            have ha := okAt_isR ik
            simp only [List.getD_cons_zero] at ha
            simp [okAt, isR]
            omega
        | succ k =>
          simp only [okAt, isR, Bool.and_eq_true, decide_eq_true_eq, Bool.or_eq_true] at ik ⊢
          simp only [List.getD_cons_succ, Nat.add_sub_cancel] at ik ⊢
          refine ⟨ik.1, .inr ?_⟩
          rcases ik.2 with h | h
          · omega
          · exact h
  · exact .inr h0
theorem getD_up {l : List Rng} (h : okTo l l.length) : Up 0 l := by
  have key : ∀ (l : List Rng) (lo : Int), (∀ k, k < l.length → isR (l.getD k (0, 0)) = true) → (∀ k, k + 1 < l.length → (l.getD k (0, 0)).2 + 2 ≤ (l.getD (k + 1) (0, 0)).1) → (0 < l.length → lo ≤ (l.getD 0 (0, 0)).1) → Up lo l := by
    intro l
    induction l with
    | nil => intros; trivial
    | cons x l ih =>
      intro lo h1 h2 h3
      have a := h1 0 (by simp)
      simp only [List.getD_cons_zero, isR, decide_eq_true_eq] at a
      refine ⟨by simpa using h3 (by simp), a.2.1, a.2.2, ih _ (fun k hk => by simpa using h1 (k + 1) (by simpa using hk)) (fun k hk => by simpa using h2 (k + 1) (by simpa using hk)) (fun hk => by simpa using h2 0 (by simpa using hk))⟩
  refine key l 0 (fun k hk => ?_) (fun k hk => ?_) (fun hk => ?_)
  · have := h k hk; simp only [okAt, Bool.and_eq_true] at this; exact this.1
  · have := h (k + 1) hk; simp only [okAt, Bool.and_eq_true, Bool.or_eq_true, decide_eq_true_eq, Nat.add_sub_cancel] at this
    rcases this.2 with h | h
    · omega
    · exact h
  · exact (okAt_isR (h 0 hk)).1
end Go.Proofs.YtkbhdojgdgiggaaDoor

/- What the algebra's answers are, rune by rune; Union and Meet of two. -/
import Derived.Test.YtkbhdojgdgiggabDoorV21
namespace Go.Proofs.YtkbhdojgdgiggabDoor
open Go.RowKit

theorem limC_zero {l : List Rng} (h : limC l = 0) : limL l = l := by
  unfold limC at h; unfold limL
  split at h
  · omega
  · rw [if_neg ‹_›]
theorem limC_ne {l : List Rng} (h : limC l ≠ 0) : 2048 < l.length := by
  unfold limC at h
  split at h
  · assumption
  · exact absurd rfl h
theorem chk_ok {l m : List Rng} (h1 : checkV l = 0) (h2 : checkV m = 0) : chkAll [l, m] = 0 := by rw [chk_two, if_pos h1, h2]
theorem chk_bad1 {l m : List Rng} (h1 : checkV l ≠ 0) : chkAll [l, m] ≠ 0 := by rw [chk_two, if_neg h1]; exact h1
theorem chk_bad2 {l m : List Rng} (h2 : checkV m ≠ 0) : chkAll [l, m] ≠ 0 := by
  rw [chk_two]; split
  · exact h2
  · assumption
theorem uni_bad {l m : List Rng} (h : chkAll [l, m] ≠ 0) : uniC [l, m] ≠ 0 := by unfold uniC; rw [if_neg h]; exact h
theorem meet_bad {l m : List Rng} (h : chkAll [l, m] ≠ 0) : meetC [l, m] ≠ 0 := by unfold meetC; rw [if_neg h]; exact h
theorem minus_bad {l m : List Rng} (h : chkAll [l, m] ≠ 0) : minusC l m ≠ 0 := by unfold minusC; rw [if_neg h]; exact h
theorem flat_two (l m : List Rng) : [l, m].flatten = l ++ m := by simp
theorem miss_two (l m : List Rng) : missL [l, m] = restL l ++ restL m := by simp [missL]

theorem uni_has {l m : List Rng} (h1 : checkV l = 0) (h2 : checkV m = 0) (hc : uniC [l, m] = 0) (r : Int) : hasB (uniL [l, m]) r = (hasB l r || hasB m r) := by
  have h := chk_ok h1 h2
  unfold uniC at hc
  unfold uniL
  rw [if_pos h] at hc ⊢
  rw [limC_zero hc, (mergedL_inv _ (flatten_isR h)).2, flat_two, hasB_append]
theorem uni_many {l m : List Rng} (h1 : checkV l = 0) (h2 : checkV m = 0) (hc : uniC [l, m] ≠ 0) : 2048 < l.length + m.length := by
  have h := chk_ok h1 h2
  unfold uniC at hc
  rw [if_pos h] at hc
  have := limC_ne hc
  have h3 := mergedL_length [l, m].flatten
  rw [flat_two] at this h3
  rw [List.length_append] at h3
  omega
theorem rest_has {l : List Rng} (h : checkV l = 0) (r : Int) (hr : 0 ≤ r ∧ r ≤ 1114111) : hasB (restL l) r = !hasB l r := by
  have := (restFrom_inv l 0 (Int.le_refl _) (set_up h)).2 r
  unfold restL
  rw [this]
  simp [hr]
theorem meet_has {l m : List Rng} (h1 : checkV l = 0) (h2 : checkV m = 0) (hc : meetC [l, m] = 0) (r : Int) (hr : 0 ≤ r ∧ r ≤ 1114111) : hasB (meetL [l, m]) r = (hasB l r && hasB m r) := by
  have h := chk_ok h1 h2
  unfold meetC at hc
  unfold meetL
  rw [if_pos h] at hc ⊢
  have b := mergedL_inv (missL [l, m]) (miss_isR h)
  have c := (restFrom_inv (mergedL (missL [l, m])) 0 (Int.le_refl _) b.1).2 r
  rw [limC_zero hc]
  show hasB (restFrom 0 (mergedL (missL [l, m]))) r = _
  rw [c, b.2, miss_two, hasB_append, rest_has h1 r hr, rest_has h2 r hr]
  simp [hr]
theorem minus_has {l m : List Rng} (h1 : checkV l = 0) (h2 : checkV m = 0) (hc : minusC l m = 0) (r : Int) (hr : 0 ≤ r ∧ r ≤ 1114111) : hasB (minusL l m) r = (hasB l r && !hasB m r) := by
  have h := chk_ok h1 h2
  unfold minusC at hc
  unfold minusL
  rw [if_pos h] at hc ⊢
  have b := mergedL_inv (restL l ++ m) (minus_isR h)
  have c := (restFrom_inv (mergedL (restL l ++ m)) 0 (Int.le_refl _) b.1).2 r
  rw [limC_zero hc]
  show hasB (restFrom 0 (mergedL (restL l ++ m))) r = _
  rw [c, b.2, hasB_append, rest_has h1 r hr]
  simp [hr]
theorem not_is {l : List Rng} (h1 : checkV l = 0) (hc : notC l = 0) : notL l = restL l ∧ (restL l).length ≤ 2048 := by
  unfold notC at hc
  unfold notL
  rw [if_pos h1] at hc ⊢
  refine ⟨limC_zero hc, ?_⟩
  unfold limC at hc
  split at hc
  · omega
  · omega
theorem not_has {l : List Rng} (h1 : checkV l = 0) (hc : notC l = 0) (r : Int) (hr : 0 ≤ r ∧ r ≤ 1114111) : hasB (notL l) r = !hasB l r := by
  rw [(not_is h1 hc).1, rest_has h1 r hr]
theorem not_set {l : List Rng} (h1 : checkV l = 0) (hc : notC l = 0) : checkV (notL l) = 0 := by
  obtain ⟨e, hl⟩ := not_is h1 hc
  rw [e]
  have hu := (restFrom_inv l 0 (Int.le_refl _) (set_up h1)).1
  rcases up_getD hu with h | h
  · exact checkV_ok h (by show ¬ 2048 < (restL l).length; omega)
  · exact absurd (Int.le_refl _) h
theorem rest_rest {l : List Rng} (h1 : checkV l = 0) : restL (restL l) = l := by
  have b := restFrom_inv l 0 (Int.le_refl _) (set_up h1)
  have c := restFrom_inv (restL l) 0 (Int.le_refl _) b.1
  refine up_uniq c.1 (set_up h1) fun r => ?_
  show hasB (restFrom 0 (restL l)) r = _
  rw [c.2, show hasB (restL l) r = _ from b.2 r]
  by_cases hr : 0 ≤ r ∧ r ≤ 1114111
  · simp [hr]
  · cases hh : hasB l r
    · simp [hr]
    · exact absurd (hasB_isR (set_isR h1) hh) hr
theorem not_not {l : List Rng} (h1 : checkV l = 0) (hc : notC l = 0) : notL (notL l) = l ∧ notC (notL l) = 0 := by
  have h2 := not_set h1 hc
  have e := (not_is h1 hc).1
  have hl := (checkV_zero h1).2
  have k1 : notL (notL l) = limL (restL (notL l)) := if_pos h2
  have k2 : notC (notL l) = limC (restL (notL l)) := if_pos h2
  rw [k1, k2, e, rest_rest h1]
  unfold limL limC
  rw [if_neg (by omega), if_neg (by omega)]
  exact ⟨rfl, rfl⟩

/-- So many runes. -/
def sumR (l : List Rng) : Int := (l.map fun x => x.2 - x.1 + 1).sum
theorem sumR_cons (x : Rng) (l : List Rng) : sumR (x :: l) = x.2 - x.1 + 1 + sumR l := by simp [sumR]
theorem sumR_append (l m : List Rng) : sumR (l ++ m) = sumR l + sumR m := by
  induction l with
  | nil => simp [sumR]
  | cons x l ih => rw [List.cons_append, sumR_cons, sumR_cons, ih]; omega
theorem sizeTo_take (l : List Rng) (n : Nat) (hn : n ≤ l.length) : sizeTo l n = sumR (l.take n) := by
  induction n with
  | zero => simp [sizeTo, sumR]
  | succ n ih =>
    rw [List.take_add_one, sumR_append, ← ih (by omega)]
    have h : n < l.length := by omega
    simp [sizeTo, sumR, List.getD_eq_getElem?_getD, List.getElem?_eq_getElem h]
theorem size_sum {l : List Rng} (h : checkV l = 0) : sizeV l = sumR l := by
  unfold sizeV
  rw [if_pos h, sizeTo_take l l.length (Nat.le_refl _), List.take_length]
theorem sum_rest (l : List Rng) (fr : Int) (h1 : fr ≤ 1114112) (h : Up fr l) : sumR (restFrom fr l) + sumR l = 1114112 - fr := by
  induction l generalizing fr with
  | nil =>
    unfold restFrom
    split
    · simp [sumR]; omega
    · simp [sumR]; omega
  | cons x l ih =>
    obtain ⟨a, b, c, d⟩ := h
    have := ih (x.2 + 1) (by omega) (up_mono d (by omega))
    unfold restFrom
    rw [sumR_append, sumR_cons]
    split
    · simp only [sumR, List.map_cons, List.map_nil, List.sum_cons, List.sum_nil] at this ⊢; omega
    · simp only [sumR, List.map_nil, List.sum_nil] at this ⊢; omega
theorem not_size {l : List Rng} (h1 : checkV l = 0) (hc : notC l = 0) : sizeV l + sizeV (notL l) = 1114112 := by
  rw [size_sum h1, size_sum (not_set h1 hc), (not_is h1 hc).1]
  have := sum_rest l 0 (by omega) (set_up h1)
  show sumR l + sumR (restFrom 0 l) = _
  omega
theorem has_out {l : List Rng} (h : checkV l = 0) {r : Int} (hr : ¬ (0 ≤ r ∧ r ≤ 1114111)) : hasB l r = false := by
  cases hh : hasB l r
  · rfl
  · exact absurd (hasB_isR (set_isR h) hh) hr

theorem two_tot {l m : List Rng} (h : chkAll [l, m] = 0) : tot [l, m] ≤ 4096 := by
  obtain ⟨h1, h2⟩ := chk_both h
  have a := (checkV_zero h1).2
  have b := (checkV_zero h2).2
  simp [tot]; omega
theorem two_new (w : World) (v1 v2 : Value) : Below w.heap.size w (w.alloc (.cells #[v1, v2] 22)) := (Below.refl _ _).alloc (Nat.le_refl _) _
theorem union_two (a a2 : Option Addr) (cap cap2 : Nat) (n1 : a = none → cap = 0) (n2 : a2 = none → cap2 = 0) (l m : List Rng) (hl : l.length ≤ 281474976710656) (hm : m.length ≤ 281474976710656) (w : World) (hrow : RowAt w a l) (hrow2 : RowAt w a2 m) :
    Calls Tryd.prog 8 #[.slice (some ⟨w.heap.size, 0, none⟩) 2 2] (w.alloc (.cells #[.slice a l.length cap, .slice a2 m.length cap2] 22)) fun e w' => ∃ v, e = .returned (.tuple #[v, .int .i64 (uniC [l, m])]) ∧ w'.ownsRow w.heap.size 53 2 v (uniL [l, m]).length (flat (uniL [l, m])) ∧ Below w.heap.size w w' := by
  have hb := two_new w (.slice a l.length cap) (.slice a2 m.length cap2)
  refine (union_any (some ⟨w.heap.size, 0, none⟩) 2 [l, m] (by simp) (by simp [hl, hm]) (fun h => by have := two_tot h; omega) _ (setsC_two hrow hrow2 n1 n2)).mono ?_
  rintro e w' ⟨v, he, ho, hb2⟩
  exact ⟨v, he, ownsRow_le ho hb.size, hb.trans (below_le hb2 hb.size)⟩
theorem meet_two (a a2 : Option Addr) (cap cap2 : Nat) (l m : List Rng) (hl : l.length ≤ 281474976710656) (hm : m.length ≤ 281474976710656) (w : World) (hrow : RowAt w a l) (hrow2 : RowAt w a2 m) :
    Calls Tryd.prog 9 #[.slice (some ⟨w.heap.size, 0, none⟩) 2 2] (w.alloc (.cells #[.slice a l.length cap, .slice a2 m.length cap2] 22)) fun e w' => ∃ v, e = .returned (.tuple #[v, .int .i64 (meetC [l, m])]) ∧ w'.ownsRow w.heap.size 53 2 v (meetL [l, m]).length (flat (meetL [l, m])) ∧ Below w.heap.size w w' := by
  have hb := two_new w (.slice a l.length cap) (.slice a2 m.length cap2)
  refine (meet_any (some ⟨w.heap.size, 0, none⟩) 2 [l, m] (by simp) (by simp [hl, hm]) (fun h => by have := two_tot h; simp; omega) _ (setsAt_two hrow hrow2)).mono ?_
  rintro e w' ⟨v, he, ho, hb2⟩
  exact ⟨v, he, ownsRow_le ho hb.size, hb.trans (below_le hb2 hb.size)⟩
theorem uniL_le (ls : List (List Rng)) : (uniL ls).length ≤ 2048 := by
  unfold uniL; split
  · exact limL_le _
  · simp
theorem meetL_le (ls : List (List Rng)) : (meetL ls).length ≤ 2048 := by
  unfold meetL; split
  · exact limL_le _
  · simp
theorem minusL_le (l m : List Rng) : (minusL l m).length ≤ 2048 := by
  unfold minusL; split
  · exact limL_le _
  · simp
theorem notL_le (l : List Rng) : (notL l).length ≤ 2048 := by
  unfold notL; split
  · exact limL_le _
  · simp
end Go.Proofs.YtkbhdojgdgiggabDoor

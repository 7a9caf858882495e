/- What RunesSplits leans on: between two cuts all runes are alike, and each cut parts. -/
import Derived.Test.YtkbhdojgdgiggabDoorQE
import Derived.Test.YtkbhdojgdgiggabDoorQI
namespace Go.Proofs.YtkbhdojgdgiggabDoor
open Go.RowKit

theorem cls_le (L : List Int) {r s : Int} (h : r ≤ s) (n : Nat) : clsN L r n ≤ clsN L s n := by
  induction n with
  | zero => simp [clsN]
  | succ n ih => rw [clsN_succ, clsN_succ]; split <;> split <;> omega
theorem cls_lt (L : List Int) {r s : Int} (h : r ≤ s) (n i : Nat) (hi : i < n) (h1 : r < L.getD (i + 1) 0) (h2 : L.getD (i + 1) 0 ≤ s) : clsN L r n < clsN L s n := by
  induction n with
  | zero => omega
  | succ n ih =>
    rw [clsN_succ, clsN_succ]
    by_cases e : i = n
    · subst e
      have := cls_le L h i
      rw [if_neg (by omega), if_pos h2]; omega
    · have := ih (by omega)
      split <;> split <;> omega
theorem starts_zero (ls : List (List Rng)) (hR : ∀ s ∈ ls, ∀ x ∈ s, isR x = true) : ∃ m, startsL ls = 0 :: m := sup_zero (starts_up ls hR) ((mem_starts ls 0).2 (by simp [rawL]))
theorem mem_place {ls : List (List Rng)} (hR : ∀ s ∈ ls, ∀ x ∈ s, isR x = true) {d : Int} (hd : d ∈ startsL ls) (h0 : d ≠ 0) : ∃ i, i < (startsL ls).length - 1 ∧ (startsL ls).getD (i + 1) 0 = d := by
  obtain ⟨m, hm⟩ := starts_zero ls hR
  rw [hm] at hd ⊢
  rcases List.mem_cons.1 hd with h | h
  · exact absurd h h0
  · obtain ⟨i, hi, e⟩ := List.mem_iff_getElem.1 h
    exact ⟨i, by simpa using hi, by simp [List.getElem?_eq_getElem hi, e]⟩
theorem alike_up {ls : List (List Rng)} (h : chkAll ls = 0) {r s : Int} (hr : 0 ≤ r) (hs : s ≤ 1114111) (hrs : r ≤ s) (hc : clsN (startsL ls) r ((startsL ls).length - 1) = clsN (startsL ls) s ((startsL ls).length - 1)) : ∀ t ∈ ls, hasB t s = hasB t r := by
  have no : ∀ d ∈ startsL ls, ¬ (r < d ∧ d ≤ s) := fun d hd hh => by
    obtain ⟨i, hi, e⟩ := mem_place (sets_isR h) hd (by omega)
    have := cls_lt (startsL ls) hrs ((startsL ls).length - 1) i hi (by omega) (by omega)
    omega
  intro t ht
  have hin : ∀ x ∈ t, ∀ d ∈ cut1 x, d ∈ startsL ls := fun x hx d hd => (mem_starts ls d).2 (by
    unfold rawL cutsL
    rw [List.mem_cons]; right
    exact List.mem_flatMap.2 ⟨t, ht, List.mem_flatMap.2 ⟨x, hx, hd⟩⟩)
  refine has_alike hrs (fun x hx hh => no x.1 (hin x hx x.1 (by unfold cut1; split <;> simp)) hh) (fun x hx hh => ?_)
  have hlt : x.2 < 1114111 := by omega
  exact no (x.2 + 1) (hin x hx (x.2 + 1) (by unfold cut1; rw [if_pos hlt]; simp)) (by omega)
theorem alike_of_cls {ls : List (List Rng)} (h : chkAll ls = 0) {r s : Int} (hr : 0 ≤ r) (hr2 : r ≤ 1114111) (hs : 0 ≤ s) (hs2 : s ≤ 1114111) (hc : clsN (startsL ls) r ((startsL ls).length - 1) = clsN (startsL ls) s ((startsL ls).length - 1)) : ∀ t ∈ ls, hasB t r = hasB t s := by
  by_cases hrs : r ≤ s
  · exact fun t ht => (alike_up h hr hs2 hrs hc t ht).symm
  · exact alike_up h hs hr2 (by omega) hc.symm
theorem up_mem {lo : Int} {t : List Rng} (h : Up lo t) {x : Rng} (hx : x ∈ t) : lo ≤ x.1 ∧ x.1 ≤ x.2 := by
  induction t generalizing lo with
  | nil => simp at hx
  | cons y l ih =>
    obtain ⟨a, b, c, d⟩ := h
    rcases List.mem_cons.1 hx with rfl | hx
    · exact ⟨a, b⟩
    · have := ih d hx; omega
theorem up_part {lo : Int} {t : List Rng} (h : Up lo t) {x : Rng} (hx : x ∈ t) : hasB t (x.1 - 1) = false ∧ hasB t x.1 = true ∧ hasB t x.2 = true ∧ hasB t (x.2 + 1) = false := by
  induction t generalizing lo with
  | nil => simp at hx
  | cons y l ih =>
    obtain ⟨a, b, c, d⟩ := h
    have hlo : ∀ q, hasB l q = true → y.2 + 2 ≤ q := fun q hq => (up_lo d hq).1
    have hf : ∀ q, q < y.2 + 2 → hasB l q = false := fun q hq => by
      cases e : hasB l q with
      | false => rfl
      | true => have := hlo q e; omega
    simp only [hasB_cons]
    rcases List.mem_cons.1 hx with rfl | hx
    · rw [hf (x.1 - 1) (by omega), hf (x.2 + 1) (by omega)]
      refine ⟨?_, ?_, ?_, ?_⟩ <;> simp <;> omega
    · have hm := up_mem d hx
      obtain ⟨h1, h2, h3, h4⟩ := ih d hx
      rw [h1, h2, h3, h4]
      refine ⟨?_, by simp, by simp, ?_⟩ <;> simp <;> omega
/-- Each cut but 0 parts one of the sets. -/
theorem cut_parts {ls : List (List Rng)} (h : chkAll ls = 0) {i : Nat} (hi : i + 1 < (startsL ls).length) : ∃ k, k < ls.length ∧ hasB (ls.getD k []) ((startsL ls).getD (i + 1) 0 - 1) ≠ hasB (ls.getD k []) ((startsL ls).getD (i + 1) 0) := by
  obtain ⟨m, hm⟩ := starts_zero ls (sets_isR h)
  have hd : (startsL ls).getD (i + 1) 0 ∈ startsL ls := by
    rw [List.getD_eq_getElem?_getD, List.getElem?_eq_getElem hi]; exact List.getElem_mem _
  have hpos : 0 < (startsL ls).getD (i + 1) 0 := by
    have hp := sup_pairwise (starts_up ls (sets_isR h))
    rw [hm, List.pairwise_cons] at hp
    have hmem : (startsL ls).getD (i + 1) 0 ∈ m := by
      rw [hm] at hi ⊢
      have hi' : i < m.length := by simpa using hi
      simp [List.getElem?_eq_getElem hi']
    exact hp.1 _ hmem
  have hraw := (mem_starts ls _).1 hd
  generalize (startsL ls).getD (i + 1) 0 = d at *
  unfold rawL at hraw
  rcases List.mem_cons.1 hraw with h0 | hraw
  · omega
  · obtain ⟨t, ht, hx⟩ := List.mem_flatMap.1 hraw
    obtain ⟨x, hx, hdx⟩ := List.mem_flatMap.1 hx
    have hp := up_part (set_up (chkAll_sets h t ht)) hx
    obtain ⟨k, hk, e⟩ := List.mem_iff_getElem.1 ht
    refine ⟨k, hk, ?_⟩
    rw [List.getD_eq_getElem?_getD, List.getElem?_eq_getElem hk, Option.getD_some, e]
    have hdx2 : d = x.1 ∨ d = x.2 + 1 := by
      unfold cut1 at hdx
      split at hdx <;> simp at hdx <;> omega
    rcases hdx2 with rfl | rfl
    · rw [hp.1, hp.2.1]; simp
    · rw [show x.2 + 1 - 1 = x.2 by omega, hp.2.2.1, hp.2.2.2]; simp
end Go.Proofs.YtkbhdojgdgiggabDoor

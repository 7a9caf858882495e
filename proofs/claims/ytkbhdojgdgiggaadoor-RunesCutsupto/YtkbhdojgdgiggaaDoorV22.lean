/- Contracts of the reference's Union and Meet. -/
import Derived.Test.YtkbhdojgdgiggaaDoorV21
namespace Go.Proofs.YtkbhdojgdgiggaaDoor
open Go.RowKit

theorem cntB_cons (s : List Rng) (ls : List (List Rng)) (r : Int) : cntB (s :: ls) r = cntB ls r + (if hasB s r then 1 else 0) := by
  unfold cntB; rw [List.countP_cons]
theorem cntB_alike {ls : List (List Rng)} {c r : Int} (h : ∀ s ∈ ls, hasB s r = hasB s c) : cntB ls r = cntB ls c := by
  induction ls with
  | nil => rfl
  | cons s ls ih => rw [cntB_cons, cntB_cons, ih (fun t ht => h t (by simp [ht])), h s (by simp)]
theorem cntB_le (ls : List (List Rng)) (r : Int) : cntB ls r ≤ ls.length := List.countP_le_length
theorem hasB_flatten (ls : List (List Rng)) (r : Int) : hasB ls.flatten r = decide (0 < cntB ls r) := by
  induction ls with
  | nil => rfl
  | cons s ls ih =>
    rw [List.flatten_cons, hasB_append, ih, cntB_cons]
    cases hasB s r
    · simp
    · simp
theorem hasB_miss (ls : List (List Rng)) (hu : ∀ s ∈ ls, Up 0 s) (r : Int) : hasB (missL ls) r = (decide (0 ≤ r ∧ r ≤ 1114111) && decide (cntB ls r ≠ ls.length)) := by
  induction ls with
  | nil => simp [missL, hasB_nil, cntB]
  | cons s ls ih =>
    have h1 : missL (s :: ls) = restL s ++ missL ls := rfl
    have h2 := (restFrom_inv s 0 (Int.le_refl _) (hu s (by simp))).2 r
    have h3 := cntB_le ls r
    rw [h1, hasB_append, ih (fun t ht => hu t (by simp [ht])), cntB_cons]
    unfold restL
    rw [h2]
    cases hasB s r
    · rw [Bool.eq_iff_iff]; simp; omega
    · rw [Bool.eq_iff_iff]; simp
theorem holds_alike (what : Int) {ls : List (List Rng)} (c r : Int) (h : ∀ s ∈ ls, hasB s r = hasB s c) : holdsB what ls r = holdsB what ls c := by
  unfold holdsB; rw [cntB_alike h]
theorem sets_isR {ls : List (List Rng)} (h : chkAll ls = 0) : ∀ s ∈ ls, ∀ x ∈ s, isR x = true := fun s hs => set_isR (chkAll_sets h s hs)
theorem made_union {ls : List (List Rng)} (h : chkAll ls = 0) : madeL (holdsB 0 ls) (startsL ls) = mergedL ls.flatten := by
  have h1 := madeL_inv ls (sets_isR h) (holdsB 0 ls) (holds_alike 0)
  have h2 := mergedL_inv ls.flatten (flatten_isR h)
  refine up_uniq h1.1 h2.1 fun r => ?_
  rw [h1.2, h2.2, hasB_flatten]
  show (_ && decide (0 < cntB ls r)) = _
  by_cases hc : 0 < cntB ls r
  · have := hasB_isR (flatten_isR h) (r := r) (by rw [hasB_flatten]; simpa using hc)
    simp [hc, this]
  · simp [hc]
theorem made_meet {ls : List (List Rng)} (h : chkAll ls = 0) : madeL (holdsB 1 ls) (startsL ls) = meetM ls := by
  have h1 := madeL_inv ls (sets_isR h) (holdsB 1 ls) (holds_alike 1)
  have h2 := mergedL_inv (missL ls) (miss_isR h)
  have h3 := restFrom_inv (mergedL (missL ls)) 0 (Int.le_refl _) h2.1
  refine up_uniq h1.1 h3.1 fun r => ?_
  rw [h1.2]
  show _ = hasB (restFrom 0 (mergedL (missL ls))) r
  rw [h3.2, h2.2, hasB_miss ls (fun s hs => set_up (chkAll_sets h s hs))]
  show (_ && decide (cntB ls r = ls.length)) = _
  by_cases hr : 0 ≤ r ∧ r ≤ 1114111
  · simp [hr]
  · simp [hr]

set_option maxHeartbeats 2000000 in
set_option maxRecDepth 100000 in
theorem rUnion_any (a : Option Addr) (cap : Nat) (ls : List (List Rng)) (hn : ls.length ≤ 281474976710656) (hl : ∀ s ∈ ls, s.length ≤ 281474976710656) (hT : chkAll ls = 0 → tot ls ≤ 1000000000) (w : World) (hsets : SetsAt w a ls) :
    Calls Tryd.prog 18 #[.slice a ls.length cap] w fun e w' => ∃ v, e = .returned (.tuple #[v, .int .i64 (uniC ls)]) ∧ w'.ownsRow w.heap.size 55 2 v (uniL ls).length (flat (uniL ls)) ∧ Below w.heap.size w w' := by
  have HC := hide (checked_any a cap ls hn hl w hsets)
  by_cases hc : chkAll ls = 0
  · have Hv : Hid (uniL ls = limL (mergedL ls.flatten) ∧ uniC ls = limC (mergedL ls.flatten)) := hide ⟨if_pos hc, if_pos hc⟩
    have ht := hT hc
    have HM := hide (fun w' (hb : Below w.heap.size w w') => by
      have h := rmade_any 0 (holdsB 0 ls) a cap ls hn ht (sets_isR hc) w' (setsAt_below hsets (Nat.le_refl _) hb)
        (fun wr hbr c => holds_any 0 (by omega) a cap ls hn hl c wr (setsAt_below (setsAt_below hsets (Nat.le_refl _) hb) (Nat.le_refl _) hbr))
      rw [made_union hc] at h
      exact h)
    rw [hc] at HC
    clear hc hsets hl hT ht
    go_enter Tryd.func18, Tryd.ntmps18
    go_wp2_with fail
    refine (unhide HC).mono ?_
    rintro e w1 ⟨rfl, hb1⟩
    have HM1 := hide (unhide HM w1 hb1)
    have Hb1 := hide hb1
    clear hb1 HM
    go_wp2_with fail
    refine (unhide HM1).mono ?_
    rintro e w2 ⟨v, rfl, hown, hb2⟩
    have Hb2 := hide ((unhide Hb1).trans (below_le hb2 (unhide Hb1).size))
    have Hown := hide hown
    clear hown hb2
    go_wp2
    go_ret2
    rw [(unhide Hv).1, (unhide Hv).2]
    exact ⟨v, rfl, ownsRow_le (unhide Hown) (unhide Hb1).size, unhide Hb2⟩
  · have Hv : Hid (uniL ls = [] ∧ uniC ls = chkAll ls) := hide ⟨if_neg hc, if_neg hc⟩
    have hc' : (chkAll ls != 0) = true := by simpa using hc
    clear hc hsets hl hT
    generalize chkAll ls = c at *
    go_enter Tryd.func18, Tryd.ntmps18
    go_wp2_with fail
    refine (unhide HC).mono ?_
    rintro e w1 ⟨rfl, hb1⟩
    have Hb1 := hide hb1
    clear hb1
    go_wp2
    go_ret2
    rw [(unhide Hv).1, (unhide Hv).2]
    exact ⟨_, rfl, ⟨rfl, .inl ⟨rfl, rfl⟩⟩, unhide Hb1⟩

set_option maxHeartbeats 2000000 in
set_option maxRecDepth 100000 in
theorem rMeet_any (a : Option Addr) (cap : Nat) (ls : List (List Rng)) (hn : ls.length ≤ 281474976710656) (hl : ∀ s ∈ ls, s.length ≤ 281474976710656) (hT : chkAll ls = 0 → tot ls ≤ 1000000000) (w : World) (hsets : SetsAt w a ls) :
    Calls Tryd.prog 20 #[.slice a ls.length cap] w fun e w' => ∃ v, e = .returned (.tuple #[v, .int .i64 (meetC ls)]) ∧ w'.ownsRow w.heap.size 55 2 v (meetL ls).length (flat (meetL ls)) ∧ Below w.heap.size w w' := by
  have HC := hide (checked_any a cap ls hn hl w hsets)
  by_cases hc : chkAll ls = 0
  · have Hv : Hid (meetL ls = limL (meetM ls) ∧ meetC ls = limC (meetM ls)) := hide ⟨if_pos hc, if_pos hc⟩
    have ht := hT hc
    have HM := hide (fun w' (hb : Below w.heap.size w w') => by
      have h := rmade_any 1 (holdsB 1 ls) a cap ls hn ht (sets_isR hc) w' (setsAt_below hsets (Nat.le_refl _) hb)
        (fun wr hbr c => holds_any 1 (by omega) a cap ls hn hl c wr (setsAt_below (setsAt_below hsets (Nat.le_refl _) hb) (Nat.le_refl _) hbr))
      rw [made_meet hc] at h
      exact h)
    rw [hc] at HC
    clear hc hsets hl hT ht
    go_enter Tryd.func20, Tryd.ntmps20
    go_wp2_with fail
    refine (unhide HC).mono ?_
    rintro e w1 ⟨rfl, hb1⟩
    have HM1 := hide (unhide HM w1 hb1)
    have Hb1 := hide hb1
    clear hb1 HM
    go_wp2_with fail
    refine (unhide HM1).mono ?_
    rintro e w2 ⟨v, rfl, hown, hb2⟩
    have Hb2 := hide ((unhide Hb1).trans (below_le hb2 (unhide Hb1).size))
    have Hown := hide hown
    clear hown hb2
    go_wp2
    go_ret2
    rw [(unhide Hv).1, (unhide Hv).2]
    exact ⟨v, rfl, ownsRow_le (unhide Hown) (unhide Hb1).size, unhide Hb2⟩
  · have Hv : Hid (meetL ls = [] ∧ meetC ls = chkAll ls) := hide ⟨if_neg hc, if_neg hc⟩
    have hc' : (chkAll ls != 0) = true := by simpa using hc
    clear hc hsets hl hT
    generalize chkAll ls = c at *
    go_enter Tryd.func20, Tryd.ntmps20
    go_wp2_with fail
    refine (unhide HC).mono ?_
    rintro e w1 ⟨rfl, hb1⟩
    have Hb1 := hide hb1
    clear hb1
    go_wp2
    go_ret2
    rw [(unhide Hv).1, (unhide Hv).2]
    exact ⟨_, rfl, ⟨rfl, .inl ⟨rfl, rfl⟩⟩, unhide Hb1⟩
end Go.Proofs.YtkbhdojgdgiggaaDoor

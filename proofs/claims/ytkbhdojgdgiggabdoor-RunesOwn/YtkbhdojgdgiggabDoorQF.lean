/- Contracts of the reference's Union and Meet. -/
import Derived.Test.YtkbhdojgdgiggabDoorQE
import Derived.Test.YtkbhdojgdgiggabDoorV21
namespace Go.Proofs.YtkbhdojgdgiggabDoor
open Go.RowKit

theorem cntB_cons (s : List Rng) (ls : List (List Rng)) (r : Int) : cntB (s :: ls) r = cntB ls r + (if hasB s r then 1 else 0) := by
  unfold cntB; rw [List.countP_cons]
theorem cntB_alike {ls : List (List Rng)} {c r : Int} (h : ∀ s ∈ ls, hasB s r = hasB s c) : cntB ls r = cntB ls c := by
  induction ls with
  | nil => rfl
  | cons s ls ih => rw [cntB_cons, cntB_cons, ih (fun t ht => h t (by simp [ht])), h s (by simp)]
theorem cntB_le (ls : List (List Rng)) (r : Int) : cntB ls r ≤ ls.length := List.countP_le_length
theorem hasB_flatten (ls : List (List Rng)) (r : Int) : hasB ls.flatten r = decide (0 < cntB ls r) := by
  induction ls with
  | nil => rfl
  | cons s ls ih =>
    rw [List.flatten_cons, hasB_append, ih, cntB_cons]
    cases hasB s r
    · simp
    · simp
theorem holds_alike (what : Int) {ls : List (List Rng)} (c r : Int) (h : ∀ s ∈ ls, hasB s r = hasB s c) : holdsB what ls r = holdsB what ls c := by
  unfold holdsB; rw [cntB_alike h]
theorem made_union {ls : List (List Rng)} (h : chkAll ls = 0) : madeL (holdsB 0 ls) (startsL ls) = mergedL ls.flatten := by
  have h1 := madeL_inv ls (sets_isR h) (holdsB 0 ls) (holds_alike 0)
  have h2 := mergedL_inv ls.flatten (flatten_isR h)
  refine up_uniq h1.1 h2.1 fun r => ?_
  rw [h1.2, h2.2, hasB_flatten]
  show (_ && decide (0 < cntB ls r)) = _
  by_cases hc : 0 < cntB ls r
  · have := hasB_isR (flatten_isR h) (r := r) (by rw [hasB_flatten]; simpa using hc)
    simp [hc, this]
  · simp [hc]
set_option maxHeartbeats 2000000 in
set_option maxRecDepth 100000 in
theorem rUnion_any (a : Option Addr) (cap : Nat) (ls : List (List Rng)) (hn : ls.length ≤ 281474976710656) (hl : ∀ s ∈ ls, s.length ≤ 281474976710656) (hT : chkAll ls = 0 → tot ls ≤ 1000000000) (w : World) (hsets : SetsAt w a ls) :
    Calls Tryd.prog 25 #[.slice a ls.length cap] w fun e w' => ∃ v, e = .returned (.tuple #[v, .int .i64 (uniC ls)]) ∧ w'.ownsRow w.heap.size 53 2 v (uniL ls).length (flat (uniL ls)) ∧ Below w.heap.size w w' := by
  have HC := hide (checked_any a cap ls hn hl w hsets)
  by_cases hc : chkAll ls = 0
  · have Hv : Hid (uniL ls = limL (mergedL ls.flatten) ∧ uniC ls = limC (mergedL ls.flatten)) := hide ⟨if_pos hc, if_pos hc⟩
    have ht := hT hc
    have HM := hide (fun w' (hb : Below w.heap.size w w') => by
      have h := rmade_any 0 (holdsB 0 ls) a cap ls hn ht (sets_isR hc) w' (setsAt_below hsets (Nat.le_refl _) hb)
        (fun wr hbr c => holds_any 0 (by omega) a cap ls hn hl c wr (setsAt_below (setsAt_below hsets (Nat.le_refl _) hb) (Nat.le_refl _) hbr))
      rw [made_union hc] at h
      exact h)
    rw [hc] at HC
    clear hc hsets hl hT ht
    go_enter Tryd.func25, Tryd.ntmps25
    go_wp2_with fail
    refine (unhide HC).mono ?_
    rintro e w1 ⟨rfl, hb1⟩
    have HM1 := hide (unhide HM w1 hb1)
    have Hb1 := hide hb1
    clear hb1 HM
    go_wp2_with fail
    refine (unhide HM1).mono ?_
    rintro e w2 ⟨v, rfl, hown, hb2⟩
    have Hb2 := hide ((unhide Hb1).trans (below_le hb2 (unhide Hb1).size))
    have Hown := hide hown
    clear hown hb2
    go_wp2
    go_ret2
    rw [(unhide Hv).1, (unhide Hv).2]
    exact ⟨v, rfl, ownsRow_le (unhide Hown) (unhide Hb1).size, unhide Hb2⟩
  · have Hv : Hid (uniL ls = [] ∧ uniC ls = chkAll ls) := hide ⟨if_neg hc, if_neg hc⟩
    have hc' : (chkAll ls != 0) = true := by simpa using hc
    clear hc hsets hl hT
    generalize chkAll ls = c at *
    go_enter Tryd.func25, Tryd.ntmps25
    go_wp2_with fail
    refine (unhide HC).mono ?_
    rintro e w1 ⟨rfl, hb1⟩
    have Hb1 := hide hb1
    clear hb1
    go_wp2
    go_ret2
    rw [(unhide Hv).1, (unhide Hv).2]
    exact ⟨_, rfl, ⟨rfl, .inl ⟨rfl, rfl⟩⟩, unhide Hb1⟩

end Go.Proofs.YtkbhdojgdgiggabDoor

/- Contract of the reference's Of, and the law RunesOf. -/
import Derived.Test.YtkbhdojgdgiggabDoorM8
namespace Go.Proofs.YtkbhdojgdgiggabDoor
open Go.RowKit

theorem holds_one (l : List Rng) (c : Int) : holdsB 0 [l] c = hasB l c := by
  simp [holdsB, cntB, List.countP_cons]
  cases hasB l c <;> simp
/-- The facts on the cuts of one row. -/
theorem cuts_one (l : List Rng) (hR : ∀ x ∈ l, isR x = true) : SUp 0 (startsL [l]) ∧ ConstOn (hasB l) (startsL [l]) ∧ posAt (startsL [l]) 0 = 0 ∧ (startsL [l]).length ≤ 1 + 2 * l.length := by
  have h := starts_inv [l] [0] ⟨Int.le_refl _, by omega, trivial⟩ (by simp) (fun s hs => by simp at hs; subst hs; exact hR)
  change SUp 0 (startsL [l]) ∧ (0 : Int) ∈ startsL [l] ∧ _ ∧ ∀ s ∈ [l], Cutting (startsL [l]) s at h
  obtain ⟨m, hm⟩ := sup_zero h.1 h.2.1
  refine ⟨h.1, ?_, ?_, ?_⟩
  · rw [hm]
    refine const_has (ls := [l]) (fun c r hcr => hcr l (by simp)) 0 m (by rw [← hm]; exact h.1) fun s hs x hx => ?_
    have hcut := h.2.2.2 s hs x hx
    rw [hm] at hcut
    refine ⟨fun hlt => ?_, fun hlt hmx => ?_⟩
    · have := hcut.1; rw [List.mem_cons] at this; rcases this with e | e
      · omega
      · exact e
    · have := hcut.2 hmx; rw [List.mem_cons] at this; rcases this with e | e
      · omega
      · exact e
  · rw [hm]; simp [posAt]
  · have := (steps_inv l [0] ⟨Int.le_refl _, by omega, trivial⟩ (by simp) hR).2.2.2.2
    simpa [startsL, Nat.add_comm] using this
/-- The document's Of is ours. -/
theorem made_one (l : List Rng) (hR : ∀ x ∈ l, isR x = true) : madeL (hasB l) (startsL [l]) = mergedL l := by
  have h1 := madeL_inv [l] (fun s hs => by simp at hs; subst hs; exact hR) (hasB l) (fun c r h => h l (by simp))
  have h2 := mergedL_inv l hR
  refine up_uniq h1.1 h2.1 fun r => ?_
  rw [h1.2, h2.2]
  cases hb : hasB l r
  · simp
  · have := hasB_isR hR hb
    simp [this]

set_option maxHeartbeats 2000000 in
theorem rmade_one (a : Option Addr) (cap : Nat) (l : List Rng) (hl : l.length * 8 ≤ 140737488351232) (hR : ∀ x ∈ l, isR x = true) (w : World) (b : Nat) (hb : b < w.heap.size) (hcell : w.cell? ⟨b, 0, none⟩ = some (.slice a l.length cap)) (hrow : RowAt w a l) :
    Calls Tryd.prog 44 #[.slice (some ⟨b, 0, none⟩) 1 1, .int .i64 0] w fun e w' => ∃ v, e = .returned (.tuple #[v, .int .i64 (limC (mergedL l))]) ∧ w'.ownsRow w.heap.size 53 2 v (limL (mergedL l)).length (flat (limL (mergedL l))) ∧ Below w.heap.size w w' := by
  have hsets : SetsAt w (some ⟨b, 0, none⟩) [l] := .inr ⟨b, 0, rfl, hb, fun i hi => by
    have : i = 0 := by simpa using hi
    subst this
    exact ⟨a, cap, hcell, hrow⟩⟩
  have hc := cuts_one l hR
  have hRs : ∀ s ∈ [l], ∀ x ∈ s, isR x = true := fun s hs => by simp at hs; subst hs; exact hR
  have hS := starts_any (some ⟨b, 0, none⟩) 1 [l] (by simp) (by simp [tot]; omega) hRs w hsets
  have hP : (fun c => holdsB 0 [l] c) = hasB l := funext (holds_one l)
  have h := made_loop 0 (hasB l) (some ⟨b, 0, none⟩) 1 [l] (startsL [l]) (by omega) (fun j hj => by have := sup_get hc.1 j hj; omega)
    (fun i hi => by
      have := up_count (madeTo_inv (hasB l) _ hc.1 hc.2.1 hc.2.2.1 i (by omega)).1 (l.map Prod.fst) (made_count l hR _ hc.1 hc.2.1 hc.2.2.1 i (by omega))
      rw [List.length_map] at this
      omega) w (hide hS)
    (hide fun wr hbw c => by
      have := holds_any 0 (.inl rfl) (some ⟨b, 0, none⟩) 1 [l] (by simp) (fun s hs => by simp at hs; subst hs; omega) c wr (setsAt_below hsets (Nat.le_refl _) hbw)
      rw [holds_one] at this
      exact this)
  rw [made_one l hR] at h
  exact h

end Go.Proofs.YtkbhdojgdgiggabDoor

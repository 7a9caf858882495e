/- Contract of the reference's Of, and the law RunesOf. -/
import Derived.Test.YtkbhdojgdgiggaaDoorM8
namespace Go.Proofs.YtkbhdojgdgiggaaDoor
open Go.RowKit

theorem holds_one (l : List Rng) (c : Int) : holdsB 0 [l] c = hasB l c := by
  simp [holdsB, cntB, List.countP_cons]
  cases hasB l c <;> simp
/-- The facts on the cuts of one row. -/
theorem cuts_one (l : List Rng) (hR : ∀ x ∈ l, isR x = true) : SUp 0 (startsL [l]) ∧ ConstOn (hasB l) (startsL [l]) ∧ posAt (startsL [l]) 0 = 0 ∧ (startsL [l]).length ≤ 1 + 2 * l.length := by
  have h := starts_inv [l] [0] ⟨Int.le_refl _, by omega, trivial⟩ (by simp) (fun s hs => by simp at hs; subst hs; exact hR)
  change SUp 0 (startsL [l]) ∧ (0 : Int) ∈ startsL [l] ∧ _ ∧ ∀ s ∈ [l], Cutting (startsL [l]) s at h
  obtain ⟨m, hm⟩ := sup_zero h.1 h.2.1
  refine ⟨h.1, ?_, ?_, ?_⟩
  · rw [hm]
    refine const_has (ls := [l]) (fun c r hcr => hcr l (by simp)) 0 m (by rw [← hm]; exact h.1) fun s hs x hx => ?_
    have hcut := h.2.2.2 s hs x hx
    rw [hm] at hcut
    refine ⟨fun hlt => ?_, fun hlt hmx => ?_⟩
    · have := hcut.1; rw [List.mem_cons] at this; rcases this with e | e
      · omega
      · exact e
    · have := hcut.2 hmx; rw [List.mem_cons] at this; rcases this with e | e
      · omega
      · exact e
  · rw [hm]; simp [posAt]
  · have := (steps_inv l [0] ⟨Int.le_refl _, by omega, trivial⟩ (by simp) hR).2.2.2.2
    simpa [startsL, Nat.add_comm] using this
/-- The document's Of is ours. -/
theorem made_one (l : List Rng) (hR : ∀ x ∈ l, isR x = true) : madeL (hasB l) (startsL [l]) = mergedL l := by
  have h1 := madeL_inv [l] (fun s hs => by simp at hs; subst hs; exact hR) (hasB l) (fun c r h => h l (by simp))
  have h2 := mergedL_inv l hR
  refine up_uniq h1.1 h2.1 fun r => ?_
  rw [h1.2, h2.2]
  cases hb : hasB l r
  · simp
  · have := hasB_isR hR hb
    simp [this]

set_option maxHeartbeats 2000000 in
theorem rmade_one (a : Option Addr) (cap : Nat) (l : List Rng) (hl : l.length * 8 ≤ 140737488351232) (hR : ∀ x ∈ l, isR x = true) (w : World) (b : Nat) (hb : b < w.heap.size) (hcell : w.cell? ⟨b, 0, none⟩ = some (.slice a l.length cap)) (hrow : RowAt w a l) :
    Calls Tryd.prog 41 #[.slice (some ⟨b, 0, none⟩) 1 1, .int .i64 0] w fun e w' => ∃ v, e = .returned (.tuple #[v, .int .i64 (limC (mergedL l))]) ∧ w'.ownsRow w.heap.size 55 2 v (limL (mergedL l)).length (flat (limL (mergedL l))) ∧ Below w.heap.size w w' := by
  have hsets : SetsAt w (some ⟨b, 0, none⟩) [l] := .inr ⟨b, 0, rfl, hb, fun i hi => by
    have : i = 0 := by simpa using hi
    subst this
    exact ⟨a, cap, hcell, hrow⟩⟩
  have hc := cuts_one l hR
  have hRs : ∀ s ∈ [l], ∀ x ∈ s, isR x = true := fun s hs => by simp at hs; subst hs; exact hR
  have hS := starts_any (some ⟨b, 0, none⟩) 1 [l] (by simp) (by simp [tot]; omega) hRs w hsets
  have hP : (fun c => holdsB 0 [l] c) = hasB l := funext (holds_one l)
  have h := made_loop 0 (hasB l) (some ⟨b, 0, none⟩) 1 [l] (startsL [l]) (by omega) (fun j hj => by have := sup_get hc.1 j hj; omega)
    (fun i hi => by
      have := up_count (madeTo_inv (hasB l) _ hc.1 hc.2.1 hc.2.2.1 i (by omega)).1 (l.map Prod.fst) (made_count l hR _ hc.1 hc.2.1 hc.2.2.1 i (by omega))
      rw [List.length_map] at this
      omega) w (hide hS)
    (hide fun wr hbw c => by
      have := holds_any 0 (.inl rfl) (some ⟨b, 0, none⟩) 1 [l] (by simp) (fun s hs => by simp at hs; subst hs; omega) c wr (setsAt_below hsets (Nat.le_refl _) hbw)
      rw [holds_one] at this
      exact this)
  rw [made_one l hR] at h
  exact h

set_option maxHeartbeats 4000000 in
set_option maxRecDepth 100000 in
theorem rOf_any (a : Option Addr) (cap : Nat) (l : List Rng) (hl : l.length * 8 ≤ 140737488351232) (w : World) (hrow : RowAt w a l) :
    Calls Tryd.prog 15 #[.slice a l.length cap] w fun e w' => ∃ v, e = .returned (.tuple #[v, .int .i64 (ofC l)]) ∧ w'.ownsRow w.heap.size 55 2 v (ofL l).length (flat (ofL l)) ∧ Below w.heap.size w w' := by
  have Hrow := hide hrow
  clear hrow
  go_enter Tryd.func15, Tryd.ntmps15
  go_wp2
  go_loopw [4] (fun x wr => ∃ k : Nat, x = .int .i64 k ∧ k ≤ l.length ∧ Below w.heap.size w wr ∧ ∀ j, j < k → isR (l.getD j (0, 0)) = true) (fun x _ => l.length - (intOf x).toNat)
  case atStart => exact ⟨0, rfl, by omega, Below.refl _ _, fun j h => by omega⟩
  case round =>
    obtain ⟨k, rfl, hk, hbel, hall⟩ := hrel
    have hsz := hbel.size
    have Hbel := hide hbel; have Hall := hide hall
    clear hbel hall
    by_cases hkl : k < l.length
    · obtain ⟨b, off, rfl, hlt, hc⟩ := rowAt_cells (unhide Hrow) (unhide Hbel) hkl
      have hkl' : (k : Int) < l.length := by omega
      have hk00 : (0 : Int) ≤ (k : Int) := by omega
      have q0 := (hc k hkl).1
      have q1 := (hc k hkl).2
      have Hy := hide (fun (h : isR (l.getD k (0, 0)) = true) j (hj : j < k + 1) => show isR (l.getD j (0, 0)) = true from if e : j = k then by subst e; exact h else unhide Hall j (by omega))
      have Hn := hide (fun (h : isR (l.getD k (0, 0)) = false) => And.intro (show ofL l = [] by unfold ofL; rw [not_all_isR hkl h]; rfl) (show ofC l = 1 by unfold ofC; rw [not_all_isR hkl h]; rfl))
      clear hc
      generalize l.getD k (0, 0) = x at *
      obtain ⟨x, y⟩ := x
      simp only at q0 q1
      have hisr : isR (x, y) = decide (0 ≤ x ∧ x ≤ y ∧ y ≤ 1114111) := rfl
      rw [hisr] at Hy Hn
      clear hisr
      by_cases c1 : x < 0
      · have Ho := hide (unhide Hn (decide_eq_false (by omega)))
        clear Hy Hn
        go_wp2_with fail
        go_quiet (fail)
        go_wp2
        go_ret2
        rw [(unhide Ho).1, (unhide Ho).2]
        exact ⟨_, rfl, ⟨rfl, .inl ⟨rfl, rfl⟩⟩, below_drewN (unhide Hbel) _⟩
      · have d1 : decide (x < 0) = false := by simp; omega
        by_cases c2 : y < x
        · have Ho := hide (unhide Hn (decide_eq_false (by omega)))
          clear Hy Hn
          go_wp2_with fail
          go_quiet (fail)
          go_wp2
          go_ret2
          rw [(unhide Ho).1, (unhide Ho).2]
          exact ⟨_, rfl, ⟨rfl, .inl ⟨rfl, rfl⟩⟩, below_drewN (unhide Hbel) _⟩
        · have d2 : decide (y < x) = false := by simp; omega
          by_cases c3 : 1114111 < y
          · have Ho := hide (unhide Hn (decide_eq_false (by omega)))
            clear Hy Hn
            go_wp2_with fail
            go_quiet (fail)
            go_wp2
            go_ret2
            rw [(unhide Ho).1, (unhide Ho).2]
            exact ⟨_, rfl, ⟨rfl, .inl ⟨rfl, rfl⟩⟩, below_drewN (unhide Hbel) _⟩
          · have d3 : decide (1114111 < y) = false := by simp; omega
            have Hh := hide (unhide Hy (decide_eq_true (by omega)))
            clear Hy Hn
            go_wp2_with fail
            go_quiet (fail)
            go_wp2
            go_roundw
            case rel => exact ⟨k + 1, by go_num, by omega, below_drewN (unhide Hbel) _, unhide Hh⟩
            case measure => simp [intOf]; omega
    · have hkl' : ¬ (k : Int) < l.length := by omega
      have hke : k = l.length := by omega
      subst hke
      have hall := all_isR (unhide Hall)
      have hbw := (unhide Hbel).alloc hsz (.cells #[.slice a l.length cap] 22)
      have HM := hide (rmade_one a cap l hl (fun x hx => List.all_eq_true.1 hall x hx) (wr.alloc (.cells #[.slice a l.length cap] 22)) wr.heap.size (by simp) (World.cell?_alloc_mark wr #[.slice a l.length cap] 22 (0, 0) 0) (rowAt_below (unhide Hrow) (Nat.le_refl _) hbw))
      have Ho : Hid (ofL l = limL (mergedL l) ∧ ofC l = limC (mergedL l)) := hide ⟨by unfold ofL; rw [hall]; rfl, by unfold ofC; rw [hall]; rfl⟩
      have Hbw := hide hbw
      clear hall hbw
      go_wp2_with fail
      refine (unhide HM).mono ?_
      rintro e w1 ⟨v, rfl, hown, hb1⟩
      have HB := hide ((unhide Hbw).trans (below_le hb1 (unhide Hbw).size))
      have Hown := hide hown
      clear hown hb1
      go_wp2
      go_ret2
      rw [(unhide Ho).1, (unhide Ho).2]
      exact ⟨v, rfl, ownsRow_le (unhide Hown) (unhide Hbw).size, unhide HB⟩

set_option maxHeartbeats 2000000 in
set_option maxRecDepth 100000 in
theorem runesOf_walk (a : Option Addr) (cap : Nat) (l : List Rng) (hl : l.length * 8 ≤ 140737488351232) (w : World) (hrow : RowAt w a l) :
    Calls Tryd.prog 4 #[.slice a l.length cap] w fun e w' => e = .returned (.bool true) ∧ Below w.heap.size w w' := by
  have HA := hide awake_any
  have H1 := hide (of_any a cap l (by omega) w hrow)
  have H2 := hide (fun w' (hb : Below w.heap.size w w') => rOf_any a cap l hl w' (rowAt_below hrow (Nat.le_refl _) hb))
  have hol : (ofL l).length ≤ 2048 := by
    unfold ofL limL
    split
    · split
      · simp
      · omega
    · simp
  generalize ofC l = c at *
  generalize ofL l = o at *
  clear hrow
  go_enter Tryd.func4, Tryd.ntmps4
  go_wp2_with fail
  refine (unhide H1).mono ?_
  rintro e w1 ⟨v1, rfl, hown1, hb1⟩
  have Hb1 := hide hb1; have Ho1 := hide hown1
  clear hb1 hown1
  go_wp2_with fail
  refine (unhide H2 _ (unhide Hb1)).mono ?_
  rintro e w2 ⟨v2, rfl, hown2, hb2⟩
  obtain ⟨a1, cap1, rfl⟩ := ownsRow_slice (unhide Ho1)
  obtain ⟨a2, cap2, rfl⟩ := ownsRow_slice hown2
  have HS := hide (same_any a1 a2 cap1 cap2 o o (by omega) (by omega) w2 (rowAt_below (rowAt_own (unhide Ho1)) (Nat.le_refl _) hb2) (rowAt_own hown2))
  rw [decide_eq_true rfl] at HS
  have Hb2 := hide ((unhide Hb1).trans (below_le hb2 (unhide Hb1).size))
  clear hb2 hown2
  go_wp2_with fail
  refine (unhide HS).mono ?_
  rintro e w3 ⟨rfl, hb3⟩
  have Hb3 := hide ((unhide Hb2).trans (below_le hb3 (unhide Hb2).size))
  clear hb3
  go_wp2_with fail
  refine (unhide HA _).mono ?_
  rintro e w4 ⟨rfl, hb4⟩
  have Hb4 := hide ((unhide Hb3).trans (below_le hb4 (unhide Hb3).size))
  clear hb4
  go_wp2
  go_ret
  exact ⟨rfl, unhide Hb4⟩
end Go.Proofs.YtkbhdojgdgiggaaDoor

/- The law RunesSets, walked out of the contracts. -/
import Derived.Test.YtkbhdojgdgiggaaDoorV22
namespace Go.Proofs.YtkbhdojgdgiggaaDoor
open Go.RowKit

theorem uniL_le (ls : List (List Rng)) : (uniL ls).length ≤ 2048 := by
  unfold uniL; split
  · exact limL_le _
  · simp
theorem meetL_le (ls : List (List Rng)) : (meetL ls).length ≤ 2048 := by
  unfold meetL; split
  · exact limL_le _
  · simp
set_option maxHeartbeats 4000000 in
set_option maxRecDepth 100000 in
theorem runesSets_walk (a : Option Addr) (cap : Nat) (ls : List (List Rng)) (hn : ls.length ≤ 1000000000) (hT : tot ls ≤ 1000000000) (w : World) (hsets : SetsC w a ls) :
    Calls Tryd.prog 5 #[.slice a ls.length cap] w fun e w' => e = .returned (.bool true) ∧ Below w.heap.size w w' := by
  have HA := hide awake_any
  have hl : ∀ s ∈ ls, s.length ≤ 281474976710656 := fun s hs => by
    have : s.length ≤ tot ls := by
      rw [← flatten_tot]
      exact (List.sublist_flatten_of_mem hs).length_le
    omega
  have hr : ∀ w', Below w.heap.size w w' → SetsC w' a ls := fun w' hb => setsC_below hsets (Nat.le_refl _) hb
  have H1 := hide (union_any a cap ls (by omega) hl (fun _ => by omega) w hsets)
  have H2 := hide (fun w' (hb : Below w.heap.size w w') => rUnion_any a cap ls (by omega) hl (fun _ => by omega) w' (setsC_at (hr w' hb)))
  have H3 := hide (fun w' (hb : Below w.heap.size w w') => meet_any a cap ls (by omega) hl (fun _ => by omega) w' (setsC_at (hr w' hb)))
  have H4 := hide (fun w' (hb : Below w.heap.size w w') => rMeet_any a cap ls (by omega) hl (fun _ => by omega) w' (setsC_at (hr w' hb)))
  have hml := uniL_le ls
  have hnl := meetL_le ls
  generalize uniL ls = ML at *
  generalize uniC ls = MC at *
  generalize meetL ls = NL at *
  generalize meetC ls = NC at *
  clear hr hsets hl
  go_enter Tryd.func5, Tryd.ntmps5
  go_wp2_with fail
  refine (unhide H1).mono ?_
  rintro e w1 ⟨v1, rfl, hown1, hb1⟩
  have Hb1 := hide hb1; have Ho1 := hide hown1
  clear hb1 hown1
  go_wp2_with fail
  refine (unhide H2 _ (unhide Hb1)).mono ?_
  rintro e w2 ⟨v2, rfl, hown2, hb2⟩
  have Hr1 := hide (ownsRow_below (unhide Ho1) hb2 (Nat.le_refl _))
  have Hb2 := hide ((unhide Hb1).trans (below_le hb2 (unhide Hb1).size)); have Ho2 := hide hown2
  clear hb2 hown2 Ho1
  go_wp2_with fail
  refine (unhide H3 _ (unhide Hb2)).mono ?_
  rintro e w3 ⟨v3, rfl, hown3, hb3⟩
  have Hr1b := hide (ownsRow_below (unhide Hr1) hb3 (Nat.le_refl _))
  have Hr2b := hide (ownsRow_below (unhide Ho2) hb3 (Nat.le_refl _))
  have Hb3 := hide ((unhide Hb2).trans (below_le hb3 (unhide Hb2).size)); have Ho3 := hide hown3
  clear hb3 hown3 Hr1 Ho2
  go_wp2_with fail
  refine (unhide H4 _ (unhide Hb3)).mono ?_
  rintro e w4 ⟨v4, rfl, hown4, hb4⟩
  have o1 := ownsRow_below (unhide Hr1b) hb4 (Nat.le_refl _)
  have o2 := ownsRow_below (unhide Hr2b) hb4 (Nat.le_refl _)
  have o3 := ownsRow_below (unhide Ho3) hb4 (Nat.le_refl _)
  have o4 := hown4
  have Hb6 := hide ((unhide Hb3).trans (below_le hb4 (unhide Hb3).size))
  clear hb4 hown4 Hr1b Hr2b Ho3
  obtain ⟨a1, c1, rfl⟩ := ownsRow_slice o1
  obtain ⟨a2', c2, rfl⟩ := ownsRow_slice o2
  obtain ⟨a3, c3, rfl⟩ := ownsRow_slice o3
  obtain ⟨a4, c4, rfl⟩ := ownsRow_slice o4
  have HS1 := hide (same_any a1 a2' c1 c2 ML ML (by omega) (by omega) w4 (rowAt_own o1) (rowAt_own o2))
  have HS2 := hide (fun w' (hb : Below w4.heap.size w4 w') => same_any a3 a4 c3 c4 NL NL (by omega) (by omega) w' (rowAt_below (rowAt_own o3) (Nat.le_refl _) hb) (rowAt_below (rowAt_own o4) (Nat.le_refl _) hb))
  rw [decide_eq_true rfl] at HS1 HS2
  clear o1 o2 o3 o4 H1 H2 H3 H4
  go_wp2_with fail
  refine (unhide HS1).mono ?_
  rintro e w7 ⟨rfl, hb7⟩
  have HS3 := hide (unhide HS2 w7 hb7)
  have Hb7 := hide ((unhide Hb6).trans (below_le hb7 (unhide Hb6).size))
  clear hb7 HS2
  go_wp2_with fail
  refine (unhide HS3).mono ?_
  rintro e w8 ⟨rfl, hb8⟩
  have Hb8 := hide ((unhide Hb7).trans (below_le hb8 (unhide Hb7).size))
  clear hb8
  go_wp2_with fail
  refine (unhide HA _).mono ?_
  rintro e w9 ⟨rfl, hb9⟩
  have Hb9 := hide ((unhide Hb8).trans (below_le hb9 (unhide Hb8).size))
  clear hb9
  go_wp2
  go_ret
  exact ⟨rfl, unhide Hb9⟩
end Go.Proofs.YtkbhdojgdgiggaaDoor

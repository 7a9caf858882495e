/- The law RunesPairs, walked out of the contracts. -/
import Derived.Test.YtkbhdojgdgiggaaDoorV19
namespace Go.Proofs.YtkbhdojgdgiggaaDoor
open Go.RowKit

set_option maxHeartbeats 4000000 in
set_option maxRecDepth 100000 in
theorem runesPairs_walk (a a2 : Option Addr) (cap cap2 : Nat) (hcap : a2 = none → cap2 = 0) (l m : List Rng) (hl : l.length ≤ 281474976710656) (hm : m.length ≤ 281474976710656) (w : World) (hrow : RowAt w a l) (hrow2 : RowAt w a2 m) :
    Calls Tryd.prog 6 #[.slice a l.length cap, .slice a2 m.length cap2] w fun e w' => e = .returned (.bool true) ∧ Below w.heap.size w w' := by
  have HA := hide awake_any
  have hr1 : ∀ w', Below w.heap.size w w' → RowAt w' a l := fun w' hb => rowAt_below hrow (Nat.le_refl _) hb
  have hr2 : ∀ w', Below w.heap.size w w' → RowAt w' a2 m := fun w' hb => rowAt_below hrow2 (Nat.le_refl _) hb
  have H1 := hide (minus_any a a2 cap cap2 hcap l m hl hm w hrow hrow2)
  have H2 := hide (fun w' (hb : Below w.heap.size w w') => rMinus_any a a2 cap cap2 l m hl hm w' (hr1 w' hb) (hr2 w' hb))
  have H3 := hide (fun w' (hb : Below w.heap.size w w') => not_any a cap l hl w' (hr1 w' hb))
  have H4 := hide (fun w' (hb : Below w.heap.size w w') => rNot_any a cap l hl w' (hr1 w' hb))
  have H5 := hide (fun w' (hb : Below w.heap.size w w') => compare_law a a2 cap cap2 l m hl hm w' (hr1 w' hb) (hr2 w' hb))
  have H6 := hide (fun w' (hb : Below w.heap.size w w') => rCompare_law a a2 cap cap2 l m hl hm w' (hr1 w' hb) (hr2 w' hb))
  have hml : (minusL l m).length ≤ 2048 := by
    unfold minusL
    split
    · exact limL_le _
    · simp
  have hnl : (notL l).length ≤ 2048 := by
    unfold notL
    split
    · exact limL_le _
    · simp
  generalize minusL l m = ML at *
  generalize minusC l m = MC at *
  generalize notL l = NL at *
  generalize notC l = NC at *
  generalize cmpV l m = CV at *
  generalize cmpC l m = CC at *
  clear hr1 hr2 hrow hrow2
  go_enter Tryd.func6, Tryd.ntmps6
  go_wp2_with fail
  refine (unhide H1).mono ?_
  rintro e w1 ⟨v1, rfl, hown1, hb1⟩
  have Hb1 := hide hb1; have Ho1 := hide hown1
  clear hb1 hown1
  go_wp2_with fail
  refine (unhide H2 _ (unhide Hb1)).mono ?_
  rintro e w2 ⟨v2, rfl, hown2, hb2⟩
  have Hr1 := hide (ownsRow_below (unhide Ho1) hb2 (Nat.le_refl _))
  have Hb2 := hide ((unhide Hb1).trans (below_le hb2 (unhide Hb1).size)); have Ho2 := hide hown2
  clear hb2 hown2 Ho1
  go_wp2_with fail
  refine (unhide H3 _ (unhide Hb2)).mono ?_
  rintro e w3 ⟨v3, rfl, hown3, hb3⟩
  have Hr1b := hide (ownsRow_below (unhide Hr1) hb3 (Nat.le_refl _))
  have Hr2b := hide (ownsRow_below (unhide Ho2) hb3 (Nat.le_refl _))
  have Hb3 := hide ((unhide Hb2).trans (below_le hb3 (unhide Hb2).size)); have Ho3 := hide hown3
  clear hb3 hown3 Hr1 Ho2
  go_wp2_with fail
  refine (unhide H4 _ (unhide Hb3)).mono ?_
  rintro e w4 ⟨v4, rfl, hown4, hb4⟩
  have Hr1c := hide (ownsRow_below (unhide Hr1b) hb4 (Nat.le_refl _))
  have Hr2c := hide (ownsRow_below (unhide Hr2b) hb4 (Nat.le_refl _))
  have Hr3c := hide (ownsRow_below (unhide Ho3) hb4 (Nat.le_refl _))
  have Hb4 := hide ((unhide Hb3).trans (below_le hb4 (unhide Hb3).size)); have Ho4 := hide hown4
  clear hb4 hown4 Hr1b Hr2b Ho3
  go_wp2_with fail
  refine (unhide H5 _ (unhide Hb4)).mono ?_
  rintro e w5 ⟨rfl, hb5⟩
  have Hr1d := hide (ownsRow_below (unhide Hr1c) hb5 (Nat.le_refl _))
  have Hr2d := hide (ownsRow_below (unhide Hr2c) hb5 (Nat.le_refl _))
  have Hr3d := hide (ownsRow_below (unhide Hr3c) hb5 (Nat.le_refl _))
  have Hr4d := hide (ownsRow_below (unhide Ho4) hb5 (Nat.le_refl _))
  have Hb5 := hide ((unhide Hb4).trans (below_le hb5 (unhide Hb4).size))
  clear hb5 Hr1c Hr2c Hr3c Ho4
  go_wp2_with fail
  refine (unhide H6 _ (unhide Hb5)).mono ?_
  rintro e w6 ⟨rfl, hb6⟩
  have o1 := ownsRow_below (unhide Hr1d) hb6 (Nat.le_refl _)
  have o2 := ownsRow_below (unhide Hr2d) hb6 (Nat.le_refl _)
  have o3 := ownsRow_below (unhide Hr3d) hb6 (Nat.le_refl _)
  have o4 := ownsRow_below (unhide Hr4d) hb6 (Nat.le_refl _)
  have Hb6 := hide ((unhide Hb5).trans (below_le hb6 (unhide Hb5).size))
  clear hb6 Hr1d Hr2d Hr3d Hr4d
  obtain ⟨a1, c1, rfl⟩ := ownsRow_slice o1
  obtain ⟨a2', c2, rfl⟩ := ownsRow_slice o2
  obtain ⟨a3, c3, rfl⟩ := ownsRow_slice o3
  obtain ⟨a4, c4, rfl⟩ := ownsRow_slice o4
  have HS1 := hide (same_any a1 a2' c1 c2 ML ML (by omega) (by omega) w6 (rowAt_own o1) (rowAt_own o2))
  have HS2 := hide (fun w' (hb : Below w6.heap.size w6 w') => same_any a3 a4 c3 c4 NL NL (by omega) (by omega) w' (rowAt_below (rowAt_own o3) (Nat.le_refl _) hb) (rowAt_below (rowAt_own o4) (Nat.le_refl _) hb))
  rw [decide_eq_true rfl] at HS1 HS2
  clear o1 o2 o3 o4 H1 H2 H3 H4 H5 H6
  go_wp2_with fail
  refine (unhide HS1).mono ?_
  rintro e w7 ⟨rfl, hb7⟩
  have HS3 := hide (unhide HS2 w7 hb7)
  have Hb7 := hide ((unhide Hb6).trans (below_le hb7 (unhide Hb6).size))
  clear hb7 HS2
  go_wp2_with fail
  refine (unhide HS3).mono ?_
  rintro e w8 ⟨rfl, hb8⟩
  have Hb8 := hide ((unhide Hb7).trans (below_le hb8 (unhide Hb7).size))
  clear hb8
  go_wp2_with fail
  refine (unhide HA _).mono ?_
  rintro e w9 ⟨rfl, hb9⟩
  have Hb9 := hide ((unhide Hb8).trans (below_le hb9 (unhide Hb8).size))
  clear hb9
  go_wp2
  go_ret
  exact ⟨rfl, unhide Hb9⟩
end Go.Proofs.YtkbhdojgdgiggaaDoor

/- The law RunesChecks, walked out of the contracts. -/
import Derived.Test.YtkbhdojgdgiggaaDoorV9
namespace Go.Proofs.YtkbhdojgdgiggaaDoor
open Go.RowKit

set_option maxHeartbeats 2000000 in
set_option maxRecDepth 100000 in
theorem runesChecks_walk (a : Option Addr) (cap : Nat) (l : List Rng) (hl : l.length ≤ 281474976710656) (w : World) (hrow : RowAt w a l) :
    Calls Tryd.prog 3 #[.slice a l.length cap] w fun e w' => e = .returned (.bool true) ∧ Below w.heap.size w w' := by
  have HA := hide awake_any
  have H1 := hide (fun w' (hb : Below w.heap.size w w') => check_any a cap l hl w' (rowAt_below hrow (Nat.le_refl _) hb))
  have H2 := hide (fun w' (hb : Below w.heap.size w w') => rCheck_any a cap l hl w' (rowAt_below hrow (Nat.le_refl _) hb))
  have H3 := hide (fun w' (hb : Below w.heap.size w w') => size_any a cap l hl w' (rowAt_below hrow (Nat.le_refl _) hb))
  have H4 := hide (fun w' (hb : Below w.heap.size w w') => rSize_any a cap l hl w' (rowAt_below hrow (Nat.le_refl _) hb))
  generalize checkV l = c at *
  generalize sizeV l = s at *
  clear hrow
  have Hb0 := hide (Below.refl w.heap.size w)
  go_enter Tryd.func3, Tryd.ntmps3
  go_wp2_with fail
  refine (unhide H1 _ (unhide Hb0)).mono ?_
  rintro e w1 ⟨rfl, hb1⟩
  have Hb1 := hide ((unhide Hb0).trans (below_le hb1 (unhide Hb0).size))
  clear hb1
  go_wp2_with fail
  refine (unhide H2 _ (unhide Hb1)).mono ?_
  rintro e w2 ⟨rfl, hb2⟩
  have Hb2 := hide ((unhide Hb1).trans (below_le hb2 (unhide Hb1).size))
  clear hb2
  go_wp2_with fail
  refine (unhide H3 _ (unhide Hb2)).mono ?_
  rintro e w3 ⟨rfl, hb3⟩
  have Hb3 := hide ((unhide Hb2).trans (below_le hb3 (unhide Hb2).size))
  clear hb3
  go_wp2_with fail
  refine (unhide H4 _ (unhide Hb3)).mono ?_
  rintro e w4 ⟨rfl, hb4⟩
  have Hb4 := hide ((unhide Hb3).trans (below_le hb4 (unhide Hb3).size))
  clear hb4
  go_wp2_with fail
  refine (unhide HA _).mono ?_
  rintro e w5 ⟨rfl, hb5⟩
  have Hb5 := hide ((unhide Hb4).trans (below_le hb5 (unhide Hb4).size))
  clear hb5
  go_wp2
  go_ret
  exact ⟨rfl, unhide Hb5⟩
end Go.Proofs.YtkbhdojgdgiggaaDoor

/-
  DERIVED. GIVEN WITH THE SEED: THE CARDS: each row of YtieciibnajeibaaGreatDoorRows.lean that lists a variable, with what it lists TIED to the program's text (the seventh form; the later family's looks); each row that meets fmt, with fmt's text TOLD by the authors' own Lean function (tested against real Go, not proved from fmt's source: count such statements apart). THE CARD IS WHAT COUNTS. Prove the row's statement (the work); the ties are given (YtieciibnajeibaaGreatDoorTie.lean); close each card by the builder's one call (the guide's Derived/Test/ToyasCard.lean, 'card_holds'). Laid BY PROGRAM, IN A SANDBOX (cutbox-door.mjs). By AI agents, Wed Nov 11 2026. No macro, syntax, notation, axiom, sorry.
-/
import Derived.Test.YtieciibnajeibaaGreatDoorRows
import GoSem.ClaimSeven
namespace Go.Proofs.YtieciibnajeibaaGreatDoor
namespace Rows

/-- THE TIED CARD OF 'quoinlaw14.ItemsStates'. -/
def itemsStatesCard : Claim7 := { stood := { row := itemsStatesRow, standIns := [], harness := (true, "a739ba17a3642ad9522cf716a95e919a01f1902685fc0ff525ec3237d723b517"), looks := true }, kinds := [], alts := [], laidByText := true, laidKinds := [.data], laidTests := true, laidLooks := .later }
def ItemsStatesCardSaid : Prop := Claim7.holds Tryz.pinned (.plain (OpenSpec.ofChange itemsStatesSpec)) itemsStatesCard

/-- THE TIED CARD OF 'quoinlaw14.ItemsBuilds'. -/
def itemsBuildsCard : Claim7 := { stood := { row := itemsBuildsRow, standIns := [], harness := (true, "a739ba17a3642ad9522cf716a95e919a01f1902685fc0ff525ec3237d723b517"), looks := true }, kinds := [], alts := [], laidByText := true, laidKinds := [.data], laidTests := true, laidLooks := .later }
def ItemsBuildsCardSaid : Prop := Claim7.holds Tryz.pinned (.plain (OpenSpec.ofChange itemsBuildsSpec)) itemsBuildsCard

/-- THE TIED CARD OF 'quoinlaw14.ItemsRights'. -/
def itemsRightsCard : Claim7 := { stood := { row := itemsRightsRow, standIns := [], harness := (true, "a739ba17a3642ad9522cf716a95e919a01f1902685fc0ff525ec3237d723b517"), looks := true }, kinds := [], alts := [], laidByText := true, laidKinds := [.data], laidTests := true, laidLooks := .later }
def ItemsRightsCardSaid : Prop := Claim7.holds Tryz.pinned (.plain (OpenSpec.ofChange itemsRightsSpec)) itemsRightsCard

/-- THE TIED CARD OF 'quoinlaw14.ItemsAgain'. -/
def itemsAgainCard : Claim7 := { stood := { row := itemsAgainRow, standIns := [], harness := (true, "a739ba17a3642ad9522cf716a95e919a01f1902685fc0ff525ec3237d723b517"), looks := true }, kinds := [], alts := [], laidByText := true, laidKinds := [.data], laidTests := true, laidLooks := .later }
def ItemsAgainCardSaid : Prop := Claim7.holds Tryz.pinned (.plain (OpenSpec.ofChange itemsAgainSpec)) itemsAgainCard

/-- THE TIED CARD OF 'quoinlaw14.ItemsReached'. -/
def itemsReachedCard : Claim7 := { stood := { row := itemsReachedRow, standIns := [], harness := (true, "a739ba17a3642ad9522cf716a95e919a01f1902685fc0ff525ec3237d723b517"), looks := true }, kinds := [], alts := [], laidByText := true, laidKinds := [.data], laidTests := true, laidLooks := .later }
def ItemsReachedCardSaid : Prop := Claim7.holds Tryz.pinned (.plain (OpenSpec.ofChange itemsReachedSpec)) itemsReachedCard

/-- THE TIED CARD OF 'quoinlaw14.ItemsKernels'. -/
def itemsKernelsCard : Claim7 := { stood := { row := itemsKernelsRow, standIns := [], harness := (true, "a739ba17a3642ad9522cf716a95e919a01f1902685fc0ff525ec3237d723b517"), looks := true }, kinds := [], alts := [], laidByText := true, laidKinds := [.data], laidTests := true, laidLooks := .later }
def ItemsKernelsCardSaid : Prop := Claim7.holds Tryz.pinned (.plain (OpenSpec.ofChange itemsKernelsSpec)) itemsKernelsCard

/-- THE SECOND FORM's CARD OF 'quoinlaw14.ItemsStates'. -/
def itemsStatesUptoCard : Claim7 := { stood := { row := itemsStatesUptoRow, standIns := [], harness := (true, "a739ba17a3642ad9522cf716a95e919a01f1902685fc0ff525ec3237d723b517"), looks := true }, kinds := [], alts := [], laidByText := true, laidKinds := [.data], laidTests := true, laidLooks := .later }
def ItemsStatesUptoCardSaid : Prop := Claim7.holds Tryz.pinned (.plain (OpenSpec.upto itemsStatesSpec)) itemsStatesUptoCard

/-- THE SECOND FORM's CARD OF 'quoinlaw14.ItemsBuilds'. -/
def itemsBuildsUptoCard : Claim7 := { stood := { row := itemsBuildsUptoRow, standIns := [], harness := (true, "a739ba17a3642ad9522cf716a95e919a01f1902685fc0ff525ec3237d723b517"), looks := true }, kinds := [], alts := [], laidByText := true, laidKinds := [.data], laidTests := true, laidLooks := .later }
def ItemsBuildsUptoCardSaid : Prop := Claim7.holds Tryz.pinned (.plain (OpenSpec.upto itemsBuildsSpec)) itemsBuildsUptoCard

/-- THE SECOND FORM's CARD OF 'quoinlaw14.ItemsRights'. -/
def itemsRightsUptoCard : Claim7 := { stood := { row := itemsRightsUptoRow, standIns := [], harness := (true, "a739ba17a3642ad9522cf716a95e919a01f1902685fc0ff525ec3237d723b517"), looks := true }, kinds := [], alts := [], laidByText := true, laidKinds := [.data], laidTests := true, laidLooks := .later }
def ItemsRightsUptoCardSaid : Prop := Claim7.holds Tryz.pinned (.plain (OpenSpec.upto itemsRightsSpec)) itemsRightsUptoCard

/-- THE SECOND FORM's CARD OF 'quoinlaw14.ItemsAgain'. -/
def itemsAgainUptoCard : Claim7 := { stood := { row := itemsAgainUptoRow, standIns := [], harness := (true, "a739ba17a3642ad9522cf716a95e919a01f1902685fc0ff525ec3237d723b517"), looks := true }, kinds := [], alts := [], laidByText := true, laidKinds := [.data], laidTests := true, laidLooks := .later }
def ItemsAgainUptoCardSaid : Prop := Claim7.holds Tryz.pinned (.plain (OpenSpec.upto itemsAgainSpec)) itemsAgainUptoCard

/-- THE SECOND FORM's CARD OF 'quoinlaw14.ItemsReached'. -/
def itemsReachedUptoCard : Claim7 := { stood := { row := itemsReachedUptoRow, standIns := [], harness := (true, "a739ba17a3642ad9522cf716a95e919a01f1902685fc0ff525ec3237d723b517"), looks := true }, kinds := [], alts := [], laidByText := true, laidKinds := [.data], laidTests := true, laidLooks := .later }
def ItemsReachedUptoCardSaid : Prop := Claim7.holds Tryz.pinned (.plain (OpenSpec.upto itemsReachedSpec)) itemsReachedUptoCard

/-- THE SECOND FORM's CARD OF 'quoinlaw14.ItemsKernels'. -/
def itemsKernelsUptoCard : Claim7 := { stood := { row := itemsKernelsUptoRow, standIns := [], harness := (true, "a739ba17a3642ad9522cf716a95e919a01f1902685fc0ff525ec3237d723b517"), looks := true }, kinds := [], alts := [], laidByText := true, laidKinds := [.data], laidTests := true, laidLooks := .later }
def ItemsKernelsUptoCardSaid : Prop := Claim7.holds Tryz.pinned (.plain (OpenSpec.upto itemsKernelsSpec)) itemsKernelsUptoCard
end Rows
end Go.Proofs.YtieciibnajeibaaGreatDoor

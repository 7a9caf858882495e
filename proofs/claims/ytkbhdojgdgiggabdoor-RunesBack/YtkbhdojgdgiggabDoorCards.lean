/-
  DERIVED. GIVEN WITH THE SEED: THE CARDS: each row of YtkbhdojgdgiggabDoorRows.lean that lists a variable, with what it lists TIED to the program's text (the seventh form; the later family's looks); each row that meets fmt, with fmt's text TOLD by the authors' own Lean function (tested against real Go, not proved from fmt's source: count such statements apart). THE CARD IS WHAT COUNTS. Prove the row's statement (the work); the ties are given (YtkbhdojgdgiggabDoorTie.lean); close each card by the builder's one call (the guide's Derived/Test/ToyasCard.lean, 'card_holds'). Laid BY PROGRAM, IN A SANDBOX (cutbox-door.mjs). By AI agents, Wed Nov 11 2026. No macro, syntax, notation, axiom, sorry.
-/
import Derived.Test.YtkbhdojgdgiggabDoorRows
import GoSem.ClaimSeven
namespace Go.Proofs.YtkbhdojgdgiggabDoor
namespace Rows

/-- THE TIED CARD OF 'quoinlaw02.RunesAlgebra'. -/
def runesAlgebraCard : Claim7 := { stood := { row := runesAlgebraRow, standIns := [], harness := (true, "a352c65fd80c1f416ea9f13047b048949c9149dd6343c10a6b0c922b7661535b"), looks := false }, kinds := [], alts := [], laidByText := true, laidKinds := [.data, .data, .data], laidTests := true, laidLooks := .later }
def RunesAlgebraCardSaid : Prop := Claim7.holds Tryd.pinned (.plain (OpenSpec.ofChange runesAlgebraSpec)) runesAlgebraCard

/-- THE TIED CARD OF 'quoinlaw02.RunesSplits'. -/
def runesSplitsCard : Claim7 := { stood := { row := runesSplitsRow, standIns := [], harness := (true, "a352c65fd80c1f416ea9f13047b048949c9149dd6343c10a6b0c922b7661535b"), looks := false }, kinds := [], alts := [], laidByText := true, laidKinds := [.data, .data, .data], laidTests := true, laidLooks := .later }
def RunesSplitsCardSaid : Prop := Claim7.holds Tryd.pinned (.plain (OpenSpec.ofChange runesSplitsSpec)) runesSplitsCard

/-- THE TIED CARD OF 'quoinlaw02.RunesBack'. -/
def runesBackCard : Claim7 := { stood := { row := runesBackRow, standIns := [], harness := (true, "a352c65fd80c1f416ea9f13047b048949c9149dd6343c10a6b0c922b7661535b"), looks := false }, kinds := [], alts := [], laidByText := true, laidKinds := [.data, .data, .data, .data, .pinned], laidTests := true, laidLooks := .later }
def RunesBackCardSaid : Prop := Claim7.holds Tryd.pinned (.plain (OpenSpec.ofChange runesBackSpec)) runesBackCard

/-- THE TIED CARD OF 'quoinlaw02.RunesWalks'. -/
def runesWalksCard : Claim7 := { stood := { row := runesWalksRow, standIns := [], harness := (true, "a352c65fd80c1f416ea9f13047b048949c9149dd6343c10a6b0c922b7661535b"), looks := false }, kinds := [], alts := [], laidByText := true, laidKinds := [.data, .data, .data], laidTests := true, laidLooks := .later }
def RunesWalksCardSaid : Prop := Claim7.holds Tryd.pinned (.plain (OpenSpec.ofChange runesWalksSpec)) runesWalksCard

/-- THE TIED CARD OF 'quoinlaw02.RunesOwn'. -/
def runesOwnCard : Claim7 := { stood := { row := runesOwnRow, standIns := [], harness := (true, "a352c65fd80c1f416ea9f13047b048949c9149dd6343c10a6b0c922b7661535b"), looks := false }, kinds := [], alts := [], laidByText := true, laidKinds := [.data, .data, .data], laidTests := true, laidLooks := .later }
def RunesOwnCardSaid : Prop := Claim7.holds Tryd.pinned (.plain (OpenSpec.ofChange runesOwnSpec)) runesOwnCard

/-- THE SECOND FORM's CARD OF 'quoinlaw02.RunesAlgebra'. -/
def runesAlgebraUptoCard : Claim7 := { stood := { row := runesAlgebraUptoRow, standIns := [], harness := (true, "a352c65fd80c1f416ea9f13047b048949c9149dd6343c10a6b0c922b7661535b"), looks := false }, kinds := [], alts := [], laidByText := true, laidKinds := [.data, .data, .data], laidTests := true, laidLooks := .later }
def RunesAlgebraUptoCardSaid : Prop := Claim7.holds Tryd.pinned (.plain (OpenSpec.upto runesAlgebraSpec)) runesAlgebraUptoCard

/-- THE SECOND FORM's CARD OF 'quoinlaw02.RunesSplits'. -/
def runesSplitsUptoCard : Claim7 := { stood := { row := runesSplitsUptoRow, standIns := [], harness := (true, "a352c65fd80c1f416ea9f13047b048949c9149dd6343c10a6b0c922b7661535b"), looks := false }, kinds := [], alts := [], laidByText := true, laidKinds := [.data, .data, .data], laidTests := true, laidLooks := .later }
def RunesSplitsUptoCardSaid : Prop := Claim7.holds Tryd.pinned (.plain (OpenSpec.upto runesSplitsSpec)) runesSplitsUptoCard

/-- THE SECOND FORM's CARD OF 'quoinlaw02.RunesBack'. -/
def runesBackUptoCard : Claim7 := { stood := { row := runesBackUptoRow, standIns := [], harness := (true, "a352c65fd80c1f416ea9f13047b048949c9149dd6343c10a6b0c922b7661535b"), looks := false }, kinds := [], alts := [], laidByText := true, laidKinds := [.data, .data, .data, .data, .pinned], laidTests := true, laidLooks := .later }
def RunesBackUptoCardSaid : Prop := Claim7.holds Tryd.pinned (.plain (OpenSpec.upto runesBackSpec)) runesBackUptoCard

/-- THE SECOND FORM's CARD OF 'quoinlaw02.RunesWalks'. -/
def runesWalksUptoCard : Claim7 := { stood := { row := runesWalksUptoRow, standIns := [], harness := (true, "a352c65fd80c1f416ea9f13047b048949c9149dd6343c10a6b0c922b7661535b"), looks := false }, kinds := [], alts := [], laidByText := true, laidKinds := [.data, .data, .data], laidTests := true, laidLooks := .later }
def RunesWalksUptoCardSaid : Prop := Claim7.holds Tryd.pinned (.plain (OpenSpec.upto runesWalksSpec)) runesWalksUptoCard

/-- THE SECOND FORM's CARD OF 'quoinlaw02.RunesOwn'. -/
def runesOwnUptoCard : Claim7 := { stood := { row := runesOwnUptoRow, standIns := [], harness := (true, "a352c65fd80c1f416ea9f13047b048949c9149dd6343c10a6b0c922b7661535b"), looks := false }, kinds := [], alts := [], laidByText := true, laidKinds := [.data, .data, .data], laidTests := true, laidLooks := .later }
def RunesOwnUptoCardSaid : Prop := Claim7.holds Tryd.pinned (.plain (OpenSpec.upto runesOwnSpec)) runesOwnUptoCard
end Rows
end Go.Proofs.YtkbhdojgdgiggabDoor

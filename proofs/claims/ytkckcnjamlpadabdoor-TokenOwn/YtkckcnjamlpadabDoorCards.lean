/-
  DERIVED. GIVEN WITH THE SEED: THE CARDS: each row of YtkckcnjamlpadabDoorRows.lean that lists a variable, with what it lists TIED to the program's text (the seventh form; the later family's looks); each row that meets fmt, with fmt's text TOLD by the authors' own Lean function (tested against real Go, not proved from fmt's source: count such statements apart). THE CARD IS WHAT COUNTS. Prove the row's statement (the work); the ties are given (YtkckcnjamlpadabDoorTie.lean); close each card by the builder's one call (the guide's Derived/Test/ToyasCard.lean, 'card_holds'). Laid BY PROGRAM, IN A SANDBOX (cutbox-door.mjs). By AI agents, Wed Nov 11 2026. No macro, syntax, notation, axiom, sorry.
-/
import Derived.Test.YtkckcnjamlpadabDoorRows
import GoSem.ClaimSeven
namespace Go.Proofs.YtkckcnjamlpadabDoor
namespace Rows

/-- THE TIED CARD OF 'quoinlaw07.TokenTells'. -/
def tokenTellsCard : Claim7 := { stood := { row := tokenTellsRow, standIns := [], harness := (true, "fd3f37ab44648348573ca7e590520f3fc1712c39044cbc456eb66a3ac1a71f22"), looks := true }, kinds := [], alts := [], laidByText := true, laidKinds := [.data, .data, .data, .data, .sentinel, .sentinel, .pinned], laidTests := true, laidLooks := .later }
def TokenTellsCardSaid : Prop := Claim7.holds Tryd.pinned (.plain (OpenSpec.ofChange tokenTellsSpec)) tokenTellsCard

/-- THE TIED CARD OF 'quoinlaw07.TokenOwn'. -/
def tokenOwnCard : Claim7 := { stood := { row := tokenOwnRow, standIns := [], harness := (true, "fd3f37ab44648348573ca7e590520f3fc1712c39044cbc456eb66a3ac1a71f22"), looks := true }, kinds := [], alts := [], laidByText := true, laidKinds := [.data, .data, .data, .data, .sentinel, .sentinel, .pinned], laidTests := true, laidLooks := .later }
def TokenOwnCardSaid : Prop := Claim7.holds Tryd.pinned (.plain (OpenSpec.ofChange tokenOwnSpec)) tokenOwnCard

/-- THE SECOND FORM's CARD OF 'quoinlaw07.TokenTells'. -/
def tokenTellsUptoCard : Claim7 := { stood := { row := tokenTellsUptoRow, standIns := [], harness := (true, "fd3f37ab44648348573ca7e590520f3fc1712c39044cbc456eb66a3ac1a71f22"), looks := true }, kinds := [], alts := [], laidByText := true, laidKinds := [.data, .data, .data, .data, .sentinel, .sentinel, .pinned], laidTests := true, laidLooks := .later }
def TokenTellsUptoCardSaid : Prop := Claim7.holds Tryd.pinned (.plain (OpenSpec.upto tokenTellsSpec)) tokenTellsUptoCard

/-- THE SECOND FORM's CARD OF 'quoinlaw07.TokenOwn'. -/
def tokenOwnUptoCard : Claim7 := { stood := { row := tokenOwnUptoRow, standIns := [], harness := (true, "fd3f37ab44648348573ca7e590520f3fc1712c39044cbc456eb66a3ac1a71f22"), looks := true }, kinds := [], alts := [], laidByText := true, laidKinds := [.data, .data, .data, .data, .sentinel, .sentinel, .pinned], laidTests := true, laidLooks := .later }
def TokenOwnUptoCardSaid : Prop := Claim7.holds Tryd.pinned (.plain (OpenSpec.upto tokenOwnSpec)) tokenOwnUptoCard
end Rows
end Go.Proofs.YtkckcnjamlpadabDoor

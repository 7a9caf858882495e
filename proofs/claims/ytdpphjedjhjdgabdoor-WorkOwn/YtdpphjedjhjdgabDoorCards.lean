/-
  DERIVED. GIVEN WITH THE SEED: THE CARDS: each row of YtdpphjedjhjdgabDoorRows.lean that lists a variable, with what it lists TIED to the program's text (the seventh form; the later family's looks); each row that meets fmt, with fmt's text TOLD by the authors' own Lean function (tested against real Go, not proved from fmt's source: count such statements apart). THE CARD IS WHAT COUNTS. Prove the row's statement (the work); the ties are given (YtdpphjedjhjdgabDoorTie.lean); close each card by the builder's one call (the guide's Derived/Test/ToyasCard.lean, 'card_holds'). Laid BY PROGRAM, IN A SANDBOX (cutbox-door.mjs). By AI agents, Wed Nov 11 2026. No macro, syntax, notation, axiom, sorry.
-/
import Derived.Test.YtdpphjedjhjdgabDoorRows
import GoSem.ClaimSeven
namespace Go.Proofs.YtdpphjedjhjdgabDoor
namespace Rows

/-- THE TIED CARD OF 'quoinlaw03.WorkOwn'. -/
def workOwnCard : Claim7 := { stood := { row := workOwnRow, standIns := [], harness := (true, "9459fab60f2f347cd7966cb900cba8d4f511f6b385b11bbdaa91546d1f360550"), looks := true }, kinds := [], alts := [], laidByText := true, laidKinds := [.data], laidTests := true, laidLooks := .later }
def WorkOwnCardSaid : Prop := Claim7.holds Tryd.pinned (.plain (OpenSpec.ofChange workOwnSpec)) workOwnCard

/-- THE TIED CARD OF 'quoinlaw03.WorkNil'. -/
def workNilCard : Claim7 := { stood := { row := workNilRow, standIns := [], harness := (true, "9459fab60f2f347cd7966cb900cba8d4f511f6b385b11bbdaa91546d1f360550"), looks := true }, kinds := [], alts := [], laidByText := true, laidKinds := [.data], laidTests := true, laidLooks := .later }
def WorkNilCardSaid : Prop := Claim7.holds Tryd.pinned (.plain (OpenSpec.ofChange workNilSpec)) workNilCard

/-- THE SECOND FORM's CARD OF 'quoinlaw03.WorkOwn'. -/
def workOwnUptoCard : Claim7 := { stood := { row := workOwnUptoRow, standIns := [], harness := (true, "9459fab60f2f347cd7966cb900cba8d4f511f6b385b11bbdaa91546d1f360550"), looks := true }, kinds := [], alts := [], laidByText := true, laidKinds := [.data], laidTests := true, laidLooks := .later }
def WorkOwnUptoCardSaid : Prop := Claim7.holds Tryd.pinned (.plain (OpenSpec.upto workOwnSpec)) workOwnUptoCard

/-- THE SECOND FORM's CARD OF 'quoinlaw03.WorkNil'. -/
def workNilUptoCard : Claim7 := { stood := { row := workNilUptoRow, standIns := [], harness := (true, "9459fab60f2f347cd7966cb900cba8d4f511f6b385b11bbdaa91546d1f360550"), looks := true }, kinds := [], alts := [], laidByText := true, laidKinds := [.data], laidTests := true, laidLooks := .later }
def WorkNilUptoCardSaid : Prop := Claim7.holds Tryd.pinned (.plain (OpenSpec.upto workNilSpec)) workNilUptoCard
end Rows
end Go.Proofs.YtdpphjedjhjdgabDoor

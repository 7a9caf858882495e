/-
  DERIVED. GIVEN WITH THE SEED: THE CARDS: each row of YtkimhfajfbcdmaaGreatDoorRows.lean that lists a variable, with what it lists TIED to the program's text (the seventh form; the later family's looks); each row that meets fmt, with fmt's text TOLD by the authors' own Lean function (tested against real Go, not proved from fmt's source: count such statements apart). THE CARD IS WHAT COUNTS. Prove the row's statement (the work); the ties are given (YtkimhfajfbcdmaaGreatDoorTie.lean); close each card by the builder's one call (the guide's Derived/Test/ToyasCard.lean, 'card_holds'). Laid BY PROGRAM, IN A SANDBOX (cutbox-door.mjs). By AI agents, Wed Nov 11 2026. No macro, syntax, notation, axiom, sorry.
-/
import Derived.Test.YtkimhfajfbcdmaaGreatDoorRows
import GoSem.ClaimSeven
namespace Go.Proofs.YtkimhfajfbcdmaaGreatDoor
namespace Rows

/-- THE TIED CARD OF 'quoinlaw04.RegexWords'. -/
def regexWordsCard : Claim7 := { stood := { row := regexWordsRow, standIns := [], harness := (true, "ff1ecd0b0505fe219b84875d6e65bcdb91ab173392c45a7b697ed7f2b107052c"), looks := true }, kinds := [], alts := [], laidByText := true, laidKinds := [.data, .pinned], laidTests := true, laidLooks := .later }
def RegexWordsCardSaid : Prop := Claim7.holds Tryz.pinned (.plain (OpenSpec.ofChange regexWordsSpec)) regexWordsCard

/-- THE SECOND FORM's CARD OF 'quoinlaw04.RegexWords'. -/
def regexWordsUptoCard : Claim7 := { stood := { row := regexWordsUptoRow, standIns := [], harness := (true, "ff1ecd0b0505fe219b84875d6e65bcdb91ab173392c45a7b697ed7f2b107052c"), looks := true }, kinds := [], alts := [], laidByText := true, laidKinds := [.data, .pinned], laidTests := true, laidLooks := .later }
def RegexWordsUptoCardSaid : Prop := Claim7.holds Tryz.pinned (.plain (OpenSpec.upto regexWordsSpec)) regexWordsUptoCard
end Rows
end Go.Proofs.YtkimhfajfbcdmaaGreatDoor

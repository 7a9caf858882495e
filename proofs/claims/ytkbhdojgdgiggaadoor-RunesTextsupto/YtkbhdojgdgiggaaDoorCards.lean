/-
  DERIVED. GIVEN WITH THE SEED: THE CARDS: each row of YtkbhdojgdgiggaaDoorRows.lean that lists a variable, with what it lists TIED to the program's text (the seventh form; the later family's looks); each row that meets fmt, with fmt's text TOLD by the authors' own Lean function (tested against real Go, not proved from fmt's source: count such statements apart). THE CARD IS WHAT COUNTS. Prove the row's statement (the work); the ties are given (YtkbhdojgdgiggaaDoorTie.lean); close each card by the builder's one call (the guide's Derived/Test/ToyasCard.lean, 'card_holds'). Laid BY PROGRAM, IN A SANDBOX (cutbox-door.mjs). By AI agents, Wed Nov 11 2026. No macro, syntax, notation, axiom, sorry.
-/
import Derived.Test.YtkbhdojgdgiggaaDoorRows
import GoSem.ClaimSeven
namespace Go.Proofs.YtkbhdojgdgiggaaDoor
namespace Rows

/-- THE TIED CARD OF 'quoinlaw02.RunesChecks'. -/
def runesChecksCard : Claim7 := { stood := { row := runesChecksRow, standIns := [], harness := (true, "d53b07644ab63195481701c334fefbb045f4e8dd88d315502e1916a96a57306e"), looks := false }, kinds := [], alts := [], laidByText := true, laidKinds := [.data, .data, .data], laidTests := true, laidLooks := .later }
def RunesChecksCardSaid : Prop := Claim7.holds Tryd.pinned (.plain (OpenSpec.ofChange runesChecksSpec)) runesChecksCard

/-- THE TIED CARD OF 'quoinlaw02.RunesOf'. -/
def runesOfCard : Claim7 := { stood := { row := runesOfRow, standIns := [], harness := (true, "d53b07644ab63195481701c334fefbb045f4e8dd88d315502e1916a96a57306e"), looks := false }, kinds := [], alts := [], laidByText := true, laidKinds := [.data, .data, .data], laidTests := true, laidLooks := .later }
def RunesOfCardSaid : Prop := Claim7.holds Tryd.pinned (.plain (OpenSpec.ofChange runesOfSpec)) runesOfCard

/-- THE TIED CARD OF 'quoinlaw02.RunesSets'. -/
def runesSetsCard : Claim7 := { stood := { row := runesSetsRow, standIns := [], harness := (true, "d53b07644ab63195481701c334fefbb045f4e8dd88d315502e1916a96a57306e"), looks := false }, kinds := [], alts := [], laidByText := true, laidKinds := [.data, .data, .data], laidTests := true, laidLooks := .later }
def RunesSetsCardSaid : Prop := Claim7.holds Tryd.pinned (.plain (OpenSpec.ofChange runesSetsSpec)) runesSetsCard

/-- THE TIED CARD OF 'quoinlaw02.RunesPairs'. -/
def runesPairsCard : Claim7 := { stood := { row := runesPairsRow, standIns := [], harness := (true, "d53b07644ab63195481701c334fefbb045f4e8dd88d315502e1916a96a57306e"), looks := false }, kinds := [], alts := [], laidByText := true, laidKinds := [.data, .data, .data], laidTests := true, laidLooks := .later }
def RunesPairsCardSaid : Prop := Claim7.holds Tryd.pinned (.plain (OpenSpec.ofChange runesPairsSpec)) runesPairsCard

/-- THE TIED CARD OF 'quoinlaw02.RunesCuts'. -/
def runesCutsCard : Claim7 := { stood := { row := runesCutsRow, standIns := [], harness := (true, "d53b07644ab63195481701c334fefbb045f4e8dd88d315502e1916a96a57306e"), looks := false }, kinds := [], alts := [], laidByText := true, laidKinds := [.data, .data, .data], laidTests := true, laidLooks := .later }
def RunesCutsCardSaid : Prop := Claim7.holds Tryd.pinned (.plain (OpenSpec.ofChange runesCutsSpec)) runesCutsCard

/-- THE TIED CARD OF 'quoinlaw02.RunesTexts'. -/
def runesTextsCard : Claim7 := { stood := { row := runesTextsRow, standIns := [], harness := (true, "d53b07644ab63195481701c334fefbb045f4e8dd88d315502e1916a96a57306e"), looks := false }, kinds := [], alts := [], laidByText := true, laidKinds := [.data, .data, .data, .data, .pinned], laidTests := true, laidLooks := .later }
def RunesTextsCardSaid : Prop := Claim7.holds Tryd.pinned (.plain (OpenSpec.ofChange runesTextsSpec)) runesTextsCard

/-- THE SECOND FORM's CARD OF 'quoinlaw02.RunesChecks'. -/
def runesChecksUptoCard : Claim7 := { stood := { row := runesChecksUptoRow, standIns := [], harness := (true, "d53b07644ab63195481701c334fefbb045f4e8dd88d315502e1916a96a57306e"), looks := false }, kinds := [], alts := [], laidByText := true, laidKinds := [.data, .data, .data], laidTests := true, laidLooks := .later }
def RunesChecksUptoCardSaid : Prop := Claim7.holds Tryd.pinned (.plain (OpenSpec.upto runesChecksSpec)) runesChecksUptoCard

/-- THE SECOND FORM's CARD OF 'quoinlaw02.RunesOf'. -/
def runesOfUptoCard : Claim7 := { stood := { row := runesOfUptoRow, standIns := [], harness := (true, "d53b07644ab63195481701c334fefbb045f4e8dd88d315502e1916a96a57306e"), looks := false }, kinds := [], alts := [], laidByText := true, laidKinds := [.data, .data, .data], laidTests := true, laidLooks := .later }
def RunesOfUptoCardSaid : Prop := Claim7.holds Tryd.pinned (.plain (OpenSpec.upto runesOfSpec)) runesOfUptoCard

/-- THE SECOND FORM's CARD OF 'quoinlaw02.RunesSets'. -/
def runesSetsUptoCard : Claim7 := { stood := { row := runesSetsUptoRow, standIns := [], harness := (true, "d53b07644ab63195481701c334fefbb045f4e8dd88d315502e1916a96a57306e"), looks := false }, kinds := [], alts := [], laidByText := true, laidKinds := [.data, .data, .data], laidTests := true, laidLooks := .later }
def RunesSetsUptoCardSaid : Prop := Claim7.holds Tryd.pinned (.plain (OpenSpec.upto runesSetsSpec)) runesSetsUptoCard

/-- THE SECOND FORM's CARD OF 'quoinlaw02.RunesPairs'. -/
def runesPairsUptoCard : Claim7 := { stood := { row := runesPairsUptoRow, standIns := [], harness := (true, "d53b07644ab63195481701c334fefbb045f4e8dd88d315502e1916a96a57306e"), looks := false }, kinds := [], alts := [], laidByText := true, laidKinds := [.data, .data, .data], laidTests := true, laidLooks := .later }
def RunesPairsUptoCardSaid : Prop := Claim7.holds Tryd.pinned (.plain (OpenSpec.upto runesPairsSpec)) runesPairsUptoCard

/-- THE SECOND FORM's CARD OF 'quoinlaw02.RunesCuts'. -/
def runesCutsUptoCard : Claim7 := { stood := { row := runesCutsUptoRow, standIns := [], harness := (true, "d53b07644ab63195481701c334fefbb045f4e8dd88d315502e1916a96a57306e"), looks := false }, kinds := [], alts := [], laidByText := true, laidKinds := [.data, .data, .data], laidTests := true, laidLooks := .later }
def RunesCutsUptoCardSaid : Prop := Claim7.holds Tryd.pinned (.plain (OpenSpec.upto runesCutsSpec)) runesCutsUptoCard

/-- THE SECOND FORM's CARD OF 'quoinlaw02.RunesTexts'. -/
def runesTextsUptoCard : Claim7 := { stood := { row := runesTextsUptoRow, standIns := [], harness := (true, "d53b07644ab63195481701c334fefbb045f4e8dd88d315502e1916a96a57306e"), looks := false }, kinds := [], alts := [], laidByText := true, laidKinds := [.data, .data, .data, .data, .pinned], laidTests := true, laidLooks := .later }
def RunesTextsUptoCardSaid : Prop := Claim7.holds Tryd.pinned (.plain (OpenSpec.upto runesTextsSpec)) runesTextsUptoCard
end Rows
end Go.Proofs.YtkbhdojgdgiggaaDoor

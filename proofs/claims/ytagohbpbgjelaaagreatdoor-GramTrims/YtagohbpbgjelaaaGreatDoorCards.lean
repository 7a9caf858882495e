/-
  DERIVED. GIVEN WITH THE SEED: THE CARDS: each row of YtagohbpbgjelaaaGreatDoorRows.lean that lists a variable, with what it lists TIED to the program's text (the seventh form; the later family's looks); each row that meets fmt, with fmt's text TOLD by the authors' own Lean function (tested against real Go, not proved from fmt's source: count such statements apart). THE CARD IS WHAT COUNTS. Prove the row's statement (the work); the ties are given (YtagohbpbgjelaaaGreatDoorTie.lean); close each card by the builder's one call (the guide's Derived/Test/ToyasCard.lean, 'card_holds'). Laid BY PROGRAM, IN A SANDBOX (cutbox-door.mjs). By AI agents, Wed Nov 11 2026. No macro, syntax, notation, axiom, sorry.
-/
import Derived.Test.YtagohbpbgjelaaaGreatDoorRows
import GoSem.ClaimSeven
namespace Go.Proofs.YtagohbpbgjelaaaGreatDoor
namespace Rows

/-- THE TIED CARD OF 'quoinlaw12.GramLooks'. -/
def gramLooksCard : Claim7 := { stood := { row := gramLooksRow, standIns := [], harness := (true, "1d55084ee10096bcf166b0d9870a2667942ec85c5f0940f807b39d222bdceaa9"), looks := true }, kinds := [], alts := [], laidByText := true, laidKinds := [.data], laidTests := true, laidLooks := .later }
def GramLooksCardSaid : Prop := Claim7.holds Tryz.pinned (.plain (OpenSpec.ofChange gramLooksSpec)) gramLooksCard

/-- THE TIED CARD OF 'quoinlaw12.GramTrims'. -/
def gramTrimsCard : Claim7 := { stood := { row := gramTrimsRow, standIns := [], harness := (true, "1d55084ee10096bcf166b0d9870a2667942ec85c5f0940f807b39d222bdceaa9"), looks := true }, kinds := [], alts := [], laidByText := true, laidKinds := [.data], laidTests := true, laidLooks := .later }
def GramTrimsCardSaid : Prop := Claim7.holds Tryz.pinned (.plain (OpenSpec.ofChange gramTrimsSpec)) gramTrimsCard

/-- THE TIED CARD OF 'quoinlaw12.GramLeasts'. -/
def gramLeastsCard : Claim7 := { stood := { row := gramLeastsRow, standIns := [], harness := (true, "1d55084ee10096bcf166b0d9870a2667942ec85c5f0940f807b39d222bdceaa9"), looks := true }, kinds := [], alts := [], laidByText := true, laidKinds := [.data], laidTests := true, laidLooks := .later }
def GramLeastsCardSaid : Prop := Claim7.holds Tryz.pinned (.plain (OpenSpec.ofChange gramLeastsSpec)) gramLeastsCard

/-- THE TIED CARD OF 'quoinlaw12.GramAgrees'. -/
def gramAgreesCard : Claim7 := { stood := { row := gramAgreesRow, standIns := [], harness := (true, "1d55084ee10096bcf166b0d9870a2667942ec85c5f0940f807b39d222bdceaa9"), looks := true }, kinds := [], alts := [], laidByText := true, laidKinds := [.data], laidTests := true, laidLooks := .later }
def GramAgreesCardSaid : Prop := Claim7.holds Tryz.pinned (.plain (OpenSpec.ofChange gramAgreesSpec)) gramAgreesCard

/-- THE TIED CARD OF 'quoinlaw12.GramTrimmed'. -/
def gramTrimmedCard : Claim7 := { stood := { row := gramTrimmedRow, standIns := [], harness := (true, "1d55084ee10096bcf166b0d9870a2667942ec85c5f0940f807b39d222bdceaa9"), looks := true }, kinds := [], alts := [], laidByText := true, laidKinds := [.data], laidTests := true, laidLooks := .later }
def GramTrimmedCardSaid : Prop := Claim7.holds Tryz.pinned (.plain (OpenSpec.ofChange gramTrimmedSpec)) gramTrimmedCard

/-- THE TIED CARD OF 'quoinlaw12.GramFirsts'. -/
def gramFirstsCard : Claim7 := { stood := { row := gramFirstsRow, standIns := [], harness := (true, "1d55084ee10096bcf166b0d9870a2667942ec85c5f0940f807b39d222bdceaa9"), looks := true }, kinds := [], alts := [], laidByText := true, laidKinds := [.data], laidTests := true, laidLooks := .later }
def GramFirstsCardSaid : Prop := Claim7.holds Tryz.pinned (.plain (OpenSpec.ofChange gramFirstsSpec)) gramFirstsCard

/-- THE SECOND FORM's CARD OF 'quoinlaw12.GramLooks'. -/
def gramLooksUptoCard : Claim7 := { stood := { row := gramLooksUptoRow, standIns := [], harness := (true, "1d55084ee10096bcf166b0d9870a2667942ec85c5f0940f807b39d222bdceaa9"), looks := true }, kinds := [], alts := [], laidByText := true, laidKinds := [.data], laidTests := true, laidLooks := .later }
def GramLooksUptoCardSaid : Prop := Claim7.holds Tryz.pinned (.plain (OpenSpec.upto gramLooksSpec)) gramLooksUptoCard

/-- THE SECOND FORM's CARD OF 'quoinlaw12.GramTrims'. -/
def gramTrimsUptoCard : Claim7 := { stood := { row := gramTrimsUptoRow, standIns := [], harness := (true, "1d55084ee10096bcf166b0d9870a2667942ec85c5f0940f807b39d222bdceaa9"), looks := true }, kinds := [], alts := [], laidByText := true, laidKinds := [.data], laidTests := true, laidLooks := .later }
def GramTrimsUptoCardSaid : Prop := Claim7.holds Tryz.pinned (.plain (OpenSpec.upto gramTrimsSpec)) gramTrimsUptoCard

/-- THE SECOND FORM's CARD OF 'quoinlaw12.GramLeasts'. -/
def gramLeastsUptoCard : Claim7 := { stood := { row := gramLeastsUptoRow, standIns := [], harness := (true, "1d55084ee10096bcf166b0d9870a2667942ec85c5f0940f807b39d222bdceaa9"), looks := true }, kinds := [], alts := [], laidByText := true, laidKinds := [.data], laidTests := true, laidLooks := .later }
def GramLeastsUptoCardSaid : Prop := Claim7.holds Tryz.pinned (.plain (OpenSpec.upto gramLeastsSpec)) gramLeastsUptoCard

/-- THE SECOND FORM's CARD OF 'quoinlaw12.GramAgrees'. -/
def gramAgreesUptoCard : Claim7 := { stood := { row := gramAgreesUptoRow, standIns := [], harness := (true, "1d55084ee10096bcf166b0d9870a2667942ec85c5f0940f807b39d222bdceaa9"), looks := true }, kinds := [], alts := [], laidByText := true, laidKinds := [.data], laidTests := true, laidLooks := .later }
def GramAgreesUptoCardSaid : Prop := Claim7.holds Tryz.pinned (.plain (OpenSpec.upto gramAgreesSpec)) gramAgreesUptoCard

/-- THE SECOND FORM's CARD OF 'quoinlaw12.GramTrimmed'. -/
def gramTrimmedUptoCard : Claim7 := { stood := { row := gramTrimmedUptoRow, standIns := [], harness := (true, "1d55084ee10096bcf166b0d9870a2667942ec85c5f0940f807b39d222bdceaa9"), looks := true }, kinds := [], alts := [], laidByText := true, laidKinds := [.data], laidTests := true, laidLooks := .later }
def GramTrimmedUptoCardSaid : Prop := Claim7.holds Tryz.pinned (.plain (OpenSpec.upto gramTrimmedSpec)) gramTrimmedUptoCard

/-- THE SECOND FORM's CARD OF 'quoinlaw12.GramFirsts'. -/
def gramFirstsUptoCard : Claim7 := { stood := { row := gramFirstsUptoRow, standIns := [], harness := (true, "1d55084ee10096bcf166b0d9870a2667942ec85c5f0940f807b39d222bdceaa9"), looks := true }, kinds := [], alts := [], laidByText := true, laidKinds := [.data], laidTests := true, laidLooks := .later }
def GramFirstsUptoCardSaid : Prop := Claim7.holds Tryz.pinned (.plain (OpenSpec.upto gramFirstsSpec)) gramFirstsUptoCard
end Rows
end Go.Proofs.YtagohbpbgjelaaaGreatDoor

/-
  NARROWER THAN 'FOR EVERY INPUT', by the rows' own cells (each row's printed sentence says how): ItemsStates: loops, laid · ItemsBuilds: loops, laid · ItemsRights: loops, laid · ItemsAgain: loops, laid · ItemsReached: loops, laid · ItemsKernels: loops, laid.
  DERIVED. THE GIVEN ROWS OF THIS SEAT. 6 by the template 'for every input the law returns true; each argument reads behind the call as it read before'; 0 by the template 'total and deterministic' (their statements: YtieciibnajeibaaGreatDoorTotals.lean).
  GIVEN WITH THE SEED: the statements are not yours to turn. If you find one false, say at which input.
  Laid BY PROGRAM, IN A SANDBOX (cutbox-rows.mjs): the forced cells as the released guide's own fill.sh prints them over the translation 37a8c710bd72eddd… (all of the seat's roots in one cut). By AI agents, Wed Nov 11 2026. No macro, syntax, notation, axiom, sorry.
-/
import Derived.Test.YtieciibnajeibaaGreatDoorChecked
import GoSem.Claim
import GoSem.ClaimJoined
import GoSem.ClaimMapViews
import Derived.JoinedTies
import Derived.KernelRfl
namespace Go.Proofs.YtieciibnajeibaaGreatDoor
/- THE CELL 'sum', in the pinned program and in every row, IS THE sha256 OF THE DUMP (.gsa) THAT YtieciibnajeibaaGreatDoorProg.lean LOADS. Nothing in Lean hashes anything: it is a label: what it is worth is what the hold of that sum in a sandbox is worth. -/
noncomputable def Tryz.pinned : Pinned := { name := "ytieciibnajeibaagreatdoor", sum := "37a8c710bd72eddda0e469dec91fab8d2eacc3be4f92b82dec5d75677d1f98ae", checked := Tryz.checked }
namespace Rows
def none {H : Type} : Left H := { results := [], args := [] }

/- WHAT THE LISTED PACKAGE-LEVEL VARIABLES READ AS WHEN THE CALL BEGINS. Each datum BY PROGRAM (the guide's laid-datum.mjs) off the statement by which the dump's own 'gosem.cut.vars' lays the variable. In a bare row this is a premise. The card (YtieciibnajeibaaGreatDoorCards.lean) ties it to the program's text. -/
def laid_math_bits_deBruijn64tab {H : Type} : DataW H := .agg [.lit (.int .u8 0), .lit (.int .u8 1), .lit (.int .u8 56), .lit (.int .u8 2), .lit (.int .u8 57), .lit (.int .u8 49), .lit (.int .u8 28), .lit (.int .u8 3), .lit (.int .u8 61), .lit (.int .u8 58), .lit (.int .u8 42), .lit (.int .u8 50), .lit (.int .u8 38), .lit (.int .u8 29), .lit (.int .u8 17), .lit (.int .u8 4), .lit (.int .u8 62), .lit (.int .u8 47), .lit (.int .u8 59), .lit (.int .u8 36), .lit (.int .u8 45), .lit (.int .u8 43), .lit (.int .u8 51), .lit (.int .u8 22), .lit (.int .u8 53), .lit (.int .u8 39), .lit (.int .u8 33), .lit (.int .u8 30), .lit (.int .u8 24), .lit (.int .u8 18), .lit (.int .u8 12), .lit (.int .u8 5), .lit (.int .u8 63), .lit (.int .u8 55), .lit (.int .u8 48), .lit (.int .u8 27), .lit (.int .u8 60), .lit (.int .u8 41), .lit (.int .u8 37), .lit (.int .u8 16), .lit (.int .u8 46), .lit (.int .u8 35), .lit (.int .u8 44), .lit (.int .u8 21), .lit (.int .u8 52), .lit (.int .u8 32), .lit (.int .u8 23), .lit (.int .u8 11), .lit (.int .u8 54), .lit (.int .u8 26), .lit (.int .u8 40), .lit (.int .u8 15), .lit (.int .u8 34), .lit (.int .u8 20), .lit (.int .u8 31), .lit (.int .u8 10), .lit (.int .u8 25), .lit (.int .u8 14), .lit (.int .u8 19), .lit (.int .u8 9), .lit (.int .u8 13), .lit (.int .u8 8), .lit (.int .u8 7), .lit (.int .u8 6)]

/-- 'quoinlaw14.ItemsStates': WHATEVER THE INPUT: true; the input reads as it did. -/
def itemsStatesSpec : ChangeSpec := { name := "itemsStates", fn := fun _ => fun
  | [d1, d2, d3] => { results := [.lit (.bool true)], args := [d1, d2, d3] }
  | _ => none }
def itemsStatesRow : OpenClaim := { program := "ytieciibnajeibaagreatdoor", sum := "37a8c710bd72eddda0e469dec91fab8d2eacc3be4f92b82dec5d75677d1f98ae", func := "quoin/quoinlaw14.ItemsStates", spec := "itemsStates", inPlace := ["slices.overlaps[quoin/work.block]", "internal/abi.NoEscape"], unfollowed := true, recurses := true, named := ["math/bits.deBruijn64tab"], loops := true, apart := false, laid := [("math/bits.deBruijn64tab", laid_math_bits_deBruijn64tab)] }
def ItemsStatesSaid : Prop := itemsStatesRow.holds Tryz.pinned (OpenSpec.ofChange itemsStatesSpec)

/-- ITS FALSE NEIGHBOUR: 'it returns false'. Refute it at one input. -/
def itemsStatesWrong : ChangeSpec := { name := "itemsStates", fn := fun _ => fun
  | [d1, d2, d3] => { results := [.lit (.bool false)], args := [d1, d2, d3] }
  | _ => none }
def ItemsStatesWrongFalsely : Prop := itemsStatesRow.holds Tryz.pinned (OpenSpec.ofChange itemsStatesWrong)

/-- 'quoinlaw14.ItemsBuilds': WHATEVER THE INPUT: true; the input reads as it did. -/
def itemsBuildsSpec : ChangeSpec := { name := "itemsBuilds", fn := fun _ => fun
  | [d] => { results := [.lit (.bool true)], args := [d] }
  | _ => none }
def itemsBuildsRow : OpenClaim := { program := "ytieciibnajeibaagreatdoor", sum := "37a8c710bd72eddda0e469dec91fab8d2eacc3be4f92b82dec5d75677d1f98ae", func := "quoin/quoinlaw14.ItemsBuilds", spec := "itemsBuilds", inPlace := ["slices.overlaps[quoin/work.block]"], unfollowed := true, recurses := true, named := ["math/bits.deBruijn64tab"], loops := true, apart := false, laid := [("math/bits.deBruijn64tab", laid_math_bits_deBruijn64tab)] }
def ItemsBuildsSaid : Prop := itemsBuildsRow.holds Tryz.pinned (OpenSpec.ofChange itemsBuildsSpec)

/-- ITS FALSE NEIGHBOUR: 'it returns false'. Refute it at one input. -/
def itemsBuildsWrong : ChangeSpec := { name := "itemsBuilds", fn := fun _ => fun
  | [d] => { results := [.lit (.bool false)], args := [d] }
  | _ => none }
def ItemsBuildsWrongFalsely : Prop := itemsBuildsRow.holds Tryz.pinned (OpenSpec.ofChange itemsBuildsWrong)

/-- 'quoinlaw14.ItemsRights': WHATEVER THE INPUT: true; the input reads as it did. -/
def itemsRightsSpec : ChangeSpec := { name := "itemsRights", fn := fun _ => fun
  | [d1, d2, d3] => { results := [.lit (.bool true)], args := [d1, d2, d3] }
  | _ => none }
def itemsRightsRow : OpenClaim := { program := "ytieciibnajeibaagreatdoor", sum := "37a8c710bd72eddda0e469dec91fab8d2eacc3be4f92b82dec5d75677d1f98ae", func := "quoin/quoinlaw14.ItemsRights", spec := "itemsRights", inPlace := ["slices.overlaps[quoin/work.block]"], unfollowed := true, recurses := true, named := ["math/bits.deBruijn64tab"], loops := true, apart := false, laid := [("math/bits.deBruijn64tab", laid_math_bits_deBruijn64tab)] }
def ItemsRightsSaid : Prop := itemsRightsRow.holds Tryz.pinned (OpenSpec.ofChange itemsRightsSpec)

/-- ITS FALSE NEIGHBOUR: 'it returns false'. Refute it at one input. -/
def itemsRightsWrong : ChangeSpec := { name := "itemsRights", fn := fun _ => fun
  | [d1, d2, d3] => { results := [.lit (.bool false)], args := [d1, d2, d3] }
  | _ => none }
def ItemsRightsWrongFalsely : Prop := itemsRightsRow.holds Tryz.pinned (OpenSpec.ofChange itemsRightsWrong)

/-- 'quoinlaw14.ItemsAgain': WHATEVER THE INPUT: true; the input reads as it did. -/
def itemsAgainSpec : ChangeSpec := { name := "itemsAgain", fn := fun _ => fun
  | [d1, d2, d3] => { results := [.lit (.bool true)], args := [d1, d2, d3] }
  | _ => none }
def itemsAgainRow : OpenClaim := { program := "ytieciibnajeibaagreatdoor", sum := "37a8c710bd72eddda0e469dec91fab8d2eacc3be4f92b82dec5d75677d1f98ae", func := "quoin/quoinlaw14.ItemsAgain", spec := "itemsAgain", inPlace := ["slices.overlaps[quoin/work.block]"], unfollowed := true, recurses := true, named := ["math/bits.deBruijn64tab"], loops := true, apart := false, laid := [("math/bits.deBruijn64tab", laid_math_bits_deBruijn64tab)] }
def ItemsAgainSaid : Prop := itemsAgainRow.holds Tryz.pinned (OpenSpec.ofChange itemsAgainSpec)

/-- ITS FALSE NEIGHBOUR: 'it returns false'. Refute it at one input. -/
def itemsAgainWrong : ChangeSpec := { name := "itemsAgain", fn := fun _ => fun
  | [d1, d2, d3] => { results := [.lit (.bool false)], args := [d1, d2, d3] }
  | _ => none }
def ItemsAgainWrongFalsely : Prop := itemsAgainRow.holds Tryz.pinned (OpenSpec.ofChange itemsAgainWrong)

/-- 'quoinlaw14.ItemsReached': WHATEVER THE INPUT: true; the input reads as it did. -/
def itemsReachedSpec : ChangeSpec := { name := "itemsReached", fn := fun _ => fun
  | [d] => { results := [.lit (.bool true)], args := [d] }
  | _ => none }
def itemsReachedRow : OpenClaim := { program := "ytieciibnajeibaagreatdoor", sum := "37a8c710bd72eddda0e469dec91fab8d2eacc3be4f92b82dec5d75677d1f98ae", func := "quoin/quoinlaw14.ItemsReached", spec := "itemsReached", inPlace := ["slices.overlaps[quoin/work.block]"], unfollowed := true, recurses := true, named := ["math/bits.deBruijn64tab"], loops := true, apart := false, laid := [("math/bits.deBruijn64tab", laid_math_bits_deBruijn64tab)] }
def ItemsReachedSaid : Prop := itemsReachedRow.holds Tryz.pinned (OpenSpec.ofChange itemsReachedSpec)

/-- ITS FALSE NEIGHBOUR: 'it returns false'. Refute it at one input. -/
def itemsReachedWrong : ChangeSpec := { name := "itemsReached", fn := fun _ => fun
  | [d] => { results := [.lit (.bool false)], args := [d] }
  | _ => none }
def ItemsReachedWrongFalsely : Prop := itemsReachedRow.holds Tryz.pinned (OpenSpec.ofChange itemsReachedWrong)

/-- 'quoinlaw14.ItemsKernels': WHATEVER THE INPUT: true; the input reads as it did. -/
def itemsKernelsSpec : ChangeSpec := { name := "itemsKernels", fn := fun _ => fun
  | [d] => { results := [.lit (.bool true)], args := [d] }
  | _ => none }
def itemsKernelsRow : OpenClaim := { program := "ytieciibnajeibaagreatdoor", sum := "37a8c710bd72eddda0e469dec91fab8d2eacc3be4f92b82dec5d75677d1f98ae", func := "quoin/quoinlaw14.ItemsKernels", spec := "itemsKernels", inPlace := ["slices.overlaps[quoin/work.block]"], unfollowed := true, recurses := true, named := ["math/bits.deBruijn64tab"], loops := true, apart := false, laid := [("math/bits.deBruijn64tab", laid_math_bits_deBruijn64tab)] }
def ItemsKernelsSaid : Prop := itemsKernelsRow.holds Tryz.pinned (OpenSpec.ofChange itemsKernelsSpec)

/-- ITS FALSE NEIGHBOUR: 'it returns false'. Refute it at one input. -/
def itemsKernelsWrong : ChangeSpec := { name := "itemsKernels", fn := fun _ => fun
  | [d] => { results := [.lit (.bool false)], args := [d] }
  | _ => none }
def ItemsKernelsWrongFalsely : Prop := itemsKernelsRow.holds Tryz.pinned (OpenSpec.ofChange itemsKernelsWrong)

/- THE SECOND FORM. 'bulk': how many values and letters a reading holds, each counted each time it is reached (what is shared counts as often as it is met; a slice's spare places count too). A statement '..UptoSaid' is the law's where the arguments, and the package variables that the reading takes, are together of bulk at most 1048576: NARROWER than '..Said'. Prove '..Said' where nothing that the law and all that it calls make is longer than what came in: it says more and counts as full. Else prove '..UptoSaid'. A law counts once. -/
mutual
def uptoBulk {H : Type} : DataW H → Nat
  | .lit (.string bytes) => bytes.length + 1
  | .lit _ => 1
  | .nil => 1
  | .ptr d => uptoBulk d + 1
  | .slice elems spare => uptoBulkAll elems + uptoBulkAll spare + 1
  | .agg parts => uptoBulkAll parts + 1
  | .iface _ d => uptoBulk d + 1
  | .map entries => uptoBulkEntries entries + 1
  | .held _ => 1
def uptoBulkAll {H : Type} : List (DataW H) → Nat
  | [] => 0
  | d :: r => uptoBulk d + uptoBulkAll r
def uptoBulkEntries {H : Type} : List (Lit × DataW H) → Nat
  | [] => 0
  | x :: r => uptoBulkEntry x + uptoBulkEntries r
def uptoBulkEntry {H : Type} : Lit × DataW H → Nat
  | (.string bytes, d) => bytes.length + uptoBulk d + 1
  | (_, d) => uptoBulk d + 1
 end
def uptoSmall : (H : Type) → List (DataW H) → Bool := fun _ ds => decide (uptoBulkAll ds ≤ 1048576)
def OpenSpec.upto (s : _root_.Go.ChangeSpec) : _root_.Go.OpenSpec := { _root_.Go.OpenSpec.ofChange s with cond := some uptoSmall }

/-- 'quoinlaw14.ItemsStates', WHERE WHAT IT READS IS OF BULK AT MOST 1048576: true; the input reads as it did. -/
def itemsStatesUptoRow : OpenClaim := { program := "ytieciibnajeibaagreatdoor", sum := "37a8c710bd72eddda0e469dec91fab8d2eacc3be4f92b82dec5d75677d1f98ae", func := "quoin/quoinlaw14.ItemsStates", spec := "itemsStates", inPlace := ["slices.overlaps[quoin/work.block]", "internal/abi.NoEscape"], unfollowed := true, recurses := true, named := ["math/bits.deBruijn64tab"], loops := true, apart := false, laid := [("math/bits.deBruijn64tab", laid_math_bits_deBruijn64tab)], narrowed := true }
def ItemsStatesUptoSaid : Prop := itemsStatesUptoRow.holds Tryz.pinned (OpenSpec.upto itemsStatesSpec)

/-- 'quoinlaw14.ItemsBuilds', WHERE WHAT IT READS IS OF BULK AT MOST 1048576: true; the input reads as it did. -/
def itemsBuildsUptoRow : OpenClaim := { program := "ytieciibnajeibaagreatdoor", sum := "37a8c710bd72eddda0e469dec91fab8d2eacc3be4f92b82dec5d75677d1f98ae", func := "quoin/quoinlaw14.ItemsBuilds", spec := "itemsBuilds", inPlace := ["slices.overlaps[quoin/work.block]"], unfollowed := true, recurses := true, named := ["math/bits.deBruijn64tab"], loops := true, apart := false, laid := [("math/bits.deBruijn64tab", laid_math_bits_deBruijn64tab)], narrowed := true }
def ItemsBuildsUptoSaid : Prop := itemsBuildsUptoRow.holds Tryz.pinned (OpenSpec.upto itemsBuildsSpec)

/-- 'quoinlaw14.ItemsRights', WHERE WHAT IT READS IS OF BULK AT MOST 1048576: true; the input reads as it did. -/
def itemsRightsUptoRow : OpenClaim := { program := "ytieciibnajeibaagreatdoor", sum := "37a8c710bd72eddda0e469dec91fab8d2eacc3be4f92b82dec5d75677d1f98ae", func := "quoin/quoinlaw14.ItemsRights", spec := "itemsRights", inPlace := ["slices.overlaps[quoin/work.block]"], unfollowed := true, recurses := true, named := ["math/bits.deBruijn64tab"], loops := true, apart := false, laid := [("math/bits.deBruijn64tab", laid_math_bits_deBruijn64tab)], narrowed := true }
def ItemsRightsUptoSaid : Prop := itemsRightsUptoRow.holds Tryz.pinned (OpenSpec.upto itemsRightsSpec)

/-- 'quoinlaw14.ItemsAgain', WHERE WHAT IT READS IS OF BULK AT MOST 1048576: true; the input reads as it did. -/
def itemsAgainUptoRow : OpenClaim := { program := "ytieciibnajeibaagreatdoor", sum := "37a8c710bd72eddda0e469dec91fab8d2eacc3be4f92b82dec5d75677d1f98ae", func := "quoin/quoinlaw14.ItemsAgain", spec := "itemsAgain", inPlace := ["slices.overlaps[quoin/work.block]"], unfollowed := true, recurses := true, named := ["math/bits.deBruijn64tab"], loops := true, apart := false, laid := [("math/bits.deBruijn64tab", laid_math_bits_deBruijn64tab)], narrowed := true }
def ItemsAgainUptoSaid : Prop := itemsAgainUptoRow.holds Tryz.pinned (OpenSpec.upto itemsAgainSpec)

/-- 'quoinlaw14.ItemsReached', WHERE WHAT IT READS IS OF BULK AT MOST 1048576: true; the input reads as it did. -/
def itemsReachedUptoRow : OpenClaim := { program := "ytieciibnajeibaagreatdoor", sum := "37a8c710bd72eddda0e469dec91fab8d2eacc3be4f92b82dec5d75677d1f98ae", func := "quoin/quoinlaw14.ItemsReached", spec := "itemsReached", inPlace := ["slices.overlaps[quoin/work.block]"], unfollowed := true, recurses := true, named := ["math/bits.deBruijn64tab"], loops := true, apart := false, laid := [("math/bits.deBruijn64tab", laid_math_bits_deBruijn64tab)], narrowed := true }
def ItemsReachedUptoSaid : Prop := itemsReachedUptoRow.holds Tryz.pinned (OpenSpec.upto itemsReachedSpec)

/-- 'quoinlaw14.ItemsKernels', WHERE WHAT IT READS IS OF BULK AT MOST 1048576: true; the input reads as it did. -/
def itemsKernelsUptoRow : OpenClaim := { program := "ytieciibnajeibaagreatdoor", sum := "37a8c710bd72eddda0e469dec91fab8d2eacc3be4f92b82dec5d75677d1f98ae", func := "quoin/quoinlaw14.ItemsKernels", spec := "itemsKernels", inPlace := ["slices.overlaps[quoin/work.block]"], unfollowed := true, recurses := true, named := ["math/bits.deBruijn64tab"], loops := true, apart := false, laid := [("math/bits.deBruijn64tab", laid_math_bits_deBruijn64tab)], narrowed := true }
def ItemsKernelsUptoSaid : Prop := itemsKernelsUptoRow.holds Tryz.pinned (OpenSpec.upto itemsKernelsSpec)

end Rows
end Go.Proofs.YtieciibnajeibaaGreatDoor

/- Nil rows. -/
import Derived.Test.YtkckcnjamlpadabDoorO2
namespace Go.Proofs.YtkckcnjamlpadabDoor
open Go.ChangeShapes Go.WideShapes Go.ChangeAt Go.RowKit

theorem slice_nil {H : Type} {enc : TypeId × Value → H} {W : World} {fuel c : Nat} {y : DataW H × List MemPlace} {l : List T3} (hf : DataW.trod enc Tryd.prog W 0 (fun _ => true) true fuel 22 [.slice none l.length c] = some y) : l = [] ∧ c = 0 := by
  rcases Deep.open_slice Tryd.underlying22 hf with ⟨hcs, _⟩ | ⟨x, len, c, m, n, D, Pl, hcs, _⟩
  · simp only [List.cons.injEq, Value.slice.injEq, and_true, true_and] at hcs
    exact ⟨List.eq_nil_of_length_eq_zero hcs.1, hcs.2⟩
  · simp at hcs
end Go.Proofs.YtkckcnjamlpadabDoor

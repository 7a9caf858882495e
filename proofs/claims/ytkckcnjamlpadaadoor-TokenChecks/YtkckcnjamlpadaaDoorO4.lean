/- A row of texts that came in, with its length. -/
import Derived.Test.YtkckcnjamlpadaaDoorO1
namespace Go.Proofs.YtkckcnjamlpadaaDoor
open Go.RowKit Go.Maps Go.ChangeShapes Go.WideShapes Go.ChangeAt

theorem bytes9 : Tryd.prog.bytesOf 9 = 16 := by kernel_rfl
theorem open_srow9 {H : Type} {enc : TypeId × Value → H} {W : World} {fuel : Nat} {v : Value} {y : DataW H × List MemPlace} (hf : DataW.trod enc Tryd.prog W 0 (fun _ => true) true fuel 22 [v] = some y)
    (hsz : ∀ elems spare, y.1 = .slice elems spare → (elems.length + spare.length) * 16 ≤ reachBytes) :
    ∃ (a : Option Addr) (cap : Nat) (ns : List (List UInt8)), v = .slice a ns.length cap ∧ SRow W a ns ∧ ns.length * 16 ≤ 140737488351232 := by
  rcases open_strings Tryd.underlying22 Tryd.underlying9 (by kernel_rfl) hf with ⟨hcs, _⟩ | ⟨x, l, c, ss, hcs, hx, hl, hm, hz, hdd, hcell, hwz⟩
  · simp only [List.cons.injEq, and_true] at hcs
    exact ⟨none, 0, [], hcs, .inl rfl, by simp⟩
  · simp only [List.cons.injEq, and_true] at hcs
    have hz' : ss.length = c := by simpa using hz
    have h9 := hsz _ _ (by rw [hdd])
    refine ⟨some x, c, (ss.take l).map fun s => s.data.toList, ?_, srow_of (by omega) hcell, ?_⟩
    · rw [hcs]
      simp
      omega
    · simp [reachBytes, strs] at h9 ⊢
      omega
end Go.Proofs.YtkckcnjamlpadaaDoor

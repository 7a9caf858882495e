/- Rows of steps that came in, opened; nil rows. -/
import Derived.Test.YtkckcnjamlpadaaDoorO2
import Derived.Test.YtkckcnjamlpadaaDoorL8
import Derived.Deep.SlicePairs
namespace Go.Proofs.YtkckcnjamlpadaaDoor
open Go.ChangeShapes Go.WideShapes Go.ChangeAt Go.RowKit

theorem slice_nil {H : Type} {enc : TypeId × Value → H} {W : World} {fuel c : Nat} {y : DataW H × List MemPlace} {l : List T3} (hf : DataW.trod enc Tryd.prog W 0 (fun _ => true) true fuel 23 [.slice none l.length c] = some y) : l = [] ∧ c = 0 := by
  rcases Deep.open_slice Tryd.underlying23 hf with ⟨hcs, _⟩ | ⟨x, len, c, m, n, D, Pl, hcs, _⟩
  · simp only [List.cons.injEq, Value.slice.injEq, and_true, true_and] at hcs
    exact ⟨List.eq_nil_of_length_eq_zero hcs.1, hcs.2⟩
  · simp at hcs
theorem bytes61 : Tryd.prog.bytesOf 61 = 16 := by kernel_rfl
set_option maxRecDepth 100000 in
/-- A row of steps that came in. -/
theorem open_prow {H : Type} {enc : TypeId × Value → H} {W : World} {fuel : Nat} {v : Value} {y : DataW H × List MemPlace} (hf : DataW.trod enc Tryd.prog W 0 (fun _ => true) true fuel 57 [v] = some y)
    (hsz : ∀ elems spare, y.1 = .slice elems spare → (elems.length + spare.length) * 16 ≤ reachBytes) :
    ∃ (a : Option Addr) (cap : Nat) (l : List (Int × Int)), v = .slice a l.length cap ∧ PRow W a l ∧ l.length * 16 ≤ 140737488351232 := by
  rcases Go.Deep.open_slice_pairs Tryd.underlying57 Tryd.underlying61 (by kernel_rfl) rfl rfl (by kernel_rfl) (by kernel_rfl) hf with ⟨hcs, _⟩ | ⟨a, len, cap, m, n, V0, V1, D0, D1, P0, P1, hcs, _, hl, hm, hmm, hx, hc⟩
  · simp only [List.cons.injEq, and_true] at hcs
    exact ⟨none, 0, [], hcs, .inl rfl, by simp⟩
  · simp only [List.cons.injEq, and_true] at hcs
    have hmc : m = cap := by simpa using hmm
    have hlen : ((List.range len).map fun i => (intOf (V0 i), intOf (V1 i))).length = len := by simp
    have hv : ∀ i, i < len → W.cell? (a.add (i * 2)) = some (.int .i64 (intOf (V0 i))) ∧ W.cell? (a.add (i * 2 + 1)) = some (.int .i64 (intOf (V1 i))) := fun i hi => by
      obtain ⟨c0, c1, t0, t1⟩ := hc i (by omega)
      obtain ⟨z0, e0, _, _⟩ := DataW.trod_int Tryd.underlying3 t0
      obtain ⟨z1, e1, _, _⟩ := DataW.trod_int Tryd.underlying3 t1
      simp only [List.cons.injEq, and_true] at e0 e1
      rw [c0, c1, e0, e1]
      exact ⟨rfl, rfl⟩
    refine ⟨some a, cap, (List.range len).map fun i => (intOf (V0 i), intOf (V1 i)), by rw [hlen]; exact hcs, ?_, ?_⟩
    · by_cases h0 : len = 0
      · subst h0; exact .inl rfl
      · obtain ⟨b, off, spot⟩ := a
        have hspot : spot = none := by simpa [Addr.add] using World.cell?_spot (hv 0 (by omega)).1
        subst hspot
        refine .inr ⟨b, off, rfl, World.block_lt_of_cell? W ⟨b, off, none⟩ (by simpa [Addr.add] using (hv 0 (by omega)).1), fun j hj => ?_⟩
        rw [hlen] at hj
        have hj2 := hv j hj
        rw [add_plain, add_plain] at hj2
        have e : ((List.range len).map fun i => (intOf (V0 i), intOf (V1 i))).getD j (0, 0) = (intOf (V0 j), intOf (V1 j)) := by
          simp [List.getD_eq_getElem?_getD, List.getElem?_range hj]
        rw [e]
        exact ⟨hj2.1, by rw [Nat.add_assoc]; exact hj2.2⟩
    · rw [hlen]
      have hd : y.1 = _ := congrArg Prod.fst hx
      have := hsz _ _ hd
      simp only [List.length_map, List.length_range, reachBytes] at this
      omega
end Go.Proofs.YtkckcnjamlpadaaDoor

/- Rows of ranges that came in, opened. -/
import Derived.Test.YtkbhdojgdgiggaaDoorV1
import Derived.ProofKit
import Derived.OpenShut
import Derived.ChangeOld
import Derived.Deep.SlicePairs
import Derived.SizedLaws
namespace Go.Proofs.YtkbhdojgdgiggaaDoor
open Go.ChangeShapes Go.WideShapes Go.ChangeAt Go.RowKit

theorem bytes55 : Tryd.prog.bytesOf 55 = 8 := by kernel_rfl
set_option maxRecDepth 100000 in
theorem open_rows {H : Type} {enc : TypeId × Value → H} {W : World} {base : Nat} {v : Value} {d : DataW H} {p : List MemPlace} (hval : Value.okWide Tryd.prog W .any base 22 v)
    (h : DataW.Trod enc Tryd.prog W 0 (fun _ => true) true 22 v d p) (hsz : ∀ elems spare, d = .slice elems spare → (elems.length + spare.length) * 8 ≤ reachBytes) :
    ∃ a cap l, v = .slice a (List.length l) cap ∧ RowAt W a l ∧ l.length * 8 ≤ 140737488351232 := by
  obtain ⟨a1, len1, cap1, rfl⟩ := okWide_slice Tryd.underlying22 hval
  obtain ⟨fuel, hf⟩ := h
  rcases Go.Deep.open_slice_pairs Tryd.underlying22 Tryd.underlying55 (by kernel_rfl) rfl rfl (by kernel_rfl) (by kernel_rfl) hf with ⟨hcs, _⟩ | ⟨a, len, cap, m, n, V0, V1, D0, D1, P0, P1, hcs, _, hl, hm, hmm, hx, hc⟩
  · simp [Value.cells] at hcs
    obtain ⟨rfl, rfl, rfl⟩ := hcs
    exact ⟨none, 0, [], rfl, .inl rfl, by simp⟩
  · simp [Value.cells] at hcs
    obtain ⟨rfl, rfl, rfl⟩ := hcs
    have hmc : m = cap1 := by simpa using hmm
    subst hmc
    have hlen : ((List.range len1).map fun i => (intOf (V0 i), intOf (V1 i))).length = len1 := by simp
    have hv : ∀ i, i < len1 → W.cell? (a.add (i * 2)) = some (.int .i32 (intOf (V0 i))) ∧ W.cell? (a.add (i * 2 + 1)) = some (.int .i32 (intOf (V1 i))) := fun i hi => by
      obtain ⟨c0, c1, t0, t1⟩ := hc i (by omega)
      obtain ⟨z0, e0, _, _⟩ := DataW.trod_int Tryd.underlying21 t0
      obtain ⟨z1, e1, _, _⟩ := DataW.trod_int Tryd.underlying21 t1
      simp only [List.cons.injEq, and_true] at e0 e1
      rw [c0, c1, e0, e1]
      exact ⟨rfl, rfl⟩
    refine ⟨some a, m, (List.range len1).map fun i => (intOf (V0 i), intOf (V1 i)), by rw [hlen], ?_, ?_⟩
    · by_cases h0 : len1 = 0
      · subst h0; exact .inl rfl
      · obtain ⟨b, off, spot⟩ := a
        have hspot : spot = none := by simpa [Addr.add] using World.cell?_spot (hv 0 (by omega)).1
        subst hspot
        refine .inr ⟨b, off, rfl, World.block_lt_of_cell? W ⟨b, off, none⟩ (by simpa [Addr.add] using (hv 0 (by omega)).1), fun j hj => ?_⟩
        rw [hlen] at hj
        have hj2 := hv j hj
        rw [add_plain, add_plain] at hj2
        have e : ((List.range len1).map fun i => (intOf (V0 i), intOf (V1 i))).getD j (0, 0) = (intOf (V0 j), intOf (V1 j)) := by
          simp [List.getD_eq_getElem?_getD, List.getElem?_range hj]
        rw [e]
        exact ⟨hj2.1, by rw [Nat.add_assoc]; exact hj2.2⟩
    · rw [hlen]
      have hd : d = _ := congrArg Prod.fst hx
      have := hsz _ _ hd
      simp only [List.length_map, List.length_range, reachBytes] at this
      omega
end Go.Proofs.YtkbhdojgdgiggaaDoor

/- Rows of numbers that came in, opened. -/
import Derived.Test.YtkckcnjamlpadabDoorO1
namespace Go.Proofs.YtkckcnjamlpadabDoor
open Go.ChangeShapes Go.WideShapes Go.ChangeAt Go.RowKit

set_option maxRecDepth 100000 in
/-- A row of numbers that came in. -/
theorem open_nrow {H : Type} {enc : TypeId × Value → H} {W : World} {fuel : Nat} {v : Value} {y : DataW H × List MemPlace} (hf : DataW.trod enc Tryd.prog W 0 (fun _ => true) true fuel 33 [v] = some y)
    (hsz : ∀ elems spare, y.1 = .slice elems spare → (elems.length + spare.length) * 8 ≤ reachBytes) :
    ∃ (a : Option Addr) (cap : Nat) (l : List Int), v = .slice a l.length cap ∧ NRow W a l ∧ l.length * 8 ≤ 140737488351232 ∧ ∀ x ∈ l, okI x := by
  have c3 : Tryd.prog.cellsOf 3 = 1 := by kernel_rfl
  rcases Deep.open_slice1 Tryd.underlying33 c3 hf with ⟨hcs, _⟩ | ⟨x, len, c, m, n, V, D, Pl, hcs, hx, hl, hm, hmm, hd, each⟩
  · simp only [List.cons.injEq, and_true] at hcs
    exact ⟨none, 0, [], hcs, .inl rfl, by simp, by simp⟩
  · simp only [List.cons.injEq, and_true] at hcs
    have hmc : m = c := by rw [hmm]; simp
    have key : ∀ i, i < m → ∃ q : Int, W.cell? (x.add i) = some (.int .i64 q) ∧ okI q := by
      intro i hi
      obtain ⟨h1, h2⟩ := each i hi
      obtain ⟨z, e, -, w0⟩ := DataW.trod_int Tryd.underlying3 h2
      simp only [List.cons.injEq, and_true] at e
      exact ⟨z, by rw [h1, e], wf_of w0⟩
    obtain ⟨q, hq⟩ := Deep.choose_lt (α := Int) key
    have hll : ((List.range len).map q).length = len := by simp
    refine ⟨some x, c, (List.range len).map q, by rw [hll]; exact hcs, ?_, ?_, ?_⟩
    · by_cases h0 : len = 0
      · subst h0; exact .inl rfl
      · obtain ⟨b, off, spot⟩ := x
        have hspot : spot = none := by simpa [Addr.add] using World.cell?_spot (hq 0 (by omega)).1
        subst hspot
        have hc : ∀ j, j < len → W.cell? ⟨b, off + j, none⟩ = some (.int .i64 (q j)) := fun j hj => by
          have h1 := (hq j (by omega)).1
          rwa [Go.WideShapes.add_plain] at h1
        refine .inr ⟨b, off, rfl, World.block_lt_of_cell? W ⟨b, off + 0, none⟩ (hc 0 (by omega)), fun j hj => ?_⟩
        have hj' : j < len := by simpa using hj
        have e : ((List.range len).map q).getD j 0 = q j := by
          rw [List.getD_eq_getElem?_getD, List.getElem?_map, List.getElem?_range hj']; rfl
        rw [e]
        exact hc j hj'
    · rw [hll]
      have hd1 : y.1 = _ := congrArg Prod.fst hd
      have := hsz _ _ hd1
      simp only [List.length_map, List.length_range, reachBytes] at this
      omega
    · intro z hz
      obtain ⟨i, hi, rfl⟩ := List.mem_map.1 hz
      rw [List.mem_range] at hi
      exact (hq i (by omega)).2
theorem mem_getDT {l : List T3} {j : Nat} (h : j < l.length) : l.getD j (0, 0, 0) ∈ l := by
  rw [List.getD_eq_getElem?_getD, List.getElem?_eq_getElem h]; exact List.getElem_mem h
set_option maxRecDepth 100000 in
/-- A slice among the arguments. -/
theorem arg_slice {H : Type} {enc : TypeId × Value → H} {W : World} {base : Nat} {t e : TypeId} {v : Value} {d : DataW H} {p : List MemPlace} (ht : Tryd.prog.underlying t = some (.slice e)) (hv : Value.okWide Tryd.prog W .any base t v) (h : DataW.Trod enc Tryd.prog W 0 (fun _ => true) true t v d p) : ∃ fuel, DataW.trod enc Tryd.prog W 0 (fun _ => true) true fuel t [v] = some (d, p) := by
  obtain ⟨a, len, cap, rfl⟩ := okWide_slice ht hv
  obtain ⟨fuel, hf⟩ := h
  exact ⟨fuel, hf⟩
end Go.Proofs.YtkckcnjamlpadabDoor

/- A row of ranges and a row of runes that came in, opened; their bulk bounds them. -/
import Derived.Test.YtkimhfajfbcdmaaGreatDoorQH
import Derived.Test.YtkimhfajfbcdmaaGreatDoorQA
import Derived.Test.YtkimhfajfbcdmaaGreatDoorRows
import Derived.ProofKit
import Derived.OpenShut
import Derived.ChangeOld
import Derived.Deep.SlicePairs
import Derived.Deep.Slices
import Derived.SizedLaws
namespace Go.Proofs.YtkimhfajfbcdmaaGreatDoor
open Go.ChangeShapes Go.WideShapes Go.ChangeAt Go.RowKit

theorem bulk_one {H : Type} (d : DataW H) : 1 ≤ Rows.uptoBulk d := by
  cases d with
  | lit l => cases l <;> simp [Rows.uptoBulk]
  | nil => simp [Rows.uptoBulk]
  | ptr d => simp [Rows.uptoBulk]
  | slice elems spare => simp [Rows.uptoBulk]
  | agg parts => simp [Rows.uptoBulk]
  | iface t d => simp [Rows.uptoBulk]
  | map entries => simp [Rows.uptoBulk]
  | held h => simp [Rows.uptoBulk]
theorem bulk_length {H : Type} (l : List (DataW H)) : l.length ≤ Rows.uptoBulkAll l := by
  induction l with
  | nil => simp
  | cons x r ih => have := bulk_one x; simp only [Rows.uptoBulkAll, List.length_cons]; omega
/-- What a slice stands on lies in memory. -/
theorem okWide_block {P : Program} {W : World} {r : Reach} {base : Nat} {t e : TypeId} {a : Addr} {n c : Nat} (ht : P.underlying t = some (.slice e)) (h : Value.okWide P W r base t (.slice (some a) n c)) : a.block < W.heap.size := by
  simp only [Value.okWide, ht, Cell.okWide, Cell.ok] at h
  obtain ⟨-, -, -, -, row, cells, hs, -⟩ := h
  unfold World.shape? at hs
  split at hs
  · rename_i c e f hh
    exact (Array.getElem?_eq_some_iff.1 hh).1
  · cases hs
set_option maxRecDepth 100000 in
theorem open_ranges {H : Type} {enc : TypeId × Value → H} {W : World} {base : Nat} {v : Value} {d : DataW H} {p : List MemPlace} (hval : Value.okWide Tryz.prog W .any base 22 v)
    (h : DataW.Trod enc Tryz.prog W 0 (fun _ => true) true 22 v d p) :
    ∃ a cap l, v = .slice a (List.length l) cap ∧ RowAt W a l ∧ l.length + 1 ≤ Rows.uptoBulk d ∧ ∀ y, a = some y → y.block < W.heap.size := by
  have hval' := hval
  obtain ⟨a1, len1, cap1, rfl⟩ := okWide_slice Tryz.underlying22 hval
  obtain ⟨fuel, hf⟩ := h
  rcases Go.Deep.open_slice_pairs Tryz.underlying22 Tryz.underlying45 (by kernel_rfl) rfl rfl (by kernel_rfl) (by kernel_rfl) hf with ⟨hcs, _⟩ | ⟨a, len, cap, m, n, V0, V1, D0, D1, P0, P1, hcs, _, hl, hm, hmm, hx, hc⟩
  · simp [Value.cells] at hcs
    obtain ⟨rfl, rfl, rfl⟩ := hcs
    exact ⟨none, 0, [], rfl, .inl rfl, by have := bulk_one d; simpa using this, fun y h => by cases h⟩
  · simp [Value.cells] at hcs
    obtain ⟨rfl, rfl, rfl⟩ := hcs
    have hmc : m = cap1 := by simpa using hmm
    subst hmc
    have hblk := okWide_block Tryz.underlying22 hval'
    have hlen : ((List.range len1).map fun i => (intOf (V0 i), intOf (V1 i))).length = len1 := by simp
    have hv : ∀ i, i < len1 → W.cell? (a.add (i * 2)) = some (.int .i32 (intOf (V0 i))) ∧ W.cell? (a.add (i * 2 + 1)) = some (.int .i32 (intOf (V1 i))) := fun i hi => by
      obtain ⟨c0, c1, t0, t1⟩ := hc i (by omega)
      obtain ⟨z0, e0, _, _⟩ := DataW.trod_int Tryz.underlying21 t0
      obtain ⟨z1, e1, _, _⟩ := DataW.trod_int Tryz.underlying21 t1
      simp only [List.cons.injEq, and_true] at e0 e1
      rw [c0, c1, e0, e1]
      exact ⟨rfl, rfl⟩
    refine ⟨some a, m, (List.range len1).map fun i => (intOf (V0 i), intOf (V1 i)), by rw [hlen], ?_, ?_, fun y h => by cases h; exact hblk⟩
    · by_cases h0 : len1 = 0
      · subst h0; exact .inl rfl
      · obtain ⟨b, off, spot⟩ := a
        have hspot : spot = none := by simpa [Addr.add] using World.cell?_spot (hv 0 (by omega)).1
        subst hspot
        refine .inr ⟨b, off, rfl, hblk, fun j hj => ?_⟩
        rw [hlen] at hj
        have hj2 := hv j hj
        rw [add_plain, add_plain] at hj2
        have e : ((List.range len1).map fun i => (intOf (V0 i), intOf (V1 i))).getD j (0, 0) = (intOf (V0 j), intOf (V1 j)) := by
          simp [List.getD_eq_getElem?_getD, List.getElem?_range hj]
        rw [e]
        exact ⟨hj2.1, by rw [Nat.add_assoc]; exact hj2.2⟩
    · rw [hlen]
      have hd : d = _ := congrArg Prod.fst hx
      have hb := bulk_length ((List.range len1).map fun i => DataW.agg [D0 i, D1 i])
      rw [hd]
      simp only [Rows.uptoBulk, List.length_map, List.length_range] at hb ⊢
      omega
set_option maxRecDepth 100000 in
theorem open_runes {H : Type} {enc : TypeId × Value → H} {W : World} {base : Nat} {v : Value} {d : DataW H} {p : List MemPlace} (hval : Value.okWide Tryz.prog W .any base 23 v)
    (h : DataW.Trod enc Tryz.prog W 0 (fun _ => true) true 23 v d p) :
    ∃ a cap l, v = .slice a (List.length l) cap ∧ IRow W a l ∧ l.length + 1 ≤ Rows.uptoBulk d ∧ ∀ y, a = some y → y.block < W.heap.size := by
  have hval' := hval
  obtain ⟨a1, len1, cap1, rfl⟩ := okWide_slice Tryz.underlying23 hval
  obtain ⟨fuel, hf⟩ := h
  rcases Go.Deep.open_slice1 Tryz.underlying23 (by kernel_rfl) hf with ⟨hcs, _⟩ | ⟨a, len, cap, m, n, V, D, Pl, hcs, _, hl, hm, hmm, hx, hc⟩
  · simp [Value.cells] at hcs
    obtain ⟨rfl, rfl, rfl⟩ := hcs
    exact ⟨none, 0, [], rfl, .inl rfl, by have := bulk_one d; simpa using this, fun y h => by cases h⟩
  · simp [Value.cells] at hcs
    obtain ⟨rfl, rfl, rfl⟩ := hcs
    have hmc : m = cap1 := by simpa using hmm
    subst hmc
    have hblk := okWide_block Tryz.underlying23 hval'
    have hlen : ((List.range len1).map fun i => intOf (V i)).length = len1 := by simp
    have hv : ∀ i, i < len1 → W.cell? (a.add i) = some (.int .i32 (intOf (V i))) := fun i hi => by
      obtain ⟨c0, t0⟩ := hc i (by omega)
      obtain ⟨z0, e0, _, _⟩ := DataW.trod_int Tryz.underlying21 t0
      simp only [List.cons.injEq, and_true] at e0
      rw [c0, e0]
      rfl
    refine ⟨some a, m, (List.range len1).map fun i => intOf (V i), by rw [hlen], ?_, ?_, fun y h => by cases h; exact hblk⟩
    · by_cases h0 : len1 = 0
      · subst h0; exact .inl rfl
      · obtain ⟨b, off, spot⟩ := a
        have hspot : spot = none := by simpa [Addr.add] using World.cell?_spot (hv 0 (by omega))
        subst hspot
        refine .inr ⟨b, off, rfl, hblk, fun j hj => ?_⟩
        rw [hlen] at hj
        have hj2 := hv j hj
        rw [add_plain] at hj2
        have e : ((List.range len1).map fun i => intOf (V i)).getD j 0 = intOf (V j) := by
          simp [List.getD_eq_getElem?_getD, List.getElem?_range hj]
        rw [e]
        exact hj2
    · rw [hlen]
      have hd : d = _ := congrArg Prod.fst hx
      have hb := bulk_length ((List.range len1).map D)
      rw [hd]
      simp only [Rows.uptoBulk, List.length_map, List.length_range] at hb ⊢
      omega
end Go.Proofs.YtkimhfajfbcdmaaGreatDoor

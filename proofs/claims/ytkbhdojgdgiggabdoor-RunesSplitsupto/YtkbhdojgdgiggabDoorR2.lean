/- A row of rows of ranges that came in, opened; its bulk bounds it. -/
import Derived.Test.YtkbhdojgdgiggabDoorQE
import Derived.Test.YtkbhdojgdgiggabDoorR1
import Derived.Test.YtkbhdojgdgiggabDoorRows
import Derived.Deep.Slices
namespace Go.Proofs.YtkbhdojgdgiggabDoor
open Go.ChangeShapes Go.WideShapes Go.ChangeAt Go.RowKit

theorem bulk_one {H : Type} (d : DataW H) : 1 ≤ Rows.uptoBulk d := by
  cases d with
  | lit l => cases l <;> simp [Rows.uptoBulk]
  | nil => simp [Rows.uptoBulk]
  | ptr d => simp [Rows.uptoBulk]
  | slice elems spare => simp [Rows.uptoBulk]
  | agg parts => simp [Rows.uptoBulk]
  | iface t d => simp [Rows.uptoBulk]
  | map entries => simp [Rows.uptoBulk]
  | held h => simp [Rows.uptoBulk]
theorem bulk_length {H : Type} (l : List (DataW H)) : l.length ≤ Rows.uptoBulkAll l := by
  induction l with
  | nil => simp
  | cons x r ih => have := bulk_one x; simp only [Rows.uptoBulkAll, List.length_cons]; omega
theorem bulk_tot {H : Type} (L : Nat → List Rng) (D : Nat → DataW H) (xs : List Nat) (h : ∀ i ∈ xs, (L i).length + 1 ≤ Rows.uptoBulk (D i)) : tot (xs.map L) + xs.length ≤ Rows.uptoBulkAll (xs.map D) := by
  induction xs with
  | nil => simp [tot]
  | cons x xs ih =>
    have h1 := ih (fun i hi => h i (by simp [hi]))
    have h2 := h x (by simp)
    have h3 : tot ((x :: xs).map L) = (L x).length + tot (xs.map L) := by simp [tot]
    simp only [List.map_cons, Rows.uptoBulkAll, List.length_cons] at *
    omega

set_option maxRecDepth 100000 in
theorem open_in {H : Type} {enc : TypeId × Value → H} {W : World} {v : Value} {d : DataW H} {p : List MemPlace} {fuel : Nat}
    (h : DataW.trod enc Tryd.prog W 0 (fun _ => true) true fuel 22 [v] = some (d, p)) :
    ∃ a cap l, v = .slice a (List.length l) cap ∧ RowAt W a l ∧ l.length + 1 ≤ Rows.uptoBulk d ∧ (a = none → cap = 0) := by
  rcases Go.Deep.open_slice_pairs Tryd.underlying22 Tryd.underlying53 (by kernel_rfl) rfl rfl (by kernel_rfl) (by kernel_rfl) h with ⟨hcs, _⟩ | ⟨a, len, cap, m, n, V0, V1, D0, D1, P0, P1, hcs, _, hl, hm, hmm, hx, hc⟩
  · simp only [List.cons.injEq, and_true] at hcs
    subst hcs
    exact ⟨none, 0, [], rfl, .inl rfl, by have := bulk_one d; simpa using this, fun _ => rfl⟩
  · simp only [List.cons.injEq, and_true] at hcs
    subst hcs
    have hmc : m = cap := by simpa using hmm
    subst hmc
    have hlen : ((List.range len).map fun i => (intOf (V0 i), intOf (V1 i))).length = len := by simp
    have hv : ∀ i, i < len → W.cell? (a.add (i * 2)) = some (.int .i32 (intOf (V0 i))) ∧ W.cell? (a.add (i * 2 + 1)) = some (.int .i32 (intOf (V1 i))) := fun i hi => by
      obtain ⟨c0, c1, t0, t1⟩ := hc i (by omega)
      obtain ⟨z0, e0, _, _⟩ := DataW.trod_int Tryd.underlying21 t0
      obtain ⟨z1, e1, _, _⟩ := DataW.trod_int Tryd.underlying21 t1
      simp only [List.cons.injEq, and_true] at e0 e1
      rw [c0, c1, e0, e1]
      exact ⟨rfl, rfl⟩
    refine ⟨some a, m, (List.range len).map fun i => (intOf (V0 i), intOf (V1 i)), by rw [hlen], ?_, ?_, fun h => by cases h⟩
    · by_cases h0 : len = 0
      · subst h0; exact .inl rfl
      · obtain ⟨b, off, spot⟩ := a
        have hspot : spot = none := by simpa [Addr.add] using World.cell?_spot (hv 0 (by omega)).1
        subst hspot
        refine .inr ⟨b, off, rfl, World.block_lt_of_cell? W ⟨b, off, none⟩ (by simpa [Addr.add] using (hv 0 (by omega)).1), fun j hj => ?_⟩
        rw [hlen] at hj
        have hj2 := hv j hj
        rw [add_plain, add_plain] at hj2
        have e : ((List.range len).map fun i => (intOf (V0 i), intOf (V1 i))).getD j (0, 0) = (intOf (V0 j), intOf (V1 j)) := by
          simp [List.getD_eq_getElem?_getD, List.getElem?_range hj]
        rw [e]
        exact ⟨hj2.1, by rw [Nat.add_assoc]; exact hj2.2⟩
    · rw [hlen]
      have hd : d = _ := congrArg Prod.fst hx
      have hb := bulk_length ((List.range len).map fun i => DataW.agg [D0 i, D1 i])
      rw [hd]
      simp only [Rows.uptoBulk, List.length_map, List.length_range] at hb ⊢
      omega

set_option maxRecDepth 100000 in
theorem open_sets {H : Type} {enc : TypeId × Value → H} {W : World} {base : Nat} {v : Value} {d : DataW H} {p : List MemPlace} (hval : Value.okWide Tryd.prog W .any base 34 v)
    (h : DataW.Trod enc Tryd.prog W 0 (fun _ => true) true 34 v d p) :
    ∃ a cap ls, v = .slice a (List.length ls) cap ∧ SetsC W a ls ∧ tot ls + ls.length ≤ Rows.uptoBulk d := by
  obtain ⟨a1, len1, cap1, rfl⟩ := okWide_slice Tryd.underlying34 hval
  obtain ⟨fuel, hf⟩ := h
  rcases Go.Deep.open_slice1 Tryd.underlying34 (by kernel_rfl) hf with ⟨hcs, _⟩ | ⟨a, len, cap, m, n, V, D, Pl, hcs, _, hl, hm, hmm, hx, hc⟩
  · simp [Value.cells] at hcs
    obtain ⟨rfl, rfl, rfl⟩ := hcs
    exact ⟨none, 0, [], rfl, .inl rfl, by simp [tot]⟩
  · simp [Value.cells] at hcs
    obtain ⟨rfl, rfl, rfl⟩ := hcs
    have hmc : m = cap1 := by simpa using hmm
    subst hmc
    have hin : ∀ i, i < len1 → ∃ l : List Rng, ∃ ai ci, W.cell? (a.add i) = some (.slice ai l.length ci) ∧ RowAt W ai l ∧ l.length + 1 ≤ Rows.uptoBulk (D i) ∧ (ai = none → ci = 0) := fun i hi => by
      obtain ⟨c0, t0⟩ := hc i (by omega)
      obtain ⟨ai, ci, l, e, h1, h2, h3⟩ := open_in t0
      exact ⟨l, ai, ci, by rw [c0, e], h1, h2, h3⟩
    obtain ⟨L, hL⟩ := Go.Deep.choose_lt hin
    have hlen : ((List.range len1).map L).length = len1 := by simp
    refine ⟨some a, m, (List.range len1).map L, by rw [hlen], ?_, ?_⟩
    · by_cases h0 : len1 = 0
      · subst h0; exact .inl rfl
      · obtain ⟨b, off, spot⟩ := a
        obtain ⟨ai0, ci0, hz, _⟩ := hL 0 (by omega)
        have hspot : spot = none := by simpa [Addr.add] using World.cell?_spot hz
        subst hspot
        refine .inr ⟨b, off, rfl, World.block_lt_of_cell? W ⟨b, off, none⟩ (by simpa [Addr.add] using hz), fun j hj => ?_⟩
        rw [hlen] at hj
        obtain ⟨aj, cj, h1, h2, _, h3⟩ := hL j hj
        rw [add_plain] at h1
        have e : ((List.range len1).map L).getD j [] = L j := by
          simp [List.getD_eq_getElem?_getD, List.getElem?_range hj]
        rw [e]
        exact ⟨aj, cj, h1, h2, h3⟩
    · have hd : d = _ := congrArg Prod.fst hx
      have hb := bulk_tot L D (List.range len1) (fun i hi => by
        obtain ⟨_, _, _, _, h4, _⟩ := hL i (List.mem_range.1 hi)
        exact h4)
      rw [hd]
      simp only [Rows.uptoBulk, List.length_map, List.length_range] at hb ⊢
      omega
end Go.Proofs.YtkbhdojgdgiggabDoor

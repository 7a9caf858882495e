/- What comes in, opened. -/
import Derived.Test.YtkckcnjamlpadabDoorA1
import Derived.ProofKit
import Derived.OpenShut
import Derived.ChangeOld
import Derived.Deep.Slices
import Derived.Deep.Strs
import Derived.SliceStrings
import Derived.SizedLaws
import Derived.LaidMore
import Derived.LaidLaws
import Derived.Lay
import Derived.Lib.LaidTab
import Derived.Lib.LaidU8
import Derived.Lib.SmallJoins
namespace Go.Proofs.YtkckcnjamlpadabDoor
open Go.ChangeShapes Go.WideShapes Go.ChangeAt Go.RowKit

theorem tab_of {W : World} (h : Lib.VarReads Tryd.prog W "internal/strconv.uint64pow10" Rows.laid_internal_strconv_uint64pow10) : Lib.TabIs Tryd.prog W "internal/strconv.uint64pow10" .u64 Lib.pow10Tab := by
  obtain ⟨g, t, cs, fuel, p, hg, ht, hv, hd⟩ := h
  obtain rfl := Option.some.inj ((show Tryd.prog.globalNamed "internal/strconv.uint64pow10" = some 3 by kernel_rfl).symm.trans hg)
  obtain rfl := Option.some.inj ((show (Tryd.prog.globals[3]?).map (·.type) = some 129 by kernel_rfl).symm.trans ht)
  unfold Lib.TabIs
  rw [hv]
  have e : (Rows.laid_internal_strconv_uint64pow10 : DataW Unit) = Lib.tabData .u64 Lib.pow10Tab := by kernel_rfl
  rw [e] at hd
  rw [← Lib.cells_of_tab (n := 20) Tryd.underlying129 Tryd.underlying110 (by kernel_rfl) (by kernel_rfl) hd]
theorem err_of {W : World} {n nm : String} {d : DataW Unit} (g : Nat) (hg0 : Tryd.prog.globalNamed n = some g) (ht0 : (Tryd.prog.globals[g]?).map (·.type) = some 65) (h : Lib.VarReads Tryd.prog W n (.iface nm d)) : ∃ tp p, W.var? Tryd.prog n = some #[.iface tp p] := by
  obtain ⟨g', t, cs, fuel, p, hg, ht, hv, hd⟩ := h
  obtain rfl := Option.some.inj (hg0.symm.trans hg)
  obtain rfl := Option.some.inj (ht0.symm.trans ht)
  obtain ⟨f', u, v, e, -, -⟩ := iface_of_trod Tryd.underlying65 hd
  refine ⟨u, v, ?_⟩
  rw [hv]
  obtain ⟨l⟩ := cs
  simp only at e
  rw [e]
def laidL : List (String × DataW Unit) := Rows.tokenTellsRow.laid
theorem env_of {W : World} (h : laidMetH Tryd.prog laidL W) : Env W := by
  rw [MakeChecks.laidMetH_plain _ _ _ (by kernel_rfl)] at h
  refine ⟨tab_of (Lib.laidMet.reads h (List.mem_of_getElem? (i := 2) rfl)), err_of 1 (by kernel_rfl) (by kernel_rfl) (Lib.laidMet.reads h (List.mem_of_getElem? (i := 5) rfl)), err_of 2 (by kernel_rfl) (by kernel_rfl) (Lib.laidMet.reads h (List.mem_of_getElem? (i := 4) rfl))⟩

theorem srow_of {w : World} {x : Addr} {ss : List ByteArray} {len : Nat} (hl : len ≤ ss.length) (hcell : ∀ i, i < ss.length → w.cell? (x.add i) = some (.string (ss.getD i ByteArray.empty))) : SRow w (some x) ((ss.take len).map fun s => s.data.toList) := by
  by_cases h0 : len = 0
  · subst h0; exact .inl rfl
  · obtain ⟨b, off, spot⟩ := x
    have hspot : spot = none := by simpa [Addr.add] using World.cell?_spot (hcell 0 (by omega))
    subst hspot
    have hc : ∀ j, j < ss.length → w.cell? ⟨b, off + j, none⟩ = some (.string (ss.getD j ByteArray.empty)) := fun j hj => by rw [← Go.WideShapes.add_plain]; exact hcell j hj
    refine .inr ⟨b, off, rfl, World.block_lt_of_cell? w ⟨b, off + 0, none⟩ (hc 0 (by omega)), fun j hj => ?_⟩
    have hj' : j < len := by simp at hj; omega
    rw [hc j (by omega), List.getD_eq_getElem?_getD, List.getD_eq_getElem?_getD, List.getElem?_map, List.getElem?_take_of_lt hj', List.getElem?_eq_getElem (by omega)]
    rfl
/-- A row of texts that came in. -/
theorem open_srow {H : Type} {enc : TypeId × Value → H} {W : World} {fuel : Nat} {v : Value} {y : DataW H × List MemPlace} (hf : DataW.trod enc Tryd.prog W 0 (fun _ => true) true fuel 45 [v] = some y) :
    ∃ (a : Option Addr) (cap : Nat) (ns : List (List UInt8)), v = .slice a ns.length cap ∧ SRow W a ns := by
  rcases open_strings Tryd.underlying45 Tryd.underlying9 (by kernel_rfl) hf with ⟨hcs, _⟩ | ⟨x, l, c, ss, hcs, hx, hl, hm, hz, hdd, hcell, hwz⟩
  · simp only [List.cons.injEq, and_true] at hcs
    exact ⟨none, 0, [], hcs, .inl rfl⟩
  · simp only [List.cons.injEq, and_true] at hcs
    have hz' : ss.length = c := by simpa using hz
    refine ⟨some x, c, (ss.take l).map fun s => s.data.toList, ?_, srow_of (by omega) hcell⟩
    rw [hcs]
    simp
    omega
theorem cells55 : Tryd.prog.cellsOf 27 = 3 := by kernel_rfl
theorem bytes55 : Tryd.prog.bytesOf 27 = 24 := by kernel_rfl
theorem bytes3 : Tryd.prog.bytesOf 3 = 8 := by kernel_rfl
theorem wf_of {n : Int} (h : (Lit.int .i64 n).wf = true) : -9223372036854775808 ≤ n ∧ n ≤ 9223372036854775807 := by
  simp only [Lit.wf, Bool.and_eq_true, decide_eq_true_eq] at h
  exact h
def okI (n : Int) : Prop := -9223372036854775808 ≤ n ∧ n ≤ 9223372036854775807
set_option maxRecDepth 100000 in
/-- A row of tokens that came in. -/
theorem open_trow {H : Type} {enc : TypeId × Value → H} {W : World} {fuel : Nat} {v : Value} {y : DataW H × List MemPlace} (hf : DataW.trod enc Tryd.prog W 0 (fun _ => true) true fuel 22 [v] = some y)
    (hsz : ∀ elems spare, y.1 = .slice elems spare → (elems.length + spare.length) * 24 ≤ reachBytes) :
    ∃ (a : Option Addr) (cap : Nat) (l : List T3), v = .slice a l.length cap ∧ TRow W a l ∧ l.length * 24 ≤ 140737488351232 ∧ (∀ x ∈ l, okI x.1 ∧ okI x.2.1 ∧ okI x.2.2) := by
  rcases Deep.open_slice Tryd.underlying22 hf with ⟨hcs, _⟩ | ⟨x, len, c, m, n, D, Pl, hcs, hx, hl, hm, hmm, hd, each⟩
  · simp only [List.cons.injEq, and_true] at hcs
    exact ⟨none, 0, [], hcs, .inl rfl, by simp, by simp⟩
  · simp only [List.cons.injEq, and_true] at hcs
    have hmc : m = c := by rw [hmm]; simp
    have key : ∀ i, i < m → ∃ q : T3, W.cell? (x.add (i * 3)) = some (.int .i64 q.1) ∧ W.cell? (x.add (i * 3 + 1)) = some (.int .i64 q.2.1) ∧ W.cell? (x.add (i * 3 + 2)) = some (.int .i64 q.2.2) ∧ okI q.1 ∧ okI q.2.1 ∧ okI q.2.2 := by
      intro i hi
      obtain ⟨cs', h1, h2⟩ := each i hi
      rw [cells55] at h1
      obtain ⟨_, hlen, hcell⟩ := World.cells?_some h1
      obtain ⟨y0, y1, y2, n, -, -, t0, t1, t2⟩ := Deep.trod_struct3 Tryd.underlying27 h2
      match cs', hlen with
      | [u0, u1, u2], _ =>
        have c3 : Tryd.prog.cellsOf 3 = 1 := by kernel_rfl
        simp [c3] at t0 t1 t2
        obtain ⟨z0, e0, _, w0⟩ := DataW.trod_int Tryd.underlying3 t0
        obtain ⟨z1, e1, _, w1⟩ := DataW.trod_int Tryd.underlying3 t1
        obtain ⟨z2, e2, _, w2⟩ := DataW.trod_int Tryd.underlying3 t2
        simp only [List.cons.injEq, and_true] at e0 e1 e2
        have a0 := hcell 0 (by omega)
        have a1 := hcell 1 (by omega)
        have a2 := hcell 2 (by omega)
        rw [Deep.add_add] at a0 a1 a2
        refine ⟨(z0, z1, z2), by simpa [e0] using a0, by simpa [e1] using a1, by simpa [e2] using a2, wf_of w0, wf_of w1, wf_of w2⟩
    obtain ⟨q, hq⟩ := Deep.choose_lt (α := T3) key
    have hll : ((List.range len).map q).length = len := by simp
    refine ⟨some x, c, (List.range len).map q, by rw [hll]; exact hcs, ?_, ?_, ?_⟩
    · by_cases h0 : len = 0
      · subst h0; exact .inl rfl
      · obtain ⟨b, off, spot⟩ := x
        have hspot : spot = none := by simpa [Addr.add] using World.cell?_spot (hq 0 (by omega)).1
        subst hspot
        have hc : ∀ j, j < len → W.cell? ⟨b, off + j * 3, none⟩ = some (.int .i64 (q j).1) ∧ W.cell? ⟨b, off + j * 3 + 1, none⟩ = some (.int .i64 (q j).2.1) ∧ W.cell? ⟨b, off + j * 3 + 2, none⟩ = some (.int .i64 (q j).2.2) := fun j hj => by
          have h1 := hq j (by omega)
          rw [Go.WideShapes.add_plain, Go.WideShapes.add_plain, Go.WideShapes.add_plain] at h1
          exact ⟨h1.1, by rw [Nat.add_assoc]; exact h1.2.1, by rw [Nat.add_assoc]; exact h1.2.2.1⟩
        refine .inr ⟨b, off, rfl, World.block_lt_of_cell? W ⟨b, off + 0 * 3, none⟩ (hc 0 (by omega)).1, fun j hj => ?_⟩
        have hj' : j < len := by simpa using hj
        have e : ((List.range len).map q).getD j (0, 0, 0) = q j := by
          rw [List.getD_eq_getElem?_getD, List.getElem?_map, List.getElem?_range hj']; rfl
        rw [e]
        exact hc j hj'
    · rw [hll]
      have hd1 : y.1 = _ := congrArg Prod.fst hd
      have := hsz _ _ hd1
      simp only [List.length_map, List.length_range, reachBytes] at this
      omega
    · intro z hz
      obtain ⟨i, hi, rfl⟩ := List.mem_map.1 hz
      rw [List.mem_range] at hi
      exact (hq i (by omega)).2.2.2
theorem sized_agg {H : Type} {P : Program} {ts : List TypeId} {ds : List (DataW H)} (h : (DataW.weightsEach P ts ds).all (· ≤ reachBytes) = true) {j : Nat} {t : TypeId} {fs : Array Field} {parts : List (DataW H)} (ht : ts[j]? = some t) (hd : ds[j]? = some (.agg parts)) (hu : P.underlying t = some (.struct fs)) :
    (DataW.weightsEach P (fs.toList.map (·.type)) parts).all (· ≤ reachBytes) = true := by
  rw [List.all_eq_true] at h ⊢
  intro n hn
  exact h n (DataW.weights_mem_each ht hd n (by simp [DataW.weights, hu]; exact hn))
end Go.Proofs.YtkckcnjamlpadabDoor

/-
  WorkSets returns true for every two rows of numbers and every script of calls (its row is the given one, with no condition but the table that it lists, which the card ties to the program's text): two sets answer every call, in every order, as the document says, and never turn one another.
-/
import Derived.Test.YtdpphjedjhjdgaaDoorDD
import Derived.Test.YtdpphjedjhjdgaaDoorTie
import Derived.Test.YtdpphjedjhjdgaaDoorCards
import Derived.WalkKit
import Derived.ProofKit
import Derived.OpenShut
import Derived.Deep.Slices
import Derived.SizedLaws
import Derived.LaidMore
import Derived.Lay
import Derived.SevenTiedAt
import Derived.ChangeOld
import Derived.Below
namespace Go.Proofs.YtdpphjedjhjdgaaDoor.workSets
open Go.ChangeShapes Go.WideShapes Go.ChangeAt Go.RowKit

theorem own : ownKnob Tryd.prog.godebug = none := by kernel_rfl
theorem laidOut : laidOutB Tryd.prog = true := by kernel_rfl
theorem bytes3 : Tryd.prog.bytesOf 3 = 8 := by kernel_rfl
theorem wf_of {n : Int} (h : (Lit.int .i64 n).wf = true) : -9223372036854775808 ≤ n ∧ n ≤ 9223372036854775807 := by
  simp only [Lit.wf, Bool.and_eq_true, decide_eq_true_eq] at h
  exact h

set_option maxRecDepth 100000 in
/-- A row of numbers that came in. -/
theorem open_nums {H : Type} {enc : TypeId × Value → H} {W : World} {a : Option Addr} {len cap : Nat} {d : DataW H} {ps : List MemPlace} (h : DataW.Trod enc Tryd.prog W 0 (fun _ => true) true 22 (.slice a len cap) d ps)
    (hsz : ∀ elems spare, d = .slice elems spare → (elems.length + spare.length) * 8 ≤ reachBytes) :
    ∃ l : List Int, l.length = len ∧ len * 8 ≤ 140737488351232 ∧ NRow W a l ∧ (a = none → l = [] ∧ cap = 0) := by
  obtain ⟨fuel, hf⟩ := h
  have c3 : Tryd.prog.cellsOf 3 = 1 := by kernel_rfl
  rcases Deep.open_slice Tryd.underlying22 hf with ⟨hcs, _⟩ | ⟨x, l, c, m, n, D, Pl, hcs, hx, hl, hm, hmm, hd, each⟩
  · simp [Value.cells] at hcs
    obtain ⟨rfl, rfl, rfl⟩ := hcs
    exact ⟨[], rfl, by omega, .inl rfl, fun _ => ⟨rfl, rfl⟩⟩
  · simp [Value.cells] at hcs
    obtain ⟨rfl, rfl, rfl⟩ := hcs
    have hmc : m = cap := by rw [hmm]; simp
    have key : ∀ i, i < m → ∃ q : Int, W.cell? (x.add i) = some (.int .i64 q) := by
      intro i hi
      obtain ⟨cs', h1, h2⟩ := each i hi
      rw [c3] at h1
      obtain ⟨_, hlen, hcell⟩ := World.cells?_some h1
      obtain ⟨q, e, -, -⟩ := DataW.trod_int Tryd.underlying3 h2
      subst e
      have a0 := hcell 0 (by simp)
      rw [Deep.add_add] at a0
      exact ⟨q, by simpa using a0⟩
    obtain ⟨q, hq⟩ := Deep.choose_lt (α := Int) key
    refine ⟨(List.range len).map q, by simp, ?_, ?_, fun h => by cases h⟩
    · have hd1 : d = _ := congrArg Prod.fst hd
      have := hsz _ _ hd1
      simp only [List.length_map, List.length_range, reachBytes] at this
      omega
    · by_cases h0 : len = 0
      · subst h0; exact .inl rfl
      · obtain ⟨b, off, spot⟩ := x
        have hspot : spot = none := by simpa [Addr.add] using World.cell?_spot (hq 0 (by omega))
        subst hspot
        have hc : ∀ j, j < len → W.cell? ⟨b, off + j, none⟩ = some (.int .i64 (q j)) := fun j hj => by
          have h1 := hq j (by omega)
          rwa [Go.WideShapes.add_plain] at h1
        refine .inr ⟨b, off, rfl, World.block_lt_of_cell? W ⟨b, off + 0, none⟩ (hc 0 (by omega)), fun j hj => ?_⟩
        have hj' : j < len := by simpa using hj
        have e : ((List.range len).map q).getD j 0 = q j := by
          rw [List.getD_eq_getElem?_getD, List.getElem?_map, List.getElem?_range hj']; rfl
        rw [e]
        exact hc j hj'

theorem weightsAll_mem {H : Type} {P : Program} {e : TypeId} {d : DataW H} {n : Nat} : ∀ {ds : List (DataW H)}, d ∈ ds → n ∈ d.weights P e → n ∈ DataW.weightsAll P e ds
  | d0 :: ds, hd, hn => by
    simp only [DataW.weightsAll, List.mem_append]
    rcases List.mem_cons.1 hd with rfl | h
    · exact .inl hn
    · exact .inr (weightsAll_mem h hn)
set_option maxRecDepth 100000 in
/-- A script that came in. -/
theorem open_script {H : Type} {enc : TypeId × Value → H} {W : World} {a : Option Addr} {len cap : Nat} {d : DataW H} {ps : List MemPlace} (h : DataW.Trod enc Tryd.prog W 0 (fun _ => true) true 23 (.slice a len cap) d ps)
    (hsz : (d.weights Tryd.prog 23).all (· ≤ reachBytes) = true) :
    ∃ ss : List Sc, ss.length = len ∧ len ≤ 281474976710656 ∧ SRow W a ss := by
  obtain ⟨fuel, hf⟩ := h
  have c37 : Tryd.prog.cellsOf 37 = 4 := by kernel_rfl
  have c3 : Tryd.prog.cellsOf 3 = 1 := by kernel_rfl
  have c22 : Tryd.prog.cellsOf 22 = 1 := by kernel_rfl
  have b37 : Tryd.prog.bytesOf 37 = 48 := by kernel_rfl
  rcases Deep.open_slice Tryd.underlying23 hf with ⟨hcs, _⟩ | ⟨x, l, c, m, n, D, Pl, hcs, hx, hl, hm, hmm, hd, each⟩
  · simp [Value.cells] at hcs
    obtain ⟨rfl, rfl, rfl⟩ := hcs
    exact ⟨[], rfl, by omega, .inl rfl, by simp⟩
  · simp [Value.cells] at hcs
    obtain ⟨rfl, rfl, rfl⟩ := hcs
    have hmc : m = cap := by rw [hmm]; simp
    have hd1 : d = _ := congrArg Prod.fst hd
    rw [hd1] at hsz
    simp only [DataW.weights, Tryd.underlying23, List.all_cons, List.all_append, Bool.and_eq_true, decide_eq_true_eq] at hsz
    obtain ⟨hs0, hs1, -⟩ := hsz
    have key : ∀ i, i < len → ∃ q : Sc, W.cell? (x.add (i * 4)) = some (.int .i64 q.kd) ∧ W.cell? (x.add (i * 4 + 1)) = some (.int .i64 q.wh) ∧ W.cell? (x.add (i * 4 + 2)) = some (.int .i64 q.n) ∧ W.cell? (x.add (i * 4 + 3)) = some (.slice q.a q.l.length q.c) ∧ q.l.length ≤ 281474976710656 ∧ NRow W q.a q.l := by
      intro i hi
      obtain ⟨cs', h1, h2⟩ := each i (by omega)
      rw [c37] at h1
      obtain ⟨_, hlen, hcell⟩ := World.cells?_some h1
      obtain ⟨xs, k, -, hagg, -, hxl, hf'⟩ := DataW.trod_struct Tryd.underlying37 h2
      have hDi : D i = .agg (xs.map (·.1)) := congrArg Prod.fst hagg
      match cs', hlen with
      | [v0, v1, v2, v3], _ =>
        have hx4 : xs.length = 4 := by simpa using hxl
        have g0 : DataW.trod enc Tryd.prog W 0 (fun _ => true) true k 3 (List.take (Tryd.prog.cellsOf 3) [v0, v1, v2, v3]) = xs[0]? := hf' 0 _ rfl
        have g1 : DataW.trod enc Tryd.prog W 0 (fun _ => true) true k 3 (List.take (Tryd.prog.cellsOf 3) [v1, v2, v3]) = xs[1]? := hf' 1 _ rfl
        have g2 : DataW.trod enc Tryd.prog W 0 (fun _ => true) true k 3 (List.take (Tryd.prog.cellsOf 3) [v2, v3]) = xs[2]? := hf' 2 _ rfl
        have g3 : DataW.trod enc Tryd.prog W 0 (fun _ => true) true k 22 (List.take (Tryd.prog.cellsOf 22) [v3]) = xs[3]? := hf' 3 _ rfl
        rw [c3] at g0 g1 g2
        rw [c22] at g3
        rw [List.getElem?_eq_getElem (by omega)] at g0 g1 g2 g3
        obtain ⟨n0, e0, -, -⟩ := DataW.trod_int Tryd.underlying3 g0
        obtain ⟨n1, e1, -, -⟩ := DataW.trod_int Tryd.underlying3 g1
        obtain ⟨n2, e2, -, -⟩ := DataW.trod_int Tryd.underlying3 g2
        simp at e0 e1 e2
        subst e0 e1 e2
        have hw3 : ∀ z ∈ (xs[3]).1.weights Tryd.prog 22, z ≤ reachBytes := fun z hz => by
          have hz2 : z ∈ (D i).weights Tryd.prog 37 := by
            rw [hDi]
            simp only [DataW.weights, Tryd.underlying37]
            refine DataW.weights_mem_each (j := 3) (t := 22) rfl ?_ z hz
            rw [List.getElem?_map, List.getElem?_eq_getElem (by omega)]; rfl
          have hz3 := weightsAll_mem (List.mem_map.2 ⟨i, List.mem_range.2 hi, rfl⟩) hz2
          simpa using List.all_eq_true.1 hs1 z hz3
        obtain ⟨sa, sl, sc, rfl⟩ : ∃ sa sl sc, v3 = .slice sa sl sc := by
          rcases Deep.open_slice Tryd.underlying22 g3 with ⟨hcs, _⟩ | ⟨_, _, _, _, _, _, _, hcs, _⟩
          · simp at hcs; exact ⟨_, _, _, hcs⟩
          · simp at hcs; exact ⟨_, _, _, hcs⟩
        have ht3 : DataW.Trod enc Tryd.prog W 0 (fun _ => true) true 22 (.slice sa sl sc) (xs[3]).1 (xs[3]).2 := ⟨k, g3⟩
        obtain ⟨li, hli, hlb, hnr, -⟩ := open_nums ht3 (fun elems spare hd => by
          have := hw3 ((elems.length + spare.length) * Tryd.prog.bytesOf 3) (by rw [hd]; simp [DataW.weights, Tryd.underlying22])
          rwa [bytes3] at this)
        subst hli
        have a0 := hcell 0 (by omega)
        have a1 := hcell 1 (by omega)
        have a2 := hcell 2 (by omega)
        have a3 := hcell 3 (by omega)
        rw [Deep.add_add] at a0 a1 a2 a3
        exact ⟨⟨n0, n1, n2, sa, sc, li⟩, by simpa using a0, by simpa using a1, by simpa using a2, by simpa using a3, by show li.length ≤ _; omega, hnr⟩
    haveI : Inhabited Sc := ⟨sc0⟩
    obtain ⟨q, hq⟩ := Deep.choose_lt (α := Sc) key
    refine ⟨(List.range len).map q, by simp, ?_, ?_, fun y hy => ?_⟩
    · simp only [List.length_map, List.length_range, reachBytes, b37] at hs0
      omega
    · by_cases h0 : len = 0
      · subst h0; exact .inl rfl
      · obtain ⟨b, off, spot⟩ := x
        have hspot : spot = none := by simpa [Addr.add] using World.cell?_spot (hq 0 (by omega)).1
        subst hspot
        have hc : ∀ j, j < len → W.cell? ⟨b, off + j * 4, none⟩ = some (.int .i64 (q j).kd) ∧ W.cell? ⟨b, off + j * 4 + 1, none⟩ = some (.int .i64 (q j).wh) ∧ W.cell? ⟨b, off + j * 4 + 2, none⟩ = some (.int .i64 (q j).n) ∧ W.cell? ⟨b, off + j * 4 + 3, none⟩ = some (.slice (q j).a (q j).l.length (q j).c) := fun j hj => by
          have h1 := hq j hj
          rw [Go.WideShapes.add_plain, Go.WideShapes.add_plain, Go.WideShapes.add_plain, Go.WideShapes.add_plain] at h1
          exact ⟨h1.1, by rw [Nat.add_assoc]; exact h1.2.1, by rw [Nat.add_assoc]; exact h1.2.2.1, by rw [Nat.add_assoc]; exact h1.2.2.2.1⟩
        refine .inr ⟨b, off, rfl, World.block_lt_of_cell? W ⟨b, off + 0 * 4, none⟩ (hc 0 (by omega)).1, fun j hj => ?_⟩
        have hj' : j < len := by simpa using hj
        have e : ((List.range len).map q).getD j sc0 = q j := by
          rw [List.getD_eq_getElem?_getD, List.getElem?_map, List.getElem?_range hj']; rfl
        rw [e]
        exact hc j hj'
    · obtain ⟨i, hi, rfl⟩ := List.mem_map.1 hy
      rw [List.mem_range] at hi
      exact (hq i hi).2.2.2.2
/-- The table, as the row lists it. -/
theorem tab_of {W : World} (h : laidMetH Tryd.prog Rows.workSetsRow.laid W) : Tab W := by
  intro r hr
  rw [MakeChecks.laidMetH_plain _ _ _ (by kernel_rfl)] at h
  obtain ⟨ps, ⟨g, t, cs, fuel, p, q, hg, ht, hv, hd, _, _⟩, _, _⟩ := h
  obtain rfl := Option.some.inj ((show Tryd.prog.globalNamed "math/bits.deBruijn64tab" = some 0 by kernel_rfl).symm.trans hg)
  obtain rfl := Option.some.inj ((show (Tryd.prog.globals[0]?).map (·.type) = some 99 by kernel_rfl).symm.trans ht)
  obtain ⟨xs, m, _, ex, _, hl, hel⟩ := DataW.trod_array Tryd.underlying99 hd
  have c5 : Tryd.prog.cellsOf 5 = 1 := by kernel_rfl
  have hE := hel r hr
  rw [c5, Nat.mul_one, List.getElem?_eq_getElem (by omega)] at hE
  obtain ⟨z, e1, e2, _⟩ := DataW.trod_int Tryd.underlying5 hE
  have hlen : tzTab.length = 64 := by kernel_rfl
  have e3 : (xs.map (·.1)) = tzTab.map fun n : Nat => (.lit (.int .u8 (n : Int)) : DataW Unit) := (DataW.agg.inj (Prod.mk.inj ex).1).symm
  have e4 : (xs.map (·.1))[r]? = (tzTab.map fun n : Nat => (DataW.lit (.int .u8 (n : Int)) : DataW Unit))[r]? := by rw [e3]
  rw [List.getElem?_map, List.getElem?_map, List.getElem?_eq_getElem (by omega : r < xs.length), List.getElem?_eq_getElem (by omega : r < tzTab.length), e2] at e4
  have hz : z = (tzTab.getD r 0 : Nat) := by
    simp only [Option.map_some, Option.some.injEq, DataW.lit.injEq, Lit.int.injEq, true_and] at e4
    rw [e4, List.getD_eq_getElem?_getD, List.getElem?_eq_getElem (by omega : r < tzTab.length)]; rfl
  rw [World.var?_cell hg hv r, ← hz]
  have : cs.toList[r]? = some (.int .u8 z) := by
    have h0 : ((cs.toList.drop r).take 1)[0]? = some (.int .u8 z) := by rw [e1]; rfl
    simpa using h0
  simpa using this

set_option maxRecDepth 100000 in
theorem lifted (os : Os) (started : os.Started) (H : Type) (enc : TypeId × Value → H) :
    ReturnsInHanded {} Tryd.checked os 3 .any (fun w args => (Rows.workSetsSpec.pre enc Tryd.prog Tryd.f3 Rows.workSetsRow.domain false w args ∧ laidMetH Tryd.prog Rows.workSetsRow.laid w) ∧ sizedMet enc Tryd.prog Tryd.f3 (OpenSpec.ofChange Rows.workSetsSpec) false w args)
      (Rows.workSetsSpec.post enc Tryd.prog Tryd.f3 false true false false) := by
  refine returnsInHanded_of_change_and (C := Tryd.checked) (X := fun w _ => laidMetH Tryd.prog Rows.workSetsRow.laid w) (fun _ _ _ hh h => h.of_heap hh) own started (by kernel_rfl) Tryd.func3
    (ChangeSpec.witness_shaped (enc := enc) (C := Tryd.checked) (os := os) (X := fun w _ => laidMetH Tryd.prog Rows.workSetsRow.laid w) false (World.laidAll Tryd.prog os Rows.workSetsRow.laid) #[.slice none 0 0, .slice none 0 0, .slice none 0 0] 8 (World.laidAll_os _ _ _)
      (World.shaped_of_ZipB (by kernel_rfl) (by kernel_rfl)) (by kernel_rfl) (by kernel_rfl) (by kernel_rfl)
      (by rw [MakeChecks.laidMetH_plain _ _ _ (by kernel_rfl)]; exact laidMet_laidAll _ (by kernel_rfl) (by kernel_rfl))) ?_
  intro W base args ds gs before hval0 hW _ hsz hL _
  have hval : ∀ (j : Nat) t v, Tryd.f3.params[j]? = some t → args[j]? = some v → Value.okWide Tryd.prog W .any base t v := hval0
  have hW' := hW
  obtain ⟨p, q, hA0, hV, rfl, _, _⟩ := hW
  have hA : DataW.TrodAll enc Tryd.prog W 0 (fun _ => true) true Tryd.f3.params.toList args.toList ds p := hA0
  rw [Tryd.params3] at hA hval hsz
  obtain ⟨v0, vs0, d0, ds0, p0, q0, hargs, rfl, rfl, h0, r0⟩ := trodAll_cons hA
  obtain ⟨v1, vs1, d1, ds1, p1, q1, rfl, rfl, rfl, h1, r1⟩ := trodAll_cons r0
  obtain ⟨v2, vs2, d2, ds2, p2, q2, rfl, rfl, rfl, h2, r2⟩ := trodAll_cons r1
  obtain ⟨rfl, rfl, rfl⟩ := trodAll_nil r2
  obtain rfl : args = #[v0, v1, v2] := by cases args; simp_all
  obtain ⟨rfl, rfl⟩ := trodVars_none hV
  obtain ⟨a2, len2, cap2, rfl⟩ := okWide_slice Tryd.underlying23 (hval 2 23 v2 rfl rfl)
  have k0 := h0
  have k1 := h1
  have k2 := h2
  have lt0 : ∀ x ∈ p0, x.block < W.heap.size := by obtain ⟨n, hn⟩ := k0; exact DataW.trod_lt n _ _ _ hn
  have lt1 : ∀ x ∈ p1, x.block < W.heap.size := by obtain ⟨n, hn⟩ := k1; exact DataW.trod_lt n _ _ _ hn
  have lt2 : ∀ x ∈ p2, x.block < W.heap.size := by obtain ⟨n, hn⟩ := k2; exact DataW.trod_lt n _ _ _ hn
  obtain ⟨a0, len0, cap0, rfl⟩ := okWide_slice Tryd.underlying22 (hval 0 22 v0 rfl rfl)
  obtain ⟨a1, len1, cap1, rfl⟩ := okWide_slice Tryd.underlying22 (hval 1 22 v1 rfl rfl)
  obtain ⟨l, hl, hb, hrow, hnil⟩ := open_nums h0 (fun elems spare hd => by
    have := sized_slice hsz (j := 0) (t := 22) (e := 3) (elems := elems) (spare := spare) rfl (by rw [hd]; rfl) Tryd.underlying22
    rwa [show Tryd.checked.prog.bytesOf 3 = 8 from bytes3] at this)
  obtain ⟨m, hm, hbm, hrowm, _⟩ := open_nums h1 (fun elems spare hd => by
    have := sized_slice hsz (j := 1) (t := 22) (e := 3) (elems := elems) (spare := spare) rfl (by rw [hd]; rfl) Tryd.underlying22
    rwa [show Tryd.checked.prog.bytesOf 3 = 8 from bytes3] at this)
  obtain ⟨ss, hs, hsb, hrows⟩ := open_script h2 (List.all_eq_true.2 fun n hn => List.all_eq_true.1 hsz n (DataW.weights_mem_each (j := 2) (t := 23) rfl rfl n hn))
  subst hl
  subst hm
  subst hs
  have htab := tab_of hL
  have hpos : 0 < W.heap.size := World.block_lt_of_cell? W ⟨0, 0, none⟩ (htab 0 (by decide))
  refine (sets_walk a0 a1 cap0 cap1 l m (by omega) (by omega) a2 cap2 ss hsb W hrow hrowm hrows htab hpos).mono fun e W' ⟨he, bel⟩ => ?_
  subst he
  exact ⟨_, rfl, _, _, _, [], _, [], hW', trodAll_mk1 (shut_bool Tryd.underlying4 _), (trodAll_cons_mk (Below.trod laidOut (by kernel_rfl) (of_decide_eq_true (by kernel_rfl)) k0 bel lt0) (trodAll_cons_mk (Below.trod laidOut (by kernel_rfl) (of_decide_eq_true (by kernel_rfl)) k1 bel lt1) (trodAll_cons_mk (Below.trod laidOut (by kernel_rfl) (of_decide_eq_true (by kernel_rfl)) k2 bel lt2) trodAll_mk0))), rfl, bel.frame _, fun h => by cases h⟩
end Go.Proofs.YtdpphjedjhjdgaaDoor.workSets
namespace Go.Proofs.YtdpphjedjhjdgaaDoor
theorem workSets_row : Rows.WorkSetsSaid :=
  OpenClaim.holds_of_wide 3 Tryd.f3 rfl rfl rfl rfl rfl rfl rfl ⟨rfl, rfl, rfl, rfl, rfl⟩ rfl rfl rfl rfl rfl (by kernel_rfl) Tryd.func3 (by kernel_rfl)
    (of_decide_eq_true (by kernel_rfl)) (by unfold Func.isWrapper; first | (rw [if_pos (by decide +kernel)]; kernel_rfl) | (rw [if_neg (by decide +kernel)]; exact ⟨rfl, rfl⟩))
    (fun os started H enc _ => workSets.lifted os started H enc)
theorem workSets_card : Rows.WorkSetsCardSaid :=
  Claim7.holds_tied_plain_at .later [] [.data] true Rows.workSetsCard.stood.harness true workSets_row (fun _ h => by cases h) (by kernel_rfl) (fun _ h => by cases h) workSets_row_tie rfl ⟨rfl, rfl⟩ (by kernel_rfl) rfl
    (fun f fn hf hfn => by
      obtain rfl : f = 3 := Option.some.inj ((show Tryd.prog.funcNamed Rows.workSetsRow.func = some 3 by kernel_rfl).symm.trans hf) |>.symm
      obtain rfl : fn = Tryd.f3 := (Option.some.inj (Tryd.func3.symm.trans hfn)).symm
      exact ⟨by kernel_rfl, fun j t ht => by
        rw [Tryd.params3] at ht
        have hm : t ∈ [22, 22, 23] := by simpa using Array.mem_of_getElem? ht
        have hall : ([22, 22, 23].all fun u => !Tryd.prog.wantsStandIn u) = true := by kernel_rfl
        exact (show Tryd.prog.wantsStandIn t = false by simpa using List.all_eq_true.1 hall t hm)⟩)
    (by kernel_rfl)
end Go.Proofs.YtdpphjedjhjdgaaDoor

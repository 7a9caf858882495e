/- Two sets, and the document's two: what is so between the calls of the script. -/
import Derived.Test.YtdpphjedjhjdgaaDoorD1
import Derived.Test.YtdpphjedjhjdgaaDoorC4
namespace Go.Proofs.YtdpphjedjhjdgaaDoor
open Go.RowKit Go.Maps

/-- A set whose blocks are known by their types. -/
structure TSet (w : World) (B : Nat) (O : Nat → Prop) (bl : List Blk) : Prop where
  ok : SetOk w B O bl (cnt 1048576 (hasB bl))
  ty : ∀ k, O k → ∃ cs t, w.heap[k]? = some (.cells cs t (0, 0)) ∧ (t = 53 ∨ t = 73)
theorem set_tight {w : World} {B : Nat} {O : Nat → Prop} {bl : List Blk} {sz : Int} (h : SetOk w B O bl sz) (hs : sz = (cnt 1048576 (hasB bl) : Int)) : ∃ O', TSet w B O' bl ∧ ∀ k, O' k → O k := by
  subst hs
  obtain ⟨⟨h1, h2, h3, h4, sv, hB, hr, hs⟩, hf, hu⟩ := h
  refine ⟨fun k => k = B ∨ sv.ownBlock = some k, ⟨⟨⟨.inl rfl, fun k hk => ?_, h3, h4, sv, hB, hr, fun k hk => .inr hk⟩, hf, hu⟩, fun k hk => ?_⟩, fun k hk => ?_⟩
  · rcases hk with rfl | hk
    · exact lt_of_some hB
    · exact (hr.lt k hk).2
  · rcases hk with rfl | hk
    · exact ⟨_, _, hB, .inl rfl⟩
    · rcases hr.2 with ⟨rfl, _⟩ | ⟨g, cap, cur, rfl, _, hg, _⟩
      · simp [Value.ownBlock] at hk
      · simp only [Value.ownBlock, Option.some.injEq] at hk
        subst hk
        exact ⟨_, _, hg, .inr rfl⟩
  · rcases hk with rfl | hk
    · exact h1
    · exact hs k hk
theorem tset_off {w w' : World} {B : Nat} {O O' : Nat → Prop} {bl : List Blk} (h : TSet w B O bl) (ho : Off O' w w') (hd : ∀ k, O k → ¬ O' k) : TSet w' B O bl :=
  ⟨ok_off h.ok ho hd, fun k hk => by
    obtain ⟨cs, t, h1, h2⟩ := h.ty k hk
    exact ⟨cs, t, (ho.block k (lt_of_some h1) (hd k hk)).trans h1, h2⟩⟩
/-- What is of another type is not of the set. -/
theorem tset_not {w : World} {B b : Nat} {O : Nat → Prop} {bl : List Blk} (h : TSet w B O bl) {cs : Array Value} {t : TypeId} {f : Nat × Nat} (hb : w.heap[b]? = some (.cells cs t f)) (h1 : t ≠ 53) (h2 : t ≠ 73) : ¬ O b := fun hO => by
  obtain ⟨cs', t', e, h3⟩ := h.ty b hO
  rw [hb] at e
  simp only [Option.some.injEq, Obj.cells.injEq] at e
  obtain ⟨-, rfl, -⟩ := e
  rcases h3 with h3 | h3
  · exact h1 h3
  · exact h2 h3
theorem tset_row {w : World} {B C : Nat} {O : Nat → Prop} {bl : List Blk} (h : TSet w B O bl) {v : Value} {L : List Int} (hr : RowI w C v L) : ∀ k, v.ownBlock = some k → ¬ O k := fun k hk => by
  rcases (rowI_own hr).2 with ⟨rfl, _⟩ | ⟨g, cap, cur, rfl, _, hg, _⟩
  · simp [Value.ownBlock] at hk
  · simp only [Value.ownBlock, Option.some.injEq] at hk
    subst hk
    exact tset_not h hg (by decide) (by decide)

structure Inv (w W : World) (Bs Br B0 B1 : Nat) (O0 O1 : Nat → Prop) (bl0 bl1 : List Blk) (v0 v1 : Value) (L0 L1 : List Int) : Prop where
  below : Below w.heap.size w W
  s : W.heap[Bs]? = some (.cells #[.pointer (some ⟨B0, 0, none⟩), .pointer (some ⟨B1, 0, none⟩)] 30 (0, 0))
  r : W.heap[Br]? = some (.cells #[v0, v1] 35 (0, 0))
  ls : w.heap.size ≤ Bs
  lr : w.heap.size ≤ Br
  t0 : TSet W B0 O0 bl0
  t1 : TSet W B1 O1 bl1
  apart : ∀ k, O0 k → ¬ O1 k
  lo0 : ∀ k, O0 k → w.heap.size ≤ k
  lo1 : ∀ k, O1 k → w.heap.size ≤ k
  r0 : RowI W 0 v0 L0
  r1 : RowI W 0 v1 L1
/-- The sets are the document's. -/
def Two (w W : World) (Bs Br : Nat) : Prop := ∃ B0 B1 O0 O1 bl0 bl1 v0 v1, Inv w W Bs Br B0 B1 O0 O1 bl0 bl1 v0 v1 (allL bl0) (allL bl1)
theorem tset_below {w w' : World} {B : Nat} {O : Nat → Prop} {bl : List Blk} (h : TSet w B O bl) (hb : Below w.heap.size w w') : TSet w' B O bl := tset_off (O' := fun _ => False) h (off_below hb) (fun _ _ h => h)
theorem inv_off {w W : World} {Bs Br B0 B1 : Nat} {O0 O1 : Nat → Prop} {bl0 bl1 : List Blk} {v0 v1 : Value} {L0 L1 : List Int} (h : Inv w W Bs Br B0 B1 O0 O1 bl0 bl1 v0 v1 L0 L1) {W' : World} (hb : Below W.heap.size W W') : Inv w W' Bs Br B0 B1 O0 O1 bl0 bl1 v0 v1 L0 L1 :=
  ⟨h.below.trans (hb.mono h.below.size), (hb.block _ (lt_of_some h.s)).trans h.s, (hb.block _ (lt_of_some h.r)).trans h.r, h.ls, h.lr, tset_below h.t0 hb, tset_below h.t1 hb, h.apart, h.lo0, h.lo1, rowI_below h.r0 hb, rowI_below h.r1 hb⟩
theorem inv_ne {w W : World} {Bs Br B0 B1 : Nat} {O0 O1 : Nat → Prop} {bl0 bl1 : List Blk} {v0 v1 : Value} {L0 L1 : List Int} (h : Inv w W Bs Br B0 B1 O0 O1 bl0 bl1 v0 v1 L0 L1) : Bs ≠ Br := fun e => by
  have h1 := h.s; have h2 := h.r; rw [e, h2] at h1; simp at h1
/-- How many numbers All tells. -/
theorem allL_cnt {bl : List Blk} (hr : Rises bl) (hf : FitB bl) : (allL bl).length = cnt 1048576 (hasB bl) := by
  have hup : Up (((List.range 1048576).filter fun i : Nat => hasB bl i).map fun i : Nat => (i : Int)) := by
    unfold Up
    rw [List.pairwise_map]
    have : (List.range 1048576).Pairwise (· < ·) := List.pairwise_lt_range
    exact (this.filter _).imp fun h => by omega
  have := all_is hr hf hup (fun m => by
    rw [List.mem_map]
    constructor
    · rintro ⟨i, hi, rfl⟩
      exact (List.mem_filter.1 hi).2
    · intro h
      obtain ⟨h0, h1⟩ := has_range hr hf h
      obtain ⟨i, rfl⟩ := Int.eq_ofNat_of_zero_le h0
      exact ⟨i, List.mem_filter.2 ⟨List.mem_range.2 (by omega), h⟩, rfl⟩)
  rw [← this, List.length_map]
  rfl
theorem allL_short {bl : List Blk} (hr : Rises bl) (hf : FitB bl) : (allL bl).length ≤ 1048576 := by rw [allL_cnt hr hf]; exact cnt_le _ _
theorem allL_nums {bl : List Blk} (hr : Rises bl) (hf : FitB bl) : numsB (allL bl) = true := by
  unfold numsB
  rw [List.all_eq_true]
  intro m hm
  have := has_range hr hf ((mem_all hr hf m).1 hm)
  simpa using this
/-- A row of the document's is stored. -/
theorem inv_row0 {w W : World} {Bs Br B0 B1 : Nat} {O0 O1 : Nat → Prop} {bl0 bl1 : List Blk} {v0 v1 : Value} {L0 L1 : List Int} (h : Inv w W Bs Br B0 B1 O0 O1 bl0 bl1 v0 v1 L0 L1) {v : Value} {L : List Int} (hv : RowI W 0 v L) : Inv w (W.setCell ⟨Br, 0, none⟩ v) Bs Br B0 B1 O0 O1 bl0 bl1 v v1 L L1 := by
  have hst : Off (fun k => k = Br) W (W.setCell ⟨Br, 0, none⟩ v) := off_set (O := fun k => k = Br) (off_refl _ _) (p := ⟨Br, 0, none⟩) (.inl rfl) v
  exact ⟨h.below.setCell (p := ⟨Br, 0, none⟩) h.lr v, (hst.block _ (lt_of_some h.s) (inv_ne h)).trans h.s, block_set (i := 0) h.r v, h.ls, h.lr, tset_off h.t0 hst (fun k hk e => tset_not h.t0 h.r (by decide) (by decide) (e ▸ hk)), tset_off h.t1 hst (fun k hk e => tset_not h.t1 h.r (by decide) (by decide) (e ▸ hk)), h.apart, h.lo0, h.lo1, rowI_off hv hst (fun k hk e => row_not h.r (rowI_own hv) (by decide) (by rw [hk, e])), rowI_off h.r1 hst (fun k hk e => row_not h.r (rowI_own h.r1) (by decide) (by rw [hk, e]))⟩
/-- A row of the document's is stored. -/
theorem inv_row1 {w W : World} {Bs Br B0 B1 : Nat} {O0 O1 : Nat → Prop} {bl0 bl1 : List Blk} {v0 v1 : Value} {L0 L1 : List Int} (h : Inv w W Bs Br B0 B1 O0 O1 bl0 bl1 v0 v1 L0 L1) {v : Value} {L : List Int} (hv : RowI W 0 v L) : Inv w (W.setCell ⟨Br, 1, none⟩ v) Bs Br B0 B1 O0 O1 bl0 bl1 v0 v L0 L := by
  have hst : Off (fun k => k = Br) W (W.setCell ⟨Br, 1, none⟩ v) := off_set (O := fun k => k = Br) (off_refl _ _) (p := ⟨Br, 1, none⟩) (.inl rfl) v
  exact ⟨h.below.setCell (p := ⟨Br, 1, none⟩) h.lr v, (hst.block _ (lt_of_some h.s) (inv_ne h)).trans h.s, block_set (i := 1) h.r v, h.ls, h.lr, tset_off h.t0 hst (fun k hk e => tset_not h.t0 h.r (by decide) (by decide) (e ▸ hk)), tset_off h.t1 hst (fun k hk e => tset_not h.t1 h.r (by decide) (by decide) (e ▸ hk)), h.apart, h.lo0, h.lo1, rowI_off h.r0 hst (fun k hk e => row_not h.r (rowI_own h.r0) (by decide) (by rw [hk, e])), rowI_off hv hst (fun k hk e => row_not h.r (rowI_own hv) (by decide) (by rw [hk, e]))⟩
/-- A set has changed. -/
theorem inv_set0 {w W : World} {Bs Br B0 B1 : Nat} {O0 O1 : Nat → Prop} {bl0 bl1 : List Blk} {v0 v1 : Value} {L0 L1 : List Int} (h : Inv w W Bs Br B0 B1 O0 O1 bl0 bl1 v0 v1 L0 L1) {W' : World} (ho : Off O0 W W') {O' : Nat → Prop} {bl : List Blk} {sz : Int} (hs : SetOk W' B0 O' bl sz) (hz : sz = (cnt 1048576 (hasB bl) : Int)) (hO : ∀ k, O' k → O0 k ∨ W.heap.size ≤ k) : ∃ O2, Inv w W' Bs Br B0 B1 O2 O1 bl bl1 v0 v1 L0 L1 := by
  obtain ⟨O2, tset_tt, hO2⟩ := set_tight hs hz
  exact ⟨O2, h.below.trans (off_to ho (fun k hk => h.lo0 k hk) h.below.size), (ho.block _ (lt_of_some h.s) (tset_not h.t0 h.s (by decide) (by decide))).trans h.s, (ho.block _ (lt_of_some h.r) (tset_not h.t0 h.r (by decide) (by decide))).trans h.r, h.ls, h.lr, tset_tt, tset_off h.t1 ho (fun k h1 h0 => h.apart k h0 h1), fun k h2 h1 => (hO k (hO2 k h2)).elim (fun h3 => h.apart k h3 h1) (fun h3 => by have := h.t1.ok.is.lt k h1; omega), fun k h2 => (hO k (hO2 k h2)).elim (fun h3 => h.lo0 k h3) (fun h3 => by have := h.below.size; omega), h.lo1, rowI_off h.r0 ho (tset_row h.t0 h.r0), rowI_off h.r1 ho (tset_row h.t0 h.r1)⟩
/-- A set has changed. -/
theorem inv_set1 {w W : World} {Bs Br B0 B1 : Nat} {O0 O1 : Nat → Prop} {bl0 bl1 : List Blk} {v0 v1 : Value} {L0 L1 : List Int} (h : Inv w W Bs Br B0 B1 O0 O1 bl0 bl1 v0 v1 L0 L1) {W' : World} (ho : Off O1 W W') {O' : Nat → Prop} {bl : List Blk} {sz : Int} (hs : SetOk W' B1 O' bl sz) (hz : sz = (cnt 1048576 (hasB bl) : Int)) (hO : ∀ k, O' k → O1 k ∨ W.heap.size ≤ k) : ∃ O2, Inv w W' Bs Br B0 B1 O0 O2 bl0 bl v0 v1 L0 L1 := by
  obtain ⟨O2, tset_tt, hO2⟩ := set_tight hs hz
  exact ⟨O2, h.below.trans (off_to ho (fun k hk => h.lo1 k hk) h.below.size), (ho.block _ (lt_of_some h.s) (tset_not h.t1 h.s (by decide) (by decide))).trans h.s, (ho.block _ (lt_of_some h.r) (tset_not h.t1 h.r (by decide) (by decide))).trans h.r, h.ls, h.lr, tset_off h.t0 ho (fun k h0 h1 => h.apart k h0 h1), tset_tt, fun k h0 h2 => (hO k (hO2 k h2)).elim (fun h3 => h.apart k h0 h3) (fun h3 => by have := h.t0.ok.is.lt k h0; omega), h.lo0, fun k h2 => (hO k (hO2 k h2)).elim (fun h3 => h.lo1 k h3) (fun h3 => by have := h.below.size; omega), rowI_off h.r0 ho (tset_row h.t1 h.r0), rowI_off h.r1 ho (tset_row h.t1 h.r1)⟩
/-- A set is another one. -/
theorem inv_ptr0 {w W : World} {Bs Br B0 B1 : Nat} {O0 O1 : Nat → Prop} {bl0 bl1 : List Blk} {v0 v1 : Value} {L0 L1 : List Int} (h : Inv w W Bs Br B0 B1 O0 O1 bl0 bl1 v0 v1 L0 L1) {Z : Nat} {O' : Nat → Prop} {bl : List Blk} {sz : Int} (hs : SetOk W Z O' bl sz) (hz : sz = (cnt 1048576 (hasB bl) : Int)) (hO : ∀ k, O' k → ¬ (O1 k ∨ False)) (hlo : ∀ k, O' k → w.heap.size ≤ k) : ∃ O2, Inv w (W.setCell ⟨Bs, 0, none⟩ (.pointer (some ⟨Z, 0, none⟩))) Bs Br Z B1 O2 O1 bl bl1 v0 v1 L0 L1 := by
  obtain ⟨O2, htt, hO2⟩ := set_tight hs hz
  have hst : Off (fun k => k = Bs) W (W.setCell ⟨Bs, 0, none⟩ (.pointer (some ⟨Z, 0, none⟩))) := off_set (O := fun k => k = Bs) (off_refl _ _) (p := ⟨Bs, 0, none⟩) (.inl rfl) _
  exact ⟨O2, h.below.setCell (p := ⟨Bs, 0, none⟩) h.ls _, block_set (i := 0) h.s _, (hst.block _ (lt_of_some h.r) (inv_ne h).symm).trans h.r, h.ls, h.lr, tset_off htt hst (fun k hk e => tset_not htt h.s (by decide) (by decide) (e ▸ hk)), tset_off h.t1 hst (fun k hk e => tset_not h.t1 h.s (by decide) (by decide) (e ▸ hk)), fun k h2 h1 => hO k (hO2 k h2) (.inl h1), fun k h2 => hlo k (hO2 k h2), h.lo1, rowI_off h.r0 hst (fun k hk e => row_not h.s (rowI_own h.r0) (by decide) (by rw [hk, e])), rowI_off h.r1 hst (fun k hk e => row_not h.s (rowI_own h.r1) (by decide) (by rw [hk, e]))⟩
/-- A set is another one. -/
theorem inv_ptr1 {w W : World} {Bs Br B0 B1 : Nat} {O0 O1 : Nat → Prop} {bl0 bl1 : List Blk} {v0 v1 : Value} {L0 L1 : List Int} (h : Inv w W Bs Br B0 B1 O0 O1 bl0 bl1 v0 v1 L0 L1) {Z : Nat} {O' : Nat → Prop} {bl : List Blk} {sz : Int} (hs : SetOk W Z O' bl sz) (hz : sz = (cnt 1048576 (hasB bl) : Int)) (hO : ∀ k, O' k → ¬ (O0 k ∨ False)) (hlo : ∀ k, O' k → w.heap.size ≤ k) : ∃ O2, Inv w (W.setCell ⟨Bs, 1, none⟩ (.pointer (some ⟨Z, 0, none⟩))) Bs Br B0 Z O0 O2 bl0 bl v0 v1 L0 L1 := by
  obtain ⟨O2, htt, hO2⟩ := set_tight hs hz
  have hst : Off (fun k => k = Bs) W (W.setCell ⟨Bs, 1, none⟩ (.pointer (some ⟨Z, 0, none⟩))) := off_set (O := fun k => k = Bs) (off_refl _ _) (p := ⟨Bs, 1, none⟩) (.inl rfl) _
  exact ⟨O2, h.below.setCell (p := ⟨Bs, 1, none⟩) h.ls _, block_set (i := 1) h.s _, (hst.block _ (lt_of_some h.r) (inv_ne h).symm).trans h.r, h.ls, h.lr, tset_off h.t0 hst (fun k hk e => tset_not h.t0 h.s (by decide) (by decide) (e ▸ hk)), tset_off htt hst (fun k hk e => tset_not htt h.s (by decide) (by decide) (e ▸ hk)), fun k h0 h2 => hO k (hO2 k h2) (.inl h0), h.lo0, fun k h2 => hlo k (hO2 k h2), rowI_off h.r0 hst (fun k hk e => row_not h.s (rowI_own h.r0) (by decide) (by rw [hk, e])), rowI_off h.r1 hst (fun k hk e => row_not h.s (rowI_own h.r1) (by decide) (by rw [hk, e]))⟩
end Go.Proofs.YtdpphjedjhjdgaaDoor

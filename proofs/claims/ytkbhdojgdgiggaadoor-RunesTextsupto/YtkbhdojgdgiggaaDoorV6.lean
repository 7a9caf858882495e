/- Contracts of Clone and SortFunc at rows of ranges. -/
import Derived.Test.YtkbhdojgdgiggaaDoorV5
import Derived.Test.YtkbhdojgdgiggaaDoorM3
import Derived.Laws.OwnMore
import Derived.Lib.SmallJoins
import Derived.Lib.SliceRun
namespace Go.Proofs.YtkbhdojgdgiggaaDoor
open Go.RowKit Go.Sort Go.Lib

/-- The cells of a row. -/
def flat (l : List Rng) : List Value := l.flatMap encR
theorem flat_cons (x : Rng) (l : List Rng) : flat (x :: l) = .int .i32 x.1 :: .int .i32 x.2 :: flat l := rfl
theorem flat_append (l m : List Rng) : flat (l ++ m) = flat l ++ flat m := List.flatMap_append
theorem flat_length (l : List Rng) : (flat l).length = l.length * 2 := by
  induction l with
  | nil => rfl
  | cons x l ih => rw [flat_cons]; simp [ih]; omega
theorem flat_at (l : List Rng) (j : Nat) (hj : j < l.length) : (flat l)[j * 2]? = some (.int .i32 (l.getD j (0, 0)).1) ∧ (flat l)[j * 2 + 1]? = some (.int .i32 (l.getD j (0, 0)).2) := by
  induction l generalizing j with
  | nil => simp at hj
  | cons x l ih =>
    rw [flat_cons]
    cases j with
    | zero => simp
    | succ j =>
      have := ih j (by simpa using hj)
      rw [show (j + 1) * 2 = j * 2 + 1 + 1 by omega]
      simpa using this
theorem flat_get (l : List Rng) (t : Nat) (ht : t < l.length * 2) : (flat l)[t]? = some ((encR l.toArray[t / 2]!)[t % 2]!) := by
  have hj : t / 2 < l.length := by omega
  have h := flat_at l (t / 2) hj
  have e : l.toArray[t / 2]! = l.getD (t / 2) (0, 0) := by
    rw [getElem!_pos _ _ (by simpa using hj)]
    simp [List.getD_eq_getElem?_getD, List.getElem?_eq_getElem hj]
  rw [e]
  have h2 : t % 2 = 0 ∨ t % 2 = 1 := by omega
  rcases h2 with h2 | h2
  · rw [h2]; have := h.1; rw [show t / 2 * 2 = t by omega] at this; rw [this]; rfl
  · rw [h2]; have := h.2; rw [show t / 2 * 2 + 1 = t by omega] at this; rw [this]; rfl
theorem flat_one (l : List Rng) : ∀ u ∈ flat l, u.oneCell' = true := by
  intro u hu
  simp only [flat, List.mem_flatMap, encR] at hu
  obtain ⟨x, _, hx⟩ := hu
  simp at hx
  rcases hx with rfl | rfl <;> rfl
theorem ownsRow_slice {w : World} {base : Nat} {e : TypeId} {size : Nat} {v : Value} {n : Nat} {xs : List Value} (h : w.ownsRow base e size v n xs) : ∃ a cap, v = .slice a n cap := by
  rcases h.2 with ⟨rfl, h0⟩ | ⟨g, cap, cur, rfl, _⟩
  · subst h0; exact ⟨_, _, rfl⟩
  · exact ⟨_, _, rfl⟩
theorem ownsRow_some {w : World} {base : Nat} {e : TypeId} {size : Nat} {v : Value} {n : Nat} {xs : List Value} (h : w.ownsRow base e size v n xs) (hn : 0 < n) : ∃ g cap, v = .slice (some ⟨g, 0, none⟩) n cap := by
  rcases h.2 with ⟨rfl, h0⟩ | ⟨g, cap, cur, rfl, _⟩
  · omega
  · exact ⟨_, _, rfl⟩
/-- A row of the call's own is a row. -/
theorem rowAt_own {w : World} {B : Nat} {l : List Rng} {a : Option Addr} {cap : Nat} (h : w.ownsRow B 55 2 (.slice a l.length cap) l.length (flat l)) : RowAt w a l := by
  by_cases h0 : l = []
  · exact .inl h0
  · have hn : 0 < l.length := List.length_pos_iff.2 h0
    obtain ⟨g, cap', hv⟩ := ownsRow_some h hn
    simp only [Value.slice.injEq, true_and] at hv
    obtain ⟨rfl, rfl⟩ := hv
    refine .inr ⟨g, 0, rfl, (h.lt g rfl).2, fun j hj => ?_⟩
    have f := flat_at l j hj
    rw [Nat.zero_add]
    exact ⟨(h.cellAt _ (by omega)).trans f.1, (h.cellAt _ (by omega)).trans f.2⟩
theorem below_le {B B' : Nat} {w w' : World} (h : Below B w w') (hb : B' ≤ B) : Below B' w w' := ⟨h.os, h.tape, h.output, h.size, fun k hk => h.block k (by omega)⟩

theorem hrange : (Tryd.prog.info? 55).map (fun i => (i.zero, i.size, i.bytes)) = some (some (.agg #[.int .i32 0, .int .i32 0]), 2, 8) := by kernel_rfl

set_option maxHeartbeats 1000000 in
set_option maxRecDepth 100000 in
theorem clone_any (a : Option Addr) (cap : Nat) (l : List Rng) (hl : l.length * 8 ≤ 140737488355328) (w : World) (hrow : RowAt w a l) :
    Calls Tryd.prog 59 #[.slice a l.length cap] w fun e w' => ∃ v, e = .returned v ∧ w'.ownsRow w.heap.size 55 2 v l.length (flat l) ∧ Below w.heap.size w w' := by
  obtain ⟨i0, hi, hz0, hz1, hz2⟩ := info_parts hrange
  have q22 : ∀ (w : World) (a : Option Addr) (n c n' c' : Nat), (binOp .eql 22 (.slice a n c) (.slice none n' c')).run Tryd.prog w = .ok (.bool a.isNone) w := fun w a n c n' c' => Lib.run_eql_slice_nil w _ _ a n c n' c' Tryd.underlying22
  cases a with
  | none =>
    have h0 : l = [] := by
      rcases hrow with h | ⟨b, off, h, _⟩
      · exact h
      · cases h
    subst h0
    go_enter Tryd.func59, Tryd.ntmps59
    go_wp2
    go_ret
    exact ⟨_, rfl, ⟨rfl, .inl ⟨rfl, rfl⟩⟩, Below.refl _ _⟩
  | some ad =>
    have Hc : Hid (∀ (o : Obj) j u, (flat l)[j]? = some u → (w.alloc o).cell? (ad.add j) = some u) := hide fun o j u hj => by
      rcases hrow with rfl | ⟨b, off, h, hlt, hc⟩
      · simp [flat] at hj
      · cases h
        have hj2 : j < l.length * 2 := by
          have := (List.getElem?_eq_some_iff.1 hj).1
          rwa [flat_length] at this
        have e : (⟨b, off, none⟩ : Addr).add j = ⟨b, off + j, none⟩ := by unfold Addr.add; split <;> simp_all
        rw [e, World.cell?_alloc_lt _ _ _ hlt]
        have f := flat_at l (j / 2) (by omega)
        have g := hc (j / 2) (by omega)
        have h2 : j % 2 = 0 ∨ j % 2 = 1 := by omega
        rcases h2 with h2 | h2
        · rw [show j / 2 * 2 = j by omega] at f g
          rw [f.1] at hj; cases hj; exact g.1
        · rw [show off + j / 2 * 2 + 1 = off + j by omega] at g
          rw [show j / 2 * 2 + 1 = j by omega] at f
          rw [f.2] at hj; cases hj; exact g.2
    clear hrow
    go_enter Tryd.func59, Tryd.ntmps59
    go_wp2_with (at_builtin; refine wpList_append_own _ rfl _ _ 22 rfl w.heap.size 55 i0 (.agg #[.int .i32 0, .int .i32 0]) 2 8 Tryd.underlying22 hi hz0 hz1 hz2 rfl (by decide) _ _ _ rfl (World.ownsRow_made w #[] 0 (Nat.le_refl _) (Nat.zero_le _) (by simp)) ad l.length cap (flat l) rfl ?qc1 ?qc2 ?qc3 ?qc4 ?qc5 ?qc6 ?_)
    case qc1 => exact flat_length l
    case qc2 => exact unhide Hc _
    case qc3 => exact flat_one l
    case qc4 => unfold maxLen; omega
    case qc5 => omega
    case qc6 => simp
    intro v' w1 hown hgrow hnil
    go_wp2
    go_ret
    refine ⟨v', rfl, by simpa using hown, ?_⟩
    exact ((Below.refl _ w).alloc (Nat.le_refl _) _).grown hgrow (by simp) (by intro k hk; simp [Value.ownBlock] at hk; omega)

/-- A row in order. -/
def sortL (l : List Rng) : List Rng := l.mergeSort fun x y => !ltOf cmpR y x
theorem sortL_perm (l : List Rng) : (sortL l).Perm l := List.mergeSort_perm l _
theorem sortL_length (l : List Rng) : (sortL l).length = l.length := (sortL_perm l).length_eq
theorem totR (x y : Rng) (h1 : ltOf cmpR x y = false) (h2 : ltOf cmpR y x = false) : x = y := by
  rw [cmpR_lt] at h1 h2
  simp only [decide_eq_false_iff_not] at h1 h2
  obtain ⟨a, b⟩ := x
  obtain ⟨c, d⟩ := y
  simp only at h1 h2
  simp only [Prod.mk.injEq]
  omega
set_option maxRecDepth 100000 in
theorem sort_own (B g cap : Nat) (l : List Rng) (w : World) (hown : w.ownsRow B 55 2 (.slice (some ⟨g, 0, none⟩) l.length cap) l.length (flat l)) (hl : l.length < 4611686018427387904) :
    Calls Tryd.prog 60 #[.slice (some ⟨g, 0, none⟩) l.length cap, .func (.func 48) #[] #[]] w fun e w' => e = .returned (.tuple #[]) ∧ RowAt w' (some ⟨g, 0, none⟩) (sortL l) ∧ Below g w w' ∧ g < w'.heap.size := by
  have eg : ∀ args w, (callFunc 48 args).run Tryd.prog w = .ok (.enter 48 args) w := enters_of Tryd.func48 (by kernel_rfl) rfl
  have hg := (hown.lt g rfl).2
  have hH : HoldsK encR 2 w g 0 l.toArray := by
    intro j hj
    rw [size_flatK] at hj
    have hj' : j < l.length * 2 := by simpa using hj
    rw [get_flatK _ _ _ _ hj, Nat.zero_add]
    exact ⟨(hown.cellAt j hj').trans (flat_get l j hj'), hown.frozenAt j⟩
  have h := AnyQ.slices_SortFunc_total Tryd.sortR 2 Tryd.isAgg55 Tryd.sizeOf55 encR (fun _ => rfl) (fun x v hv => by simp [encR] at hv; rcases hv with rfl | rfl <;> rfl) cmpR swoR 48 #[] g 0 cap l.toArray w eg (cmpLaysR g 0 l.toArray.size w) hH hg (by simpa using hl) totR
  simp only [List.size_toArray] at h
  refine Calls.mono h ?_
  rintro e w' ⟨rfl, n, os, rfl⟩
  refine ⟨rfl, ?_, ?_, lt_sortWorldK encR 2 w g 0 n _ os hg⟩
  · have hK := holdsK_sortWorldK_c encR 2 w g 0 l.toArray (sortL l).toArray n os hH hg (by simp [sortL_length])
    refine .inr ⟨g, 0, rfl, lt_sortWorldK encR 2 w g 0 n _ os hg, fun j hj => ?_⟩
    have e : (sortL l).toArray[j]! = (sortL l).getD j (0, 0) := by
      rw [getElem!_pos _ _ (by simpa using hj)]
      simp [List.getD_eq_getElem?_getD, List.getElem?_eq_getElem hj]
    have h0 := (hK.cell (i := j) (c := 0) (by simpa using hj) (by omega)).1
    have h1 := (hK.cell (i := j) (c := 1) (by simpa using hj) (by omega)).1
    rw [e] at h0 h1
    exact ⟨h0, h1⟩
  · refine ⟨rfl, rfl, rfl, size_sortWorldK_c encR 2 w g 0 n _ os, fun k hk => ?_⟩
    show ((Sort.putRow id (Sort.ahead w n) g 0 (flatK encR 2 (sortL l).toArray)).heap ++ os)[k]? = w.heap[k]?
    rw [Array.getElem?_append_left (by rw [size_putRow]; show k < w.heap.size; omega)]
    show (w.heap.modify g _)[k]? = _
    rw [Array.getElem?_modify, if_neg (by omega)]
end Go.Proofs.YtkbhdojgdgiggaaDoor

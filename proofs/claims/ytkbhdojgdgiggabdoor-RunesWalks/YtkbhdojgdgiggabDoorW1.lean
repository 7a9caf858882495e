/- All's iterator: what it tells, for every loop body that keeps what is not its own. -/
import Derived.Test.YtkbhdojgdgiggabDoorA1
import Derived.RangeFuncNested
import Derived.RangeFuncBound
import Derived.RangeFuncCalls
import Derived.RangeFuncLeaves
import Derived.Shelf.Abstract
import Derived.Shelf.RegionOpen
import Derived.WalkKit
import Derived.OwnWalkIn
import Derived.TacticsInMore
import Derived.LoopNIn
import Derived.LoopIn
namespace Go.Proofs.YtkbhdojgdgiggabDoor
open Go.RowKit Go.Shelf

attribute [local go_sem] Oper.semAt_some

/-- The cells that lie outside some blocks are as they were. -/
def Keep (O : Nat → Prop) (W W' : World) : Prop := W.heap.size ≤ W'.heap.size ∧ ∀ p v, ¬ O p.block → W.cell? p = some v → W'.cell? p = some v
theorem keep_refl (O : Nat → Prop) (W : World) : Keep O W W := ⟨Nat.le_refl _, fun _ _ _ h => h⟩
theorem keep_t {O : Nat → Prop} {A B C : World} (h : Keep O A B) (k : Keep O B C) : Keep O A C := ⟨Nat.le_trans h.1 k.1, fun p v ho hv => k.2 p v ho (h.2 p v ho hv)⟩
theorem keep_below {O : Nat → Prop} {A B : World} (h : Below A.heap.size A B) : Keep O A B :=
  ⟨h.size, fun p _ _ hv => (h.cell (p := p) (World.block_lt_of_cell? A p hv)).trans hv⟩

/-- The runes of a range, of a set. -/
def span (x : Rng) (j : Nat) : List Int := (List.range j).map fun (k : Nat) => x.1 + (k : Int)
def cnt1 (x : Rng) : Nat := (x.2 + 1 - x.1).toNat
def runesL (l : List Rng) : List Int := l.flatMap fun x => span x (cnt1 x)
theorem span_succ (x : Rng) (j : Nat) : span x (j + 1) = span x j ++ [x.1 + j] := by simp [span, List.range_succ]
theorem span_length (x : Rng) (j : Nat) : (span x j).length = j := by simp [span]
theorem runesL_succ (l : List Rng) (i : Nat) (hi : i < l.length) : runesL (l.take (i + 1)) = runesL (l.take i) ++ span (l.getD i (0, 0)) (cnt1 (l.getD i (0, 0))) := by
  unfold runesL
  rw [List.take_add_one, List.flatMap_append]
  simp [List.getD_eq_getElem?_getD, List.getElem?_eq_getElem hi]
theorem runesL_part (l : List Rng) (i j : Nat) (hi : i < l.length) (hj : j ≤ cnt1 (l.getD i (0, 0))) : runesL (l.take i) ++ span (l.getD i (0, 0)) j <+: runesL l := by
  have h1 : runesL (l.take i) ++ span (l.getD i (0, 0)) j <+: runesL (l.take (i + 1)) := by
    rw [runesL_succ l i hi]
    refine (List.prefix_append_right_inj _).2 ?_
    refine ⟨(List.range (cnt1 (l.getD i (0, 0)) - j)).map fun (k : Nat) => (l.getD i (0, 0)).1 + ((j + k : Nat) : Int), ?_⟩
    unfold span
    conv => rhs; rw [show cnt1 (l.getD i (0, 0)) = j + (cnt1 (l.getD i (0, 0)) - j) by omega, List.range_add, List.map_append, List.map_map]
    rfl
  refine h1.trans ?_
  conv => rhs; rw [← List.take_append_drop (i + 1) l]
  unfold runesL
  rw [List.flatMap_append]
  exact List.prefix_append _ _

set_option maxRecDepth 100000 in
set_option maxHeartbeats 4000000 in
theorem allGo_in (F : Fence) (n : Nat) (h42 : F.fn 42) (hro : F.round = none) (hn : 1 ≤ n) (l0 Bs b off cap : Nat) (O : Nat → Prop) (l : List Rng) (hlen : l.length ≤ 2048) (hR : ∀ x ∈ l, isR x = true) (J Jx : List Int → World → Prop)
    (hY : ∀ pre x W, J pre W → pre.length < (runesL l).length → YieldAt F (n - 1) Tryd.prog l0 #[.int .i32 x] W fun e W' =>
      (e = .returned (.bool true) ∧ J (pre ++ [x]) W' ∧ Keep O W W') ∨ (e = .returned (.bool false) ∧ Jx (pre ++ [x]) W'))
    (W : World) (hO : ∀ o, O o → o < W.heap.size) (hb : ¬ O b) (hJ : AbidesFrom W.heap.size J)
    (hBs : W.cell? ⟨Bs, 0, none⟩ = some (.slice (some ⟨b, off, none⟩) l.length cap))
    (hc : ∀ j, j < l.length → W.cell? ⟨b, off + j * 2, none⟩ = some (.int .i32 (l.getD j (0, 0)).1) ∧ W.cell? ⟨b, off + j * 2 + 1, none⟩ = some (.int .i32 (l.getD j (0, 0)).2)) (h0 : J [] W) :
    CallsIn F n Tryd.prog 42 #[.func (.yield l0) #[] #[], .pointer (some ⟨Bs, 0, none⟩)] W fun e W' => (∃ v, e = .returned v) ∧
      ((∃ ys, ys = runesL l ∧ J ys W') ∨ (∃ pre, pre <+: runesL l ∧ Jx pre W')) := by
  refine callsIn_of_wp Tryd.func42 rfl h42 ?_ hro
  simp only [Tryd.ntmps42, List.size_toArray, List.length_cons, List.length_nil, Nat.reduceAdd, Nat.reduceSub, Array.replicate_succ, Array.replicate_zero, List.push_toArray, List.append_toArray, List.nil_append, List.cons_append]
  gi_wp2
  gi_loopw [8] (fun i wr => ∃ k : Nat, k ≤ l.length ∧ i = .int .i64 k ∧ J (runesL (l.take k)) wr ∧ Keep O W wr)
    (fun i _ => l.length - (intOf i).toNat)
  case atStart => exact ⟨0, Nat.zero_le _, rfl, h0, keep_refl _ _⟩
  case round =>
    obtain ⟨k, hk, rfl, hJs, hnx⟩ := hrel
    by_cases hlt : k < l.length
    · have hc0 := hnx.2 _ _ hb (hc k hlt).1
      have hc1 := hnx.2 _ _ hb (hc k hlt).2
      have hx : 0 ≤ (l.getD k (0, 0)).1 ∧ (l.getD k (0, 0)).1 ≤ (l.getD k (0, 0)).2 ∧ (l.getD k (0, 0)).2 ≤ 1114111 := by
        have := hR (l.getD k (0, 0)) (by rw [List.getD_eq_getElem?_getD, List.getElem?_eq_getElem hlt]; exact List.getElem_mem _)
        simpa [isR] using this
      have Hp := hide (fun j (hj : j ≤ cnt1 (l.getD k (0, 0))) => runesL_part l k j hlt hj)
      have Hs := hide (runesL_succ l k hlt)
      have hcn : (cnt1 (l.getD k (0, 0)) : Int) = (l.getD k (0, 0)).2 + 1 - (l.getD k (0, 0)).1 := by unfold cnt1; omega
      generalize l.getD k (0, 0) = x at *
      obtain ⟨lo, hi⟩ := x
      simp only at hx hcn hc0 hc1
      have hlt' : (k : Int) < l.length := by omega
      gi_wp2
      have hm := World.cell?_alloc_mark wr #[.int .i32 lo, .int .i32 hi] 53 (0, 0)
      have hbx : ¬ O wr.heap.size := fun h => by have := hO _ h; have := hnx.1; omega
      have hJ0 : J (runesL (l.take k)) (wr.alloc (.cells #[.int .i32 lo, .int .i32 hi] 53)) := hJ _ _ _ none hJs (World.grownBy_alloc _ _ none) (fun r e => by cases e)
      have hk0 : Keep O W (wr.alloc (.cells #[.int .i32 lo, .int .i32 hi] 53)) := keep_t hnx (keep_below ((Below.refl _ _).alloc (Nat.le_refl _) _))
      have d1 : (wr.alloc (.cells #[.int .i32 lo, .int .i32 hi] 53)).cell? ⟨wr.heap.size, 1, none⟩ = some (.int .i32 hi) := hm 1
      clear hm hc0 hc1 hJs hnx
      generalize wr.heap.size = bx at *
      generalize wr.alloc (.cells #[.int .i32 lo, .int .i32 hi] 53) = W0 at *
      gi_loopw [5] (fun r wr => ∃ j : Nat, j ≤ cnt1 (lo, hi) ∧ r = .int .i32 (lo + j) ∧ J (runesL (l.take k) ++ span (lo, hi) j) wr ∧ Keep O W0 wr) (fun r _ => (hi + 1 - intOf r).toNat)
      case atStart => exact ⟨0, by omega, by simp, by simpa [span] using hJ0, keep_refl _ _⟩
      case round =>
        obtain ⟨j, hj, rfl, hJ2, hn2⟩ := hrel
        have d1' := hn2.2 _ _ hbx d1
        by_cases hjl : j < cnt1 (lo, hi)
        · have hle : lo + (j : Int) ≤ hi := by omega
          have hpre := unhide Hp (j + 1) (by omega)
          rw [span_succ, ← List.append_assoc] at hpre
          obtain ⟨fn, tmps, assign, body, hy, hR⟩ := hY _ (lo + j) _ hJ2 (by have := hpre.length_le; simp only [List.length_append, List.length_cons, List.length_nil] at this ⊢; omega)
          gi_wp2
          refine hR.mono ?_
          rintro e W3 (⟨rfl, hJ3, hk3⟩ | ⟨rfl, hJx3⟩)
          · gi_wp2
            go_roundw
            case rel => exact ⟨j + 1, by omega, by simp; omega, by rw [span_succ, ← List.append_assoc]; exact hJ3, keep_t hn2 hk3⟩
            case measure => simp [intOf]; omega
          · gi_wp2
            refine bodyPost_ret (results_none rfl _ _ _) rfl ?_
            exact ⟨⟨_, rfl⟩, .inr ⟨_, hpre, hJx3⟩⟩
        · have hje : j = cnt1 (lo, hi) := by omega
          have hnle : ¬ lo + (j : Int) ≤ hi := by omega
          gi_wp2
          go_roundw
          case rel => exact ⟨k + 1, by omega, by simp, by rw [unhide Hs, ← hje]; exact hJ2, keep_t hk0 hn2⟩
          case measure => simp [intOf]; omega
    · obtain rfl : k = l.length := by omega
      gi_wp2
      go_end0
      exact ⟨⟨_, rfl⟩, .inl ⟨_, by rw [List.take_length], hJs⟩⟩
end Go.Proofs.YtkbhdojgdgiggabDoor

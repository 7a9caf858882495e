/- Contracts of cmp.Compare, cmp.Or and compareRanges. -/
import Derived.Test.YtkbhdojgdgiggaaDoorV4
import Derived.Test.YtkbhdojgdgiggaaDoorS1
namespace Go.Proofs.YtkbhdojgdgiggaaDoor
open Go.RowKit Go.Sort Go.Lib

set_option maxHeartbeats 1000000 in
theorem compare_any (x y : Int) (w : World) : Calls Tryd.prog 64 #[.int .i32 x, .int .i32 y] w fun e w' => e = .returned (.int .i64 (Lib.compareInt x y)) ∧ w = w' := by
  unfold Lib.compareInt
  by_cases h1 : x < y
  · rw [if_pos h1]
    go_enter Tryd.func64, Tryd.ntmps64
    go_wp2
    go_ret
    exact ⟨rfl, rfl⟩
  · rw [if_neg h1]
    by_cases h2 : y < x
    · rw [if_pos h2]
      go_enter Tryd.func64, Tryd.ntmps64
      go_wp2
      go_ret
      exact ⟨rfl, rfl⟩
    · rw [if_neg h2]
      go_enter Tryd.func64, Tryd.ntmps64
      go_wp2
      go_ret
      exact ⟨rfl, rfl⟩

/-- The first that is not 0. -/
def orV (p q : Int) : Int := if p = 0 then q else p
set_option maxHeartbeats 2000000 in
set_option maxRecDepth 100000 in
theorem or_any (b : Nat) (p q : Int) (w : World) (h0 : w.cell? ⟨b, 0, none⟩ = some (.int .i64 p)) (h1 : w.cell? ⟨b, 1, none⟩ = some (.int .i64 q)) :
    Calls Tryd.prog 63 #[.slice (some ⟨b, 0, none⟩) 2 2] w fun e w' => e = .returned (.int .i64 (orV p q)) ∧ w = w' := by
  go_enter Tryd.func63, Tryd.ntmps63
  go_wp2
  go_loopw [8] (fun x wr => ∃ k : Nat, x = .int .i64 k ∧ k ≤ 2 ∧ wr = w ∧ (0 < k → p = 0) ∧ (1 < k → q = 0)) (fun x _ => 2 - (intOf x).toNat)
  case atStart => exact ⟨0, rfl, by omega, rfl, fun h => by omega, fun h => by omega⟩
  case round =>
    obtain ⟨k, rfl, hk, rfl, hp, hq⟩ := hrel
    have hk3 : k = 0 ∨ k = 1 ∨ k = 2 := by omega
    rcases hk3 with rfl | rfl | rfl
    · clear hp hq
      by_cases e : p = 0
      · have e' : (p != 0) = false := by simp [e]
        have He := hide e
        clear e
        go_wp2
        go_roundw
        case rel => exact ⟨1, by go_num, by omega, by trivial, fun _ => unhide He, fun h => by omega⟩
        case measure => simp [intOf]
      · have e' : (p != 0) = true := by simp [e]
        go_wp2
        go_ret
        exact ⟨by rw [show orV p q = p from if_neg e]; rfl, rfl⟩
    · have Hp := hide (hp (by omega))
      clear hp hq
      by_cases e : q = 0
      · have e' : (q != 0) = false := by simp [e]
        have He := hide e
        clear e
        go_wp2
        go_roundw
        case rel => exact ⟨2, by go_num, by omega, by trivial, fun _ => unhide Hp, fun _ => unhide He⟩
        case measure => simp [intOf]
      · have e' : (q != 0) = true := by simp [e]
        go_wp2
        go_ret
        exact ⟨by rw [show orV p q = q from if_pos (unhide Hp)]; rfl, rfl⟩
    · have Hp := hide (hp (by omega)); have Hq := hide (hq (by omega))
      clear hp hq
      go_wp2
      go_ret
      exact ⟨by rw [show orV p q = q from if_pos (unhide Hp), unhide Hq]; rfl, rfl⟩

def HeldB (c d : Nat) (x y z u : Int) (W : World) : Prop :=
  W.cell? ⟨c, 0, none⟩ = some (.int .i32 x) ∧ W.cell? ⟨c, 1, none⟩ = some (.int .i32 y) ∧ W.cell? ⟨d, 0, none⟩ = some (.int .i32 z) ∧ W.cell? ⟨d, 1, none⟩ = some (.int .i32 u)
theorem HeldB.alloc {c d : Nat} {x y z u : Int} {W : World} (h : HeldB c d x y z u W) (o : Obj) : HeldB c d x y z u (W.alloc o) := by
  obtain ⟨h0, h1, h2, h3⟩ := h
  refine ⟨?_, ?_, ?_, ?_⟩
  · exact (World.cell?_alloc_lt _ _ _ (World.block_lt_of_cell? W _ h0)).trans h0
  · exact (World.cell?_alloc_lt _ _ _ (World.block_lt_of_cell? W _ h1)).trans h1
  · exact (World.cell?_alloc_lt _ _ _ (World.block_lt_of_cell? W _ h2)).trans h2
  · exact (World.cell?_alloc_lt _ _ _ (World.block_lt_of_cell? W _ h3)).trans h3
theorem HeldB.start (w : World) (x y z u : Int) : HeldB w.heap.size (w.heap.size + 1) x y z u ((w.alloc (.cells #[.int .i32 x, .int .i32 y] 55)).alloc (.cells #[.int .i32 z, .int .i32 u] 55)).drew := by
  have e := World.cell?_alloc_mark (w.alloc (.cells #[.int .i32 x, .int .i32 y] 55)) #[.int .i32 z, .int .i32 u] 55 (0, 0)
  have e' := World.cell?_alloc_mark w #[.int .i32 x, .int .i32 y] 55 (0, 0)
  rw [show (w.alloc (.cells #[.int .i32 x, .int .i32 y] 55)).heap.size = w.heap.size + 1 by simp] at e
  refine ⟨?_, ?_, ?_, ?_⟩
  · exact (World.cell?_alloc_lt _ _ _ (by simp)).trans (e' 0)
  · exact (World.cell?_alloc_lt _ _ _ (by simp)).trans (e' 1)
  · exact e 0
  · exact e 1

/-- The order of ranges. -/
def cmpR (a b : Rng) : Int := orV (Lib.compareInt a.1 b.1) (Lib.compareInt a.2 b.2)
set_option maxHeartbeats 2000000 in
set_option maxRecDepth 100000 in
theorem cmpR_any (x y z u : Int) (w : World) : Calls Tryd.prog 48 #[.agg #[.int .i32 x, .int .i32 y], .agg #[.int .i32 z, .int .i32 u]] w fun e w' => e = .returned (.int .i64 (cmpR (x, y) (z, u))) ∧ ∃ q os', w' = grow (w.drewN q) os' := by
  show Calls Tryd.prog 48 _ w fun e w' => e = .returned (.int .i64 (orV (Lib.compareInt x z) (Lib.compareInt y u))) ∧ _
  have F : Hid (∀ p q : Int, ∀ j, (((w.alloc (.cells #[.int .i32 x, .int .i32 y] 55)).alloc (.cells #[.int .i32 z, .int .i32 u] 55)).alloc (.cells #[.int .i64 p, .int .i64 q] 3)).drew.cell? ⟨w.heap.size + 1 + 1, j, none⟩ = #[Value.int .i64 p, Value.int .i64 q][j]?) := hide fun p q j => by
    have e := World.cell?_alloc_mark ((w.alloc (.cells #[.int .i32 x, .int .i32 y] 55)).alloc (.cells #[.int .i32 z, .int .i32 u] 55)) #[.int .i64 p, .int .i64 q] 3 (0, 0) j
    rw [show ((w.alloc (.cells #[.int .i32 x, .int .i32 y] 55)).alloc (.cells #[.int .i32 z, .int .i32 u] 55)).heap.size = w.heap.size + 1 + 1 by simp] at e
    exact e
  have F0 := hide (fun p q => unhide F p q 0)
  have F1 := hide (fun p q => unhide F p q 1)
  clear F
  go_enter Tryd.func48, Tryd.ntmps48
  go_wp2_with fail
  refine wp_region_held_drew (S := HeldB w.heap.size (w.heap.size + 1) x y z u) (by kernel_rfl) (HeldB.start w x y z u) (fun hHeld => ?_)
  refine take_dst (i := 0) (dst := some 5) (v := ?_) rfl rfl (by kernel_rfl) (by kernel_rfl) (by kernel_rfl) (fun _ _ _ h => h) (Or.inl ⟨by rfl, ?_⟩) hHeld ?_
  rotate_left
  · intro w hSw; obtain ⟨s0, s1, s2, s3⟩ := hSw; go_simp; try (with_reducible rfl)
  simp only [Act.put, List.setIfInBounds_toArray, List.set_cons_zero, List.set_cons_succ]
  refine take_dst (i := 1) (dst := some 6) (v := ?_) rfl rfl (by kernel_rfl) (by kernel_rfl) (by kernel_rfl) (fun _ _ _ h => h) (Or.inl ⟨by rfl, ?_⟩) hHeld ?_
  rotate_left
  · intro w hSw; obtain ⟨s0, s1, s2, s3⟩ := hSw; go_simp; try (with_reducible rfl)
  simp only [Act.put, List.setIfInBounds_toArray, List.set_cons_zero, List.set_cons_succ]
  refine take_dst (i := 2) (dst := some 7) (v := ?_) rfl rfl (by kernel_rfl) (by kernel_rfl) (by kernel_rfl) (fun _ _ _ h => h) (Or.inl ⟨by rfl, ?_⟩) hHeld ?_
  rotate_left
  · intro w hSw; obtain ⟨s0, s1, s2, s3⟩ := hSw; go_simp; try (with_reducible rfl)
  simp only [Act.put, List.setIfInBounds_toArray, List.set_cons_zero, List.set_cons_succ]
  refine take_dst (i := 3) (dst := some 8) (v := ?_) rfl rfl (by kernel_rfl) (by kernel_rfl) (by kernel_rfl) (fun _ _ _ h => h) (Or.inl ⟨by rfl, ?_⟩) hHeld ?_
  rotate_left
  · intro w hSw; obtain ⟨s0, s1, s2, s3⟩ := hSw; go_simp; try (with_reducible rfl)
  simp only [Act.put, List.setIfInBounds_toArray, List.set_cons_zero, List.set_cons_succ]
  refine take_dst (i := 5) (dst := some 10) (v := ?_) rfl rfl (by kernel_rfl) (by kernel_rfl) (by kernel_rfl) (fun _ _ _ h => h) (Or.inl ⟨by rfl, ?_⟩) hHeld ?_
  rotate_left
  · intro w hSw; obtain ⟨s0, s1, s2, s3⟩ := hSw; go_simp; try (with_reducible rfl)
  simp only [Act.put, List.setIfInBounds_toArray, List.set_cons_zero, List.set_cons_succ]
  refine take_dst (i := 6) (dst := some 11) (v := ?_) rfl rfl (by kernel_rfl) (by kernel_rfl) (by kernel_rfl) (fun _ _ _ h => h) (Or.inl ⟨by rfl, ?_⟩) hHeld ?_
  rotate_left
  · intro w hSw; obtain ⟨s0, s1, s2, s3⟩ := hSw; go_simp; try (with_reducible rfl)
  simp only [Act.put, List.setIfInBounds_toArray, List.set_cons_zero, List.set_cons_succ]
  refine take_dst (i := 7) (dst := some 12) (v := ?_) rfl rfl (by kernel_rfl) (by kernel_rfl) (by kernel_rfl) (fun _ _ _ h => h) (Or.inl ⟨by rfl, ?_⟩) hHeld ?_
  rotate_left
  · intro w hSw; obtain ⟨s0, s1, s2, s3⟩ := hSw; go_simp; try (with_reducible rfl)
  simp only [Act.put, List.setIfInBounds_toArray, List.set_cons_zero, List.set_cons_succ]
  refine take_dst (i := 8) (dst := some 13) (v := ?_) rfl rfl (by kernel_rfl) (by kernel_rfl) (by kernel_rfl) (fun _ _ _ h => h) (Or.inl ⟨by rfl, ?_⟩) hHeld ?_
  rotate_left
  · intro w hSw; obtain ⟨s0, s1, s2, s3⟩ := hSw; go_simp; try (with_reducible rfl)
  simp only [Act.put, List.setIfInBounds_toArray, List.set_cons_zero, List.set_cons_succ]
  refine wpAnyH_ready (rs := [4]) (by kernel_rfl) (by simp) ?_
  refine AllReadyH.cons rfl (fun K hK => ?_) AllReadyH.nil
  go_simp
  (refine (compare_any x z _).mono ?_; rintro e w1 ⟨rfl, rfl⟩)
  go_wp2_with fail
  refine hK.out _ _ (hHeld) (fun hHeld => ?_)
  clear hK K
  refine wpAnyH_ready (rs := [9]) (by kernel_rfl) (by simp) ?_
  refine AllReadyH.cons rfl (fun K hK => ?_) AllReadyH.nil
  go_simp
  (refine (compare_any y u _).mono ?_; rintro e w2 ⟨rfl, rfl⟩)
  go_wp2_with fail
  refine hK.out _ _ (hHeld) (fun hHeld => ?_)
  clear hK K
  refine wpAnyH_ready (rs := [10]) (by kernel_rfl) (by simp) ?_
  refine AllReadyH.cons rfl (fun K hK => ?_) AllReadyH.nil
  go_simp
  refine hK.out _ _ (HeldB.alloc hHeld _) (fun hHeld => ?_)
  clear hK K
  refine wpAnyH_ready (rs := [11]) (by kernel_rfl) (by simp) ?_
  refine AllReadyH.cons rfl (fun K hK => ?_) AllReadyH.nil
  go_simp
  (refine (or_any _ _ _ _ (unhide F0 _ _) (unhide F1 _ _)).mono ?_; rintro e w3 ⟨rfl, rfl⟩)
  go_wp2_with fail
  refine hK.out _ _ (hHeld) (fun hHeld => ?_)
  clear hK K
  refine take_dst (i := 12) (dst := some 4) (v := ?_) rfl rfl (by kernel_rfl) (by kernel_rfl) (by kernel_rfl) (fun _ _ _ h => h) (Or.inl ⟨by rfl, ?_⟩) hHeld ?_
  rotate_left
  · intro w hSw; obtain ⟨s0, s1, s2, s3⟩ := hSw; go_simp; try (with_reducible rfl)
  simp only [Act.put, List.setIfInBounds_toArray, List.set_cons_zero, List.set_cons_succ]
  refine wpAnyH_done (by kernel_rfl) ?_ _
  go_wp2
  go_ret
  exact ⟨rfl, 1, _, by rw [alloc_eq_grow, alloc_eq_grow, alloc_eq_grow, grow_grow, grow_grow]; rfl⟩

/-- A range's two cells. -/
def encR (x : Rng) : List Value := [.int .i32 x.1, .int .i32 x.2]
theorem cmpLaysR (blk off size : Nat) (w : World) : CmpLays Tryd.prog 48 #[] encR 2 cmpR blk off size w :=
  fun _ _ _ _ x y => cmpR_any x.1 x.2 y.1 y.2 _
theorem cmpR_lt (x y : Rng) : ltOf cmpR x y = decide (x.1 < y.1 ∨ (x.1 = y.1 ∧ x.2 < y.2)) := by
  unfold ltOf cmpR orV Lib.compareInt
  rw [Bool.eq_iff_iff]
  simp only [decide_eq_true_eq]
  by_cases h1 : x.1 < y.1
  · simp [h1]
  · by_cases h2 : y.1 < x.1
    · simp [h1, h2]; omega
    · have e : x.1 = y.1 := by omega
      by_cases h3 : x.2 < y.2
      · simp [e, h3]
      · by_cases h4 : y.2 < x.2 <;> simp [e, h3, h4]
theorem swoR : SWO (ltOf cmpR) where
  irrefl x := by rw [cmpR_lt]; simp
  trans x y z h1 h2 := by rw [cmpR_lt] at *; simp at *; omega
  ntrans x y z h1 h2 := by rw [cmpR_lt] at *; simp at *; omega
set_option maxRecDepth 100000 in
theorem sort_any (blk off cap : Nat) (d : Array Rng) (w : World) (hH : HoldsK encR 2 w blk off d) (hblk : blk < w.heap.size) (hsz : d.size < 4611686018427387904) :
    Calls Tryd.prog 60 #[.slice (some ⟨blk, off, none⟩) d.size cap, .func (.func 48) #[] #[]] w fun e w' => e = .returned (.tuple #[]) ∧ ∃ d' n os, PermIn 0 d.size d d' ∧ SortedIn (ltOf cmpR) 0 d.size d' ∧ w' = sortWorldK encR 2 w blk off n d' os := by
  have eg : ∀ args w, (callFunc 48 args).run Tryd.prog w = .ok (.enter 48 args) w := enters_of Tryd.func48 (by kernel_rfl) rfl
  exact AnyQ.slices_SortFunc Tryd.sortR 2 Tryd.isAgg55 Tryd.sizeOf55 encR (fun _ => rfl) (fun x v hv => by simp [encR] at hv; rcases hv with rfl | rfl <;> rfl) cmpR swoR 48 #[] blk off cap d w eg (cmpLaysR blk off d.size w) hH hblk hsz
end Go.Proofs.YtkbhdojgdgiggaaDoor

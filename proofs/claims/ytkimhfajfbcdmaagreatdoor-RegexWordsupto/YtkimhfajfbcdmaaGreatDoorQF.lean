/- Contract of Check. (and what it leads to) -/
import Derived.Test.YtkimhfajfbcdmaaGreatDoorQA
import Derived.Deep.RegionHeld3
/- Contract of Check. -/
namespace Go.Proofs.YtkimhfajfbcdmaaGreatDoor
open Go.RowKit
/-- 'wpAnyH_take' with the slot that is written told outright. -/
theorem take_dstR {P : Program} {md : Region.Mode} {ops : Array Oper} {Q : Exit → Act → World → Prop} {S : World → Prop} {i : Nat} {oi : Oper} {v : Value} {dst : Option Nat} {fuel : Nat} {listed : Array Bool} {a : Act} {w : World} (hi : ops[i]? = some oi) (hd : oi.dst = dst)
    (hs : Region.noSelect ops = true) (hf : Region.free md ops listed i = true) (hr : (Region.ready md ops listed).contains i = true)
    (hQ : ∀ c a w, Q (.panic c) (a.put dst v) w → Q (.panic c) a w) (hy : YieldsIf P ops S oi v a) (hS : S w)
    (h : wpAnyH P md ops Q S fuel (listed.setIfInBounds i true) (a.put dst v) w) : wpAnyH P md ops Q S (fuel + 1) listed a w := by
  subst hd; exact wpAnyH_take hi hs hf hr hQ hy hS h

/-- What a region with a range's box reads. -/
def HeldR (c : Nat) (x y : Int) (p : Addr) (z : Int) (W : World) : Prop :=
  W.cell? ⟨c, 0, none⟩ = some (.int .i32 x) ∧ W.cell? ⟨c, 1, none⟩ = some (.int .i32 y) ∧ W.cell? p = some (.int .i32 z)
theorem HeldR.alloc {c : Nat} {x y : Int} {p : Addr} {z : Int} {W : World} (h : HeldR c x y p z W) (o : Obj) : HeldR c x y p z (W.alloc o) := by
  obtain ⟨h0, h1, h2⟩ := h
  exact ⟨by rw [World.cell?_alloc_lt _ _ _ (World.block_lt_of_cell? W _ h0)]; exact h0, by rw [World.cell?_alloc_lt _ _ _ (World.block_lt_of_cell? W _ h1)]; exact h1, by rw [World.cell?_alloc_lt _ _ _ (World.block_lt_of_cell? W _ h2)]; exact h2⟩
theorem HeldR.start (w : World) (x y : Int) (p : Addr) (z : Int) (hlt : p.block < w.heap.size) (h : w.cell? p = some (.int .i32 z)) : HeldR w.heap.size x y p z (w.alloc (.cells #[.int .i32 x, .int .i32 y] 45)).drew := by
  refine ⟨?_, ?_, ?_⟩
  · rw [show (w.alloc (.cells #[.int .i32 x, .int .i32 y] 45)).drew.cell? ⟨w.heap.size, 0, none⟩ = (w.alloc (.cells #[.int .i32 x, .int .i32 y] 45)).cell? ⟨w.heap.size, 0, none⟩ from rfl, World.cell?_alloc_at _ _ _ _ rfl]; rfl
  · rw [show (w.alloc (.cells #[.int .i32 x, .int .i32 y] 45)).drew.cell? ⟨w.heap.size, 1, none⟩ = (w.alloc (.cells #[.int .i32 x, .int .i32 y] 45)).cell? ⟨w.heap.size, 1, none⟩ from rfl, World.cell?_alloc_at _ _ _ _ rfl]; rfl
  · exact (World.cell?_alloc_lt _ _ _ hlt).trans h
theorem HeldR.start0 (w : World) (x y : Int) : HeldR w.heap.size x y ⟨w.heap.size, 0, none⟩ x (w.alloc (.cells #[.int .i32 x, .int .i32 y] 45)).drew := by
  refine ⟨?_, ?_, ?_⟩
  · rw [show (w.alloc (.cells #[.int .i32 x, .int .i32 y] 45)).drew.cell? ⟨w.heap.size, 0, none⟩ = (w.alloc (.cells #[.int .i32 x, .int .i32 y] 45)).cell? ⟨w.heap.size, 0, none⟩ from rfl, World.cell?_alloc_at _ _ _ _ rfl]; rfl
  · rw [show (w.alloc (.cells #[.int .i32 x, .int .i32 y] 45)).drew.cell? ⟨w.heap.size, 1, none⟩ = (w.alloc (.cells #[.int .i32 x, .int .i32 y] 45)).cell? ⟨w.heap.size, 1, none⟩ from rfl, World.cell?_alloc_at _ _ _ _ rfl]; rfl
  · rw [show (w.alloc (.cells #[.int .i32 x, .int .i32 y] 45)).drew.cell? ⟨w.heap.size, 0, none⟩ = (w.alloc (.cells #[.int .i32 x, .int .i32 y] 45)).cell? ⟨w.heap.size, 0, none⟩ from rfl, World.cell?_alloc_at _ _ _ _ rfl]; rfl

set_option maxHeartbeats 4000000 in
set_option maxRecDepth 100000 in
theorem check_any (a : Option Addr) (cap : Nat) (l : List Rng) (hl : l.length ≤ 281474976710656) (w : World) (hrow : RowAt w a l) :
    Calls Tryz.prog 10 #[.slice a l.length cap] w fun e w' => e = .returned (.int .i64 (checkV l)) ∧ Below w.heap.size w w' := by
  have Hrow := hide hrow
  clear hrow
  go_enter Tryz.func10, Tryz.ntmps10
  go_wp2
  go_loopw [7] (fun x wr => ∃ k : Nat, x = .int .i64 k ∧ k ≤ l.length ∧ Below w.heap.size w wr ∧ okTo l k) (fun x _ => l.length - (intOf x).toNat)
  case atStart => exact ⟨0, rfl, by omega, Below.refl _ _, okTo_zero l⟩
  case round =>
    obtain ⟨k, rfl, hk, hbel, hok⟩ := hrel
    have hsz := hbel.size
    have Hbel := hide hbel; have Hok := hide hok
    clear hbel hok
    by_cases hkl : k < l.length
    · obtain ⟨b, off, rfl, hlt, hc⟩ : ∃ b off, a = some ⟨b, off, none⟩ ∧ b < wr.heap.size ∧ ∀ j, j < l.length → wr.cell? ⟨b, off + j * 2, none⟩ = some (.int .i32 (l.getD j (0, 0)).1) ∧ wr.cell? ⟨b, off + j * 2 + 1, none⟩ = some (.int .i32 (l.getD j (0, 0)).2) := by
        rcases rowAt_below (unhide Hrow) (Nat.le_refl _) (unhide Hbel) with rfl | h
        · simp at hkl
        · exact h
      have hkl' : (k : Int) < l.length := by omega
      have q0 := (hc k hkl).1
      have q1 := (hc k hkl).2
      have Hat := hide (show okAt l k = (isR (l.getD k (0, 0)) && (decide (k = 0) || decide ((l.getD (k - 1) (0, 0)).2 + 2 ≤ (l.getD k (0, 0)).1))) from rfl)
      have Hz := hide (fun (h : k ≠ 0) => And.intro (hc (k - 1) (by omega)).2 (okAt_isR (unhide Hok (k - 1) (by omega))))
      clear hc
      generalize l.getD (k - 1) (0, 0) = z at *
      generalize l.getD k (0, 0) = x at *
      obtain ⟨x, y⟩ := x
      obtain ⟨z0, z⟩ := z
      simp only at q0 q1 Hat Hz
      have HI := hide (isRange_any x y)
      have hbb : ∀ o1 o2, Below w.heap.size w ((wr.alloc o1).alloc o2).drew := fun o1 o2 => by
        have h1 := (unhide Hbel).alloc hsz o1
        exact (h1.alloc (by simp; omega) o2).drew
      have HB := hide hbb
      clear hbb
      have hisr : isR (x, y) = decide (0 ≤ x ∧ x ≤ y ∧ y ≤ 1114111) := rfl
      rw [hisr] at HI Hat
      clear hisr
      by_cases hr : 0 ≤ x ∧ x ≤ y ∧ y ≤ 1114111
      · rw [decide_eq_true hr] at HI Hat
        by_cases hk0 : k = 0
        · have Ho : Hid (okAt l k = true) := hide (by rw [unhide Hat]; simp [hk0])
          have hk0' : decide ((0 : Int) < (k : Int)) = false := by simp; omega
          have hk0n : decide (0 < k) = false := by simp; omega
          have Hk0 := hide hk0
          clear hk0 Hz
          go_wp2_with fail
          refine wp_region_held_drew (S := HeldR wr.heap.size x y ⟨wr.heap.size, 0, none⟩ x) (by kernel_rfl) (HeldR.start0 wr x y) (fun hHeld => ?_)
          refine take_dstR (i := 0) (dst := some 12) (v := ?_) rfl rfl (by kernel_rfl) (by kernel_rfl) (by kernel_rfl) (fun _ _ _ h => h) (Or.inl ⟨by rfl, ?_⟩) hHeld ?_
          rotate_left
          · intro w hSw; obtain ⟨s0, s1, s2⟩ := hSw; go_simp; try (with_reducible rfl)
          simp only [Act.put, List.setIfInBounds_toArray, List.set_cons_zero, List.set_cons_succ]
          refine wpAnyH_ready (rs := [1]) (by kernel_rfl) (by simp) ?_
          refine AllReadyH.cons rfl (fun K hK => ?_) AllReadyH.nil
          go_simp
          (refine (unhide HI _).mono ?_; rintro e w1 ⟨rfl, rfl⟩)
          go_wp2_with fail
          refine hK.out _ _ (HeldR.alloc hHeld _) (fun hHeld => ?_)
          clear hK K
          refine take_dstR (i := 2) (dst := some 14) (v := ?_) rfl rfl (by kernel_rfl) (by kernel_rfl) (by kernel_rfl) (fun _ _ _ h => h) (Or.inl ⟨by rfl, ?_⟩) hHeld ?_
          rotate_left
          · intro w hSw; obtain ⟨s0, s1, s2⟩ := hSw; go_simp; try (with_reducible rfl)
          simp only [Act.put, List.setIfInBounds_toArray, List.set_cons_zero, List.set_cons_succ]
          refine take_dstR (i := 3) (dst := some 15) (v := ?_) rfl rfl (by kernel_rfl) (by kernel_rfl) (by kernel_rfl) (fun _ _ _ h => h) (Or.inl ⟨by rfl, ?_⟩) hHeld ?_
          rotate_left
          · intro w hSw; obtain ⟨s0, s1, s2⟩ := hSw; go_simp; try (with_reducible rfl)
          simp only [Act.put, List.setIfInBounds_toArray, List.set_cons_zero, List.set_cons_succ]
          refine take_dstR (i := 4) (dst := some 16) (v := ?_) rfl rfl (by kernel_rfl) (by kernel_rfl) (by kernel_rfl) (fun _ _ _ h => h) (Or.inl ⟨by rfl, ?_⟩) hHeld ?_
          rotate_left
          · intro w hSw; obtain ⟨s0, s1, s2⟩ := hSw; go_simp; try (with_reducible rfl)
          simp only [Act.put, List.setIfInBounds_toArray, List.set_cons_zero, List.set_cons_succ]
          refine take_dstR (i := 5) (dst := some 17) (v := ?_) rfl rfl (by kernel_rfl) (by kernel_rfl) (by kernel_rfl) (fun _ _ _ h => h) (Or.inl ⟨by rfl, ?_⟩) hHeld ?_
          rotate_left
          · intro w hSw; obtain ⟨s0, s1, s2⟩ := hSw; go_simp; try (with_reducible rfl)
          simp only [Act.put, List.setIfInBounds_toArray, List.set_cons_zero, List.set_cons_succ]
          refine take_dstR (i := 6) (dst := some 18) (v := ?_) rfl rfl (by kernel_rfl) (by kernel_rfl) (by kernel_rfl) (fun _ _ _ h => h) (Or.inl ⟨by rfl, ?_⟩) hHeld ?_
          rotate_left
          · intro w hSw; obtain ⟨s0, s1, s2⟩ := hSw; go_simp; try (with_reducible rfl)
          simp only [Act.put, List.setIfInBounds_toArray, List.set_cons_zero, List.set_cons_succ]
          refine take_dstR (i := 7) (dst := some 19) (v := undef) rfl rfl (by kernel_rfl) (by kernel_rfl) (by kernel_rfl) (fun _ _ _ h => h) (Or.inr ⟨by rfl, rfl⟩) hHeld ?_
          simp only [Act.put, List.setIfInBounds_toArray, List.set_cons_zero, List.set_cons_succ]
          refine take_dstR (i := 8) (dst := some 20) (v := undef) rfl rfl (by kernel_rfl) (by kernel_rfl) (by kernel_rfl) (fun _ _ _ h => h) (Or.inr ⟨by rfl, rfl⟩) hHeld ?_
          simp only [Act.put, List.setIfInBounds_toArray, List.set_cons_zero, List.set_cons_succ]
          refine take_dstR (i := 9) (dst := some 21) (v := undef) rfl rfl (by kernel_rfl) (by kernel_rfl) (by kernel_rfl) (fun _ _ _ h => h) (Or.inr ⟨by rfl, rfl⟩) hHeld ?_
          simp only [Act.put, List.setIfInBounds_toArray, List.set_cons_zero, List.set_cons_succ]
          refine take_dstR (i := 10) (dst := some 22) (v := undef) rfl rfl (by kernel_rfl) (by kernel_rfl) (by kernel_rfl) (fun _ _ _ h => h) (Or.inr ⟨by rfl, rfl⟩) hHeld ?_
          simp only [Act.put, List.setIfInBounds_toArray, List.set_cons_zero, List.set_cons_succ]
          refine take_dstR (i := 11) (dst := some 23) (v := undef) rfl rfl (by kernel_rfl) (by kernel_rfl) (by kernel_rfl) (fun _ _ _ h => h) (Or.inr ⟨by rfl, rfl⟩) hHeld ?_
          simp only [Act.put, List.setIfInBounds_toArray, List.set_cons_zero, List.set_cons_succ]
          refine take_dstR (i := 12) (dst := some 24) (v := undef) rfl rfl (by kernel_rfl) (by kernel_rfl) (by kernel_rfl) (fun _ _ _ h => h) (Or.inr ⟨by rfl, rfl⟩) hHeld ?_
          simp only [Act.put, List.setIfInBounds_toArray, List.set_cons_zero, List.set_cons_succ]
          refine take_dstR (i := 13) (dst := some 25) (v := undef) rfl rfl (by kernel_rfl) (by kernel_rfl) (by kernel_rfl) (fun _ _ _ h => h) (Or.inr ⟨by rfl, rfl⟩) hHeld ?_
          simp only [Act.put, List.setIfInBounds_toArray, List.set_cons_zero, List.set_cons_succ]
          refine take_dstR (i := 14) (dst := some 26) (v := undef) rfl rfl (by kernel_rfl) (by kernel_rfl) (by kernel_rfl) (fun _ _ _ h => h) (Or.inr ⟨by rfl, rfl⟩) hHeld ?_
          simp only [Act.put, List.setIfInBounds_toArray, List.set_cons_zero, List.set_cons_succ]
          refine take_dstR (i := 15) (dst := some 27) (v := undef) rfl rfl (by kernel_rfl) (by kernel_rfl) (by kernel_rfl) (fun _ _ _ h => h) (Or.inr ⟨by rfl, rfl⟩) hHeld ?_
          simp only [Act.put, List.setIfInBounds_toArray, List.set_cons_zero, List.set_cons_succ]
          refine take_dstR (i := 16) (dst := some 28) (v := undef) rfl rfl (by kernel_rfl) (by kernel_rfl) (by kernel_rfl) (fun _ _ _ h => h) (Or.inr ⟨by rfl, rfl⟩) hHeld ?_
          simp only [Act.put, List.setIfInBounds_toArray, List.set_cons_zero, List.set_cons_succ]
          refine take_dstR (i := 17) (dst := some 29) (v := ?_) rfl rfl (by kernel_rfl) (by kernel_rfl) (by kernel_rfl) (fun _ _ _ h => h) (Or.inl ⟨by rfl, ?_⟩) hHeld ?_
          rotate_left
          · intro w hSw; obtain ⟨s0, s1, s2⟩ := hSw; go_simp; try (with_reducible rfl)
          simp only [Act.put, List.setIfInBounds_toArray, List.set_cons_zero, List.set_cons_succ]
          refine take_dstR (i := 18) (dst := some 30) (v := ?_) rfl rfl (by kernel_rfl) (by kernel_rfl) (by kernel_rfl) (fun _ _ _ h => h) (Or.inl ⟨by rfl, ?_⟩) hHeld ?_
          rotate_left
          · intro w hSw; obtain ⟨s0, s1, s2⟩ := hSw; go_simp; try (with_reducible rfl)
          simp only [Act.put, List.setIfInBounds_toArray, List.set_cons_zero, List.set_cons_succ]
          refine wpAnyH_done (by kernel_rfl) ?_ _
          go_wp2
          go_roundw
          case rel => exact ⟨k + 1, by go_num, by omega, unhide HB _ _, okTo_succ (unhide Hok) (unhide Ho)⟩
          case measure => simp [intOf]; omega
        · obtain ⟨m, rfl⟩ : ∃ m, k = m + 1 := ⟨k - 1, by omega⟩
          obtain ⟨hp, hz1, hz2, hz3⟩ := unhide Hz hk0
          have e1 : m + 1 - 1 = m := by omega
          rw [e1] at hp
          have Hp := hide hp
          clear hp Hz e1
          have hk0n : decide (0 < m + 1) = true := by simp
          have hwz : IntKind.i32.wrap (z + 2) = z + 2 := IntWalk.i32_in _ ⟨by omega, by omega⟩
          have hws : IntKind.i64.wrap (((m + 1 : Nat) : Int) - 1) = (m : Int) := by rw [show ((m + 1 : Nat) : Int) - 1 = (m : Int) by omega]; exact IntWalk.i64_in _ ⟨by omega, by omega⟩
          have hm1 : (m : Int) < l.length := by omega
          have hm0 : (0 : Int) ≤ m := by omega
          have hwm : IntKind.i64.wrap (m : Int) = m := IntWalk.i64_in _ ⟨by omega, by omega⟩
          go_wp2_with fail
          refine wp_region_held_drew (S := HeldR wr.heap.size x y ⟨b, off + m * 2 + 1, none⟩ z) (by kernel_rfl) (HeldR.start wr x y _ z hlt (unhide Hp)) (fun hHeld => ?_)
          refine take_dstR (i := 0) (dst := some 12) (v := ?_) rfl rfl (by kernel_rfl) (by kernel_rfl) (by kernel_rfl) (fun _ _ _ h => h) (Or.inl ⟨by rfl, ?_⟩) hHeld ?_
          rotate_left
          · intro w hSw; obtain ⟨s0, s1, s2⟩ := hSw; go_simp; try (with_reducible rfl)
          simp only [Act.put, List.setIfInBounds_toArray, List.set_cons_zero, List.set_cons_succ]
          refine wpAnyH_ready (rs := [1]) (by kernel_rfl) (by simp) ?_
          refine AllReadyH.cons rfl (fun K hK => ?_) AllReadyH.nil
          go_simp
          (refine (unhide HI _).mono ?_; rintro e w1 ⟨rfl, rfl⟩)
          go_wp2_with fail
          refine hK.out _ _ (HeldR.alloc hHeld _) (fun hHeld => ?_)
          clear hK K
          refine take_dstR (i := 2) (dst := some 14) (v := ?_) rfl rfl (by kernel_rfl) (by kernel_rfl) (by kernel_rfl) (fun _ _ _ h => h) (Or.inl ⟨by rfl, ?_⟩) hHeld ?_
          rotate_left
          · intro w hSw; obtain ⟨s0, s1, s2⟩ := hSw; go_simp; try (with_reducible rfl)
          simp only [Act.put, List.setIfInBounds_toArray, List.set_cons_zero, List.set_cons_succ]
          refine take_dstR (i := 3) (dst := some 15) (v := ?_) rfl rfl (by kernel_rfl) (by kernel_rfl) (by kernel_rfl) (fun _ _ _ h => h) (Or.inl ⟨by rfl, ?_⟩) hHeld ?_
          rotate_left
          · intro w hSw; obtain ⟨s0, s1, s2⟩ := hSw; go_simp; try (with_reducible rfl)
          simp only [Act.put, List.setIfInBounds_toArray, List.set_cons_zero, List.set_cons_succ]
          refine take_dstR (i := 4) (dst := some 16) (v := ?_) rfl rfl (by kernel_rfl) (by kernel_rfl) (by kernel_rfl) (fun _ _ _ h => h) (Or.inl ⟨by rfl, ?_⟩) hHeld ?_
          rotate_left
          · intro w hSw; obtain ⟨s0, s1, s2⟩ := hSw; go_simp; try (with_reducible rfl)
          simp only [Act.put, List.setIfInBounds_toArray, List.set_cons_zero, List.set_cons_succ]
          refine take_dstR (i := 5) (dst := some 17) (v := ?_) rfl rfl (by kernel_rfl) (by kernel_rfl) (by kernel_rfl) (fun _ _ _ h => h) (Or.inl ⟨by rfl, ?_⟩) hHeld ?_
          rotate_left
          · intro w hSw; obtain ⟨s0, s1, s2⟩ := hSw; go_simp; try (with_reducible rfl)
          simp only [Act.put, List.setIfInBounds_toArray, List.set_cons_zero, List.set_cons_succ]
          refine take_dstR (i := 6) (dst := some 18) (v := ?_) rfl rfl (by kernel_rfl) (by kernel_rfl) (by kernel_rfl) (fun _ _ _ h => h) (Or.inl ⟨by rfl, ?_⟩) hHeld ?_
          rotate_left
          · intro w hSw; obtain ⟨s0, s1, s2⟩ := hSw; go_simp; try (with_reducible rfl)
          simp only [Act.put, List.setIfInBounds_toArray, List.set_cons_zero, List.set_cons_succ]
          refine take_dstR (i := 7) (dst := some 19) (v := ?_) rfl rfl (by kernel_rfl) (by kernel_rfl) (by kernel_rfl) (fun _ _ _ h => h) (Or.inl ⟨by rfl, ?_⟩) hHeld ?_
          rotate_left
          · intro w hSw; obtain ⟨s0, s1, s2⟩ := hSw; go_simp; try (with_reducible rfl)
          simp only [Act.put, List.setIfInBounds_toArray, List.set_cons_zero, List.set_cons_succ]
          refine take_dstR (i := 8) (dst := some 20) (v := ?_) rfl rfl (by kernel_rfl) (by kernel_rfl) (by kernel_rfl) (fun _ _ _ h => h) (Or.inl ⟨by rfl, ?_⟩) hHeld ?_
          rotate_left
          · intro w hSw; obtain ⟨s0, s1, s2⟩ := hSw; go_simp; try (with_reducible rfl)
          simp only [Act.put, List.setIfInBounds_toArray, List.set_cons_zero, List.set_cons_succ]
          refine take_dstR (i := 9) (dst := some 21) (v := ?_) rfl rfl (by kernel_rfl) (by kernel_rfl) (by kernel_rfl) (fun _ _ _ h => h) (Or.inl ⟨by rfl, ?_⟩) hHeld ?_
          rotate_left
          · intro w hSw; obtain ⟨s0, s1, s2⟩ := hSw; go_simp; try (with_reducible rfl)
          simp only [Act.put, List.setIfInBounds_toArray, List.set_cons_zero, List.set_cons_succ]
          refine take_dstR (i := 10) (dst := some 22) (v := ?_) rfl rfl (by kernel_rfl) (by kernel_rfl) (by kernel_rfl) (fun _ _ _ h => h) (Or.inl ⟨by rfl, ?_⟩) hHeld ?_
          rotate_left
          · intro w hSw; obtain ⟨s0, s1, s2⟩ := hSw; go_simp; try (with_reducible rfl)
          simp only [Act.put, List.setIfInBounds_toArray, List.set_cons_zero, List.set_cons_succ]
          refine take_dstR (i := 11) (dst := some 23) (v := ?_) rfl rfl (by kernel_rfl) (by kernel_rfl) (by kernel_rfl) (fun _ _ _ h => h) (Or.inl ⟨by rfl, ?_⟩) hHeld ?_
          rotate_left
          · intro w hSw; obtain ⟨s0, s1, s2⟩ := hSw; go_simp; try (with_reducible rfl)
          simp only [Act.put, List.setIfInBounds_toArray, List.set_cons_zero, List.set_cons_succ]
          refine take_dstR (i := 12) (dst := some 24) (v := ?_) rfl rfl (by kernel_rfl) (by kernel_rfl) (by kernel_rfl) (fun _ _ _ h => h) (Or.inl ⟨by rfl, ?_⟩) hHeld ?_
          rotate_left
          · intro w hSw; obtain ⟨s0, s1, s2⟩ := hSw; go_simp; try (with_reducible rfl)
          simp only [Act.put, List.setIfInBounds_toArray, List.set_cons_zero, List.set_cons_succ]
          refine take_dstR (i := 13) (dst := some 25) (v := ?_) rfl rfl (by kernel_rfl) (by kernel_rfl) (by kernel_rfl) (fun _ _ _ h => h) (Or.inl ⟨by rfl, ?_⟩) hHeld ?_
          rotate_left
          · intro w hSw; obtain ⟨s0, s1, s2⟩ := hSw; go_simp; try (with_reducible rfl)
          simp only [Act.put, List.setIfInBounds_toArray, List.set_cons_zero, List.set_cons_succ]
          refine take_dstR (i := 14) (dst := some 26) (v := ?_) rfl rfl (by kernel_rfl) (by kernel_rfl) (by kernel_rfl) (fun _ _ _ h => h) (Or.inl ⟨by rfl, ?_⟩) hHeld ?_
          rotate_left
          · intro w hSw; obtain ⟨s0, s1, s2⟩ := hSw; go_simp; try (with_reducible rfl)
          simp only [Act.put, List.setIfInBounds_toArray, List.set_cons_zero, List.set_cons_succ]
          refine take_dstR (i := 15) (dst := some 27) (v := ?_) rfl rfl (by kernel_rfl) (by kernel_rfl) (by kernel_rfl) (fun _ _ _ h => h) (Or.inl ⟨by rfl, ?_⟩) hHeld ?_
          rotate_left
          · intro w hSw; obtain ⟨s0, s1, s2⟩ := hSw; go_simp; try (with_reducible rfl)
          simp only [Act.put, List.setIfInBounds_toArray, List.set_cons_zero, List.set_cons_succ]
          refine take_dstR (i := 16) (dst := some 28) (v := ?_) rfl rfl (by kernel_rfl) (by kernel_rfl) (by kernel_rfl) (fun _ _ _ h => h) (Or.inl ⟨by rfl, ?_⟩) hHeld ?_
          rotate_left
          · intro w hSw; obtain ⟨s0, s1, s2⟩ := hSw; go_simp; try (with_reducible rfl)
          simp only [Act.put, List.setIfInBounds_toArray, List.set_cons_zero, List.set_cons_succ]
          refine take_dstR (i := 17) (dst := some 29) (v := ?_) rfl rfl (by kernel_rfl) (by kernel_rfl) (by kernel_rfl) (fun _ _ _ h => h) (Or.inl ⟨by rfl, ?_⟩) hHeld ?_
          rotate_left
          · intro w hSw; obtain ⟨s0, s1, s2⟩ := hSw; go_simp; try (with_reducible rfl)
          simp only [Act.put, List.setIfInBounds_toArray, List.set_cons_zero, List.set_cons_succ]
          refine take_dstR (i := 18) (dst := some 30) (v := ?_) rfl rfl (by kernel_rfl) (by kernel_rfl) (by kernel_rfl) (fun _ _ _ h => h) (Or.inl ⟨by rfl, ?_⟩) hHeld ?_
          rotate_left
          · intro w hSw; obtain ⟨s0, s1, s2⟩ := hSw; go_simp; try (with_reducible rfl)
          simp only [Act.put, List.setIfInBounds_toArray, List.set_cons_zero, List.set_cons_succ]
          refine wpAnyH_done (by kernel_rfl) ?_ _
          by_cases hx : x < z + 2
          · have Ho : Hid (okAt l (m + 1) = false) := hide (by rw [unhide Hat]; simp; omega)
            go_wp2
            go_ret
            exact ⟨by rw [checkV_bad hkl (unhide Ho)]; rfl, unhide HB _ _⟩
          · have Ho : Hid (okAt l (m + 1) = true) := hide (by rw [unhide Hat]; simp; omega)
            go_wp2
            go_roundw
            case rel => exact ⟨m + 1 + 1, by go_num, by omega, unhide HB _ _, okTo_succ (unhide Hok) (unhide Ho)⟩
            case measure => simp [intOf]; omega
      · rw [decide_eq_false hr] at HI Hat
        have Ho : Hid (okAt l k = false) := hide (by rw [unhide Hat]; rfl)
        go_wp2_with fail
        refine wp_region_held_drew (S := HeldR wr.heap.size x y ⟨wr.heap.size, 0, none⟩ x) (by kernel_rfl) (HeldR.start0 wr x y) (fun hHeld => ?_)
        refine take_dstR (i := 0) (dst := some 12) (v := ?_) rfl rfl (by kernel_rfl) (by kernel_rfl) (by kernel_rfl) (fun _ _ _ h => h) (Or.inl ⟨by rfl, ?_⟩) hHeld ?_
        rotate_left
        · intro w hSw; obtain ⟨s0, s1, s2⟩ := hSw; go_simp; try (with_reducible rfl)
        simp only [Act.put, List.setIfInBounds_toArray, List.set_cons_zero, List.set_cons_succ]
        refine wpAnyH_ready (rs := [1]) (by kernel_rfl) (by simp) ?_
        refine AllReadyH.cons rfl (fun K hK => ?_) AllReadyH.nil
        go_simp
        (refine (unhide HI _).mono ?_; rintro e w1 ⟨rfl, rfl⟩)
        go_wp2_with fail
        refine hK.out _ _ (HeldR.alloc hHeld _) (fun hHeld => ?_)
        clear hK K
        refine take_dstR (i := 2) (dst := some 14) (v := ?_) rfl rfl (by kernel_rfl) (by kernel_rfl) (by kernel_rfl) (fun _ _ _ h => h) (Or.inl ⟨by rfl, ?_⟩) hHeld ?_
        rotate_left
        · intro w hSw; obtain ⟨s0, s1, s2⟩ := hSw; go_simp; try (with_reducible rfl)
        simp only [Act.put, List.setIfInBounds_toArray, List.set_cons_zero, List.set_cons_succ]
        refine take_dstR (i := 3) (dst := some 15) (v := ?_) rfl rfl (by kernel_rfl) (by kernel_rfl) (by kernel_rfl) (fun _ _ _ h => h) (Or.inl ⟨by rfl, ?_⟩) hHeld ?_
        rotate_left
        · intro w hSw; obtain ⟨s0, s1, s2⟩ := hSw; go_simp; try (with_reducible rfl)
        simp only [Act.put, List.setIfInBounds_toArray, List.set_cons_zero, List.set_cons_succ]
        refine take_dstR (i := 4) (dst := some 16) (v := undef) rfl rfl (by kernel_rfl) (by kernel_rfl) (by kernel_rfl) (fun _ _ _ h => h) (Or.inr ⟨by rfl, rfl⟩) hHeld ?_
        simp only [Act.put, List.setIfInBounds_toArray, List.set_cons_zero, List.set_cons_succ]
        refine take_dstR (i := 5) (dst := some 17) (v := undef) rfl rfl (by kernel_rfl) (by kernel_rfl) (by kernel_rfl) (fun _ _ _ h => h) (Or.inr ⟨by rfl, rfl⟩) hHeld ?_
        simp only [Act.put, List.setIfInBounds_toArray, List.set_cons_zero, List.set_cons_succ]
        refine take_dstR (i := 6) (dst := some 18) (v := undef) rfl rfl (by kernel_rfl) (by kernel_rfl) (by kernel_rfl) (fun _ _ _ h => h) (Or.inr ⟨by rfl, rfl⟩) hHeld ?_
        simp only [Act.put, List.setIfInBounds_toArray, List.set_cons_zero, List.set_cons_succ]
        refine take_dstR (i := 7) (dst := some 19) (v := undef) rfl rfl (by kernel_rfl) (by kernel_rfl) (by kernel_rfl) (fun _ _ _ h => h) (Or.inr ⟨by rfl, rfl⟩) hHeld ?_
        simp only [Act.put, List.setIfInBounds_toArray, List.set_cons_zero, List.set_cons_succ]
        refine take_dstR (i := 8) (dst := some 20) (v := undef) rfl rfl (by kernel_rfl) (by kernel_rfl) (by kernel_rfl) (fun _ _ _ h => h) (Or.inr ⟨by rfl, rfl⟩) hHeld ?_
        simp only [Act.put, List.setIfInBounds_toArray, List.set_cons_zero, List.set_cons_succ]
        refine take_dstR (i := 9) (dst := some 21) (v := undef) rfl rfl (by kernel_rfl) (by kernel_rfl) (by kernel_rfl) (fun _ _ _ h => h) (Or.inr ⟨by rfl, rfl⟩) hHeld ?_
        simp only [Act.put, List.setIfInBounds_toArray, List.set_cons_zero, List.set_cons_succ]
        refine take_dstR (i := 10) (dst := some 22) (v := undef) rfl rfl (by kernel_rfl) (by kernel_rfl) (by kernel_rfl) (fun _ _ _ h => h) (Or.inr ⟨by rfl, rfl⟩) hHeld ?_
        simp only [Act.put, List.setIfInBounds_toArray, List.set_cons_zero, List.set_cons_succ]
        refine take_dstR (i := 11) (dst := some 23) (v := undef) rfl rfl (by kernel_rfl) (by kernel_rfl) (by kernel_rfl) (fun _ _ _ h => h) (Or.inr ⟨by rfl, rfl⟩) hHeld ?_
        simp only [Act.put, List.setIfInBounds_toArray, List.set_cons_zero, List.set_cons_succ]
        refine take_dstR (i := 12) (dst := some 24) (v := undef) rfl rfl (by kernel_rfl) (by kernel_rfl) (by kernel_rfl) (fun _ _ _ h => h) (Or.inr ⟨by rfl, rfl⟩) hHeld ?_
        simp only [Act.put, List.setIfInBounds_toArray, List.set_cons_zero, List.set_cons_succ]
        refine take_dstR (i := 13) (dst := some 25) (v := undef) rfl rfl (by kernel_rfl) (by kernel_rfl) (by kernel_rfl) (fun _ _ _ h => h) (Or.inr ⟨by rfl, rfl⟩) hHeld ?_
        simp only [Act.put, List.setIfInBounds_toArray, List.set_cons_zero, List.set_cons_succ]
        refine take_dstR (i := 14) (dst := some 26) (v := undef) rfl rfl (by kernel_rfl) (by kernel_rfl) (by kernel_rfl) (fun _ _ _ h => h) (Or.inr ⟨by rfl, rfl⟩) hHeld ?_
        simp only [Act.put, List.setIfInBounds_toArray, List.set_cons_zero, List.set_cons_succ]
        refine take_dstR (i := 15) (dst := some 27) (v := undef) rfl rfl (by kernel_rfl) (by kernel_rfl) (by kernel_rfl) (fun _ _ _ h => h) (Or.inr ⟨by rfl, rfl⟩) hHeld ?_
        simp only [Act.put, List.setIfInBounds_toArray, List.set_cons_zero, List.set_cons_succ]
        refine take_dstR (i := 16) (dst := some 28) (v := undef) rfl rfl (by kernel_rfl) (by kernel_rfl) (by kernel_rfl) (fun _ _ _ h => h) (Or.inr ⟨by rfl, rfl⟩) hHeld ?_
        simp only [Act.put, List.setIfInBounds_toArray, List.set_cons_zero, List.set_cons_succ]
        refine take_dstR (i := 17) (dst := some 29) (v := undef) rfl rfl (by kernel_rfl) (by kernel_rfl) (by kernel_rfl) (fun _ _ _ h => h) (Or.inr ⟨by rfl, rfl⟩) hHeld ?_
        simp only [Act.put, List.setIfInBounds_toArray, List.set_cons_zero, List.set_cons_succ]
        refine take_dstR (i := 18) (dst := some 30) (v := ?_) rfl rfl (by kernel_rfl) (by kernel_rfl) (by kernel_rfl) (fun _ _ _ h => h) (Or.inl ⟨by rfl, ?_⟩) hHeld ?_
        rotate_left
        · intro w hSw; obtain ⟨s0, s1, s2⟩ := hSw; go_simp; try (with_reducible rfl)
        simp only [Act.put, List.setIfInBounds_toArray, List.set_cons_zero, List.set_cons_succ]
        refine wpAnyH_done (by kernel_rfl) ?_ _
        go_wp2
        go_ret
        exact ⟨by rw [checkV_bad hkl (unhide Ho)]; rfl, unhide HB _ _⟩
    · have hkl' : ¬ (k : Int) < l.length := by omega
      have hke : k = l.length := by omega
      subst hke
      by_cases h2 : 2048 < l.length
      · have h2' : (2048 : Int) < l.length := by omega
        go_wp2
        go_ret
        exact ⟨by rw [checkV_long (unhide Hok) h2]; rfl, unhide Hbel⟩
      · have h2' : ¬ (2048 : Int) < l.length := by omega
        go_wp2
        go_ret
        exact ⟨by rw [checkV_ok (unhide Hok) h2]; rfl, unhide Hbel⟩
end Go.Proofs.YtkimhfajfbcdmaaGreatDoor

/- runes.Has. -/
namespace Go.Proofs.YtkimhfajfbcdmaaGreatDoor
open Go.RowKit

theorem rowAt_cells {w wr : World} {a : Option Addr} {l : List Rng} (h : RowAt w a l) (hb : Below w.heap.size w wr) {k : Nat} (hk : k < l.length) :
    ∃ b off, a = some ⟨b, off, none⟩ ∧ b < wr.heap.size ∧ ∀ j, j < l.length → wr.cell? ⟨b, off + j * 2, none⟩ = some (.int .i32 (l.getD j (0, 0)).1) ∧ wr.cell? ⟨b, off + j * 2 + 1, none⟩ = some (.int .i32 (l.getD j (0, 0)).2) := by
  rcases rowAt_below h (Nat.le_refl _) hb with rfl | h
  · simp at hk
  · exact h

def hasB (l : List Rng) (r : Int) : Bool := l.any fun x => decide (x.1 ≤ r ∧ r ≤ x.2)
theorem hasB_at {l : List Rng} {n : Nat} {r : Int} (hn : n < l.length) (h : (l.getD n (0, 0)).1 ≤ r ∧ r ≤ (l.getD n (0, 0)).2) : hasB l r = true := by
  simp only [hasB, List.any_eq_true, decide_eq_true_eq]
  exact ⟨l[n], List.getElem_mem hn, by rw [List.getD_eq_getElem?_getD, List.getElem?_eq_getElem hn] at h; exact h⟩
theorem hasB_none {l : List Rng} {r : Int} (h : ∀ n, n < l.length → ¬ ((l.getD n (0, 0)).1 ≤ r ∧ r ≤ (l.getD n (0, 0)).2)) : hasB l r = false := by
  rw [Bool.eq_false_iff]
  intro hc
  simp only [hasB, List.any_eq_true, decide_eq_true_eq] at hc
  obtain ⟨x, hx, h1⟩ := hc
  obtain ⟨n, hn, rfl⟩ := List.getElem_of_mem hx
  exact h n hn (by rw [List.getD_eq_getElem?_getD, List.getElem?_eq_getElem hn]; exact h1)

set_option maxHeartbeats 2000000 in
set_option maxRecDepth 100000 in
theorem has_any (a : Option Addr) (cap : Nat) (l : List Rng) (hl : l.length ≤ 281474976710656) (r : Int) (w : World) (hrow : RowAt w a l) :
    Calls Tryz.prog 59 #[.slice a l.length cap, .int .i32 r] w fun e w' => e = .returned (.bool (hasB l r)) ∧ Below w.heap.size w w' := by
  have Hrow := hide hrow
  clear hrow
  go_enter Tryz.func59, Tryz.ntmps59
  go_wp2
  go_loopw [9] (fun x wr => ∃ k : Nat, x = .int .i64 k ∧ k ≤ l.length ∧ Below w.heap.size w wr ∧ ∀ n, n < k → ¬ ((l.getD n (0, 0)).1 ≤ r ∧ r ≤ (l.getD n (0, 0)).2)) (fun x _ => l.length - (intOf x).toNat)
  case atStart => exact ⟨0, rfl, by omega, Below.refl _ _, fun n h => by omega⟩
  case round =>
    obtain ⟨k, rfl, hk, hbel, hno⟩ := hrel
    have hsz := hbel.size
    have Hbel := hide hbel; have Hno := hide hno
    clear hbel hno
    by_cases hkl : k < l.length
    · obtain ⟨b, off, rfl, hlt, hc⟩ := rowAt_cells (unhide Hrow) (unhide Hbel) hkl
      have hkl' : (k : Int) < l.length := by omega
      have q0 := (hc k hkl).1
      have q1 := (hc k hkl).2
      have Hy := hide (hasB_at (r := r) hkl)
      have Hn := hide (fun (h : ¬ ((l.getD k (0, 0)).1 ≤ r ∧ r ≤ (l.getD k (0, 0)).2)) n (hn : n < k + 1) => show ¬ ((l.getD n (0, 0)).1 ≤ r ∧ r ≤ (l.getD n (0, 0)).2) from
        if e : n = k then by subst e; exact h else unhide Hno n (by omega))
      clear hc Hno
      generalize l.getD k (0, 0) = x at *
      obtain ⟨x, y⟩ := x
      simp only at q0 q1 Hy Hn
      by_cases c1 : x ≤ r
      · by_cases c2 : r ≤ y
        · have hh := unhide Hy ⟨c1, c2⟩
          have Hh := hide hh
          clear hh Hy Hn
          go_wp2
          go_ret
          rw [unhide Hh]
          exact ⟨rfl, (unhide Hbel).alloc hsz _⟩
        · have Hh := hide (unhide Hn (by omega))
          clear Hy Hn
          go_wp2
          go_roundw
          case rel => exact ⟨k + 1, by go_num, by omega, (unhide Hbel).alloc hsz _, unhide Hh⟩
          case measure => simp [intOf]; omega
      · have Hh := hide (unhide Hn (by omega))
        clear Hy Hn
        go_wp2
        go_roundw
        case rel => exact ⟨k + 1, by go_num, by omega, (unhide Hbel).alloc hsz _, unhide Hh⟩
        case measure => simp [intOf]; omega
    · have hkl' : ¬ (k : Int) < l.length := by omega
      have hke : k = l.length := by omega
      subst hke
      have hh := hasB_none (unhide Hno)
      have Hh := hide hh
      clear hh
      go_wp2
      go_ret
      rw [unhide Hh]
      exact ⟨rfl, unhide Hbel⟩

end Go.Proofs.YtkimhfajfbcdmaaGreatDoor

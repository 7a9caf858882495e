/- Right of awake's tree. -/
import Derived.Test.YtkimhfajfbcdmaaGreatDoorQU
namespace Go.Proofs.YtkimhfajfbcdmaaGreatDoor
open Go.RowKit Go.Maps

set_option maxHeartbeats 1000000 in
set_option maxRecDepth 100000 in
theorem right_awk (W : World) (v0 v1 v2 : Value) (hX : RxAt (fun q => q < W.heap.size) W tAwk v0 v1 v2) :
    Calls Tryz.prog 22 #[.agg #[v0, v1, v2]] W fun e w' => e = .returned (.bool true) ∧ Below W.heap.size W w' := by
  obtain ⟨kk, s1, n1, c1, s2, n2, c2, rfl, rfl, rfl⟩ := rxAt_formQ hX
  have HX := hide hX
  clear hX
  go_enter Tryz.func22, Tryz.ntmps22
  go_upto_region 1 with fail
  go_cut [4] (fun v wc => v = .bool true ∧ Below W.heap.size W wc)
  case first =>
    have hW1 : Below W.heap.size W (W.alloc (.cells #[.int .i64 kk, .slice s1 n1 c1, .slice s2 n2 c2] 26)).drew := ((Below.refl _ _).alloc (Nat.le_refl _) _).drew
    have hs1 : (W.alloc (.cells #[.int .i64 kk, .slice s1 n1 c1, .slice s2 n2 c2] 26)).drew.heap.size = W.heap.size + 1 := by simp
    have hN1 : (W.alloc (.cells #[.int .i64 kk, .slice s1 n1 c1, .slice s2 n2 c2] 26)).drew.heap[W.heap.size]? = some (.cells #[.int .i64 kk, .slice s1 n1 c1, .slice s2 n2 c2] 26 (0, 0)) := heap_new W _
    have x0 := cell_block hN1 0 _ rfl
    have x1 := cell_block hN1 1 _ rfl
    have x2 := cell_block hN1 2 _ rfl
    have HS9 := hide (fun W' (hb : Below (W.heap.size + 1) (W.alloc (.cells #[.int .i64 kk, .slice s1 n1 c1, .slice s2 n2 c2] 26)).drew W') => show W'.cell? ⟨W.heap.size, 0, none⟩ = some (.int .i64 kk) ∧ W'.cell? ⟨W.heap.size, 1, none⟩ = some (.slice s1 n1 c1) ∧ W'.cell? ⟨W.heap.size, 2, none⟩ = some (.slice s2 n2 c2) from ⟨(hb.cell (p := ⟨W.heap.size, 0, none⟩) (Nat.lt_succ_self _)).trans x0, (hb.cell (p := ⟨W.heap.size, 1, none⟩) (Nat.lt_succ_self _)).trans x1, (hb.cell (p := ⟨W.heap.size, 2, none⟩) (Nat.lt_succ_self _)).trans x2⟩)
    have HX1 := hide (fun W' (hb : Below (W.heap.size + 1) (W.alloc (.cells #[.int .i64 kk, .slice s1 n1 c1, .slice s2 n2 c2] 26)).drew W') => rxAt_kept (Q := fun q => q < W.heap.size) (Q' := fun q => q < W.heap.size + 1) (w' := W') (Nat.le_trans hW1.size hb.size) (fun q hq hl => (hb.block q (by have : q < W.heap.size := hq; omega)).trans (hW1.block q hq)) (fun q hq _ => by show q < W.heap.size + 1; have : q < W.heap.size := hq; omega) _ _ _ _ (unhide HX))
    refine wp_region_held_drew (S := fun W' : World => W'.cell? ⟨W.heap.size, 0, none⟩ = some (.int .i64 kk) ∧ W'.cell? ⟨W.heap.size, 1, none⟩ = some (.slice s1 n1 c1) ∧ W'.cell? ⟨W.heap.size, 2, none⟩ = some (.slice s2 n2 c2)) (by kernel_rfl) (unhide HS9 _ (Below.refl _ _)) (fun hHeld => ?_)
    clear x0 x1 x2 hN1
    generalize (W.alloc (.cells #[.int .i64 kk, .slice s1 n1 c1, .slice s2 n2 c2] 26)).drew = W1 at *
    refine take_dst (i := 1) (dst := some 7) (v := ?_) rfl rfl (by kernel_rfl) (by kernel_rfl) (by kernel_rfl) (fun _ _ _ h => h) (Or.inl ⟨by rfl, ?_⟩) hHeld ?_
    rotate_left
    · intro w hSw; obtain ⟨z0, z1, z2⟩ := hSw; go_simp; try (with_reducible rfl)
    simp only [Act.put, List.setIfInBounds_toArray, List.set_cons_zero, List.set_cons_succ]
    refine wpAnyH_ready (rs := [0, 2]) (by kernel_rfl) (by simp) ?_
    refine (AllReadyH.cons rfl (fun K hK => ?_) (AllReadyH.cons rfl (fun K hK => ?_) AllReadyH.nil))
    · go_simp
      go_at_call 11
      refine (newPool_any W1).mono ?_
      rintro e1 w1 ⟨pb, mb, sb, rfl, hpool, hb1⟩
      rw [hs1] at hpool hb1
      go_wp2_with fail
      refine hK.out _ _ (unhide HS9 _ hb1) (fun hHeld => ?_)
      clear hK K
      refine wpAnyH_ready (rs := [2]) (by kernel_rfl) (by simp) ?_
      refine (AllReadyH.cons rfl (fun K hK => ?_) AllReadyH.nil)
      go_simp
      have hb2 : Below (W.heap.size + 1) W1 (w1.alloc (.cells #[.int .i64 kk, .slice s1 n1 c1, .slice s2 n2 c2] 26)) := hb1.alloc (by have := hb1.size; omega) _
      refine hK.out _ _ (unhide HS9 _ hb2) (fun hHeld => ?_)
      clear hK K
      have hsw : W.heap.size + 1 ≤ w1.heap.size := by have := hb1.size; omega
      have hBw : W.heap.size + 1 ≤ (w1.alloc (.cells #[.int .i64 kk, .slice s1 n1 c1, .slice s2 n2 c2] 26)).heap.size := by simp; omega
      have hPw := pool_below hpool ((Below.refl w1.heap.size w1).alloc (Nat.le_refl _) (.cells #[.int .i64 kk, .slice s1 n1 c1, .slice s2 n2 c2] 26))
      have hXw := unhide HX1 _ hb2
      have hrw := heap_new w1 (.cells #[.int .i64 kk, .slice s1 n1 c1, .slice s2 n2 c2] 26)
      have hbW := hb2
      clear hpool hb1 hb2
      refine wpAnyH_ready (rs := [3]) (by kernel_rfl) (by simp) ?_
      refine (AllReadyH.cons rfl (fun K hK => ?_) AllReadyH.nil)
      go_simp
      go_at_call 36
      refine (take1 (av := fun _ => False) (w1.alloc (.cells #[.int .i64 kk, .slice s1 n1 c1, .slice s2 n2 c2] 26)) _ 1 _ _ _ (fun k hk => hk.elim) hBw hPw hXw hrw).mono ?_
      rintro e3 w5 ⟨a5, d5, rfl, -, -, hf5⟩
      have hb5 := hbW.trans ((show Below (W.heap.size + 1) (w1.alloc (.cells #[.int .i64 kk, .slice s1 n1 c1, .slice s2 n2 c2] 26)) w5 from ⟨hf5.os, hf5.tape, hf5.output, hf5.size, fun k hk => hf5.block k (by omega) (.inl hk)⟩).mono (by omega))
      have Hb5 := hide hb5
      clear hb5 hf5
      go_wp2_with fail
      refine hK.out _ _ (unhide HS9 _ (unhide Hb5)) (fun hHeld => ?_)
      clear hK K
      refine take_dst (i := 4) (dst := some 5) (v := ?_) rfl rfl (by kernel_rfl) (by kernel_rfl) (by kernel_rfl) (fun _ _ _ h => h) (Or.inl ⟨by rfl, ?_⟩) hHeld ?_
      rotate_left
      · intro w hSw; obtain ⟨z0, z1, z2⟩ := hSw; go_simp; try (with_reducible rfl)
      simp only [Act.put, List.setIfInBounds_toArray, List.set_cons_zero, List.set_cons_succ]
      refine take_dst (i := 5) (dst := some 10) (v := ?_) rfl rfl (by kernel_rfl) (by kernel_rfl) (by kernel_rfl) (fun _ _ _ h => h) (Or.inl ⟨by rfl, ?_⟩) hHeld ?_
      rotate_left
      · intro w hSw; obtain ⟨z0, z1, z2⟩ := hSw; go_simp; try (with_reducible rfl)
      simp only [Act.put, List.setIfInBounds_toArray, List.set_cons_zero, List.set_cons_succ]
      refine take_dst (i := 6) (dst := some 11) (v := ?_) rfl rfl (by kernel_rfl) (by kernel_rfl) (by kernel_rfl) (fun _ _ _ h => h) (Or.inl ⟨by rfl, ?_⟩) hHeld ?_
      rotate_left
      · intro w hSw; obtain ⟨z0, z1, z2⟩ := hSw; go_simp; try (with_reducible rfl)
      simp only [Act.put, List.setIfInBounds_toArray, List.set_cons_zero, List.set_cons_succ]
      refine wpAnyH_ready (rs := [7]) (by kernel_rfl) (by simp) ?_
      refine (AllReadyH.cons rfl (fun K hK => ?_) AllReadyH.nil)
      go_simp
      refine hK.out _ _ (unhide HS9 _ (unhide Hb5)) (fun hHeld => ?_)
      clear hK K
      refine wpAnyH_ready (rs := [8]) (by kernel_rfl) (by simp) ?_
      refine (AllReadyH.cons rfl (fun K hK => ?_) AllReadyH.nil)
      go_simp
      refine hK.out _ _ (unhide HS9 _ (unhide Hb5)) (fun hHeld => ?_)
      clear hK K
      refine wpAnyH_done (by kernel_rfl) ?_ _
      go_wp2_with fail
      go_meet
      have hb6 := unhide Hb5
      exact ⟨rfl, (show Below W.heap.size W W1 from hW1).trans (hb6.mono (by omega))⟩
    · go_simp
      have hb0 : Below (W.heap.size + 1) W1 (W1.alloc (.cells #[.int .i64 kk, .slice s1 n1 c1, .slice s2 n2 c2] 26)) := (Below.refl _ _).alloc (by omega) _
      have hr0 := heap_new W1 (.cells #[.int .i64 kk, .slice s1 n1 c1, .slice s2 n2 c2] 26)
      rw [hs1] at hr0
      have hs2 : (W1.alloc (.cells #[.int .i64 kk, .slice s1 n1 c1, .slice s2 n2 c2] 26)).heap.size = W.heap.size + 2 := by simp; omega
      refine hK.out _ _ (unhide HS9 _ hb0) (fun hHeld => ?_)
      clear hK K
      refine wpAnyH_ready (rs := [0]) (by kernel_rfl) (by simp) ?_
      refine (AllReadyH.cons rfl (fun K hK => ?_) AllReadyH.nil)
      go_simp
      go_at_call 11
      refine (newPool_any (W1.alloc (.cells #[.int .i64 kk, .slice s1 n1 c1, .slice s2 n2 c2] 26))).mono ?_
      rintro e1 w1 ⟨pb, mb, sb, rfl, hpool, hb1⟩
      rw [hs2] at hpool hb1
      have hb2 : Below (W.heap.size + 1) W1 w1 := hb0.trans (hb1.mono (by omega))
      go_wp2_with fail
      refine hK.out _ _ (unhide HS9 _ hb2) (fun hHeld => ?_)
      clear hK K
      have hBw : W.heap.size + 2 ≤ w1.heap.size := by have := hb1.size; omega
      have hPw := hpool
      have hXw := rxAt_kept (Q := fun q => q < W.heap.size + 1) (Q' := fun q => q < W.heap.size + 2) (Nat.le_refl _) (fun _ _ _ => rfl) (fun _ h _ => by show _ < _; have h : _ < W.heap.size + 1 := h; omega) _ _ _ _ (unhide HX1 _ hb2)
      have hrw := (hb1.block (W.heap.size + 1) (by omega)).trans hr0
      have hbW := hb2
      clear hpool hb1 hb2 hb0 hr0
      refine wpAnyH_ready (rs := [3]) (by kernel_rfl) (by simp) ?_
      refine (AllReadyH.cons rfl (fun K hK => ?_) AllReadyH.nil)
      go_simp
      go_at_call 36
      refine (take1 (av := fun _ => False) w1 _ 1 _ _ _ (fun k hk => hk.elim) hBw hPw hXw hrw).mono ?_
      rintro e3 w5 ⟨a5, d5, rfl, -, -, hf5⟩
      have hb5 := hbW.trans ((show Below (W.heap.size + 2) w1 w5 from ⟨hf5.os, hf5.tape, hf5.output, hf5.size, fun k hk => hf5.block k (by omega) (.inl hk)⟩).mono (by omega))
      have Hb5 := hide hb5
      clear hb5 hf5
      go_wp2_with fail
      refine hK.out _ _ (unhide HS9 _ (unhide Hb5)) (fun hHeld => ?_)
      clear hK K
      refine take_dst (i := 4) (dst := some 5) (v := ?_) rfl rfl (by kernel_rfl) (by kernel_rfl) (by kernel_rfl) (fun _ _ _ h => h) (Or.inl ⟨by rfl, ?_⟩) hHeld ?_
      rotate_left
      · intro w hSw; obtain ⟨z0, z1, z2⟩ := hSw; go_simp; try (with_reducible rfl)
      simp only [Act.put, List.setIfInBounds_toArray, List.set_cons_zero, List.set_cons_succ]
      refine take_dst (i := 5) (dst := some 10) (v := ?_) rfl rfl (by kernel_rfl) (by kernel_rfl) (by kernel_rfl) (fun _ _ _ h => h) (Or.inl ⟨by rfl, ?_⟩) hHeld ?_
      rotate_left
      · intro w hSw; obtain ⟨z0, z1, z2⟩ := hSw; go_simp; try (with_reducible rfl)
      simp only [Act.put, List.setIfInBounds_toArray, List.set_cons_zero, List.set_cons_succ]
      refine take_dst (i := 6) (dst := some 11) (v := ?_) rfl rfl (by kernel_rfl) (by kernel_rfl) (by kernel_rfl) (fun _ _ _ h => h) (Or.inl ⟨by rfl, ?_⟩) hHeld ?_
      rotate_left
      · intro w hSw; obtain ⟨z0, z1, z2⟩ := hSw; go_simp; try (with_reducible rfl)
      simp only [Act.put, List.setIfInBounds_toArray, List.set_cons_zero, List.set_cons_succ]
      refine wpAnyH_ready (rs := [7]) (by kernel_rfl) (by simp) ?_
      refine (AllReadyH.cons rfl (fun K hK => ?_) AllReadyH.nil)
      go_simp
      refine hK.out _ _ (unhide HS9 _ (unhide Hb5)) (fun hHeld => ?_)
      clear hK K
      refine wpAnyH_ready (rs := [8]) (by kernel_rfl) (by simp) ?_
      refine (AllReadyH.cons rfl (fun K hK => ?_) AllReadyH.nil)
      go_simp
      refine hK.out _ _ (unhide HS9 _ (unhide Hb5)) (fun hHeld => ?_)
      clear hK K
      refine wpAnyH_done (by kernel_rfl) ?_ _
      go_wp2_with fail
      go_meet
      have hb6 := unhide Hb5
      exact ⟨rfl, (show Below W.heap.size W W1 from hW1).trans (hb6.mono (by omega))⟩
  case rest =>
    obtain ⟨rfl, hb⟩ := hcut
    have Hb := hide hb
    clear hb
    go_wp2
    go_ret
    exact ⟨rfl, unhide Hb⟩
end Go.Proofs.YtkimhfajfbcdmaaGreatDoor

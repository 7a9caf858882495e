/- Contract of the reference's part: the arm of two digits. -/
import Derived.Test.YtodncpnhmmnclaaW22
import Derived.Test.YtodncpnhmmnclaaW8
namespace Go.Proofs.Ytodncpnhmmnclaa
open Go.RowKit
attribute [local go_sem ↓] Go.wp_at_zero Go.wp_at_succ

theorem convert_one_drew (c : Nat) (hc : c < 256) (w : World) :
    (convert 67 9 (.slice (some ⟨w.heap.size, 0, none⟩) 1 1)).run Try.prog (w.alloc (.cells #[.int .u8 (c : Int)] 5)).drew = .ok (.string ⟨#[UInt8.ofNat c]⟩) (w.alloc (.cells #[.int .u8 (c : Int)] 5)).drew := by
  refine run_convert_bytes_back _ 67 9 5 ⟨w.heap.size, 0, none⟩ 1 [UInt8.ofNat c] Try.underlying67 Try.underlying5 Try.underlying9 ?_
  intro j hj
  have e : (⟨w.heap.size, 0, none⟩ : Addr).add j = ⟨w.heap.size, j, none⟩ := by unfold Addr.add; split <;> simp_all
  rw [e]
  refine (World.cell?_alloc_mark w #[.int .u8 (c : Int)] 5 (0, 0) j).trans ?_
  have hj1 : j < 1 := hj
  have hn : j = 0 := by omega
  subst hn
  simp [Nat.mod_eq_of_lt hc]

set_option maxHeartbeats 2000000 in
set_option maxRecDepth 100000 in
theorem rPart_x (s : ByteArray) (i n : Nat) (hs : s.size ≤ 281474976710656) (w : World) (hn : i + 1 < s.size) (hz : bt s (i + 1) = 120)
    (H : Hid (∀ w, Calls Try.prog 10 #[.string s, .int .i64 i] w fun e w' => e = .returned (.tuple #[.int .i32 92, .int .i64 (n : Int), .bool true]) ∧ Below w.heap.size w w')) :
    Calls Try.prog 41 #[.string s, .int .i64 i] w fun e w' => e = .returned (.tuple #[.string ⟨(escF (s.size - i) (fun j => bt s (i + j))).1.toArray⟩, .int .i64 ((escF (s.size - i) (fun j => bt s (i + j))).2 : Int)]) ∧ Below w.heap.size w w' := by
  have hn2 : ¬ (s.size : Int) ≤ (i : Int) + 1 := by omega
  have j1 := index_p1 s i hn
  rw [hz] at j1
  have He := hide (show escF (s.size - i) (fun j => bt s (i + j)) = xF (s.size - i) (fun j => bt s (i + j)) by
    unfold escF; rw [if_neg (by omega)]; simp [hz, xF])
  generalize escF (s.size - i) (fun j => bt s (i + j)) = E at *
  by_cases hn3 : i + 3 < s.size
  · have hn3' : (i : Int) + 3 < (s.size : Int) := by omega
    have j2 : ∀ w, (Instr.index 9 (.string s) (.int .i64 ((i : Int) + 2))).run Try.prog w = _ := fun w => index_add s i 2 (by omega) w
    have j3 : ∀ w, (Instr.index 9 (.string s) (.int .i64 ((i : Int) + 3))).run Try.prog w = _ := fun w => index_add s i 3 hn3 w
    have b2 := bt_lt s (i + 2)
    have b3 := bt_lt s (i + 3)
    have hb2 := hexV_bd (bt s (i + 2))
    have hb3 := hexV_bd (bt s (i + 3))
    have HD2 := hide (digit_any (bt s (i + 2)) b2)
    have HD3 := hide (digit_any (bt s (i + 3)) b3)
    have Hx := hide (show xF (s.size - i) (fun j => bt s (i + j)) = if 0 ≤ hexV (bt s (i + 2)) ∧ 0 ≤ hexV (bt s (i + 3)) then ([UInt8.ofNat (16 * hexV (bt s (i + 2)) + hexV (bt s (i + 3))).toNat], 4) else ([], 0) by unfold xF; simp [show 3 < s.size - i by omega])
    generalize xF (s.size - i) (fun j => bt s (i + j)) = X at *
    generalize bt s (i + 2) = x2 at *
    generalize bt s (i + 3) = x3 at *
    generalize hexV x2 = h2 at *
    generalize hexV x3 = h3 at *
    by_cases p2 : 0 ≤ h2
    · by_cases p3 : 0 ≤ h3
      · have hcv : ∀ w : World, (convert 67 9 (.slice (some ⟨w.heap.size, 0, none⟩) 1 1)).run Try.prog (w.alloc (.cells #[.int .u8 (16 * h2 + h3)] 5)).drew = .ok (.string ⟨#[UInt8.ofNat (16 * h2 + h3).toNat]⟩) (w.alloc (.cells #[.int .u8 (16 * h2 + h3)] 5)).drew := fun w => by
          have h := convert_one_drew (16 * h2 + h3).toNat (by omega) w
          rw [show (((16 * h2 + h3).toNat : Nat) : Int) = 16 * h2 + h3 by omega] at h
          exact h
        have hw2 : IntKind.i64.wrap ((i : Int) + 2) = (i : Int) + 2 := IntWalk.i64_in _ ⟨by omega, by omega⟩
        have hw3 : IntKind.i64.wrap ((i : Int) + 3) = (i : Int) + 3 := IntWalk.i64_in _ ⟨by omega, by omega⟩
        have hwm : IntKind.i64.wrap (16 * h2) = 16 * h2 := IntWalk.i64_in _ ⟨by omega, by omega⟩
        have hwa : IntKind.i64.wrap (16 * h2 + h3) = 16 * h2 + h3 := IntWalk.i64_in _ ⟨by omega, by omega⟩
        have hwu : IntKind.u8.wrap (16 * h2 + h3) = 16 * h2 + h3 := IntWalk.u8_in _ ⟨by omega, by omega⟩
        have Hr := hide ((unhide He).trans ((unhide Hx).trans (if_pos ⟨p2, p3⟩)))
        clear He Hx
        go_enter Try.func41, Try.ntmps41
        go_wp2_with fail
        refine (unhide H _).mono ?_
        rintro e w1 ⟨rfl, hb1⟩
        have Hb1 := hide hb1
        clear hb1
        go_wp2_with fail
        refine (unhide HD2 _).mono ?_
        rintro e w2 ⟨rfl, rfl⟩
        go_wp2_with fail
        refine (unhide HD3 _).mono ?_
        rintro e w3 ⟨rfl, rfl⟩
        go_wp2_with fail
        refine wp_region_held_drew (S := fun _ => True) (by kernel_rfl) trivial (fun hHeld => ?_)
        refine take_dst (i := 0) (dst := some 86) (v := ?_) rfl rfl (by kernel_rfl) (by kernel_rfl) (by kernel_rfl) (fun _ _ _ h => h) (Or.inl ⟨by rfl, ?_⟩) hHeld ?_
        rotate_left
        · intro w hSw; go_simp; try (with_reducible rfl)
        simp only [Act.put, List.setIfInBounds_toArray, List.set_cons_zero, List.set_cons_succ]
        refine take_dst (i := 1) (dst := some 87) (v := ?_) rfl rfl (by kernel_rfl) (by kernel_rfl) (by kernel_rfl) (fun _ _ _ h => h) (Or.inl ⟨by rfl, ?_⟩) hHeld ?_
        rotate_left
        · intro w hSw; go_simp; try (with_reducible rfl)
        simp only [Act.put, List.setIfInBounds_toArray, List.set_cons_zero, List.set_cons_succ]
        refine take_dst (i := 2) (dst := some 88) (v := ?_) rfl rfl (by kernel_rfl) (by kernel_rfl) (by kernel_rfl) (fun _ _ _ h => h) (Or.inl ⟨by rfl, ?_⟩) hHeld ?_
        rotate_left
        · intro w hSw; go_simp; try (with_reducible rfl)
        simp only [Act.put, List.setIfInBounds_toArray, List.set_cons_zero, List.set_cons_succ]
        refine take_dst (i := 3) (dst := some 89) (v := ?_) rfl rfl (by kernel_rfl) (by kernel_rfl) (by kernel_rfl) (fun _ _ _ h => h) (Or.inl ⟨by rfl, ?_⟩) hHeld ?_
        rotate_left
        · intro w hSw; go_simp; try (with_reducible rfl)
        simp only [Act.put, List.setIfInBounds_toArray, List.set_cons_zero, List.set_cons_succ]
        refine take_dst (i := 6) (dst := some 92) (v := ?_) rfl rfl (by kernel_rfl) (by kernel_rfl) (by kernel_rfl) (fun _ _ _ h => h) (Or.inl ⟨by rfl, ?_⟩) hHeld ?_
        rotate_left
        · intro w hSw; go_simp; try (with_reducible rfl)
        simp only [Act.put, List.setIfInBounds_toArray, List.set_cons_zero, List.set_cons_succ]
        refine take_dst (i := 7) (dst := some 93) (v := ?_) rfl rfl (by kernel_rfl) (by kernel_rfl) (by kernel_rfl) (fun _ _ _ h => h) (Or.inl ⟨by rfl, ?_⟩) hHeld ?_
        rotate_left
        · intro w hSw; go_simp; try (with_reducible rfl)
        simp only [Act.put, List.setIfInBounds_toArray, List.set_cons_zero, List.set_cons_succ]
        refine take_dst (i := 8) (dst := some 94) (v := ?_) rfl rfl (by kernel_rfl) (by kernel_rfl) (by kernel_rfl) (fun _ _ _ h => h) (Or.inl ⟨by rfl, ?_⟩) hHeld ?_
        rotate_left
        · intro w hSw; go_simp; try (with_reducible rfl)
        simp only [Act.put, List.setIfInBounds_toArray, List.set_cons_zero, List.set_cons_succ]
        refine take_dst (i := 9) (dst := some 95) (v := ?_) rfl rfl (by kernel_rfl) (by kernel_rfl) (by kernel_rfl) (fun _ _ _ h => h) (Or.inl ⟨by rfl, ?_⟩) hHeld ?_
        rotate_left
        · intro w hSw; go_simp; try (with_reducible rfl)
        simp only [Act.put, List.setIfInBounds_toArray, List.set_cons_zero, List.set_cons_succ]
        refine wpAnyH_ready (rs := [4]) (by kernel_rfl) (by simp) ?_
        refine AllReadyH.cons rfl (fun K hK => ?_) AllReadyH.nil
        go_simp
        (refine (unhide HD2 _).mono ?_; rintro e w2 ⟨rfl, rfl⟩)
        go_wp2_with fail
        refine hK.out _ _ trivial (fun hHeld => ?_)
        clear hK K
        refine take_dst (i := 5) (dst := some 91) (v := ?_) rfl rfl (by kernel_rfl) (by kernel_rfl) (by kernel_rfl) (fun _ _ _ h => h) (Or.inl ⟨by rfl, ?_⟩) hHeld ?_
        rotate_left
        · intro w hSw; go_simp; try (with_reducible rfl)
        simp only [Act.put, List.setIfInBounds_toArray, List.set_cons_zero, List.set_cons_succ]
        refine wpAnyH_ready (rs := [10]) (by kernel_rfl) (by simp) ?_
        refine AllReadyH.cons rfl (fun K hK => ?_) AllReadyH.nil
        go_simp
        (refine (unhide HD3 _).mono ?_; rintro e w3 ⟨rfl, rfl⟩)
        go_wp2_with fail
        refine hK.out _ _ trivial (fun hHeld => ?_)
        clear hK K
        refine take_dst (i := 11) (dst := some 97) (v := ?_) rfl rfl (by kernel_rfl) (by kernel_rfl) (by kernel_rfl) (fun _ _ _ h => h) (Or.inl ⟨by rfl, ?_⟩) hHeld ?_
        rotate_left
        · intro w hSw; go_simp; try (with_reducible rfl)
        simp only [Act.put, List.setIfInBounds_toArray, List.set_cons_zero, List.set_cons_succ]
        refine take_dst (i := 12) (dst := some 98) (v := ?_) rfl rfl (by kernel_rfl) (by kernel_rfl) (by kernel_rfl) (fun _ _ _ h => h) (Or.inl ⟨by rfl, ?_⟩) hHeld ?_
        rotate_left
        · intro w hSw; go_simp; try (with_reducible rfl)
        simp only [Act.put, List.setIfInBounds_toArray, List.set_cons_zero, List.set_cons_succ]
        refine wpAnyH_ready (rs := [13]) (by kernel_rfl) (by simp) ?_
        refine AllReadyH.cons rfl (fun K hK => ?_) AllReadyH.nil
        go_simp
        refine hK.out _ _ trivial (fun hHeld => ?_)
        clear hK K
        refine wpAnyH_ready (rs := [14]) (by kernel_rfl) (by simp) ?_
        refine AllReadyH.cons rfl (fun K hK => ?_) AllReadyH.nil
        go_simp
        refine hK.out _ _ trivial (fun hHeld => ?_)
        clear hK K
        refine take_dst (i := 15) (dst := some 4) (v := ?_) rfl rfl (by kernel_rfl) (by kernel_rfl) (by kernel_rfl) (fun _ _ _ h => h) (Or.inl ⟨by rfl, ?_⟩) hHeld ?_
        rotate_left
        · intro w hSw; go_simp; try (with_reducible rfl)
        simp only [Act.put, List.setIfInBounds_toArray, List.set_cons_zero, List.set_cons_succ]
        refine take_dst (i := 16) (dst := some 5) (v := ?_) rfl rfl (by kernel_rfl) (by kernel_rfl) (by kernel_rfl) (fun _ _ _ h => h) (Or.inl ⟨by rfl, ?_⟩) hHeld ?_
        rotate_left
        · intro w hSw; go_simp; try (with_reducible rfl)
        simp only [Act.put, List.setIfInBounds_toArray, List.set_cons_zero, List.set_cons_succ]
        refine wpAnyH_done (by kernel_rfl) ?_ _
        go_wp2
        go_ret2
        rw [unhide Hr]
        exact ⟨rfl, ((unhide Hb1).alloc (unhide Hb1).size _).drew⟩
      · have Hr := hide ((unhide He).trans ((unhide Hx).trans (if_neg (by omega))))
        clear He Hx
        go_enter Try.func41, Try.ntmps41
        go_wp2_with fail
        refine (unhide H _).mono ?_
        rintro e w1 ⟨rfl, hb1⟩
        have Hb1 := hide hb1
        clear hb1
        go_wp2_with fail
        refine (unhide HD2 _).mono ?_
        rintro e w2 ⟨rfl, rfl⟩
        go_wp2_with fail
        refine (unhide HD3 _).mono ?_
        rintro e w3 ⟨rfl, rfl⟩
        go_wp2
        go_ret2
        rw [unhide Hr]
        exact ⟨rfl, unhide Hb1⟩
    · have Hr := hide ((unhide He).trans ((unhide Hx).trans (if_neg (by omega))))
      clear He Hx
      go_enter Try.func41, Try.ntmps41
      go_wp2_with fail
      refine (unhide H _).mono ?_
      rintro e w1 ⟨rfl, hb1⟩
      have Hb1 := hide hb1
      clear hb1
      go_wp2_with fail
      refine (unhide HD2 _).mono ?_
      rintro e w2 ⟨rfl, rfl⟩
      go_wp2
      go_ret2
      rw [unhide Hr]
      exact ⟨rfl, unhide Hb1⟩
  · have hn3' : ¬ (i : Int) + 3 < (s.size : Int) := by omega
    have Hr := hide ((unhide He).trans (show xF (s.size - i) (fun j => bt s (i + j)) = ([], 0) by unfold xF; simp; omega))
    clear He
    go_enter Try.func41, Try.ntmps41
    go_wp2_with fail
    refine (unhide H _).mono ?_
    rintro e w1 ⟨rfl, hb1⟩
    go_wp2
    go_ret2
    rw [unhide Hr]
    exact ⟨rfl, hb1⟩
theorem rPart_all (s : ByteArray) (hs : s.size ≤ 281474976710656) (i : Nat) (hi : i < s.size) (w : World) :
    Calls Try.prog 41 #[.string s, .int .i64 i] w fun e w' => e = .returned (.tuple #[.string ⟨(partL s i).1.toArray⟩, .int .i64 ((partL s i).2 : Int)]) ∧ Below w.heap.size w w' := by
  refine rPart_any s hs i hi w fun h92 hz => ?_
  have H := rNext_any s i (by omega)
  unfold nextV at H
  cases hn : noneB s i
  · rw [nextT_rune s i hi hn] at H
    simp only at H
    rw [h92] at H
    have h1 : i + 1 < s.size := by
      by_cases h : i + 1 < s.size
      · exact h
      · have : bt s (i + 1) = 0 := bt_out s (i + 1) (by omega)
        omega
    exact rPart_x s i _ hs w h1 hz (hide H)
  · have hd : Utf8.decode s i = (65533, 1) := by simpa only [noneB, beq_iff_eq] using hn
    rw [hd] at h92; simp at h92
end Go.Proofs.Ytodncpnhmmnclaa

/- Contract of the document's Next, as in stage 1. -/
import Derived.Test.YtkckcnjamlpadaaDoorD1
import Derived.Deep.QuietTactic
import Derived.BigQuiet
import Derived.Deep.RegionWith
import Derived.Deep.RegionHeld3
import Derived.Deep.DrawnRows
import Derived.Deep.DeepCutAuto
import Derived.RegionTactic
import Derived.ChangeAlike
namespace Go.Proofs.YtkckcnjamlpadaaDoor
open Go.RowKit
set_option maxHeartbeats 400000 in
theorem rRune_any (r : Int) (w : World) :
    Calls Tryd.prog 70 #[.int .i32 r] w fun e w' => e = .returned (.bool (Utf8.valid r)) ∧ w = w' := by
  rw [validRune_eq]
  go_enter Tryd.func70, Tryd.ntmps70
  go_wp2
  all_goals (go_ret; refine ⟨ret_bool ?_, rfl⟩; unfold validRune; rw [Bool.eq_iff_iff]; simp; omega)

set_option maxHeartbeats 400000 in
theorem bytes_one (r : Int) (h0 : 0 ≤ r) (h1 : r ≤ 127) (w : World) :
    Calls Tryd.prog 71 #[.int .i32 r] w fun e w' => e = .returned (.slice (some ⟨w.heap.size, 0, none⟩) 1 1) ∧ w' = w.alloc (.cells #[.int .u8 r] 5) := by
  go_enter Tryd.func71, Tryd.ntmps71
  go_wp2
  go_ret
  exact ⟨rfl, rfl⟩
set_option maxHeartbeats 400000 in
theorem bytes_two (r : Int) (h0 : 128 ≤ r) (h1 : r ≤ 2047) (w : World) :
    Calls Tryd.prog 71 #[.int .i32 r] w fun e w' => e = .returned (.slice (some ⟨w.heap.size, 0, none⟩) 2 2) ∧ w' = w.alloc (.cells #[.int .u8 (192 + r / 64), .int .u8 (128 + r % 64)] 5) := by
  go_enter Tryd.func71, Tryd.ntmps71
  go_wp2
  go_ret
  exact ⟨rfl, rfl⟩
set_option maxHeartbeats 400000 in
theorem bytes_three (r : Int) (h0 : 2048 ≤ r) (h1 : r ≤ 65535) (w : World) :
    Calls Tryd.prog 71 #[.int .i32 r] w fun e w' => e = .returned (.slice (some ⟨w.heap.size, 0, none⟩) 3 3) ∧ w' = w.alloc (.cells #[.int .u8 (224 + r / 4096), .int .u8 (128 + r / 64 % 64), .int .u8 (128 + r % 64)] 5) := by
  go_enter Tryd.func71, Tryd.ntmps71
  go_wp2
  go_ret
  exact ⟨rfl, rfl⟩
set_option maxHeartbeats 400000 in
theorem bytes_four (r : Int) (h0 : 65536 ≤ r) (h1 : r ≤ 1114111) (w : World) :
    Calls Tryd.prog 71 #[.int .i32 r] w fun e w' => e = .returned (.slice (some ⟨w.heap.size, 0, none⟩) 4 4) ∧ w' = w.alloc (.cells #[.int .u8 (240 + r / 262144), .int .u8 (128 + r / 4096 % 64), .int .u8 (128 + r / 64 % 64), .int .u8 (128 + r % 64)] 5) := by
  go_enter Tryd.func71, Tryd.ntmps71
  go_wp2
  go_ret
  exact ⟨rfl, rfl⟩
theorem bytes_any (r : Int) (h : Utf8.valid r = true) (w : World) :
    Calls Tryd.prog 71 #[.int .i32 r] w fun e w' => e = .returned (.slice (some ⟨w.heap.size, 0, none⟩) (Lib.encodeRune r).length (Lib.encodeRune r).length) ∧ w' = w.alloc (.cells (Lib.runeCells r).toArray 5) := by
  have hv := (valid_iff r).1 h
  rw [← Lib.runeCells_length]
  by_cases c1 : r ≤ 127
  · rw [show Lib.runeCells r = [.int .u8 r] by simp [Lib.runeCells, Lib.encodeRuneZ_one (by omega) c1]]
    exact bytes_one r (by omega) c1 w
  by_cases c2 : r ≤ 2047
  · rw [show Lib.runeCells r = [.int .u8 (192 + r / 64), .int .u8 (128 + r % 64)] by simp [Lib.runeCells, Lib.encodeRuneZ_two (by omega) c2]]
    exact bytes_two r (by omega) c2 w
  by_cases c3 : r ≤ 65535
  · rw [show Lib.runeCells r = [.int .u8 (224 + r / 4096), .int .u8 (128 + r / 64 % 64), .int .u8 (128 + r % 64)] by simp [Lib.runeCells, Lib.encodeRuneZ_three (r := r) (by omega)]]
    exact bytes_three r (by omega) c3 w
  · rw [show Lib.runeCells r = [.int .u8 (240 + r / 262144), .int .u8 (128 + r / 4096 % 64), .int .u8 (128 + r / 64 % 64), .int .u8 (128 + r % 64)] by simp [Lib.runeCells, Lib.encodeRuneZ_four (r := r) (by omega) (by omega)]]
    exact bytes_four r (by omega) (by omega) w
theorem convert_rune_cells (r : Int) (w : World) :
    (convert 76 9 (.slice (some ⟨w.heap.size, 0, none⟩) (Lib.encodeRune r).length (Lib.encodeRune r).length)).run Tryd.prog (w.alloc (.cells (Lib.runeCells r).toArray 5)) = .ok (.string ⟨(Lib.encodeRune r).toArray⟩) (w.alloc (.cells (Lib.runeCells r).toArray 5)) := by
  refine run_convert_bytes_back _ 76 9 5 _ _ _ Tryd.underlying76 Tryd.underlying5 Tryd.underlying9 ?_
  intro j hj
  rw [← Lib.byteCells_encodeRune]
  have e : (⟨w.heap.size, 0, none⟩ : Addr).add j = ⟨w.heap.size, j, none⟩ := by unfold Addr.add; split <;> simp_all
  rw [e, World.cell?_alloc_mark]
  simp [Lib.byteCells, hj]

attribute [local go_sem ↓] Go.wp_at_zero Go.wp_at_succ

set_option maxHeartbeats 400000 in
theorem rNext_out (s : ByteArray) (a : Int) (h : a < 0 ∨ (s.size : Int) ≤ a) (w : World) :
    Calls Tryd.prog 63 #[.string s, .int .i64 a] w fun e w' => e = .returned (nextV s a) ∧ Below w.heap.size w w' := by
  unfold nextV
  rw [nextT_out s a h]
  rcases h with h | h
  · go_enter Tryd.func63, Tryd.ntmps63
    go_wp2
    go_ret3
    exact ⟨rfl, Below.refl _ _⟩
  · have h0 : ¬ a < 0 := by omega
    go_enter Tryd.func63, Tryd.ntmps63
    go_wp2
    go_ret3
    exact ⟨rfl, Below.refl _ _⟩

theorem index_bt (s : ByteArray) (j : Nat) (h : j < s.size) (w : World) : (Instr.index 9 (.string s) (.int .i64 (j : Int))).run Tryd.prog w = .ok (.int .u8 (bt s j : Int)) w := by
  rw [run_index_string w 9 s .i64 (j : Int) Tryd.underlying9, dif_pos (by omega)]
  simp [bt_get s j h]

/-- 'wpAnyH_take' with the slot that is written told outright. -/
theorem take_dstD {P : Program} {md : Region.Mode} {ops : Array Oper} {Q : Exit → Act → World → Prop} {S : World → Prop} {i : Nat} {oi : Oper} {v : Value} {dst : Option Nat} {fuel : Nat} {listed : Array Bool} {a : Act} {w : World} (hi : ops[i]? = some oi) (hd : oi.dst = dst)
    (hs : Region.noSelect ops = true) (hf : Region.free md ops listed i = true) (hr : (Region.ready md ops listed).contains i = true)
    (hQ : ∀ c a w, Q (.panic c) (a.put dst v) w → Q (.panic c) a w) (hy : YieldsIf P ops S oi v a) (hS : S w)
    (h : wpAnyH P md ops Q S fuel (listed.setIfInBounds i true) (a.put dst v) w) : wpAnyH P md ops Q S (fuel + 1) listed a w := by
  subst hd; exact wpAnyH_take hi hs hf hr hQ hy hS h

set_option maxHeartbeats 2000000 in
set_option maxRecDepth 100000 in
theorem rNext_in (s : ByteArray) (i : Nat) (h : i < s.size) (hmax : s.size ≤ 9223372036854775807) (w : World) :
    Calls Tryd.prog 63 #[.string s, .int .i64 i] w fun e w' => e = .returned (nextV s i) ∧ Below w.heap.size w w' := by
  have hi' : ¬ (s.size : Int) ≤ i := by omega
  have hix := index_bt s i h
  have hb0 := bt_lt s i
  go_enter Tryd.func63, Tryd.ntmps63
  go_wp2
  go_loopw [7] (fun v wr => ∃ n : Nat, 1 ≤ n ∧ n ≤ 5 ∧ n ≤ s.size - i + 1 ∧ v = .int .i64 n ∧ (∀ m, 1 ≤ m → m < n → hitB s i m = false) ∧ Below w.heap.size w wr) (fun v _ => 5 - (intOf v).toNat)
  case atStart => exact ⟨1, by omega, by omega, by omega, rfl, fun m h1 h2 => by omega, Below.refl _ _⟩
  case round =>
    obtain ⟨n, h1, h5, hL, rfl, hno, hbel⟩ := hrel
    have Hno := hide hno
    have Hbel := hide hbel
    clear hno hbel
    by_cases hn : n ≤ 4 ∧ n ≤ s.size - i
    · obtain ⟨h4, hnL⟩ := hn
      go_upto_if 35 with fail
      go_cut [8] (fun v wx => v = .int .u32 (v0 s i n : Int) ∧ Below w.heap.size w wx)
      case first =>
        have hn' : n = 1 ∨ n = 2 ∨ n = 3 ∨ n = 4 := by omega
        rcases hn' with rfl | rfl | rfl | rfl
        · go_wp2
          go_meet
          exact ⟨by simp [v0], unhide Hbel⟩
        all_goals
          go_wp2
          go_region
          go_wp2
          go_meet
          exact ⟨by simp [v0], (unhide Hbel).drew⟩
      case rest =>
        obtain ⟨rfl, hbel⟩ := hcut
        have Hb := hide hbel
        clear hbel
        go_wp2
        go_loopw [8, 9] (fun v j wx => ∃ k : Nat, k + 1 ≤ n ∧ v = .int .u32 (vj s i n k : Int) ∧ j = .int .i64 ((k : Int) + 1) ∧ Below w.heap.size w wx) (fun _ j _ => n - (intOf j).toNat)
        case atStart => exact ⟨0, by omega, rfl, rfl, unhide Hb⟩
        case round =>
          obtain ⟨k, hk, rfl, rfl, hbk⟩ := hrel
          have Hbk := hide hbk
          clear hbk
          have hvj := vj_lt s i n k (by omega)
          by_cases hlt : k + 1 < n
          · have hlt' : (k : Int) + 1 < (n : Int) := by omega
            have hbj : bt s (i + (k + 1)) = (s[i + (k + 1)]'(by omega)).toNat := bt_get s (i + (k + 1)) (by omega)
            have hv2 := hvj.2 (by omega)
            have Hst := hide (show vj s i n (k + 1) = vj s i n k * 64 + bt s (i + (k + 1)) % 64 from rfl)
            rw [hbj] at Hst
            clear hbj
            generalize vj s i n k = x at *
            go_wp2
            go_roundw
            case rel => exact ⟨k + 1, by omega, congrArg (Value.int .u32) (by rw [unhide Hst]; simp), by go_num, unhide Hbk⟩
            case measure => simp [intOf]; omega
          · have hlt' : ¬ (k : Int) + 1 < (n : Int) := by omega
            have hval : vj s i n k = val s i n := by rw [← vj_val s i n h1 h4]; congr 1; omega
            rw [hval]
            clear hval hvj
            go_upto_region 13 with fail
            go_cut [78] (fun c wx => c = .bool (hitB s i n) ∧ Below w.heap.size w wx)
            case first =>
              have hxl := val_le s i n
              have HB := hide (show hitB s i n = (Utf8.valid (val s i n : Int) && (Lib.encodeRune (val s i n : Int) == (s.extract i (i + n)).toList)) from rfl)
              generalize val s i n = x at *
              generalize hitB s i n = hb at *
              by_cases hx : (x : Int) ≤ 1114111
              · cases hv : Utf8.valid (x : Int)
                · have HR : Hid (∀ W, Calls Tryd.prog 70 #[.int .i32 (x : Int)] W fun e w' => e = .returned (.bool false) ∧ w' = W) := hide fun W => (rRune_any (x : Int) W).mono fun e w' ⟨he, hw⟩ => ⟨by rw [he, hv], hw.symm⟩
                  have HB' : Hid (hb = false) := by have := unhide HB; rw [hv] at this; exact hide this
                  clear hv HB
                  go_quiet ((go_at_call 70; exact Calls.quiet_of_same (unhide HR _)))
                  go_wp2
                  go_meet
                  exact ⟨by rw [unhide HB'], below_drewN (unhide Hbk) _⟩
                · have HR : Hid (∀ W, Calls Tryd.prog 70 #[.int .i32 (x : Int)] W fun e w' => e = .returned (.bool true) ∧ W = w') := hide fun W => (rRune_any (x : Int) W).mono fun e w' ⟨he, hw⟩ => ⟨by rw [he, hv], hw⟩
                  have HY := hide (bytes_any (x : Int) hv)
                  have HB' : Hid (hb = (Lib.encodeRune (x : Int) == (s.extract i (i + n)).toList)) := by have := unhide HB; rw [hv] at this; exact hide this
                  have hcv : (convert 76 9 (.slice (some ⟨wr.heap.size, 0, none⟩) (Lib.encodeRune (x : Int)).length (Lib.encodeRune (x : Int)).length)).run Tryd.prog (wr.alloc (.cells (Lib.runeCells (x : Int)).toArray 5)).drew = .ok (.string ⟨(Lib.encodeRune (x : Int)).toArray⟩) (wr.alloc (.cells (Lib.runeCells (x : Int)).toArray 5)).drew := convert_rune_cells (x : Int) wr.drew
                  have hwr : IntKind.i32.wrap (x : Int) = (x : Int) := IntWalk.i32_in (x : Int) ⟨by omega, by omega⟩
                  have hw64 : IntKind.i64.wrap ((i : Int) + (n : Int)) = (i : Int) + (n : Int) := IntWalk.i64_in _ ⟨by omega, by omega⟩
                  have hs0 : (0 : Int) ≤ (i : Int) := by omega
                  have hs1 : (i : Int) ≤ (i : Int) + (n : Int) := by omega
                  have hs2 : (i : Int) + (n : Int) ≤ (s.size : Int) := by omega
                  generalize Lib.encodeRune (x : Int) = q at *
                  generalize (Lib.runeCells (x : Int)).toArray = cs at *
                  clear hv HB
                  refine wp_region_noPanic ?_
                  refine wp_region_held_drew (S := fun _ => True) (by kernel_rfl) trivial (fun hHeld => ?_)
                  refine take_dstD (i := 0) (dst := some 59) (v := ?_) rfl rfl (by kernel_rfl) (by kernel_rfl) (by kernel_rfl) (fun _ _ _ h => h) (Or.inl ⟨by rfl, ?_⟩) hHeld ?_
                  rotate_left
                  · intro w hSw; go_simp; try (with_reducible rfl)
                  simp only [Act.put, List.setIfInBounds_toArray, List.set_cons_zero, List.set_cons_succ]
                  refine take_dstD (i := 1) (dst := some 60) (v := ?_) rfl rfl (by kernel_rfl) (by kernel_rfl) (by kernel_rfl) (fun _ _ _ h => h) (Or.inl ⟨by rfl, ?_⟩) hHeld ?_
                  rotate_left
                  · intro w hSw; go_simp; try (with_reducible rfl)
                  simp only [Act.put, List.setIfInBounds_toArray, List.set_cons_zero, List.set_cons_succ]
                  refine take_dstD (i := 2) (dst := some 61) (v := ?_) rfl rfl (by kernel_rfl) (by kernel_rfl) (by kernel_rfl) (fun _ _ _ h => h) (Or.inl ⟨by rfl, ?_⟩) hHeld ?_
                  rotate_left
                  · intro w hSw; go_simp; try (with_reducible rfl)
                  simp only [Act.put, List.setIfInBounds_toArray, List.set_cons_zero, List.set_cons_succ]
                  refine take_dstD (i := 3) (dst := some 62) (v := ?_) rfl rfl (by kernel_rfl) (by kernel_rfl) (by kernel_rfl) (fun _ _ _ h => h) (Or.inl ⟨by rfl, ?_⟩) hHeld ?_
                  rotate_left
                  · intro w hSw; go_simp; try (with_reducible rfl)
                  simp only [Act.put, List.setIfInBounds_toArray, List.set_cons_zero, List.set_cons_succ]
                  refine take_dstD (i := 4) (dst := some 63) (v := ?_) rfl rfl (by kernel_rfl) (by kernel_rfl) (by kernel_rfl) (fun _ _ _ h => h) (Or.inl ⟨by rfl, ?_⟩) hHeld ?_
                  rotate_left
                  · intro w hSw; go_simp; try (with_reducible rfl)
                  simp only [Act.put, List.setIfInBounds_toArray, List.set_cons_zero, List.set_cons_succ]
                  refine wpAnyH_ready (rs := [5]) (by kernel_rfl) (by simp) ?_
                  refine AllReadyH.cons rfl (fun K hK => ?_) AllReadyH.nil
                  go_simp
                  (refine (unhide HR _).mono ?_; rintro e w' ⟨rfl, rfl⟩)
                  go_wp2_with fail
                  refine hK.out _ _ trivial (fun hHeld => ?_)
                  clear hK K
                  refine take_dstD (i := 6) (dst := some 65) (v := ?_) rfl rfl (by kernel_rfl) (by kernel_rfl) (by kernel_rfl) (fun _ _ _ h => h) (Or.inl ⟨by rfl, ?_⟩) hHeld ?_
                  rotate_left
                  · intro w hSw; go_simp; try (with_reducible rfl)
                  simp only [Act.put, List.setIfInBounds_toArray, List.set_cons_zero, List.set_cons_succ]
                  refine take_dstD (i := 7) (dst := some 66) (v := ?_) rfl rfl (by kernel_rfl) (by kernel_rfl) (by kernel_rfl) (fun _ _ _ h => h) (Or.inl ⟨by rfl, ?_⟩) hHeld ?_
                  rotate_left
                  · intro w hSw; go_simp; try (with_reducible rfl)
                  simp only [Act.put, List.setIfInBounds_toArray, List.set_cons_zero, List.set_cons_succ]
                  refine take_dstD (i := 8) (dst := some 67) (v := ?_) rfl rfl (by kernel_rfl) (by kernel_rfl) (by kernel_rfl) (fun _ _ _ h => h) (Or.inl ⟨by rfl, ?_⟩) hHeld ?_
                  rotate_left
                  · intro w hSw; go_simp; try (with_reducible rfl)
                  simp only [Act.put, List.setIfInBounds_toArray, List.set_cons_zero, List.set_cons_succ]
                  refine take_dstD (i := 9) (dst := some 68) (v := ?_) rfl rfl (by kernel_rfl) (by kernel_rfl) (by kernel_rfl) (fun _ _ _ h => h) (Or.inl ⟨by rfl, ?_⟩) hHeld ?_
                  rotate_left
                  · intro w hSw; go_simp; try (with_reducible rfl)
                  simp only [Act.put, List.setIfInBounds_toArray, List.set_cons_zero, List.set_cons_succ]
                  refine take_dstD (i := 12) (dst := some 71) (v := ?_) rfl rfl (by kernel_rfl) (by kernel_rfl) (by kernel_rfl) (fun _ _ _ h => h) (Or.inl ⟨by rfl, ?_⟩) hHeld ?_
                  rotate_left
                  · intro w hSw; go_simp; try (with_reducible rfl)
                  simp only [Act.put, List.setIfInBounds_toArray, List.set_cons_zero, List.set_cons_succ]
                  refine take_dstD (i := 13) (dst := some 72) (v := ?_) rfl rfl (by kernel_rfl) (by kernel_rfl) (by kernel_rfl) (fun _ _ _ h => h) (Or.inl ⟨by rfl, ?_⟩) hHeld ?_
                  rotate_left
                  · intro w hSw; go_simp; try (with_reducible rfl)
                  simp only [Act.put, List.setIfInBounds_toArray, List.set_cons_zero, List.set_cons_succ]
                  refine take_dstD (i := 14) (dst := some 73) (v := ?_) rfl rfl (by kernel_rfl) (by kernel_rfl) (by kernel_rfl) (fun _ _ _ h => h) (Or.inl ⟨by rfl, ?_⟩) hHeld ?_
                  rotate_left
                  · intro w hSw; go_simp; try (with_reducible rfl)
                  simp only [Act.put, List.setIfInBounds_toArray, List.set_cons_zero, List.set_cons_succ]
                  refine take_dstD (i := 15) (dst := some 74) (v := ?_) rfl rfl (by kernel_rfl) (by kernel_rfl) (by kernel_rfl) (fun _ _ _ h => h) (Or.inl ⟨by rfl, ?_⟩) hHeld ?_
                  rotate_left
                  · intro w hSw; go_simp; try (with_reducible rfl)
                  simp only [Act.put, List.setIfInBounds_toArray, List.set_cons_zero, List.set_cons_succ]
                  refine take_dstD (i := 16) (dst := some 75) (v := ?_) rfl rfl (by kernel_rfl) (by kernel_rfl) (by kernel_rfl) (fun _ _ _ h => h) (Or.inl ⟨by rfl, ?_⟩) hHeld ?_
                  rotate_left
                  · intro w hSw; go_simp; try (with_reducible rfl)
                  simp only [Act.put, List.setIfInBounds_toArray, List.set_cons_zero, List.set_cons_succ]
                  refine take_dstD (i := 17) (dst := some 76) (v := ?_) rfl rfl (by kernel_rfl) (by kernel_rfl) (by kernel_rfl) (fun _ _ _ h => h) (Or.inl ⟨by rfl, ?_⟩) hHeld ?_
                  rotate_left
                  · intro w hSw; go_simp; try (with_reducible rfl)
                  simp only [Act.put, List.setIfInBounds_toArray, List.set_cons_zero, List.set_cons_succ]
                  refine wpAnyH_ready (rs := [10]) (by kernel_rfl) (by simp) ?_
                  refine AllReadyH.cons rfl (fun K hK => ?_) AllReadyH.nil
                  go_simp
                  (refine (unhide HY _).mono ?_; rintro e w' ⟨rfl, rfl⟩)
                  go_wp2_with fail
                  refine hK.out _ _ trivial (fun hHeld => ?_)
                  clear hK K
                  refine wpAnyH_ready (rs := [11]) (by kernel_rfl) (by simp) ?_
                  refine AllReadyH.cons rfl (fun K hK => ?_) AllReadyH.nil
                  go_simp
                  refine hK.out _ _ trivial (fun hHeld => ?_)
                  clear hK K
                  refine take_dstD (i := 18) (dst := some 77) (v := ?_) rfl rfl (by kernel_rfl) (by kernel_rfl) (by kernel_rfl) (fun _ _ _ h => h) (Or.inl ⟨by rfl, ?_⟩) hHeld ?_
                  rotate_left
                  · intro w hSw; go_simp; try (with_reducible rfl)
                  simp only [Act.put, List.setIfInBounds_toArray, List.set_cons_zero, List.set_cons_succ]
                  refine take_dstD (i := 19) (dst := some 78) (v := ?_) rfl rfl (by kernel_rfl) (by kernel_rfl) (by kernel_rfl) (fun _ _ _ h => h) (Or.inl ⟨by rfl, ?_⟩) hHeld ?_
                  rotate_left
                  · intro w hSw; go_simp; try (with_reducible rfl)
                  simp only [Act.put, List.setIfInBounds_toArray, List.set_cons_zero, List.set_cons_succ]
                  refine wpAnyH_done (by kernel_rfl) ?_ _
                  refine NoPanic.normal ?_
                  go_wp2
                  go_meet
                  exact ⟨congrArg Value.bool (unhide HB').symm, ((unhide Hbk).alloc (unhide Hbk).size _).drew⟩
              · have hd : decide ((x : Int) ≤ 1114111) = false := by simp; omega
                go_quiet (fail)
                go_wp2
                go_meet
                have hvf : Utf8.valid (x : Int) = false := by rw [validRune_eq]; simp [validRune]; omega
                exact ⟨by rw [unhide HB, hvf]; rfl, below_drewN (unhide Hbk) _⟩
            case rest =>
              obtain ⟨rfl, hbc⟩ := hcut
              have Hbc := hide hbc
              clear hbc
              have hxl := val_le s i n
              cases hh : hitB s i n
              · go_wp2
                go_roundw
                case rel =>
                  refine ⟨n + 1, by omega, by omega, by omega, by go_num, fun m hm1 hm2 => ?_, unhide Hbc⟩
                  by_cases e : m = n
                  · subst e; exact hh
                  · exact unhide Hno m hm1 (by omega)
                case measure => simp [intOf]; omega
              · have hp := hit_piece s i n h1 h4 (by omega) hh
                have Hv := hide (show nextV s i = .tuple #[.int .i32 (val s i n : Int), .int .i64 (n : Int), .bool true] by unfold nextV; rw [nextT_rune s i h hp.2, hp.1])
                clear hp hh
                generalize val s i n = x at *
                go_wp2
                go_ret3
                rw [unhide Hv]
                exact ⟨rfl, unhide Hbc⟩
    · have hno : noneB s i = true := no_hit s i h fun m hm1 hm4 hmL => unhide Hno m hm1 (by omega)
      have Hv := hide (show nextV s i = .tuple #[.int .i32 0, .int .i64 1, .bool false] by unfold nextV; rw [nextT_none s i h hno])
      clear hno
      by_cases h4 : n ≤ 4
      · have hL2 : ¬ (n : Int) ≤ (s.size : Int) - (i : Int) := by omega
        have h4' : (n : Int) ≤ 4 := by omega
        go_wp2
        go_ret3
        rw [unhide Hv]
        exact ⟨rfl, unhide Hbel⟩
      · have h4' : ¬ (n : Int) ≤ 4 := by omega
        go_wp2
        go_ret3
        rw [unhide Hv]
        exact ⟨rfl, unhide Hbel⟩

theorem rNext_any (s : ByteArray) (a : Int) (hmax : s.size ≤ 9223372036854775807) (w : World) :
    Calls Tryd.prog 63 #[.string s, .int .i64 a] w fun e w' => e = .returned (nextV s a) ∧ Below w.heap.size w w' := by
  by_cases h : a < 0 ∨ (s.size : Int) ≤ a
  · exact rNext_out s a h w
  · obtain ⟨i, rfl⟩ : ∃ i : Nat, a = i := ⟨a.toNat, by omega⟩
    exact rNext_in s i (by omega) hmax w
end Go.Proofs.YtkckcnjamlpadaaDoor

/- The cursor: Next, Back, Mark. -/
import Derived.Test.YtkckcnjamlpadabDoorU1
import Derived.Laws.AppendOwnNone
namespace Go.Proofs.YtkckcnjamlpadabDoor
open Go.RowKit Go.Maps

theorem CurAt.off {w w' : World} {c g cap k R : Nat} {l : List T3} (h : CurAt w c g cap l k) (ho : OffR R w w') (hc : c ≠ R) (hg : g ≠ R) : CurAt w' c g cap l k :=
  ⟨(ho.block _ (lt_of_some h.box) hc).trans h.box, trow_off h.row ho hg, h.ne, Nat.lt_of_lt_of_le h.gl ho.size, h.le⟩
theorem CurAt.set {w : World} {c g cap k : Nat} {l : List T3} (h : CurAt w c g cap l k) (k' : Nat) (hk : k' ≤ l.length) : CurAt (w.setCell ⟨c, 1, none⟩ (.int .i64 (k' : Int))) c g cap l k' :=
  ⟨block_set (i := 1) h.box _, trow_off h.row (offR_set (p := ⟨c, 1, none⟩) (offR_below (Below.refl _ _)) (.inl rfl) _) h.ne, h.ne, by simpa [World.setCell] using h.gl, hk⟩
def nextK (l : List T3) (k : Nat) : Nat := if k < l.length then k + 1 else k
theorem off3 (W : World) (X : Nat) (u v z : Value) : OffR X W (((W.setCell ⟨X, 0, none⟩ u).setCell ⟨X, 1, none⟩ v).setCell ⟨X, 2, none⟩ z) :=
  offR_set (p := ⟨X, 2, none⟩) (offR_set (p := ⟨X, 1, none⟩) (offR_set (p := ⟨X, 0, none⟩) (offR_below (Below.refl _ _)) (.inl rfl) _) (.inl rfl) _) (.inl rfl) _

set_option maxHeartbeats 2000000 in
set_option maxRecDepth 100000 in
theorem next_go (c g cap k : Nat) (l : List T3) (hl9 : l.length ≤ 281474976710656) (hlt : k < l.length) (w : World) (h : CurAt w c g cap l k) :
    Calls Tryd.prog 7 #[.pointer (some ⟨c, 0, none⟩)] w fun e w' => e = .returned (tokV (wantT l k)) ∧ OffR c w w' ∧ CurAt w' c g cap l (k + 1) := by
  have hcl := lt_of_some h.box
  have hgl := h.gl
  have hle := h.le
  have HP := hide (fun o => peek_any c g cap k l hl9 (w.alloc o) (h.below ((Below.refl _ _).alloc (Nat.le_refl _) o)))
  unfold tokV at HP ⊢
  generalize wantT l k = x at *
  obtain ⟨x0, x1, x2⟩ := x
  simp only at HP ⊢
  have Hh := hide h
  clear h
  go_enter Tryd.func7, Tryd.ntmps7
  go_wp2_with fail
  refine (unhide HP _).mono ?_
  rintro e w1 ⟨rfl, hb1⟩
  have h1 := ((unhide Hh).below ((Below.refl _ _).alloc (Nat.le_refl _) _)).below hb1
  have hX := (hb1.block w.heap.size (by simp)).trans (heap_new w _)
  have hb01 := ((Below.refl _ w).alloc (Nat.le_refl _) _).trans (hb1.mono (by simp))
  have HL := hide (fun o => left_any c g cap k l hl9 (w1.alloc o) (h1.below ((Below.refl _ _).alloc (Nat.le_refl _) o)))
  have H1 := hide h1; have HX := hide hX; have Hb01 := hide hb01
  clear hb1 h1 hX hb01 HP Hh
  go_wp2_with fail
  refine (unhide HL _).mono ?_
  rintro e w2 ⟨rfl, hb2⟩
  have h2 := ((unhide H1).below ((Below.refl _ _).alloc (Nat.le_refl _) _)).below hb2
  have hxl := lt_of_some (unhide HX)
  have hX2 := (hb2.block w.heap.size (by simp; omega)).trans ((Below.heap_alloc w1 _ _ hxl).trans (unhide HX))
  have hT2 := (hb2.block w1.heap.size (by simp)).trans (heap_new w1 _)
  have hb02 := (unhide Hb01).trans ((((Below.refl _ w1).alloc (Nat.le_refl _) _).trans (hb2.mono (by simp))).mono (unhide Hb01).size)
  have hnt : c ≠ w1.heap.size := by have := (unhide Hb01).size; omega
  have c1 := cell_block h2.box 1 _ rfl
  have cf := frozen_block h2.box 1
  have hp :  (0 : Int) < (l.length : Int) - (k : Int) := by omega
  have H2 := hide h2; have Hb02 := hide hb02
  have hXs := (Below.heap_setCell w2 ⟨c, 1, none⟩ (.int .i64 ((k : Int) + 1)) w.heap.size (by show w.heap.size ≠ c; omega)).trans hX2
  have hTs := (Below.heap_setCell w2 ⟨c, 1, none⟩ (.int .i64 ((k : Int) + 1)) w1.heap.size (by show w1.heap.size ≠ c; omega)).trans hT2
  have t0 := cell_block hTs 0 _ rfl
  have t1 := cell_block hTs 1 _ rfl
  have t2 := cell_block hTs 2 _ rfl
  have a0 := cell_block hXs 0 _ rfl
  have a1 := cell_block hXs 1 _ rfl
  have a2 := cell_block hXs 2 _ rfl
  have f0 := frozen_block hXs 0
  have f1 := frozen_block hXs 1
  have f2 := frozen_block hXs 2
  have HW := hide (h2.set (k + 1) (by omega))
  have hwr : IntKind.i64.wrap ((k : Int) + 1) = (k : Int) + 1 := by rw [IntKind.wrap_i64]; omega
  clear hXs hTs
  clear h2 hb2 hX2 hT2 hb02 HL H1 HX Hb01
  go_wp2
  refine bodyPost_ret (v := .agg #[.int .i64 x0, .int .i64 x1, .int .i64 x2]) (by simp [results, Tryd.results7, go_sem, a0, a1, a2]) rfl ?_
  refine ⟨rfl, offR_set (p := ⟨w.heap.size, 2, none⟩) (offR_set (p := ⟨w.heap.size, 1, none⟩) (offR_set (p := ⟨w.heap.size, 0, none⟩) (offR_set (p := ⟨c, 1, none⟩) (offR_below (unhide Hb02)) (.inl rfl) _) (.inr (Nat.le_refl _)) _) (.inr (Nat.le_refl _)) _) (.inr (Nat.le_refl _)) _, ?_⟩
  have := (unhide HW).off (off3 _ w.heap.size (.int .i64 x0) (.int .i64 x1) (.int .i64 x2)) (by omega) (by omega)
  exact this

set_option maxHeartbeats 2000000 in
set_option maxRecDepth 100000 in
theorem next_stay (c g cap k : Nat) (l : List T3) (hl9 : l.length ≤ 281474976710656) (hlt : ¬ k < l.length) (w : World) (h : CurAt w c g cap l k) :
    Calls Tryd.prog 7 #[.pointer (some ⟨c, 0, none⟩)] w fun e w' => e = .returned (tokV (wantT l k)) ∧ OffR c w w' ∧ CurAt w' c g cap l k := by
  have hcl := lt_of_some h.box
  have hgl := h.gl
  have hle := h.le
  have HP := hide (fun o => peek_any c g cap k l hl9 (w.alloc o) (h.below ((Below.refl _ _).alloc (Nat.le_refl _) o)))
  unfold tokV at HP ⊢
  generalize wantT l k = x at *
  obtain ⟨x0, x1, x2⟩ := x
  simp only at HP ⊢
  have Hh := hide h
  clear h
  go_enter Tryd.func7, Tryd.ntmps7
  go_wp2_with fail
  refine (unhide HP _).mono ?_
  rintro e w1 ⟨rfl, hb1⟩
  have h1 := ((unhide Hh).below ((Below.refl _ _).alloc (Nat.le_refl _) _)).below hb1
  have hX := (hb1.block w.heap.size (by simp)).trans (heap_new w _)
  have hb01 := ((Below.refl _ w).alloc (Nat.le_refl _) _).trans (hb1.mono (by simp))
  have HL := hide (fun o => left_any c g cap k l hl9 (w1.alloc o) (h1.below ((Below.refl _ _).alloc (Nat.le_refl _) o)))
  have H1 := hide h1; have HX := hide hX; have Hb01 := hide hb01
  clear hb1 h1 hX hb01 HP Hh
  go_wp2_with fail
  refine (unhide HL _).mono ?_
  rintro e w2 ⟨rfl, hb2⟩
  have h2 := ((unhide H1).below ((Below.refl _ _).alloc (Nat.le_refl _) _)).below hb2
  have hxl := lt_of_some (unhide HX)
  have hX2 := (hb2.block w.heap.size (by simp; omega)).trans ((Below.heap_alloc w1 _ _ hxl).trans (unhide HX))
  have hT2 := (hb2.block w1.heap.size (by simp)).trans (heap_new w1 _)
  have hb02 := (unhide Hb01).trans ((((Below.refl _ w1).alloc (Nat.le_refl _) _).trans (hb2.mono (by simp))).mono (unhide Hb01).size)
  have hnt : c ≠ w1.heap.size := by have := (unhide Hb01).size; omega
  have c1 := cell_block h2.box 1 _ rfl
  have cf := frozen_block h2.box 1
  have hp : ¬ (0 : Int) < (l.length : Int) - (k : Int) := by omega
  have H2 := hide h2; have Hb02 := hide hb02
  have t0 := cell_block hT2 0 _ rfl
  have t1 := cell_block hT2 1 _ rfl
  have t2 := cell_block hT2 2 _ rfl
  have a0 := cell_block hX2 0 _ rfl
  have a1 := cell_block hX2 1 _ rfl
  have a2 := cell_block hX2 2 _ rfl
  have f0 := frozen_block hX2 0
  have f1 := frozen_block hX2 1
  have f2 := frozen_block hX2 2
  clear h2 hb2 hX2 hT2 hb02 HL H1 HX Hb01
  go_wp2
  refine bodyPost_ret (v := .agg #[.int .i64 x0, .int .i64 x1, .int .i64 x2]) (by simp [results, Tryd.results7, go_sem, a0, a1, a2]) rfl ?_
  refine ⟨rfl, offR_set (p := ⟨w.heap.size, 2, none⟩) (offR_set (p := ⟨w.heap.size, 1, none⟩) (offR_set (p := ⟨w.heap.size, 0, none⟩) (offR_below (unhide Hb02)) (.inr (Nat.le_refl _)) _) (.inr (Nat.le_refl _)) _) (.inr (Nat.le_refl _)) _, (unhide H2).off (off3 _ _ _ _ _) (by omega) (by omega)⟩

theorem next_any (c g cap k : Nat) (l : List T3) (hl9 : l.length ≤ 281474976710656) (w : World) (h : CurAt w c g cap l k) :
    Calls Tryd.prog 7 #[.pointer (some ⟨c, 0, none⟩)] w fun e w' => e = .returned (tokV (wantT l k)) ∧ OffR c w w' ∧ CurAt w' c g cap l (nextK l k) := by
  by_cases hlt : k < l.length
  · rw [show nextK l k = k + 1 by simp [nextK, hlt]]; exact next_go c g cap k l hl9 hlt w h
  · rw [show nextK l k = k by simp [nextK, hlt]]; exact next_stay c g cap k l hl9 hlt w h

set_option maxHeartbeats 1000000 in
set_option maxRecDepth 100000 in
theorem back_no (c g cap k : Nat) (l : List T3) (n : Int) (hn : ¬ (0 ≤ n ∧ n ≤ k)) (w : World) (h : CurAt w c g cap l k) :
    Calls Tryd.prog 10 #[.pointer (some ⟨c, 0, none⟩), .int .i64 n] w fun e w' => e = .returned (.bool false) ∧ w = w' := by
  have HM := hide (isMade_any c g cap k l w h)
  have c1 := cell_block h.box 1 _ rfl
  clear h
  by_cases h0 : n < 0
  · go_enter Tryd.func10, Tryd.ntmps10
    go_wp2_with fail
    refine (unhide HM).mono ?_
    rintro e w1 ⟨rfl, rfl⟩
    go_wp2
    go_ret
    exact ⟨rfl, rfl⟩
  · have h1 : (k : Int) < n := by omega
    go_enter Tryd.func10, Tryd.ntmps10
    go_wp2_with fail
    refine (unhide HM).mono ?_
    rintro e w1 ⟨rfl, rfl⟩
    go_wp2
    go_ret
    exact ⟨rfl, rfl⟩
set_option maxHeartbeats 1000000 in
set_option maxRecDepth 100000 in
theorem back_yes (c g cap k n : Nat) (l : List T3) (hl9 : l.length ≤ 281474976710656) (hn : n ≤ k) (w : World) (h : CurAt w c g cap l k) :
    Calls Tryd.prog 10 #[.pointer (some ⟨c, 0, none⟩), .int .i64 (n : Int)] w fun e w' => e = .returned (.bool true) ∧ OffR c w w' ∧ CurAt w' c g cap l (k - n) := by
  have HM := hide (isMade_any c g cap k l w h)
  have c1 := cell_block h.box 1 _ rfl
  have cf := frozen_block h.box 1
  have hle := h.le
  have h0 : ¬ (n : Int) < 0 := by omega
  have h1 : ¬ (k : Int) < n := by omega
  have HW := hide (h.set (k - n) (by omega))
  rw [show ((k - n : Nat) : Int) = (k : Int) - (n : Int) by omega] at HW
  have hwr : IntKind.i64.wrap ((k : Int) - n) = (k : Int) - n := by rw [IntKind.wrap_i64]; omega
  clear h
  go_enter Tryd.func10, Tryd.ntmps10
  go_wp2_with fail
  refine (unhide HM).mono ?_
  rintro e w1 ⟨rfl, rfl⟩
  go_wp2
  go_ret
  exact ⟨rfl, offR_set (p := ⟨c, 1, none⟩) (offR_below (Below.refl _ _)) (.inl rfl) _, unhide HW⟩
set_option maxHeartbeats 1000000 in
set_option maxRecDepth 100000 in
theorem mark_any (c g cap k : Nat) (l : List T3) (w : World) (h : CurAt w c g cap l k) :
    Calls Tryd.prog 15 #[.pointer (some ⟨c, 0, none⟩)] w fun e w' => e = .returned (.pointer (some ⟨w.heap.size, 0, none⟩)) ∧ Below w.heap.size w w' ∧ CurAt w' w.heap.size g cap l k := by
  have HM := hide (isMade_any c g cap k l w h)
  have c0 := cell_block h.box 0 _ rfl
  have c1 := cell_block h.box 1 _ rfl
  have hgl := h.gl
  have HN : Hid (CurAt (w.alloc (.cells #[.slice (some ⟨g, 0, none⟩) l.length cap, .int .i64 (k : Int)] 39)) w.heap.size g cap l k) :=
    hide ⟨heap_new _ _, trow_below h.row (Nat.le_refl _) ((Below.refl _ _).alloc (Nat.le_refl _) _), by omega, by simp; omega, h.le⟩
  clear h
  go_enter Tryd.func15, Tryd.ntmps15
  go_wp2_with fail
  refine (unhide HM).mono ?_
  rintro e w1 ⟨rfl, rfl⟩
  go_wp2
  go_ret
  exact ⟨rfl, (Below.refl _ _).alloc (Nat.le_refl _) _, unhide HN⟩
end Go.Proofs.YtkckcnjamlpadabDoor

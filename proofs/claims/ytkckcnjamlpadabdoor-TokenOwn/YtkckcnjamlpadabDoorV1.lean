/- A cursor that is nil, or that no call made. -/
import Derived.Test.YtkckcnjamlpadabDoorT1
namespace Go.Proofs.YtkckcnjamlpadabDoor
open Go.RowKit Go.Maps

/-- No call made it. -/
def Unmade (w : World) (P : Value) : Prop := P = .pointer none ∨ ∃ c, P = .pointer (some ⟨c, 0, none⟩) ∧ w.heap[c]? = some (.cells #[.slice none 0 0, .int .i64 0] 39 (0, 0))
theorem Unmade.below {w w' : World} {P : Value} (h : Unmade w P) (hb : Below w.heap.size w w') : Unmade w' P := by
  rcases h with h | ⟨c, h, hc⟩
  · exact .inl h
  · exact .inr ⟨c, h, (hb.block _ (lt_of_some hc)).trans hc⟩
set_option maxHeartbeats 1000000 in
set_option maxRecDepth 100000 in
theorem isMade_no (P : Value) (w : World) (h : Unmade w P) : Calls Tryd.prog 21 #[P] w fun e w' => e = .returned (.bool false) ∧ w = w' := by
  rcases h with rfl | ⟨c, rfl, hc⟩
  · go_enter Tryd.func21, Tryd.ntmps21
    go_wp2
    go_ret
    exact ⟨rfl, rfl⟩
  · have c0 := cell_block hc 0 _ rfl
    clear hc
    go_enter Tryd.func21, Tryd.ntmps21
    go_wp2
    go_ret
    exact ⟨rfl, rfl⟩
set_option maxHeartbeats 1000000 in
set_option maxRecDepth 100000 in
theorem at_no (P : Value) (w : World) (h : Unmade w P) : Calls Tryd.prog 11 #[P] w fun e w' => e = .returned (.int .i64 0) ∧ w = w' := by
  have HM := hide (isMade_no P w h)
  clear h
  go_enter Tryd.func11, Tryd.ntmps11
  go_wp2_with fail
  refine (unhide HM).mono ?_
  rintro e w1 ⟨rfl, rfl⟩
  go_wp2
  go_ret
  exact ⟨rfl, rfl⟩
set_option maxHeartbeats 1000000 in
set_option maxRecDepth 100000 in
theorem left_no (P : Value) (w : World) (h : Unmade w P) : Calls Tryd.prog 8 #[P] w fun e w' => e = .returned (.int .i64 0) ∧ w = w' := by
  have HM := hide (isMade_no P w h)
  clear h
  go_enter Tryd.func8, Tryd.ntmps8
  go_wp2_with fail
  refine (unhide HM).mono ?_
  rintro e w1 ⟨rfl, rfl⟩
  go_wp2
  go_ret
  exact ⟨rfl, rfl⟩
set_option maxHeartbeats 1000000 in
set_option maxRecDepth 100000 in
theorem mark_no (P : Value) (w : World) (h : Unmade w P) : Calls Tryd.prog 15 #[P] w fun e w' => e = .returned (.pointer none) ∧ Below w.heap.size w w' := by
  have HM := hide (isMade_no P w h)
  clear h
  go_enter Tryd.func15, Tryd.ntmps15
  go_wp2_with fail
  refine (unhide HM).mono ?_
  rintro e w1 ⟨rfl, rfl⟩
  go_wp2
  go_ret
  exact ⟨rfl, Below.refl _ _⟩
set_option maxHeartbeats 1000000 in
set_option maxRecDepth 100000 in
theorem back_no0 (P : Value) (w : World) (h : Unmade w P) : Calls Tryd.prog 10 #[P, .int .i64 0] w fun e w' => e = .returned (.bool false) ∧ Below w.heap.size w w' := by
  have HM := hide (isMade_no P w h)
  clear h
  go_enter Tryd.func10, Tryd.ntmps10
  go_wp2_with fail
  refine (unhide HM).mono ?_
  rintro e w1 ⟨rfl, rfl⟩
  go_wp2
  go_ret
  exact ⟨rfl, Below.refl _ _⟩
theorem set3_below {w W : World} (h : Below w.heap.size w W) (x y z : Value) : Below w.heap.size w (((W.setCell ⟨w.heap.size, 0, none⟩ x).setCell ⟨w.heap.size, 1, none⟩ y).setCell ⟨w.heap.size, 2, none⟩ z) :=
  ((h.setCell (p := ⟨w.heap.size, 0, none⟩) (Nat.le_refl _) x).setCell (p := ⟨w.heap.size, 1, none⟩) (Nat.le_refl _) y).setCell (p := ⟨w.heap.size, 2, none⟩) (Nat.le_refl _) z
set_option maxHeartbeats 1000000 in
set_option maxRecDepth 100000 in
theorem peek_no (P : Value) (w : World) (h : Unmade w P) : Calls Tryd.prog 14 #[P] w fun e w' => e = .returned (.agg #[.int .i64 0, .int .i64 0, .int .i64 0]) ∧ Below w.heap.size w w' := by
  have HM := hide (fun o => isMade_no P (w.alloc o) (h.below ((Below.refl _ _).alloc (Nat.le_refl _) _)))
  clear h
  go_enter Tryd.func14, Tryd.ntmps14
  go_wp2_with fail
  refine (unhide HM _).mono ?_
  rintro e w1 ⟨rfl, rfl⟩
  have hA := heap_new w (.cells #[.int .i64 0, .int .i64 0, .int .i64 0] 27)
  have a0 := cell_block hA 0 _ rfl
  have a1 := cell_block hA 1 _ rfl
  have a2 := cell_block hA 2 _ rfl
  clear hA
  go_wp2
  refine bodyPost_ret (v := .agg #[.int .i64 0, .int .i64 0, .int .i64 0]) (by simp [results, Tryd.results14, go_sem, a0, a1, a2]) rfl ?_
  exact ⟨rfl, (Below.refl _ _).alloc (Nat.le_refl _) _⟩
set_option maxHeartbeats 1000000 in
set_option maxRecDepth 100000 in
theorem next_no (P : Value) (w : World) (h : Unmade w P) : Calls Tryd.prog 7 #[P] w fun e w' => e = .returned (.agg #[.int .i64 0, .int .i64 0, .int .i64 0]) ∧ Below w.heap.size w w' := by
  have HP := hide (fun o => peek_no P (w.alloc o) (h.below ((Below.refl _ _).alloc (Nat.le_refl _) _)))
  have H := hide h
  clear h
  go_enter Tryd.func7, Tryd.ntmps7
  go_wp2_with fail
  refine (unhide HP _).mono ?_
  rintro e w1 ⟨rfl, hb1⟩
  have hbel : Below w.heap.size w w1 := ((Below.refl _ w).alloc (Nat.le_refl _) _).trans (hb1.mono (by simp))
  have hA := (hb1.block w.heap.size (by simp)).trans (heap_new w _)
  have hwl := lt_of_some hA
  have hT := heap_new w1 (.cells #[.int .i64 0, .int .i64 0, .int .i64 0] 27)
  have hA2 := (Below.heap_alloc w1 (.cells #[.int .i64 0, .int .i64 0, .int .i64 0] 27) w.heap.size hwl).trans hA
  have HL := hide (left_no P (w1.alloc (.cells #[.int .i64 0, .int .i64 0, .int .i64 0] 27)) (((unhide H).below hbel).below ((Below.refl _ _).alloc (Nat.le_refl _) _)))
  have Hb2 := hide (hbel.trans (((Below.refl _ w1).alloc (Nat.le_refl _) (.cells #[.int .i64 0, .int .i64 0, .int .i64 0] 27)).mono hbel.size))
  have t0 := cell_block hT 0 _ rfl
  have t1 := cell_block hT 1 _ rfl
  have t2 := cell_block hT 2 _ rfl
  have a0 := cell_block hA2 0 _ rfl
  have a1 := cell_block hA2 1 _ rfl
  have a2 := cell_block hA2 2 _ rfl
  have f0 := frozen_block hA2 0
  have f1 := frozen_block hA2 1
  have f2 := frozen_block hA2 2
  clear hb1 hbel hA hA2 hT HP
  go_wp2_with fail
  refine (unhide HL).mono ?_
  rintro e w2 ⟨rfl, hw⟩
  rw [hw] at t0 t1 t2 a0 a1 a2 f0 f1 f2 Hb2
  clear HL hw
  go_wp2
  refine bodyPost_ret (v := .agg #[.int .i64 0, .int .i64 0, .int .i64 0]) (by simp [results, Tryd.results7, go_sem, a0, a1, a2]) rfl ?_
  exact ⟨rfl, set3_below (unhide Hb2) _ _ _⟩
end Go.Proofs.YtkckcnjamlpadabDoor

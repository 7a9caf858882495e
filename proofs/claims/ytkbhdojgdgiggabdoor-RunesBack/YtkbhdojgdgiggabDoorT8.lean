/- The readers: readRange. -/
import Derived.Test.YtkbhdojgdgiggabDoorT7
namespace Go.Proofs.YtkbhdojgdgiggabDoor
open Go.RowKit Go.Lib

/-- readRune reads a rune there, and tells where it ends. -/
def RdOk (s : ByteArray) (i : Nat) (r : Int) (n : Nat) : Prop := ∀ w, Calls Tryd.prog 73 #[.string s, .int .i64 i] w fun e w' => e = .returned (RuneR r n) ∧ Below w.heap.size w w'
def RangeR (x y : Int) (n : Nat) : Value := .tuple #[.agg #[.int .i32 x, .int .i32 y], .int .i64 n, .agg #[.int .i64 0, .int .i64 0]]
theorem BoxAt.fz {c : Nat} {x y : Int} {W : World} (h : BoxAt c x y W) (j : Nat) : W.frozen? ⟨c, j, none⟩ = false := by simp [World.frozen?, show W.heap[c]? = _ from h]
set_option maxHeartbeats 2000000 in
set_option maxRecDepth 100000 in
theorem readRange_one (s : ByteArray) (i : Nat) (x : Int) (n : Nat) (hr : RdOk s i x n) (hn : gb s n ≠ 45) (w : World) :
    Calls Tryd.prog 55 #[.string s, .int .i64 i] w fun e w' => e = .returned (RangeR x x n) ∧ Below w.heap.size w w' := by
  have HI := hide (isByte_any s n 45 (by omega))
  rw [show (gb s n == 45) = false by simpa using hn] at HI
  have HR := hide hr
  clear hr
  have hlt : ¬ x < x := by omega
  go_enter Tryd.func55, Tryd.ntmps55
  go_wp2_with fail
  refine (unhide HR _).mono ?_
  rintro e w1 ⟨rfl, hb⟩
  have hfb : FB (w.heap.size + 1) w1 := FB.below (W := (w.alloc (.cells #[.int .i32 0, .int .i32 0] 53)).alloc (.cells #[.int .i64 0, .int .i64 0] 43)) (by
    have := FB.start (w.alloc (.cells #[.int .i32 0, .int .i32 0] 53))
    simpa using this) hb (by simp)
  have hxb : BoxAt w.heap.size 0 0 w1 := (hb.block w.heap.size (by simp; omega)).trans ((BoxAt.start w 0 0).alloc _)
  have hB1 : Below w.heap.size w w1 := (((Below.refl w.heap.size w).alloc (Nat.le_refl _) _).alloc (by simp) _).trans (below_le hb (by simp; omega))
  have f0 := hfb.cell0; have f1 := hfb.cell1; have z0 := hfb.fz 0; have z1 := hfb.fz 1; have q0 := hfb.set 0 (by omega); have q1 := hfb.set 1 (by omega)
  have Hfb := hide hfb; have Hxb := hide hxb; have HB1 := hide hB1
  clear hb hfb hxb hB1
  unfold RuneR
  go_wp2_with fail
  refine (unhide HI _).mono ?_
  rintro e w' ⟨rfl, hw⟩
  obtain rfl := hw.symm
  have y0 := (unhide Hxb).cell0; have y1 := (unhide Hxb).cell1
  have u0 := (unhide Hxb).fz 0; have u1 := (unhide Hxb).fz 1
  go_wp2
  refine bodyPost_ret (v := RangeR x x n) (by simp [results, Tryd.results55, go_sem, RangeR, f0, f1, y0, y1]) rfl ⟨rfl, ?_⟩
  exact ((((unhide HB1).setCell (p := ⟨w.heap.size, 0, none⟩) (Nat.le_refl _) _).setCell (p := ⟨w.heap.size, 1, none⟩) (Nat.le_refl _) _).setCell (p := ⟨w.heap.size + 1, 0, none⟩) (Nat.le_succ _) _).setCell (p := ⟨w.heap.size + 1, 1, none⟩) (Nat.le_succ _) _
set_option maxHeartbeats 2000000 in
set_option maxRecDepth 100000 in
theorem readRange_two (s : ByteArray) (i : Nat) (x y : Int) (n m : Nat) (hs : s.size < 4611686018427387904) (hr : RdOk s i x n) (hn : gb s n = 45) (hr2 : RdOk s (n + 1) y m) (hxy : x ≤ y) (w : World) :
    Calls Tryd.prog 55 #[.string s, .int .i64 i] w fun e w' => e = .returned (RangeR x y m) ∧ Below w.heap.size w w' := by
  have HI := hide (isByte_any s n 45 (by omega))
  rw [hn] at HI
  have hin : n < s.size := gb_pos (by rw [hn]; omega)
  have HR := hide hr; have HR2 := hide hr2
  clear hr hr2
  have hlt : ¬ y < x := by omega
  go_enter Tryd.func55, Tryd.ntmps55
  go_wp2_with fail
  refine (unhide HR _).mono ?_
  rintro e w1 ⟨rfl, hb⟩
  have hfb : FB (w.heap.size + 1) w1 := FB.below (W := (w.alloc (.cells #[.int .i32 0, .int .i32 0] 53)).alloc (.cells #[.int .i64 0, .int .i64 0] 43)) (by
    have := FB.start (w.alloc (.cells #[.int .i32 0, .int .i32 0] 53))
    simpa using this) hb (by simp)
  have hxb : BoxAt w.heap.size 0 0 w1 := (hb.block w.heap.size (by simp; omega)).trans ((BoxAt.start w 0 0).alloc _)
  have hB1 : Below w.heap.size w w1 := (((Below.refl w.heap.size w).alloc (Nat.le_refl _) _).alloc (by simp) _).trans (below_le hb (by simp; omega))
  have f0 := hfb.cell0; have f1 := hfb.cell1; have z0 := hfb.fz 0; have z1 := hfb.fz 1; have q0 := hfb.set 0 (by omega); have q1 := hfb.set 1 (by omega)
  have Hfb := hide hfb; have Hxb := hide hxb; have HB1 := hide hB1
  clear hb hfb hxb hB1
  unfold RuneR
  go_wp2_with fail
  refine (unhide HI _).mono ?_
  rintro e w' ⟨rfl, hw⟩
  obtain rfl := hw.symm
  go_wp2_with fail
  refine (unhide HR2 _).mono ?_
  rintro e w2 ⟨rfl, hb⟩
  clear f0 f1 z0 z1 q0 q1
  have hfb := (unhide Hfb).below hb (unhide Hfb).lt
  have hxb : BoxAt w.heap.size 0 0 w2 := (hb.block w.heap.size (unhide Hxb).lt).trans (unhide Hxb)
  have hB1 : Below w.heap.size w w2 := (unhide HB1).trans (below_le hb (unhide HB1).size)
  have f0 := hfb.cell0; have f1 := hfb.cell1; have z0 := hfb.fz 0; have z1 := hfb.fz 1; have q0 := hfb.set 0 (by omega); have q1 := hfb.set 1 (by omega)
  clear Hfb Hxb HB1
  have Hfb := hide hfb; have Hxb := hide hxb; have HB1 := hide hB1
  clear hb hfb hxb hB1
  unfold RuneR
  have y0 := (unhide Hxb).cell0; have y1 := (unhide Hxb).cell1
  have u0 := (unhide Hxb).fz 0; have u1 := (unhide Hxb).fz 1
  go_wp2
  refine bodyPost_ret (v := RangeR x y m) (by simp [results, Tryd.results55, go_sem, RangeR, f0, f1, y0, y1]) rfl ⟨rfl, ?_⟩
  exact ((((unhide HB1).setCell (p := ⟨w.heap.size, 0, none⟩) (Nat.le_refl _) _).setCell (p := ⟨w.heap.size, 1, none⟩) (Nat.le_refl _) _).setCell (p := ⟨w.heap.size + 1, 0, none⟩) (Nat.le_succ _) _).setCell (p := ⟨w.heap.size + 1, 1, none⟩) (Nat.le_succ _) _
end Go.Proofs.YtkbhdojgdgiggabDoor

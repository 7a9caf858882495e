/- slices.Sort at rune: order2Ordered, medianOrdered, medianAdjacentOrdered, choosePivotOrdered. -/
import Derived.Test.YtkbhdojgdgiggabDoorQ7
import Derived.RangeFuncBox
namespace Go.Proofs.YtkbhdojgdgiggabDoor
open Go.RowKit Go.Sort

/-- A row, and the count of swaps in a block of its own; all but that block is as it was. -/
def PC (w0 : World) (b cap n : Nat) (d : Array Int) (sb t : Nat) (w : World) : Prop := RW w b cap n d ∧ Boxed w sb 3 (.int .i64 t) ∧ OfB sb w0 w ∧ sb ≠ b
theorem pc_drew {w0 w : World} {b cap n sb t : Nat} {d : Array Int} (q : Nat) (h : PC w0 b cap n d sb t w) : PC w0 b cap n d sb t (w.drewN q) := h
theorem rw_other {w : World} {b cap n sb : Nat} {d : Array Int} (h : RW w b cap n d) (hne : sb ≠ b) (v : Value) : RW (w.setCell ⟨sb, 0, none⟩ v) b cap n d :=
  ⟨h.1, h.2.kept (grownBy_setCell' w sb v) (.inr (by intro e; simp [Value.ownBlock] at e; omega))⟩
theorem pc_set {w0 w : World} {b cap n sb t : Nat} {d : Array Int} (h : PC w0 b cap n d sb t w) (t' : Nat) : PC w0 b cap n d sb t' (w.setCell ⟨sb, 0, none⟩ (.int .i64 t')) :=
  ⟨rw_other h.1 h.2.2.2 _, h.2.1.set _, ofB_t h.2.2.1 (ofB_grown (grownBy_setCell' w sb _)), h.2.2.2⟩

set_option maxRecDepth 100000 in
set_option maxHeartbeats 2000000 in
theorem order2_any (w0 : World) (b cap n x y sb t : Nat) (d : Array Int) (hx : x < n) (hy : y < n) (_hn : n ≤ 281474976710656) (ht : t ≤ 1000) (w : World) (h : PC w0 b cap n d sb t w) :
    Calls Tryd.prog 95 #[.slice (some ⟨b, 0, none⟩) n cap, .int .i64 x, .int .i64 y, .pointer (some ⟨sb, 0, none⟩)] w fun e w' => ∃ p q t' : Nat, e = .returned (.tuple #[.int .i64 p, .int .i64 q]) ∧ ((p = x ∧ q = y) ∨ (p = y ∧ q = x)) ∧ t' ≤ t + 1 ∧ PC w0 b cap n d sb t' w' := by
  have cx := rw_cell h.1 x hx
  have cy := rw_cell h.1 y hy
  have bx : (x : Int) < n := by omega
  have bi : (y : Int) < n := by omega
  have cs := h.2.1.cell
  have fs := h.2.1.frozen
  have H := hide h
  clear h
  by_cases hl : d[y]! < d[x]!
  · have hl' : decide (d[y]! < d[x]!) = true := by simpa using hl
    go_enter Tryd.func95, Tryd.ntmps95
    go_wp2
    go_quiet ((go_at_call 67; exact Calls.quiet_of_same (less_same _ _ _)))
    go_wp2
    go_ret2
    exact ⟨y, x, t + 1, rfl, .inr ⟨rfl, rfl⟩, Nat.le_refl _, by have := pc_set (pc_drew nq (unhide H)) (t + 1); simpa using this⟩
  · have hl' : decide (d[y]! < d[x]!) = false := by simpa using hl
    go_enter Tryd.func95, Tryd.ntmps95
    go_wp2
    go_quiet ((go_at_call 67; exact Calls.quiet_of_same (less_same _ _ _)))
    go_wp2
    go_ret2
    exact ⟨x, y, t, rfl, .inl ⟨rfl, rfl⟩, by omega, pc_drew nq (unhide H)⟩

set_option maxRecDepth 100000 in
set_option maxHeartbeats 2000000 in
theorem median_any (w0 : World) (b cap n x y z sb t : Nat) (d : Array Int) (hx : x < n) (hy : y < n) (hz : z < n) (hn : n ≤ 281474976710656) (ht : t ≤ 900) (w : World) (h : PC w0 b cap n d sb t w) :
    Calls Tryd.prog 87 #[.slice (some ⟨b, 0, none⟩) n cap, .int .i64 x, .int .i64 y, .int .i64 z, .pointer (some ⟨sb, 0, none⟩)] w fun e w' => ∃ p t' : Nat, e = .returned (.int .i64 p) ∧ (p = x ∨ p = y ∨ p = z) ∧ t' ≤ t + 3 ∧ PC w0 b cap n d sb t' w' := by
  have H1 := hide (order2_any w0 b cap n x y sb t d hx hy hn (by omega) w h)
  clear h
  go_enter Tryd.func87, Tryd.ntmps87
  go_wp2_with fail
  refine (unhide H1).mono ?_
  rintro e w1 ⟨x1, y1, t1, rfl, h1, ht1, pc1⟩
  have H2 := hide (order2_any w0 b cap n y1 z sb t1 d (by omega) hz hn (by omega) w1 pc1)
  clear pc1 H1
  go_wp2_with fail
  refine (unhide H2).mono ?_
  rintro e w2 ⟨y2, z2, t2, rfl, h2, ht2, pc2⟩
  have H3 := hide (order2_any w0 b cap n x1 y2 sb t2 d (by omega) (by omega) hn (by omega) w2 pc2)
  clear pc2 H2
  go_wp2_with fail
  refine (unhide H3).mono ?_
  rintro e w3 ⟨x3, y3, t3, rfl, h3, ht3, pc3⟩
  go_wp2
  go_ret
  exact ⟨y3, t3, rfl, by omega, by omega, pc3⟩

set_option maxRecDepth 100000 in
set_option maxHeartbeats 2000000 in
theorem medadj_any (w0 : World) (b cap n x sb t : Nat) (d : Array Int) (hx0 : 1 ≤ x) (hx : x + 1 < n) (hn : n ≤ 281474976710656) (ht : t ≤ 900) (w : World) (h : PC w0 b cap n d sb t w) :
    Calls Tryd.prog 86 #[.slice (some ⟨b, 0, none⟩) n cap, .int .i64 x, .pointer (some ⟨sb, 0, none⟩)] w fun e w' => ∃ p t' : Nat, e = .returned (.int .i64 p) ∧ (p + 1 = x ∨ p = x ∨ p = x + 1) ∧ t' ≤ t + 3 ∧ PC w0 b cap n d sb t' w' := by
  obtain ⟨k, rfl⟩ : ∃ k, x = k + 1 := ⟨x - 1, by omega⟩
  have H1 := hide (median_any w0 b cap n k (k + 1) (k + 1 + 1) sb t d (by omega) (by omega) (by omega) hn ht w h)
  clear h
  go_enter Tryd.func86, Tryd.ntmps86
  go_wp2_with fail
  refine (unhide H1).mono ?_
  rintro e w1 ⟨p, t1, rfl, h1, ht1, pc1⟩
  go_wp2
  go_ret
  exact ⟨p, t1, rfl, by omega, by omega, pc1⟩

theorem pc_of {w : World} {b cap n t : Nat} {d : Array Int} {w' : World} (h : PC (w.alloc (.cells #[.int .i64 0] 3)) b cap n d w.heap.size t w') : OfB b w w' :=
  ⟨Nat.le_trans (by simp) h.2.2.1.1, fun k hk _ => (h.2.2.1.2.1 k (by simp; omega) (by omega)).trans (Below.heap_alloc w _ k hk), h.2.2.1.2.2⟩

set_option maxRecDepth 100000 in
set_option maxHeartbeats 4000000 in
theorem pivot_any (b cap n a c : Nat) (d : Array Int) (hac : a + 12 < c) (hc : c ≤ n) (hn : n ≤ 281474976710656) (w : World) (h : RW w b cap n d) :
    Calls Tryd.prog 64 #[.slice (some ⟨b, 0, none⟩) n cap, .int .i64 a, .int .i64 c] w fun e w' => ∃ p h : Nat, e = .returned (.tuple #[.int .i64 p, .int .i64 h]) ∧ (a ≤ p ∧ p < c) ∧ h ≤ 2 ∧ RW w' b cap n d ∧ OfB b w w' := by
  have hpc : PC (w.alloc (.cells #[.int .i64 0] 3)) b cap n d w.heap.size 0 (w.alloc (.cells #[.int .i64 0] 3)) := ⟨⟨h.1, h.2.alloc _⟩, Boxed.new w 3 _, ofB_refl _ _, by have := rw_lt h; omega⟩
  have HP := hide hpc
  clear h hpc
  obtain ⟨L, hL⟩ : ∃ L, L = c - a := ⟨_, rfl⟩
  obtain ⟨Q, hQ⟩ : ∃ Q, Q = L / 4 := ⟨_, rfl⟩
  have eL : (c : Int) - (a : Int) = (L : Int) := by omega
  have eQ : (L : Int) / 4 = (Q : Int) := by omega
  obtain ⟨I, hI⟩ : ∃ I, I = a + Q := ⟨_, rfl⟩
  obtain ⟨J, hJ⟩ : ∃ J, J = a + Q * 2 := ⟨_, rfl⟩
  obtain ⟨K, hK⟩ : ∃ K, K = a + Q * 3 := ⟨_, rfl⟩
  have eI : (a : Int) + (Q : Int) = (I : Int) := by omega
  have eJ : (a : Int) + (Q : Int) * 2 = (J : Int) := by omega
  have eK : (a : Int) + (Q : Int) * 3 = (K : Int) := by omega
  have wI : IntKind.i64.wrap (I : Int) = (I : Int) := IntWalk.i64_in _ (by omega)
  have wJ : IntKind.i64.wrap (J : Int) = (J : Int) := IntWalk.i64_in _ (by omega)
  have wK : IntKind.i64.wrap (K : Int) = (K : Int) := IntWalk.i64_in _ (by omega)
  have bI : a + 3 ≤ I ∧ I + 3 ≤ J ∧ J + 3 ≤ K ∧ K + 1 < c := by omega
  have hL8 : (8 : Int) ≤ (L : Int) := by omega
  have hQn : Q ≤ n := by omega
  clear hL hQ hI hJ hK
  by_cases h50 : 50 ≤ L
  · have h50' : (50 : Int) ≤ (L : Int) := by omega
    have H1 := hide (medadj_any _ b cap n I w.heap.size 0 d (by omega) (by omega) hn (by omega) _ (unhide HP))
    go_enter Tryd.func64, Tryd.ntmps64
    go_wp2_with fail
    refine (unhide H1).mono ?_
    rintro e w1 ⟨i1, t1, rfl, h1, ht1, pc1⟩
    have H2 := hide (medadj_any _ b cap n J w.heap.size t1 d (by omega) (by omega) hn (by omega) _ pc1)
    clear pc1 H1 HP
    go_wp2_with fail
    refine (unhide H2).mono ?_
    rintro e w2 ⟨j1, t2, rfl, h2, ht2, pc2⟩
    have H3 := hide (medadj_any _ b cap n K w.heap.size t2 d (by omega) (by omega) hn (by omega) _ pc2)
    clear pc2 H2
    go_wp2_with fail
    refine (unhide H3).mono ?_
    rintro e w3 ⟨k1, t3, rfl, h3, ht3, pc3⟩
    have H4 := hide (median_any _ b cap n i1 j1 k1 w.heap.size t3 d (by omega) (by omega) (by omega) hn (by omega) _ pc3)
    clear pc3 H3
    go_wp2_with fail
    refine (unhide H4).mono ?_
    rintro e w4 ⟨p, t4, rfl, h4, ht4, pc4⟩
    have hpr : a ≤ p ∧ p < c := by omega
    have HPC := hide pc4
    clear pc4 H4
    have hp := unhide HPC
    have cs := hp.2.1.cell
    clear hp
    by_cases h0 : t4 = 0
    · have h0' : ((t4 : Int) == 0) = true := by simp [h0]
      go_wp2
      go_ret2
      exact ⟨p, 1, rfl, by omega, by omega, (unhide HPC).1, pc_of (unhide HPC)⟩
    · have h0' : ((t4 : Int) == 0) = false := by simp [h0]
      by_cases h12 : t4 = 12
      · have h12' : ((t4 : Int) == 12) = true := by simp [h12]
        go_wp2
        go_ret2
        exact ⟨p, 2, rfl, by omega, by omega, (unhide HPC).1, pc_of (unhide HPC)⟩
      · have h12' : ((t4 : Int) == 12) = false := by simp; omega
        go_wp2
        go_ret2
        exact ⟨p, 0, rfl, by omega, by omega, (unhide HPC).1, pc_of (unhide HPC)⟩
  · have h50' : ¬ (50 : Int) ≤ (L : Int) := by omega
    have H4 := hide (median_any _ b cap n I J K w.heap.size 0 d (by omega) (by omega) (by omega) hn (by omega) _ (unhide HP))
    clear HP
    go_enter Tryd.func64, Tryd.ntmps64
    go_wp2_with fail
    refine (unhide H4).mono ?_
    rintro e w4 ⟨p, t4, rfl, h4, ht4, pc4⟩
    have hpr : a ≤ p ∧ p < c := by omega
    have HPC := hide pc4
    clear pc4 H4
    have hp := unhide HPC
    have cs := hp.2.1.cell
    clear hp
    by_cases h0 : t4 = 0
    · have h0' : ((t4 : Int) == 0) = true := by simp [h0]
      go_wp2
      go_ret2
      exact ⟨p, 1, rfl, by omega, by omega, (unhide HPC).1, pc_of (unhide HPC)⟩
    · have h0' : ((t4 : Int) == 0) = false := by simp [h0]
      by_cases h12 : t4 = 12
      · have h12' : ((t4 : Int) == 12) = true := by simp [h12]
        go_wp2
        go_ret2
        exact ⟨p, 2, rfl, by omega, by omega, (unhide HPC).1, pc_of (unhide HPC)⟩
      · have h12' : ((t4 : Int) == 12) = false := by simp; omega
        go_wp2
        go_ret2
        exact ⟨p, 0, rfl, by omega, by omega, (unhide HPC).1, pc_of (unhide HPC)⟩
end Go.Proofs.YtkbhdojgdgiggabDoor

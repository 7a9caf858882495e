/- take and Check. -/
import Derived.Test.YtkckcnjamlpadabDoorK3
import Derived.Deep.QuietTactic
import Derived.BigQuiet
namespace Go.Proofs.YtkckcnjamlpadabDoor
open Go.RowKit Go.Maps

theorem below_drewN {B : Nat} {a w : World} (h : Below B a w) (n : Nat) : Below B a (w.drewN n) := ⟨h.os, h.tape, h.output, h.size, h.block⟩
theorem below_both {B : Nat} {w W : World} (h : Below B w W) (p : Addr) (v : Value) : Below B (w.setCell p v) (W.setCell p v) := by
  refine ⟨h.os, h.tape, h.output, by simpa [World.setCell] using h.size, fun k hk => ?_⟩
  have := h.block k hk
  simp [World.setCell, Array.getElem?_modify, this]
/-- May a token stand over so many kinds and bytes, behind what is reached? -/
def takeB (n sz : Nat) (r : Int) (x : T3) : Bool := decide (2 ≤ x.1 ∧ x.1 < n ∧ r ≤ x.2.1 ∧ x.2.1 ≤ x.2.2 ∧ x.2.2 ≤ sz)
set_option maxHeartbeats 2000000 in
set_option maxRecDepth 100000 in
theorem take_no (G : Nat) (a : Option Addr) (n cap : Nat) (src : ByteArray) (r k f t : Int) (w : World) (c0 : w.cell? ⟨G, 0, none⟩ = some (.slice a n cap)) (c1 : w.cell? ⟨G, 1, none⟩ = some (.string src)) (c2 : w.cell? ⟨G, 2, none⟩ = some (.int .i64 r))
    (h : takeB n src.size r (k, f, t) = false) :
    Calls Tryd.prog 34 #[.pointer (some ⟨G, 0, none⟩), .agg #[.int .i64 k, .int .i64 f, .int .i64 t]] w fun e w' => e = .returned (.bool false) ∧ Below w.heap.size w w' := by
  have hG := World.block_lt_of_cell? w _ c0
  have e0 : ∀ o, (w.alloc o).cell? ⟨G, 0, none⟩ = some (.slice a n cap) := fun o => (World.cell?_alloc_lt _ _ _ hG).trans c0
  have e1 : ∀ o, (w.alloc o).cell? ⟨G, 1, none⟩ = some (.string src) := fun o => (World.cell?_alloc_lt _ _ ⟨G, 1, none⟩ hG).trans c1
  have e2 : ∀ o, (w.alloc o).cell? ⟨G, 2, none⟩ = some (.int .i64 r) := fun o => (World.cell?_alloc_lt _ _ ⟨G, 2, none⟩ hG).trans c2
  have hh : ¬ (2 ≤ k ∧ k < n ∧ r ≤ f ∧ f ≤ t ∧ t ≤ src.size) := of_decide_eq_false h
  clear h
  by_cases k1 : k ≤ 1
  · have d1 : decide (k ≤ 1) = true := decide_eq_true k1
    go_enter Tryd.func34, Tryd.ntmps34
    go_wp2
    go_quiet (fail)
    go_wp2
    go_ret
    exact ⟨rfl, below_drewN ((Below.refl _ _).alloc (Nat.le_refl _) _) _⟩
  have d1 : decide (k ≤ 1) = false := decide_eq_false k1
  by_cases k2 : (n : Int) ≤ k
  · have d2 : decide ((n : Int) ≤ k) = true := decide_eq_true k2
    go_enter Tryd.func34, Tryd.ntmps34
    go_wp2
    go_quiet (fail)
    go_wp2
    go_ret
    exact ⟨rfl, below_drewN ((Below.refl _ _).alloc (Nat.le_refl _) _) _⟩
  have d2 : decide ((n : Int) ≤ k) = false := decide_eq_false k2
  by_cases k3 : f < r
  · have d3 : decide (f < r) = true := decide_eq_true k3
    go_enter Tryd.func34, Tryd.ntmps34
    go_wp2
    go_quiet (fail)
    go_wp2
    go_quiet (fail)
    go_wp2
    go_ret
    exact ⟨rfl, below_drewN (below_drewN ((Below.refl _ _).alloc (Nat.le_refl _) _) _) _⟩
  have d3 : decide (f < r) = false := decide_eq_false k3
  by_cases k4 : t < f
  · have d4 : decide (t < f) = true := decide_eq_true k4
    go_enter Tryd.func34, Tryd.ntmps34
    go_wp2
    go_quiet (fail)
    go_wp2
    go_quiet (fail)
    go_wp2
    go_ret
    exact ⟨rfl, below_drewN (below_drewN ((Below.refl _ _).alloc (Nat.le_refl _) _) _) _⟩
  have d4 : decide (t < f) = false := decide_eq_false k4
  have k5 : (src.size : Int) < t := by omega
  have d5 : decide ((src.size : Int) < t) = true := decide_eq_true k5
  go_enter Tryd.func34, Tryd.ntmps34
  go_wp2
  go_quiet (fail)
  go_wp2
  go_quiet (fail)
  go_wp2
  go_ret
  exact ⟨rfl, below_drewN (below_drewN ((Below.refl _ _).alloc (Nat.le_refl _) _) _) _⟩

set_option maxHeartbeats 2000000 in
set_option maxRecDepth 100000 in
theorem take_yes (G : Nat) (a : Option Addr) (n cap : Nat) (src : ByteArray) (r k f t : Int) (w : World) (c0 : w.cell? ⟨G, 0, none⟩ = some (.slice a n cap)) (c1 : w.cell? ⟨G, 1, none⟩ = some (.string src)) (c2 : w.cell? ⟨G, 2, none⟩ = some (.int .i64 r)) (f2 : w.frozen? ⟨G, 2, none⟩ = false)
    (h : takeB n src.size r (k, f, t) = true) :
    Calls Tryd.prog 34 #[.pointer (some ⟨G, 0, none⟩), .agg #[.int .i64 k, .int .i64 f, .int .i64 t]] w fun e w' => e = .returned (.bool true) ∧ Below w.heap.size (w.setCell ⟨G, 2, none⟩ (.int .i64 t)) w' := by
  have hG := World.block_lt_of_cell? w _ c0
  have e0 : ∀ o, (w.alloc o).cell? ⟨G, 0, none⟩ = some (.slice a n cap) := fun o => (World.cell?_alloc_lt _ _ _ hG).trans c0
  have e1 : ∀ o, (w.alloc o).cell? ⟨G, 1, none⟩ = some (.string src) := fun o => (World.cell?_alloc_lt _ _ ⟨G, 1, none⟩ hG).trans c1
  have e2 : ∀ o, (w.alloc o).cell? ⟨G, 2, none⟩ = some (.int .i64 r) := fun o => (World.cell?_alloc_lt _ _ ⟨G, 2, none⟩ hG).trans c2
  have e3 : ∀ o, (w.alloc o).frozen? ⟨G, 2, none⟩ = false := fun o => (((Below.refl _ w).alloc (Nat.le_refl _) o).frozen (p := ⟨G, 2, none⟩) hG).trans f2
  obtain ⟨h1, h2, h3, h4, h5⟩ := of_decide_eq_true h
  simp only at h1 h2 h3 h4 h5
  clear h
  have d1 : decide (k ≤ 1) = false := decide_eq_false (by omega)
  have d2 : decide ((n : Int) ≤ k) = false := decide_eq_false (by omega)
  have d3 : decide (f < r) = false := decide_eq_false (by omega)
  have d4 : decide (t < f) = false := decide_eq_false (by omega)
  have d5 : decide ((src.size : Int) < t) = false := decide_eq_false (by omega)
  go_enter Tryd.func34, Tryd.ntmps34
  go_wp2
  go_quiet (fail)
  go_wp2
  go_quiet (fail)
  go_wp2
  go_ret
  exact ⟨rfl, below_both (below_drewN ((Below.refl _ _).alloc (Nat.le_refl _) _) _) _ _⟩
end Go.Proofs.YtkckcnjamlpadabDoor

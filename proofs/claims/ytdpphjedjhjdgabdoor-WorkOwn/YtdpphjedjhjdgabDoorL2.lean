/- Lists of work: the heap's Swap. -/
import Derived.Test.YtdpphjedjhjdgabDoorL1
namespace Go.Proofs.YtdpphjedjhjdgabDoor
open Go.RowKit Go.Maps

def swapT (ts : List Tk) (i j : Nat) : List Tk := (ts.set i (ts.getD j tk0)).set j (ts.getD i tk0)

set_option maxHeartbeats 4000000 in
set_option maxRecDepth 100000 in
theorem swap_walk (B g c : Nat) (n : Nat) (i j : Nat) (hi : i < n) (hj : j < n) (hij : ¬ i = j) (x y : Nat) (hxy : ¬ x = y) (hxg : ¬ x = g) (hyg : ¬ y = g) (w : World)
    (c0 : w.cell? ⟨B, 0, none⟩ = some (.slice (some ⟨g, 0, none⟩) n c)) (hgB : ¬ g = B) (hxB : ¬ x = B) (hyB : ¬ y = B)
    (ci : w.cell? ⟨g, i, none⟩ = some (.pointer (some ⟨x, 0, none⟩))) (cj : w.cell? ⟨g, j, none⟩ = some (.pointer (some ⟨y, 0, none⟩)))
    (fi : w.frozen? ⟨g, i, none⟩ = false) (fj : w.frozen? ⟨g, j, none⟩ = false) (px : w.cell? ⟨x, 2, none⟩ = some (.int .i64 i)) (py : w.cell? ⟨y, 2, none⟩ = some (.int .i64 j)) (fx : w.frozen? ⟨x, 2, none⟩ = false) (fy : w.frozen? ⟨y, 2, none⟩ = false) :
    Calls Tryd.prog 90 #[.pointer (some ⟨B, 0, none⟩), .int .i64 i, .int .i64 j] w fun e w' => e = .returned (.tuple #[]) ∧ ∃ q, w' = ((((w.setCell ⟨g, i, none⟩ (.pointer (some ⟨y, 0, none⟩))).setCell ⟨g, j, none⟩ (.pointer (some ⟨x, 0, none⟩))).setCell ⟨y, 2, none⟩ (.int .i64 i)).setCell ⟨x, 2, none⟩ (.int .i64 j)).drewN q := by
  have hi' : (i : Int) < n := by omega
  have hj' : (j : Int) < n := by omega
  have hij' : ¬ j = i := fun e => hij e.symm
  go_enter Tryd.func90, Tryd.ntmps90
  go_wp2
  go_region
  all_goals
    go_wp2
    go_region
    go_wp2
    go_end0
    exact ⟨rfl, 2, rfl⟩

set_option maxHeartbeats 4000000 in
set_option maxRecDepth 100000 in
theorem swap_same (B g c : Nat) (n : Nat) (i : Nat) (hi : i < n) (x : Nat) (hxg : ¬ x = g) (w : World)
    (c0 : w.cell? ⟨B, 0, none⟩ = some (.slice (some ⟨g, 0, none⟩) n c)) (hgB : ¬ g = B) (hxB : ¬ x = B)
    (ci : w.cell? ⟨g, i, none⟩ = some (.pointer (some ⟨x, 0, none⟩)))
    (fi : w.frozen? ⟨g, i, none⟩ = false) (px : w.cell? ⟨x, 2, none⟩ = some (.int .i64 i)) (fx : w.frozen? ⟨x, 2, none⟩ = false) :
    Calls Tryd.prog 90 #[.pointer (some ⟨B, 0, none⟩), .int .i64 i, .int .i64 i] w fun e w' => e = .returned (.tuple #[]) ∧ ∃ q, w' = ((((w.setCell ⟨g, i, none⟩ (.pointer (some ⟨x, 0, none⟩))).setCell ⟨g, i, none⟩ (.pointer (some ⟨x, 0, none⟩))).setCell ⟨x, 2, none⟩ (.int .i64 i)).setCell ⟨x, 2, none⟩ (.int .i64 i)).drewN q := by
  have hi' : (i : Int) < n := by omega
  go_enter Tryd.func90, Tryd.ntmps90
  go_wp2
  go_region
  all_goals
    go_wp2
    go_region
    go_wp2
    go_end0
    exact ⟨rfl, 2, rfl⟩
end Go.Proofs.YtdpphjedjhjdgabDoor

/- Sets: cmp.Compare, the order of blocks, the search. -/
import Derived.Test.YtdpphjedjhjdgabDoorK3
namespace Go.Proofs.YtdpphjedjhjdgabDoor
open Go.RowKit Go.Maps

abbrev Blk := Int × Int
def cmpI (x y : Int) : Int := if x < y then -1 else if y < x then 1 else 0

set_option maxHeartbeats 1000000 in
set_option maxRecDepth 100000 in
theorem compare_any (x y : Int) (w : World) : Calls Tryd.prog 59 #[.int .i64 x, .int .i64 y] w fun e w' => e = .returned (.int .i64 (cmpI x y)) ∧ w' = w := by
  by_cases h1 : x < y
  · rw [show cmpI x y = -1 by simp [cmpI, h1]]
    go_enter Tryd.func59, Tryd.ntmps59
    go_wp2
    go_ret
    exact ⟨rfl, rfl⟩
  · by_cases h2 : y < x
    · rw [show cmpI x y = 1 by simp [cmpI, h1, h2]]
      go_enter Tryd.func59, Tryd.ntmps59
      go_wp2
      go_ret
      exact ⟨rfl, rfl⟩
    · rw [show cmpI x y = 0 by simp [cmpI, h1, h2]]
      go_enter Tryd.func59, Tryd.ntmps59
      go_wp2
      go_ret
      exact ⟨rfl, rfl⟩

set_option maxHeartbeats 1000000 in
set_option maxRecDepth 100000 in
theorem find1_any (x y t : Int) (w : World) : Calls Tryd.prog 58 #[.agg #[.int .i64 x, .int .u64 y], .int .i64 t] w fun e w' => e = .returned (.int .i64 (cmpI x t)) ∧ w' = w.alloc (.cells #[.int .i64 x, .int .u64 y] 78) := by
  have HC := hide (fun w' => compare_any x t w')
  go_enter Tryd.func58, Tryd.ntmps58
  go_wp2_with (go_at_call 59; refine (unhide HC _).mono ?_; rintro e w' ⟨rfl, rfl⟩)
  go_ret
  exact ⟨rfl, rfl⟩
end Go.Proofs.YtdpphjedjhjdgabDoor

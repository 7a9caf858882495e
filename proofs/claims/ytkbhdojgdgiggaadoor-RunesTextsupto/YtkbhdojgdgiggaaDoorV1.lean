/- Contracts of isRange and both Checks. -/
import Derived.Test.YtkbhdojgdgiggaaDoorRows
import Derived.Test.YtkbhdojgdgiggaaDoorM1
import Derived.WalkKit
import Derived.WalkSpells
import Derived.WalkLawsBesides
import Derived.Handy
import Derived.Below
import Derived.Deep.RegionWith
namespace Go.Proofs.YtkbhdojgdgiggaaDoor
open Go.RowKit

theorem hide {p : Prop} (h : p) : Hid p := h
theorem unhide {p : Prop} (h : Hid p) : p := h
theorem ret_bool {a b : Bool} (h : a = b) : Ending.returned (.bool a) = .returned (.bool b) := by rw [h]

/-- A row of ranges lies there. -/
def RowAt (w : World) (a : Option Addr) (l : List Rng) : Prop :=
  l = [] ∨ ∃ b off, a = some ⟨b, off, none⟩ ∧ b < w.heap.size ∧ ∀ j, j < l.length → w.cell? ⟨b, off + j * 2, none⟩ = some (.int .i32 (l.getD j (0, 0)).1) ∧ w.cell? ⟨b, off + j * 2 + 1, none⟩ = some (.int .i32 (l.getD j (0, 0)).2)
theorem rowAt_below {w w' : World} {a : Option Addr} {l : List Rng} (h : RowAt w a l) {B : Nat} (hB : w.heap.size ≤ B) (hb : Below B w w') : RowAt w' a l := by
  rcases h with rfl | ⟨b, off, rfl, hlt, hc⟩
  · exact .inl rfl
  · refine .inr ⟨b, off, rfl, Nat.lt_of_lt_of_le hlt hb.size, fun j hj => ?_⟩
    rw [hb.cell (by show b < B; omega), hb.cell (by show b < B; omega)]
    exact hc j hj

set_option maxHeartbeats 1000000 in
theorem isRange_any (x y : Int) (w : World) :
    Calls Tryd.prog 37 #[.agg #[.int .i32 x, .int .i32 y]] w fun e w' => e = .returned (.bool (isR (x, y))) ∧ w' = w.alloc (.cells #[.int .i32 x, .int .i32 y] 55) := by
  by_cases h1 : 0 ≤ x
  · by_cases h2 : x ≤ y
    · go_enter Tryd.func37, Tryd.ntmps37
      go_wp2
      all_goals (go_ret; refine ⟨ret_bool ?_, rfl⟩; simp only [isR]; rw [Bool.eq_iff_iff]; simp; omega)
    · go_enter Tryd.func37, Tryd.ntmps37
      go_wp2
      all_goals (go_ret; refine ⟨ret_bool ?_, rfl⟩; simp only [isR]; rw [Bool.eq_iff_iff]; simp; omega)
  · go_enter Tryd.func37, Tryd.ntmps37
    go_wp2
    all_goals (go_ret; refine ⟨ret_bool ?_, rfl⟩; simp only [isR]; rw [Bool.eq_iff_iff]; simp; omega)
end Go.Proofs.YtkbhdojgdgiggaaDoor

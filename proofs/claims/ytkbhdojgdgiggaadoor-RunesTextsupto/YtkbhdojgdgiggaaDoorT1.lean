/- What AppendInt at base 16 calls: isPowerOfTwo, TrailingZeros of 16. -/
import Derived.Test.YtkbhdojgdgiggaaDoorV1
namespace Go.Proofs.YtkbhdojgdgiggaaDoor
open Go.RowKit

theorem pow16 (w : World) : Calls Tryd.prog 126 #[.int .i64 16] w fun e w' => e = .returned (.bool true) ∧ w' = w := by
  have h1 : bits .and .i64 16 15 = 0 := by decide
  go_enter Tryd.func126, Tryd.ntmps126
  go_wp2
  go_ret
  exact ⟨rfl, rfl⟩
theorem tz16 (w : World) (hT : w.cell? ⟨4, 15, none⟩ = some (.int .u8 4)) : Calls Tryd.prog 133 #[.int .u64 16] w fun e w' => e = .returned (.int .i64 4) ∧ w' = w := by
  have h0 : IntKind.u64.wrap (-16) = 18446744073709551600 := by decide
  have h1 : bits .and .u64 16 18446744073709551600 = 16 := by decide
  have h2 : IntKind.u64.wrap (16 * 285870213051353865) = 4573923408821661840 := by decide
  go_enter Tryd.func133, Tryd.ntmps133
  go_wp2
  go_ret
  exact ⟨rfl, rfl⟩
theorem tzs16 (w : World) (hT : w.cell? ⟨4, 15, none⟩ = some (.int .u8 4)) : Calls Tryd.prog 127 #[.int .u64 16] w fun e w' => e = .returned (.int .i64 4) ∧ w' = w := by
  have H := hide (tz16 w hT)
  go_enter Tryd.func127, Tryd.ntmps127
  go_wp2_with fail
  refine (unhide H).mono ?_
  rintro e w' ⟨rfl, hw⟩
  obtain rfl := hw.symm
  go_wp2
  go_ret
  exact ⟨rfl, rfl⟩
end Go.Proofs.YtkbhdojgdgiggaaDoor

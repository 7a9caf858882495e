/- Contracts of IndexByte at the digits, readByte and readRune. -/
import Derived.Test.YtodncpnhmmnclaaW7
import Derived.Test.YtodncpnhmmnclaaW8
import Derived.Test.YtodncpnhmmnclaaM8
namespace Go.Proofs.Ytodncpnhmmnclaa
open Go.RowKit

set_option maxHeartbeats 400000 in
theorem idx_lite (c : Nat) (hc : c < 256) (w : World) :
    Calls Try.prog 53 #[.string ⟨#[48, 49, 50, 51, 52, 53, 54, 55, 56, 57, 97, 98, 99, 100, 101, 102]⟩, .int .u8 (c : Int)] w fun e w' => e = .returned (.int .i64 (hexV c)) ∧ w' = w := by
  have h : firstIdx ⟨#[48, 49, 50, 51, 52, 53, 54, 55, 56, 57, 97, 98, 99, 100, 101, 102]⟩ ((c : Int).toNat.toUInt8) = hexV c := digits_idx ⟨c, hc⟩
  have H := hide h
  clear h
  go_enter Try.func53, Try.ntmps53
  go_wp2
  rw [run_callFunc_extern Try.func54 (by kernel_rfl) (by kernel_rfl) (by kernel_rfl) (e := Extern.BytealgIndexByte.indexByte) (by kernel_rfl), run_indexByte_string, unhide H]
  simp only [Result.andThen]
  rw [Oper.upon_value]
  go_wp2
  go_ret
  exact ⟨rfl, rfl⟩
set_option maxHeartbeats 400000 in
theorem idx_any (c : Nat) (hc : c < 256) (w : World) :
    Calls Try.prog 52 #[.string ⟨#[48, 49, 50, 51, 52, 53, 54, 55, 56, 57, 97, 98, 99, 100, 101, 102]⟩, .int .u8 (c : Int)] w fun e w' => e = .returned (.int .i64 (hexV c)) ∧ w' = w := by
  go_enter Try.func52, Try.ntmps52
  go_wp2_with fail
  refine (idx_lite c hc _).mono ?_
  rintro e w' ⟨rfl, rfl⟩
  go_wp2
  go_ret
  exact ⟨rfl, rfl⟩

theorem convert_one (x : Nat) (hx : x < 256) (w : World) :
    (convert 67 9 (.slice (some ⟨w.heap.size, 0, none⟩) 1 1)).run Try.prog (w.alloc (.cells #[.int .u8 (x : Int)] 5)) = .ok (.string ⟨#[UInt8.ofNat x]⟩) (w.alloc (.cells #[.int .u8 (x : Int)] 5)) := by
  refine run_convert_bytes_back _ 67 9 5 ⟨w.heap.size, 0, none⟩ 1 [UInt8.ofNat x] Try.underlying67 Try.underlying5 Try.underlying9 ?_
  intro j hj
  have : j = 0 := by simp at hj; omega
  subst this
  have e : (⟨w.heap.size, 0, none⟩ : Addr).add 0 = ⟨w.heap.size, 0, none⟩ := by unfold Addr.add; split <;> simp_all
  rw [e, World.cell?_alloc_mark]
  have e2 : (UInt8.ofNat x).toNat = x := by simp; omega
  simp [e2]

theorem or16 (a b : Fin 16) : bits .or .i64 ((a.val : Int) * 16) (b.val : Int) = (a.val : Int) * 16 + (b.val : Int) := by
  revert a b
  decide +kernel
theorem or16' (a b : Int) (h0 : 0 ≤ a) (h1 : a ≤ 15) (h2 : 0 ≤ b) (h3 : b ≤ 15) : bits .or .i64 (a * 16) b = a * 16 + b := by
  have h := or16 ⟨a.toNat, by omega⟩ ⟨b.toNat, by omega⟩
  simp only at h
  rwa [show ((a.toNat : Nat) : Int) = a by omega, show ((b.toNat : Nat) : Int) = b by omega] at h
theorem or4_i32 (x y : Int) (hx0 : 0 ≤ x) (hx : x % 16 = 0) (hx1 : x < 2147483648) (h0 : 0 ≤ y) (h1 : y < 16) : bits .or .i32 x y = x + y :=
  bits_join .i32 31 (by decide) wraps_i32 4 x y hx0 hx hx1 h0 h1 (by omega)
/-- What readByte answers. -/
def xF (n : Nat) (f : Nat → Nat) : List UInt8 × Nat := if 3 < n ∧ 0 ≤ hexV (f 2) ∧ 0 ≤ hexV (f 3) then ([UInt8.ofNat (16 * hexV (f 2) + hexV (f 3)).toNat], 4) else ([], 0)

set_option maxHeartbeats 1000000 in
set_option maxRecDepth 100000 in
theorem readByte_any (t : ByteArray) (w : World) :
    Calls Try.prog 50 #[.string t] w fun e w' => e = .returned (.tuple #[.string ⟨(xF t.size (bt t)).1.toArray⟩, .int .i64 ((xF t.size (bt t)).2 : Int)]) ∧ Below w.heap.size w w' := by
  by_cases hn : 3 < t.size
  · have hn2 : ¬ (t.size : Int) < 4 := by omega
    have i2 : ∀ w, (Instr.index 9 (.string t) (.int .i64 2)).run Try.prog w = .ok (.int .u8 (bt t 2 : Int)) w := fun w => index_bt t 2 (by omega) w
    have i3 : ∀ w, (Instr.index 9 (.string t) (.int .i64 3)).run Try.prog w = .ok (.int .u8 (bt t 3 : Int)) w := fun w => index_bt t 3 (by omega) w
    have b2 := bt_lt t 2
    have b3 := bt_lt t 3
    have hb2 := hexV_bd (bt t 2)
    have hb3 := hexV_bd (bt t 3)
    have Hx := hide (show xF t.size (bt t) = if 0 ≤ hexV (bt t 2) ∧ 0 ≤ hexV (bt t 3) then ([UInt8.ofNat (16 * hexV (bt t 2) + hexV (bt t 3)).toNat], 4) else ([], 0) by unfold xF; simp [hn])
    generalize xF t.size (bt t) = X at *
    generalize bt t 2 = c2 at *
    generalize bt t 3 = c3 at *
    generalize hh : hexV c2 = h2 at *
    generalize hl : hexV c3 = h3 at *
    have Hh := hide hh; have Hl := hide hl
    clear hh hl
    go_enter Try.func50, Try.ntmps50
    go_wp2
    go_quiet ((go_at_call 52; exact Calls.quiet_of_same (idx_any _ (by assumption) _)))
    rw [unhide Hh, unhide Hl]
    by_cases p2 : 0 ≤ h2
    · by_cases p3 : 0 ≤ h3
      · have hor := or16' h2 h3 p2 hb2.2 p3 hb3.2
        have hcv : ∀ n, (convert 67 9 (.slice (some ⟨w.heap.size, 0, none⟩) 1 1)).run Try.prog ((w.drewN n).alloc (.cells #[.int .u8 (h2 * 16 + h3)] 5)) = .ok (.string ⟨#[UInt8.ofNat (16 * h2 + h3).toNat]⟩) ((w.drewN n).alloc (.cells #[.int .u8 (h2 * 16 + h3)] 5)) := fun n => by
          have h := convert_one (16 * h2 + h3).toNat (by omega) (w.drewN n)
          rw [show (((16 * h2 + h3).toNat : Nat) : Int) = h2 * 16 + h3 by omega] at h
          exact h
        go_wp2
        go_ret2
        rw [unhide Hx, if_pos ⟨p2, p3⟩]
        exact ⟨rfl, (below_drewN (Below.refl _ _) _).alloc (Nat.le_refl _) _⟩
      · go_wp2
        go_ret2
        rw [unhide Hx, if_neg (by omega)]
        exact ⟨rfl, below_drewN (Below.refl _ _) _⟩
    · go_wp2
      go_ret2
      rw [unhide Hx, if_neg (by omega)]
      exact ⟨rfl, below_drewN (Below.refl _ _) _⟩
  · have hn2 : (t.size : Int) < 4 := by omega
    have Hx := hide (show xF t.size (bt t) = ([], 0) by unfold xF; simp [hn])
    generalize xF t.size (bt t) = X at *
    go_enter Try.func50, Try.ntmps50
    go_wp2
    go_ret2
    rw [unhide Hx]
    exact ⟨rfl, Below.refl _ _⟩
end Go.Proofs.Ytodncpnhmmnclaa

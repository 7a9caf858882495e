/- Contracts of both Encodes at every number, and of alive. -/
import Derived.Test.YtodncpnhmmnclaaW4
import Derived.Test.YtodncpnhmmnclaaW6
namespace Go.Proofs.Ytodncpnhmmnclaa
open Go.RowKit

/-- What both Encodes answer. -/
def encVals (r : Int) : ByteArray × Int := if Utf8.valid r then (⟨(Lib.encodeRune r).toArray⟩, 0) else (⟨#[]⟩, 11)
theorem encode_any (r : Int) (w : World) :
    Calls Try.prog 16 #[.int .i32 r] w fun e w' => e = .returned (.tuple #[.string (encVals r).1, .int .i64 (encVals r).2]) ∧ w = w' := by
  cases h : Utf8.valid r
  · rw [show encVals r = (⟨#[]⟩, 11) by simp [encVals, h]]; exact encode_bad r h w
  · rw [show encVals r = (⟨(Lib.encodeRune r).toArray⟩, 0) by simp [encVals, h]]; exact encode_good r h w
theorem rEncode_any (r : Int) (w : World) :
    Calls Try.prog 17 #[.int .i32 r] w fun e w' => e = .returned (.tuple #[.string (encVals r).1, .int .i64 (encVals r).2]) ∧ Below w.heap.size w w' := by
  cases h : Utf8.valid r
  · rw [show encVals r = (⟨#[]⟩, 11) by simp [encVals, h]]; exact rEncode_bad r h w
  · rw [show encVals r = (⟨(Lib.encodeRune r).toArray⟩, 0) by simp [encVals, h]]; exact rEncode_good r h w

theorem alive_next : nextT ⟨#[97, 195, 169]⟩ 1 = (233, 2, true) := by decide +kernel
theorem alive_enc : encVals 233 = (⟨#[195, 169]⟩, 0) := by decide +kernel
theorem alive_quote : quoteVals ⟨#[10]⟩ = (⟨#[34, 92, 110, 34]⟩, 0) := by decide +kernel

set_option maxHeartbeats 1000000 in
theorem alive_any (w : World) : Calls Try.prog 15 #[] w fun e w' => e = .returned (.bool true) ∧ Below w.heap.size w w' := by
  have H1 : Hid (∀ w, Calls Try.prog 9 #[.string ⟨#[97, 195, 169]⟩, .int .i64 1] w fun e w' => e = .returned (.tuple #[.int .i32 233, .int .i64 2, .bool true]) ∧ Below w.heap.size w w') := hide fun w => by
    have h := next_in ⟨#[97, 195, 169]⟩ 1 (by decide) w
    have e : nextV ⟨#[97, 195, 169]⟩ ((1 : Nat) : Int) = .tuple #[.int .i32 233, .int .i64 2, .bool true] := by
      unfold nextV; rw [show ((1 : Nat) : Int) = 1 from rfl, alive_next]
    rw [e] at h
    exact h
  have H2 : Hid (∀ w, Calls Try.prog 16 #[.int .i32 233] w fun e w' => e = .returned (.tuple #[.string ⟨#[195, 169]⟩, .int .i64 0]) ∧ w = w') := hide fun w => by
    have h := encode_any 233 w
    rw [alive_enc] at h
    exact h
  have H3 : Hid (∀ w, Calls Try.prog 24 #[.string ⟨#[10]⟩] w fun e w' => e = .returned (.tuple #[.string ⟨#[34, 92, 110, 34]⟩, .int .i64 0]) ∧ Below w.heap.size w w') := hide fun w => by
    have h := quote_any ⟨#[10]⟩ w
    rw [alive_quote] at h
    exact h
  go_enter Try.func15, Try.ntmps15
  go_wp2_with fail
  refine (unhide H1 _).mono ?_
  rintro e w1 ⟨rfl, hb1⟩
  go_wp2_with fail
  refine (unhide H2 _).mono ?_
  rintro e w2 ⟨rfl, rfl⟩
  go_wp2_with fail
  refine (unhide H3 _).mono ?_
  rintro e w3 ⟨rfl, hb3⟩
  have hb := hb1.trans (hb3.mono hb1.size)
  clear hb1 hb3
  go_wp2
  go_ret
  exact ⟨rfl, hb⟩
end Go.Proofs.Ytodncpnhmmnclaa

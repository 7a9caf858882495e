/- Contract of Unquote. -/
import Derived.Test.YtodncpnhmmnclaaW18
namespace Go.Proofs.Ytodncpnhmmnclaa
open Go.RowKit

/-- What both Unquotes answer. -/
def unqV (s : ByteArray) : ByteArray × Int := match quotedL s with
  | some (v, n) => if n < s.size then (⟨#[]⟩, 12) else (⟨v.toArray⟩, 0)
  | none => (⟨#[]⟩, 12)
set_option maxHeartbeats 1000000 in
theorem unquote_no (s v : ByteArray) (n : Int) (w : World) (hn : (n == 0) = true ∨ ((n == 0) = false ∧ n < s.size))
    (H : Hid (∀ w, Calls Try.prog 40 #[.string s] w fun e w' => e = .returned (.tuple #[.string v, .int .i64 n]) ∧ Below w.heap.size w w')) :
    Calls Try.prog 26 #[.string s] w fun e w' => e = .returned (.tuple #[.string ⟨#[]⟩, .int .i64 12]) ∧ Below w.heap.size w w' := by
  rcases hn with hn | ⟨hn, hn2⟩
  all_goals
    go_enter Try.func26, Try.ntmps26
    go_wp2_with fail
    refine (unhide H _).mono ?_
    rintro e w1 ⟨rfl, hb1⟩
    go_wp2
    go_ret2
    exact ⟨rfl, hb1⟩
set_option maxHeartbeats 1000000 in
theorem unquote_yes (s v : ByteArray) (n : Int) (w : World) (hn : (n == 0) = false) (hn2 : ¬ n < s.size)
    (H : Hid (∀ w, Calls Try.prog 40 #[.string s] w fun e w' => e = .returned (.tuple #[.string v, .int .i64 n]) ∧ Below w.heap.size w w')) :
    Calls Try.prog 26 #[.string s] w fun e w' => e = .returned (.tuple #[.string v, .int .i64 0]) ∧ Below w.heap.size w w' := by
  go_enter Try.func26, Try.ntmps26
  go_wp2_with fail
  refine (unhide H _).mono ?_
  rintro e w1 ⟨rfl, hb1⟩
  go_wp2
  go_ret2
  exact ⟨rfl, hb1⟩
theorem unquote_any (s : ByteArray) (hs : s.size ≤ 281474976710656) (w : World) :
    Calls Try.prog 26 #[.string s] w fun e w' => e = .returned (.tuple #[.string (unqV s).1, .int .i64 (unqV s).2]) ∧ Below w.heap.size w w' := by
  have H := readQuoted_any s hs
  cases hq : quotedL s with
  | none =>
    rw [hq] at H
    rw [show unqV s = (⟨#[]⟩, 12) by unfold unqV; rw [hq]]
    exact unquote_no s _ _ w (Or.inl rfl) (hide H)
  | some o =>
    obtain ⟨v, n⟩ := o
    have hl := quotedL_le s v n hq
    rw [hq] at H
    by_cases h : n < s.size
    · rw [show unqV s = (⟨#[]⟩, 12) by unfold unqV; rw [hq]; simp only; rw [if_pos h]]
      exact unquote_no s ⟨v.toArray⟩ n w (Or.inr ⟨by simp; omega, by omega⟩) (hide H)
    · rw [show unqV s = (⟨v.toArray⟩, 0) by unfold unqV; rw [hq]; simp only; rw [if_neg h]]
      exact unquote_yes s ⟨v.toArray⟩ n w (by simp; omega) (by omega) (hide H)
end Go.Proofs.Ytodncpnhmmnclaa

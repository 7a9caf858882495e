/- Contracts of Quoted, and of the reference's digit and number. -/
import Derived.Test.YtodncpnhmmnclaaW19
import Derived.Deep.DeepCutAuto
namespace Go.Proofs.Ytodncpnhmmnclaa
open Go.RowKit
attribute [local go_sem ↓] Go.wp_at_zero Go.wp_at_succ

set_option maxHeartbeats 1000000 in
theorem digit_any (c : Nat) (hc : c < 256) (w : World) :
    Calls Try.prog 46 #[.int .u8 (c : Int)] w fun e w' => e = .returned (.int .i64 (hexV c)) ∧ w' = w := by
  by_cases h1 : 48 ≤ c ∧ c ≤ 57
  · rw [show hexV c = (c : Int) - 48 by unfold hexV; rw [if_pos h1]]
    obtain ⟨a, b⟩ := h1
    have a' : (48 : Int) ≤ c := by omega
    have b' : (c : Int) ≤ 57 := by omega
    go_enter Try.func46, Try.ntmps46
    go_wp2
    go_ret
    exact ⟨rfl, rfl⟩
  · have h97 : 57 < c ∨ c < 48 := by omega
    by_cases h2 : 97 ≤ c ∧ c ≤ 102
    · rw [show hexV c = (c : Int) - 97 + 10 by unfold hexV; rw [if_neg h1, if_pos h2]; omega]
      obtain ⟨a, b⟩ := h2
      have a' : (97 : Int) ≤ c := by omega
      have b' : (c : Int) ≤ 102 := by omega
      have c' : (48 : Int) ≤ c := by omega
      have d' : ¬ (c : Int) ≤ 57 := by omega
      clear h1 h97
      go_enter Try.func46, Try.ntmps46
      go_wp2
      go_ret
      exact ⟨rfl, rfl⟩
    · rw [show hexV c = -1 by unfold hexV; rw [if_neg h1, if_neg h2]]
      have k : ((c : Int) < 48) ∨ (57 < (c : Int) ∧ (c : Int) < 97) ∨ (102 < (c : Int)) := by omega
      clear h1 h2 h97
      rcases k with k | ⟨k1, k2⟩ | k
      · have a' : ¬ (48 : Int) ≤ c := by omega
        have b' : ¬ (97 : Int) ≤ c := by omega
        go_enter Try.func46, Try.ntmps46
        go_wp2
        go_ret
        exact ⟨rfl, rfl⟩
      · have a' : (48 : Int) ≤ c := by omega
        have a2 : ¬ (c : Int) ≤ 57 := by omega
        have b' : ¬ (97 : Int) ≤ c := by omega
        go_enter Try.func46, Try.ntmps46
        go_wp2
        go_ret
        exact ⟨rfl, rfl⟩
      · have a' : (48 : Int) ≤ c := by omega
        have a2 : ¬ (c : Int) ≤ 57 := by omega
        have b' : (97 : Int) ≤ c := by omega
        have b2 : ¬ (c : Int) ≤ 102 := by omega
        go_enter Try.func46, Try.ntmps46
        go_wp2
        go_ret
        exact ⟨rfl, rfl⟩

/-- What Quoted answers. -/
def quotV (s : ByteArray) (a : Int) : ByteArray × Int × Int × Int := if a < 0 ∨ (s.size : Int) ≤ a then (⟨#[]⟩, 0, 13, a) else match quotedL (s.extract a.toNat s.size) with
  | some (v, n) => (⟨v.toArray⟩, a + n, 0, 0)
  | none => (⟨#[]⟩, 0, 12, a)
set_option maxHeartbeats 1000000 in
theorem quoted_out (s : ByteArray) (a : Int) (h : a < 0 ∨ (s.size : Int) ≤ a) (w : World) :
    Calls Try.prog 28 #[.string s, .int .i64 a] w fun e w' => e = .returned (.tuple #[.string ⟨#[]⟩, .int .i64 0, .agg #[.int .i64 13, .int .i64 a]]) ∧ Below w.heap.size w w' := by
  rcases h with h | h
  · go_enter Try.func28, Try.ntmps28
    go_wp2
    exact bodyPost_ret (v := .tuple #[.string ⟨#[]⟩, .int .i64 0, .agg #[.int .i64 13, .int .i64 a]]) (by simp [results, Try.results28, go_sem]) rfl ⟨rfl, (Below.refl _ _).alloc (Nat.le_refl _) _⟩
  · have h0 : ¬ a < 0 := by omega
    go_enter Try.func28, Try.ntmps28
    go_wp2
    exact bodyPost_ret (v := .tuple #[.string ⟨#[]⟩, .int .i64 0, .agg #[.int .i64 13, .int .i64 a]]) (by simp [results, Try.results28, go_sem]) rfl ⟨rfl, (Below.refl _ _).alloc (Nat.le_refl _) _⟩
set_option maxHeartbeats 1000000 in
theorem quoted_none (s v : ByteArray) (i : Nat) (hi : i < s.size) (w : World)
    (H : Hid (∀ w, Calls Try.prog 40 #[.string (s.extract i s.size)] w fun e w' => e = .returned (.tuple #[.string v, .int .i64 0]) ∧ Below w.heap.size w w')) :
    Calls Try.prog 28 #[.string s, .int .i64 i] w fun e w' => e = .returned (.tuple #[.string ⟨#[]⟩, .int .i64 0, .agg #[.int .i64 12, .int .i64 i]]) ∧ Below w.heap.size w w' := by
  have h1 : ¬ (s.size : Int) ≤ i := by omega
  go_enter Try.func28, Try.ntmps28
  go_wp2_with fail
  refine (unhide H _).mono ?_
  rintro e w1 ⟨rfl, hb1⟩
  simp at hb1
  obtain ⟨q0, q1, f0, f1, hs1⟩ := res_cells hb1
  have Hb1 := hide hb1
  clear hb1
  go_wp2
  refine bodyPost_ret (v := .tuple #[.string ⟨#[]⟩, .int .i64 0, .agg #[.int .i64 12, .int .i64 i]]) (by simp [results, Try.results28, go_sem, q0, q1]) rfl ⟨rfl, ?_⟩
  exact ((below_old (unhide Hb1)).setCell (Nat.le_refl _) _).setCell (Nat.le_refl _) _
set_option maxHeartbeats 1000000 in
theorem quoted_some (s v : ByteArray) (i n : Nat) (hi : i < s.size) (hn : i + n ≤ 281474976710656) (hn0 : ((n : Int) == 0) = false) (w : World)
    (H : Hid (∀ w, Calls Try.prog 40 #[.string (s.extract i s.size)] w fun e w' => e = .returned (.tuple #[.string v, .int .i64 (n : Int)]) ∧ Below w.heap.size w w')) :
    Calls Try.prog 28 #[.string s, .int .i64 i] w fun e w' => e = .returned (.tuple #[.string v, .int .i64 ((i : Int) + n), .agg #[.int .i64 0, .int .i64 0]]) ∧ Below w.heap.size w w' := by
  have h1 : ¬ (s.size : Int) ≤ i := by omega
  go_enter Try.func28, Try.ntmps28
  go_wp2_with fail
  refine (unhide H _).mono ?_
  rintro e w1 ⟨rfl, hb1⟩
  simp at hb1
  obtain ⟨q0, q1, f0, f1, hs1⟩ := res_cells hb1
  have Hb1 := hide hb1
  clear hb1
  go_wp2
  refine bodyPost_ret (v := .tuple #[.string v, .int .i64 ((i : Int) + n), .agg #[.int .i64 0, .int .i64 0]]) (by simp [results, Try.results28, go_sem, q0, q1]) rfl ⟨rfl, ?_⟩
  exact ((below_old (unhide Hb1)).setCell (Nat.le_refl _) _).setCell (Nat.le_refl _) _
theorem quoted_any (s : ByteArray) (hs : s.size ≤ 281474976710656) (a : Int) (w : World) :
    Calls Try.prog 28 #[.string s, .int .i64 a] w fun e w' => e = .returned (.tuple #[.string (quotV s a).1, .int .i64 (quotV s a).2.1, .agg #[.int .i64 (quotV s a).2.2.1, .int .i64 (quotV s a).2.2.2]]) ∧ Below w.heap.size w w' := by
  by_cases h : a < 0 ∨ (s.size : Int) ≤ a
  · rw [show quotV s a = (⟨#[]⟩, 0, 13, a) by unfold quotV; rw [if_pos h]]
    exact quoted_out s a h w
  · obtain ⟨i, rfl⟩ : ∃ i : Nat, a = i := ⟨a.toNat, by omega⟩
    have hi : i < s.size := by omega
    have he : (s.extract i s.size).size = s.size - i := by simp
    have H := readQuoted_any (s.extract i s.size) (by omega)
    cases hq : quotedL (s.extract i s.size) with
    | none =>
      rw [hq] at H
      rw [show quotV s i = (⟨#[]⟩, 0, 12, (i : Int)) by unfold quotV; rw [if_neg h]; simp only [Int.toNat_natCast]; rw [hq]]
      exact quoted_none s _ i hi w (hide H)
    | some o =>
      obtain ⟨v, n⟩ := o
      have hl := quotedL_le _ v n hq
      rw [hq] at H
      rw [show quotV s i = (⟨v.toArray⟩, (i : Int) + n, 0, 0) by unfold quotV; rw [if_neg h]; simp only [Int.toNat_natCast]; rw [hq]]
      exact quoted_some s ⟨v.toArray⟩ i n hi (by omega) (by simp; omega) w (hide H)
end Go.Proofs.Ytodncpnhmmnclaa

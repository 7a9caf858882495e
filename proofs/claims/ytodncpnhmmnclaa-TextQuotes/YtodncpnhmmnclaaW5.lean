/- Contracts of HasPrefix, isNone, RuneLen, Next. -/
import Derived.Test.YtodncpnhmmnclaaW1
import Derived.Test.YtodncpnhmmnclaaM2
namespace Go.Proofs.Ytodncpnhmmnclaa
open Go.RowKit

set_option maxHeartbeats 400000 in
theorem runeLen_any (r : Int) (h : Utf8.valid r = true) (w : World) :
    Calls Try.prog 31 #[.int .i32 r] w fun e w' => e = .returned (.int .i64 (Lib.encodeRune r).length) ∧ w = w' := by
  have hv := (valid_iff r).1 h
  rw [← Lib.runeCells_length]
  simp only [Lib.runeCells, List.length_map]
  go_enter Try.func31, Try.ntmps31
  go_wp2
  all_goals (try (exfalso; omega))
  all_goals go_ret
  all_goals refine ⟨?_, rfl⟩
  · rw [Lib.encodeRuneZ_one (by omega) (by omega)]; rfl
  · rw [Lib.encodeRuneZ_two (by omega) (by omega)]; rfl
  · rw [Lib.encodeRuneZ_three (by omega)]; rfl
  · rw [Lib.encodeRuneZ_four (by omega) (by omega)]; rfl
  · rw [Lib.encodeRuneZ_three (by omega)]; rfl

set_option maxHeartbeats 400000 in
theorem hasPrefix_lite (s p : ByteArray) (w : World) :
    Calls Try.prog 48 #[.string s, .string p] w fun e w' => e = .returned (.bool (decide (p.size ≤ s.size) && ((s.extract 0 p.size).toList == p.toList))) ∧ w = w' := by
  go_enter Try.func48, Try.ntmps48
  go_wp2
  all_goals go_ret
  all_goals refine ⟨ret_bool ?_, rfl⟩
  · simp [*]
  · simp [*]
set_option maxHeartbeats 400000 in
theorem hasPrefix_any (s p : ByteArray) (w : World) :
    Calls Try.prog 42 #[.string s, .string p] w fun e w' => e = .returned (.bool (decide (p.size ≤ s.size) && ((s.extract 0 p.size).toList == p.toList))) ∧ w = w' := by
  go_enter Try.func42, Try.ntmps42
  go_wp2_with (go_at_call 48; refine (hasPrefix_lite s p _).mono ?_; rintro e w' ⟨rfl, rfl⟩)
  go_ret
  exact ⟨rfl, rfl⟩

set_option maxHeartbeats 400000 in
theorem isNone_no (s : ByteArray) (i : Nat) (r : Int) (hr : (r == 65533) = false) (w : World) :
    Calls Try.prog 30 #[.string s, .int .i64 i, .int .i32 r] w fun e w' => e = .returned (.bool false) ∧ w = w' := by
  go_enter Try.func30, Try.ntmps30
  go_wp2
  go_ret
  exact ⟨rfl, rfl⟩
set_option maxHeartbeats 400000 in
theorem isNone_std (s : ByteArray) (i : Nat) (hi : i ≤ s.size) (w : World) :
    Calls Try.prog 30 #[.string s, .int .i64 i, .int .i32 65533] w fun e w' => e = .returned (.bool (!pre3B s i)) ∧ w = w' := by
  go_enter Try.func30, Try.ntmps30
  go_wp2_with (go_at_call 42; refine (hasPrefix_any _ _ _).mono ?_; rintro e w' ⟨rfl, rfl⟩)
  go_ret
  refine ⟨ret_bool ?_, rfl⟩
  unfold pre3B
  rw [Bool.not_and]
theorem isNone_any (s : ByteArray) (i : Nat) (hi : i ≤ s.size) (w : World) :
    Calls Try.prog 30 #[.string s, .int .i64 i, .int .i32 (Utf8.decode s i).1] w fun e w' => e = .returned (.bool (noneB s i)) ∧ w = w' := by
  by_cases h : (Utf8.decode s i).1 = 65533
  · rw [none_std s i h, h]; exact isNone_std s i hi w
  · rw [none_no s i h]; exact isNone_no s i _ (by simp; omega) w

/-- What both Nexts answer. -/
def nextT (s : ByteArray) (at_ : Int) : Int × Int × Bool :=
  if at_ < 0 ∨ (s.size : Int) ≤ at_ then (0, 0, false) else if noneB s at_.toNat then (0, 1, false) else ((Utf8.decode s at_.toNat).1, (Utf8.decode s at_.toNat).2, true)
def nextV (s : ByteArray) (at_ : Int) : Value := .tuple #[.int .i32 (nextT s at_).1, .int .i64 (nextT s at_).2.1, .bool (nextT s at_).2.2]
theorem nextT_out (s : ByteArray) (a : Int) (h : a < 0 ∨ (s.size : Int) ≤ a) : nextT s a = (0, 0, false) := if_pos h
theorem nextT_none (s : ByteArray) (i : Nat) (h : i < s.size) (hn : noneB s i = true) : nextT s i = (0, 1, false) := by
  unfold nextT; rw [if_neg (by omega)]; simp [hn]
theorem nextT_rune (s : ByteArray) (i : Nat) (h : i < s.size) (hn : noneB s i = false) : nextT s i = (((Utf8.decode s i).1 : Int), ((Utf8.decode s i).2 : Int), true) := by
  unfold nextT; rw [if_neg (by omega)]; simp [hn]

theorem below_iter (w : World) (s : ByteArray) (p : Nat) : Below w.heap.size w (w.iter s p) := (Below.refl _ _).alloc (Nat.le_refl _) _

set_option maxHeartbeats 400000 in
theorem next_out (s : ByteArray) (a : Int) (h : a < 0 ∨ (s.size : Int) ≤ a) (w : World) :
    Calls Try.prog 9 #[.string s, .int .i64 a] w fun e w' => e = .returned (nextV s a) ∧ Below w.heap.size w w' := by
  unfold nextV
  rw [nextT_out s a h]
  rcases h with h | h
  · go_enter Try.func9, Try.ntmps9
    go_wp2
    go_ret3
    exact ⟨rfl, Below.refl _ _⟩
  · have h0 : ¬ a < 0 := by omega
    go_enter Try.func9, Try.ntmps9
    go_wp2
    go_ret3
    exact ⟨rfl, Below.refl _ _⟩

set_option maxHeartbeats 1000000 in
set_option maxRecDepth 100000 in
theorem next_in (s : ByteArray) (i : Nat) (h : i < s.size) (w : World) :
    Calls Try.prog 9 #[.string s, .int .i64 i] w fun e w' => e = .returned (nextV s i) ∧ Below w.heap.size w w' := by
  have hsz : (s.extract i s.size).size = s.size - i := by simp
  have hnx : ∀ ty, (Instr.next (.pointer (some ⟨w.heap.size, 0, none⟩)) true ty).run Try.prog (w.iter (s.extract i s.size) 0) = _ := fun ty => run_next_any w (s.extract i s.size) 0 ty (by omega)
  rw [decode_extract] at hnx
  have Hi := isNone_any s i (by omega)
  unfold nextV
  cases hn : noneB s i
  · rw [nextT_rune s i h hn]
    have hp := piece_rune s i h hn
    have hv := hp.1
    have hlen := hp.2.1
    clear hp
    rw [hn] at Hi
    generalize (Utf8.decode s i).1 = r at *
    generalize (Utf8.decode s i).2 = d at *
    have Hlen := hide hlen
    have HL := hide (runeLen_any _ hv)
    have HI := hide Hi
    have HN := hide hnx
    clear hn hlen hv hsz Hi hnx
    go_enter Try.func9, Try.ntmps9
    go_wp2
    refine wp_loop_rounds 1 ?_
    rw [rounds_succ]
    have hnx := unhide HN
    go_wp2_with fail
    refine (unhide HI _).mono ?_
    rintro e w' ⟨rfl, rfl⟩
    go_wp2_with fail
    refine (unhide HL _).mono ?_
    rw [← unhide Hlen]
    rintro e w' ⟨rfl, rfl⟩
    go_wp2
    go_ret3
    exact ⟨rfl, below_iter _ _ _⟩
  · rw [nextT_none s i h hn]
    rw [hn] at Hi
    generalize (Utf8.decode s i).1 = r at *
    generalize (Utf8.decode s i).2 = d at *
    have HI := hide Hi
    have HN := hide hnx
    clear hn hsz Hi hnx
    go_enter Try.func9, Try.ntmps9
    go_wp2
    refine wp_loop_rounds 1 ?_
    rw [rounds_succ]
    have hnx := unhide HN
    go_wp2_with fail
    refine (unhide HI _).mono ?_
    rintro e w' ⟨rfl, rfl⟩
    go_wp2
    go_ret3
    exact ⟨rfl, below_iter _ _ _⟩
end Go.Proofs.Ytodncpnhmmnclaa

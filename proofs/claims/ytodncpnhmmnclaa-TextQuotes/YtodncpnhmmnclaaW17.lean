/- Contracts of readEscape and readPart. -/
import Derived.Test.YtodncpnhmmnclaaW16
namespace Go.Proofs.Ytodncpnhmmnclaa
open Go.RowKit

set_option maxHeartbeats 2000000 in
set_option maxRecDepth 100000 in
theorem readEscape_any (t : ByteArray) (hs : t.size ≤ 281474976710656) (w : World) :
    Calls Try.prog 49 #[.string t] w fun e w' => e = .returned (.tuple #[.string ⟨(escF t.size (bt t)).1.toArray⟩, .int .i64 ((escF t.size (bt t)).2 : Int)]) ∧ Below w.heap.size w w' := by
  by_cases hn : t.size < 2
  · have hn2 : (t.size : Int) < 2 := by omega
    rw [show escF t.size (bt t) = ([], 0) by unfold escF; rw [if_pos hn]]
    go_enter Try.func49, Try.ntmps49
    go_wp2
    go_ret2
    exact ⟨rfl, Below.refl _ _⟩
  have hn2 : ¬ (t.size : Int) < 2 := by omega
  have j1 : ∀ w, (Instr.index 9 (.string t) (.int .i64 1)).run Try.prog w = .ok (.int .u8 (bt t 1 : Int)) w := fun w => index_bt t 1 (by omega) w
  have b1 := bt_lt t 1
  have HB := hide (readByte_any t)
  have HU := hide (readRune_any t hs)
  have HO := hide (convert_one (bt t 1) b1 w)
  have He := hide (show escF t.size (bt t) = (if bt t 1 = 110 then ([10], 2) else if bt t 1 = 116 then ([9], 2) else if bt t 1 = 114 then ([13], 2)
    else if bt t 1 = 34 ∨ bt t 1 = 92 then ([UInt8.ofNat (bt t 1)], 2) else if bt t 1 = 120 then xF t.size (bt t) else if bt t 1 = 117 then numF t.size (bt t) else ([], 0)) by unfold escF xF; rw [if_neg hn])
  generalize escF t.size (bt t) = E at *
  generalize xF t.size (bt t) = X at *
  generalize numF t.size (bt t) = U at *
  generalize bt t 1 = b at *
  by_cases c1 : b = 110
  · subst c1
    rw [if_pos rfl] at He
    go_enter Try.func49, Try.ntmps49
    go_wp2
    go_ret2
    rw [unhide He]
    exact ⟨rfl, Below.refl _ _⟩
  rw [if_neg c1] at He
  have d1 : ((b : Int) == 110) = false := by simp; omega
  by_cases c2 : b = 116
  · subst c2
    rw [if_pos rfl] at He
    go_enter Try.func49, Try.ntmps49
    go_wp2
    go_ret2
    rw [unhide He]
    exact ⟨rfl, Below.refl _ _⟩
  rw [if_neg c2] at He
  have d2 : ((b : Int) == 116) = false := by simp; omega
  by_cases c3 : b = 114
  · subst c3
    rw [if_pos rfl] at He
    go_enter Try.func49, Try.ntmps49
    go_wp2
    go_ret2
    rw [unhide He]
    exact ⟨rfl, Below.refl _ _⟩
  rw [if_neg c3] at He
  have d3 : ((b : Int) == 114) = false := by simp; omega
  by_cases c4 : b = 34 ∨ b = 92
  · rw [if_pos c4] at He
    have hcv := unhide HO
    by_cases c5 : b = 34
    · have d4 : ((b : Int) == 34) = true := by simp; omega
      clear c4 c5
      go_enter Try.func49, Try.ntmps49
      go_wp2
      go_ret2
      rw [unhide He]
      exact ⟨rfl, (Below.refl _ _).alloc (Nat.le_refl _) _⟩
    · have d4 : ((b : Int) == 34) = false := by simp; omega
      have d5 : ((b : Int) == 92) = true := by simp; omega
      clear c4 c5
      go_enter Try.func49, Try.ntmps49
      go_wp2
      go_ret2
      rw [unhide He]
      exact ⟨rfl, (Below.refl _ _).alloc (Nat.le_refl _) _⟩
  rw [if_neg c4] at He
  have d4 : ((b : Int) == 34) = false := by simp; omega
  have d5 : ((b : Int) == 92) = false := by simp; omega
  by_cases c5 : b = 120
  · rw [if_pos c5] at He
    have d6 : ((b : Int) == 120) = true := by simp; omega
    clear c1 c2 c3 c4 c5
    go_enter Try.func49, Try.ntmps49
    go_wp2_with fail
    refine (unhide HB _).mono ?_
    rintro e w1 ⟨rfl, hb1⟩
    go_wp2
    go_ret2
    rw [unhide He]
    exact ⟨rfl, hb1⟩
  rw [if_neg c5] at He
  have d6 : ((b : Int) == 120) = false := by simp; omega
  by_cases c6 : b = 117
  · rw [if_pos c6] at He
    have d7 : ((b : Int) == 117) = true := by simp; omega
    clear c1 c2 c3 c4 c5 c6
    go_enter Try.func49, Try.ntmps49
    go_wp2_with fail
    refine (unhide HU _).mono ?_
    rintro e w1 ⟨rfl, hb1⟩
    go_wp2
    go_ret2
    rw [unhide He]
    exact ⟨rfl, hb1⟩
  · rw [if_neg c6] at He
    have d7 : ((b : Int) == 117) = false := by simp; omega
    clear c1 c2 c3 c4 c5 c6
    go_enter Try.func49, Try.ntmps49
    go_wp2
    go_ret2
    rw [unhide He]
    exact ⟨rfl, Below.refl _ _⟩

theorem numGo_congr (n : Nat) (f g : Nat → Nat) (h : ∀ j, f j = g j) (k i v : Nat) : numGo n f k i v = numGo n g k i v := by
  have : f = g := funext h
  rw [this]

set_option maxHeartbeats 1000000 in
theorem readPart_esc (s : ByteArray) (hs : s.size ≤ 281474976710656) (i : Nat) (hi : i < s.size) (hr : (Utf8.decode s i).1 = 92) (w : World) :
    Calls Try.prog 45 #[.string s, .int .i64 i, .int .i32 ((Utf8.decode s i).1 : Int)] w fun e w' => e = .returned (.tuple #[.string ⟨(partL s i).1.toArray⟩, .int .i64 ((partL s i).2 : Int)]) ∧ Below w.heap.size w w' := by
  have HE := hide (readEscape_any (s.extract i s.size) (by simp; omega))
  have e : partL s i = escF (s.extract i s.size).size (bt (s.extract i s.size)) := by
    unfold partL; rw [if_pos hr]
    congr 1
    · simp
    · funext j; exact (bt_extract s i j).symm
  rw [e, hr]
  clear hr e
  generalize escF (s.extract i s.size).size (bt (s.extract i s.size)) = E at *
  go_enter Try.func45, Try.ntmps45
  go_wp2_with fail
  refine (unhide HE _).mono ?_
  rintro e w1 ⟨rfl, hb1⟩
  go_wp2
  go_ret2
  exact ⟨rfl, hb1⟩

set_option maxHeartbeats 1000000 in
theorem readPart_plain (s : ByteArray) (i : Nat) (r : Int) (hr : (r == 92) = false) (g : ByteArray) (n : Int) (w : World) (hg : Hid (Utf8.encode r = g))
    (H : Hid (∀ w, Calls Try.prog 44 #[.string s, .int .i64 i, .int .i32 r] w fun e w' => e = .returned (.bool true) ∧ w = w'))
    (HL : Hid (∀ w, Calls Try.prog 31 #[.int .i32 r] w fun e w' => e = .returned (.int .i64 n) ∧ w = w')) :
    Calls Try.prog 45 #[.string s, .int .i64 i, .int .i32 r] w fun e w' => e = .returned (.tuple #[.string g, .int .i64 n]) ∧ Below w.heap.size w w' := by
  rw [← unhide hg]
  go_enter Try.func45, Try.ntmps45
  go_wp2_with fail
  refine (unhide H _).mono ?_
  rintro e w1 ⟨rfl, rfl⟩
  go_wp2_with fail
  refine (unhide HL _).mono ?_
  rintro e w1 ⟨rfl, rfl⟩
  go_wp2
  go_ret2
  exact ⟨rfl, Below.refl _ _⟩
set_option maxHeartbeats 1000000 in
theorem readPart_no (s : ByteArray) (i : Nat) (r : Int) (hr : (r == 92) = false) (w : World)
    (H : Hid (∀ w, Calls Try.prog 44 #[.string s, .int .i64 i, .int .i32 r] w fun e w' => e = .returned (.bool false) ∧ w = w')) :
    Calls Try.prog 45 #[.string s, .int .i64 i, .int .i32 r] w fun e w' => e = .returned (.tuple #[.string ⟨#[]⟩, .int .i64 0]) ∧ Below w.heap.size w w' := by
  go_enter Try.func45, Try.ntmps45
  go_wp2_with fail
  refine (unhide H _).mono ?_
  rintro e w1 ⟨rfl, rfl⟩
  go_wp2
  go_ret2
  exact ⟨rfl, Below.refl _ _⟩
theorem readPart_any (s : ByteArray) (hs : s.size ≤ 281474976710656) (i : Nat) (hi : i < s.size) (hq : (Utf8.decode s i).1 ≠ 34) (w : World) :
    Calls Try.prog 45 #[.string s, .int .i64 i, .int .i32 ((Utf8.decode s i).1 : Int)] w fun e w' => e = .returned (.tuple #[.string ⟨(partL s i).1.toArray⟩, .int .i64 ((partL s i).2 : Int)]) ∧ Below w.heap.size w w' := by
  by_cases hr : (Utf8.decode s i).1 = 92
  · exact readPart_esc s hs i hi hr w
  · have hb : (((Utf8.decode s i).1 : Int) == 92) = false := by simp; omega
    have HP := plain_any s i (by omega)
    cases hp : plainB s i
    · rw [show partL s i = ([], 0) by unfold partL; rw [if_neg hr]; simp [hp]]
      rw [hp] at HP
      exact readPart_no s i _ hb w (hide HP)
    · have hn : noneB s i = false := by simp only [plainB, Bool.and_eq_true, Bool.not_eq_true'] at hp; exact hp.2.2
      obtain ⟨hv, hw, _, _, _⟩ := piece_rune s i hi hn
      rw [show partL s i = (Lib.encodeRune ((Utf8.decode s i).1 : Int), (Utf8.decode s i).2) by unfold partL; rw [if_neg hr]; simp [hp, hq]]
      rw [hp] at HP
      refine readPart_plain s i _ hb _ _ w (hide (encode_eq _ hv)) (hide HP) (hide ?_)
      simp only [hw]
      exact runeLen_any _ hv
end Go.Proofs.Ytodncpnhmmnclaa

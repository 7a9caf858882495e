/- Plain mathematics on a text's pieces: what the model's decoding tells of a piece, in the document's words. -/
import Derived.Test.YtkckcnjamlpadabDoorM1
import Derived.Lib.DecodeN
import Derived.Lib.Strings
import Derived.Lib.IndexBytes
namespace Go.Proofs.YtkckcnjamlpadabDoor
open Go.Lib (decodeN decode_at)

/-- The byte at i, as a number; 0 behind the end. -/
def bt (s : ByteArray) (i : Nat) : Nat := (s.get! i).toNat
theorem bt_lt (s : ByteArray) (i : Nat) : bt s i < 256 := (s.get! i).toNat_lt
theorem bt_get (s : ByteArray) (i : Nat) (h : i < s.size) : bt s i = (s[i]'h).toNat := by
  have : s.get! i = s[i]'h := by simp [ByteArray.get!, getElem!_pos, h]; rfl
  rw [bt, this]
theorem dec_eq (s : ByteArray) (i : Nat) : Utf8.decode s i = decodeN (s.size - i) (bt s i) (bt s (i + 1)) (bt s (i + 2)) (bt s (i + 3)) := decode_at s i

/-- The byte at i is none's. -/
def noneB (s : ByteArray) (i : Nat) : Bool := Utf8.decode s i == (65533, 1)
/-- The three bytes of U+FFFD stand at i. -/
def pre3 (s : ByteArray) (i : Nat) : Prop := i + 3 ≤ s.size ∧ bt s i = 239 ∧ bt s (i + 1) = 191 ∧ bt s (i + 2) = 189

theorem none_iff (s : ByteArray) (i : Nat) : ((Utf8.decode s i).1 = 65533 ∧ ¬ pre3 s i) ↔ noneB s i = true := by
  have b0 := bt_lt s i; have b1 := bt_lt s (i + 1); have b2 := bt_lt s (i + 2); have b3 := bt_lt s (i + 3)
  simp only [noneB, beq_iff_eq, dec_eq, pre3]
  generalize bt s i = x0 at *; generalize bt s (i + 1) = x1 at *; generalize bt s (i + 2) = x2 at *; generalize bt s (i + 3) = x3 at *
  unfold decodeN
  repeat' split
  all_goals simp only [Prod.mk.injEq]
  all_goals constructor
  all_goals first
    | exact fun _ => trivial
    | (intro _; refine ⟨trivial, ?_⟩; rintro ⟨p1, p2, p3, p4⟩; omega)
    | (rintro ⟨h1, h2⟩; refine ⟨h1, ?_⟩; omega)
    | (rintro ⟨h1, h2⟩; refine ⟨h1, ?_⟩; rintro ⟨p1, p2, p3, p4⟩; omega)
    | (rintro ⟨h1, h2⟩; refine absurd ?_ h2; omega)

/-- A piece that is a rune: its number is valid, its bytes are the rune's. -/
theorem piece_rune (s : ByteArray) (i : Nat) (hi : i < s.size) (h : noneB s i = false) :
    Utf8.valid ((Utf8.decode s i).1 : Int) = true ∧ (Utf8.decode s i).2 = (Lib.encodeRune ((Utf8.decode s i).1 : Int)).length ∧ 1 ≤ (Utf8.decode s i).2 ∧ (Utf8.decode s i).2 ≤ 4 ∧ i + (Utf8.decode s i).2 ≤ s.size := by
  have b0 := bt_lt s i; have b1 := bt_lt s (i + 1); have b2 := bt_lt s (i + 2); have b3 := bt_lt s (i + 3)
  rw [← Lib.runeCells_length, valid_iff]
  simp only [noneB, beq_eq_false_iff_ne, dec_eq, Lib.runeCells, List.length_map] at *
  generalize bt s i = x0 at *; generalize bt s (i + 1) = x1 at *; generalize bt s (i + 2) = x2 at *; generalize bt s (i + 3) = x3 at *
  revert h
  unfold decodeN
  repeat' split
  all_goals intro h
  all_goals first
    | (exfalso; exact h rfl)
    | (refine ⟨by omega, ?_, by omega, by omega, by omega⟩
       first
        | (rw [Lib.encodeRuneZ_one (by omega) (by omega)]; rfl)
        | (rw [Lib.encodeRuneZ_two (by omega) (by omega)]; rfl)
        | (rw [Lib.encodeRuneZ_three (by omega)]; rfl)
        | (rw [Lib.encodeRuneZ_four (by omega) (by omega)]; rfl))

theorem bt_list (s : ByteArray) (i : Nat) : bt s i = (s.data.toList.getD i 0).toNat := by
  unfold bt
  by_cases h : i < s.size
  · have : s.get! i = s[i]'h := by simp [ByteArray.get!, getElem!_pos, h]; rfl
    rw [this]
    have h2 := Lib.data_getElem? s i h
    simp [List.getD, h2]
  · have h2 : ¬ i < s.data.size := h
    have : s.get! i = 0 := by
      cases s with | mk d => simp at h2; simp [ByteArray.get!, h2]; rfl
    rw [this]
    have : s.data.toList.length ≤ i := by simpa using h2
    simp only [List.getD, List.getElem?_eq_none this]
    rfl

/-- strings.HasPrefix's own reckoning at the three bytes of U+FFFD, of what lies from a byte on. -/
def pre3B (s : ByteArray) (i : Nat) : Bool := decide (3 ≤ s.size - i) && (((s.extract i s.size).extract 0 3).toList == [239, 191, 189])

theorem pre3B_iff (s : ByteArray) (i : Nat) : pre3B s i = true ↔ pre3 s i := by
  have h0 := bt_list s i; have h1 := bt_list s (i + 1); have h2 := bt_list s (i + 2)
  have hl : s.size = s.data.toList.length := Lib.size_eq s
  have e : ((s.extract i s.size).extract 0 3).toList = (s.data.toList.drop i).take 3 := by
    rw [Lib.extract_toList, Lib.extract_to_end]; simp
  have g0 : s.data.toList.getD i 0 = (s.data.toList.drop i).getD 0 0 := by simp
  have g1 : s.data.toList.getD (i + 1) 0 = (s.data.toList.drop i).getD 1 0 := by simp
  have g2 : s.data.toList.getD (i + 2) 0 = (s.data.toList.drop i).getD 2 0 := by simp
  have hd : s.size - i = (s.data.toList.drop i).length := by simp
  unfold pre3B pre3
  rw [e, h0, h1, h2, g0, g1, g2, hd, show i + 3 ≤ s.size ↔ 3 ≤ s.size - i by omega, hd]
  generalize s.data.toList.drop i = l
  match l with
  | [] => simp
  | [a] => simp
  | [a, b] => simp
  | a :: b :: c :: l =>
    simp only [List.length_cons, List.take_succ_cons, List.take_zero, Bool.and_eq_true, decide_eq_true_eq, beq_iff_eq, List.cons.injEq, and_true, List.getD_cons_zero, List.getD_cons_succ]
    rw [← UInt8.toNat_inj, ← UInt8.toNat_inj, ← UInt8.toNat_inj]
    rfl

theorem none_eq (s : ByteArray) (i : Nat) : (decide ((Utf8.decode s i).1 = 65533) && !pre3B s i) = noneB s i := by
  rw [Bool.eq_iff_iff, ← none_iff, ← pre3B_iff]
  simp
theorem none_no (s : ByteArray) (i : Nat) (h : (Utf8.decode s i).1 ≠ 65533) : noneB s i = false := by rw [← none_eq]; simp [h]
theorem none_std (s : ByteArray) (i : Nat) (h : (Utf8.decode s i).1 = 65533) : noneB s i = !pre3B s i := by rw [← none_eq]; simp [h]

/-- A piece does not hang on what lies ahead of it. -/
theorem bt_extract (s : ByteArray) (i j : Nat) : bt (s.extract i s.size) j = bt s (i + j) := by
  rw [bt_list, bt_list, Lib.extract_to_end]; simp
theorem decode_extract (s : ByteArray) (i : Nat) : Utf8.decode (s.extract i s.size) 0 = Utf8.decode s i := by
  rw [dec_eq, dec_eq]
  simp only [bt_extract, Nat.zero_add, Nat.add_zero]
  congr 1
  simp
theorem width_pos (s : ByteArray) (i : Nat) (hi : i < s.size) : 1 ≤ (Utf8.decode s i).2 ∧ (Utf8.decode s i).2 ≤ 4 ∧ i + (Utf8.decode s i).2 ≤ s.size := by
  cases h : noneB s i
  · have := piece_rune s i hi h; omega
  · simp only [noneB, beq_iff_eq] at h; rw [h]; simp; omega
end Go.Proofs.YtkckcnjamlpadabDoor

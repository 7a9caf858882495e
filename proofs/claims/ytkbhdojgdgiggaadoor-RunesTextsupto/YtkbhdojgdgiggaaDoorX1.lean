/- Plain mathematics on a text's pieces (as in stage 1): what the model's decoding tells of a piece, and the document's own way to find it. -/
import GoSem.Core.Utf8
import Derived.Lib.RuneBytes
import Derived.Laws.Runes
import Derived.Lib.DecodeN
import Derived.Lib.Strings
import Derived.Lib.IndexBytes
namespace Go.Proofs.YtkbhdojgdgiggaaDoor


theorem valid_iff (r : Int) : Utf8.valid r = true ↔ (0 ≤ r ∧ r < 55296) ∨ (57343 < r ∧ r ≤ 1114111) := by
  rw [validRune_eq]; simp [validRune]

theorem encode_eq (r : Int) (h : Utf8.valid r = true) : Utf8.encode r = ⟨(Lib.encodeRune r).toArray⟩ := by
  have hv := (valid_iff r).1 h
  have aux : ∀ x : Int, x.toNat.toUInt8 = UInt8.ofNat x.toNat := fun _ => rfl
  unfold Utf8.encode Lib.encodeRune
  simp only [h, if_true]
  by_cases c1 : r ≤ 127
  · rw [Lib.encodeRuneZ_one (by omega) c1]
    simp only [List.map_cons, List.map_nil, aux]
    rw [if_pos (by omega)]
  by_cases c2 : r ≤ 2047
  · rw [Lib.encodeRuneZ_two (by omega) c2]
    simp only [List.map_cons, List.map_nil, aux]
    rw [if_neg (by omega), if_pos (by omega), show (192 + r / 64).toNat = 192 + r.toNat / 64 by omega, show (128 + r % 64).toNat = 128 + r.toNat % 64 by omega]
  by_cases c3 : r ≤ 65535
  · rw [Lib.encodeRuneZ_three (by omega)]
    simp only [List.map_cons, List.map_nil, aux]
    rw [if_neg (by omega), if_neg (by omega), if_pos (by omega), show (224 + r / 4096).toNat = 224 + r.toNat / 4096 by omega, show (128 + r / 64 % 64).toNat = 128 + r.toNat / 64 % 64 by omega, show (128 + r % 64).toNat = 128 + r.toNat % 64 by omega]
  · rw [Lib.encodeRuneZ_four (by omega) (by omega)]
    simp only [List.map_cons, List.map_nil, aux]
    rw [if_neg (by omega), if_neg (by omega), if_neg (by omega), show (240 + r / 262144).toNat = 240 + r.toNat / 262144 by omega, show (128 + r / 4096 % 64).toNat = 128 + r.toNat / 4096 % 64 by omega, show (128 + r / 64 % 64).toNat = 128 + r.toNat / 64 % 64 by omega, show (128 + r % 64).toNat = 128 + r.toNat % 64 by omega]

theorem encodeRune_le (r : Int) : 1 ≤ (Lib.encodeRune r).length ∧ (Lib.encodeRune r).length ≤ 4 := by
  have := Lib.runeCells_le r
  rw [Lib.runeCells_length] at this
  exact this



open Go.Lib (decodeN decode_at)

/-- The byte at i, as a number; 0 behind the end. -/
def bt (s : ByteArray) (i : Nat) : Nat := (s.get! i).toNat
theorem bt_lt (s : ByteArray) (i : Nat) : bt s i < 256 := (s.get! i).toNat_lt
theorem bt_get (s : ByteArray) (i : Nat) (h : i < s.size) : bt s i = (s[i]'h).toNat := by
  have : s.get! i = s[i]'h := by simp [ByteArray.get!, getElem!_pos, h]; rfl
  rw [bt, this]
theorem dec_eq (s : ByteArray) (i : Nat) : Utf8.decode s i = decodeN (s.size - i) (bt s i) (bt s (i + 1)) (bt s (i + 2)) (bt s (i + 3)) := decode_at s i

/-- The byte at i is none's. -/
def noneB (s : ByteArray) (i : Nat) : Bool := Utf8.decode s i == (65533, 1)
/-- The three bytes of U+FFFD stand at i. -/
def pre3 (s : ByteArray) (i : Nat) : Prop := i + 3 ≤ s.size ∧ bt s i = 239 ∧ bt s (i + 1) = 191 ∧ bt s (i + 2) = 189

theorem none_iff (s : ByteArray) (i : Nat) : ((Utf8.decode s i).1 = 65533 ∧ ¬ pre3 s i) ↔ noneB s i = true := by
  have b0 := bt_lt s i; have b1 := bt_lt s (i + 1); have b2 := bt_lt s (i + 2); have b3 := bt_lt s (i + 3)
  simp only [noneB, beq_iff_eq, dec_eq, pre3]
  generalize bt s i = x0 at *; generalize bt s (i + 1) = x1 at *; generalize bt s (i + 2) = x2 at *; generalize bt s (i + 3) = x3 at *
  unfold decodeN
  repeat' split
  all_goals simp only [Prod.mk.injEq]
  all_goals constructor
  all_goals first
    | exact fun _ => trivial
    | (intro _; refine ⟨trivial, ?_⟩; rintro ⟨p1, p2, p3, p4⟩; omega)
    | (rintro ⟨h1, h2⟩; refine ⟨h1, ?_⟩; omega)
    | (rintro ⟨h1, h2⟩; refine ⟨h1, ?_⟩; rintro ⟨p1, p2, p3, p4⟩; omega)
    | (rintro ⟨h1, h2⟩; refine absurd ?_ h2; omega)

/-- A piece that is a rune: its number is valid, its bytes are the rune's. -/
theorem piece_rune (s : ByteArray) (i : Nat) (hi : i < s.size) (h : noneB s i = false) :
    Utf8.valid ((Utf8.decode s i).1 : Int) = true ∧ (Utf8.decode s i).2 = (Lib.encodeRune ((Utf8.decode s i).1 : Int)).length ∧ 1 ≤ (Utf8.decode s i).2 ∧ (Utf8.decode s i).2 ≤ 4 ∧ i + (Utf8.decode s i).2 ≤ s.size := by
  have b0 := bt_lt s i; have b1 := bt_lt s (i + 1); have b2 := bt_lt s (i + 2); have b3 := bt_lt s (i + 3)
  rw [← Lib.runeCells_length, valid_iff]
  simp only [noneB, beq_eq_false_iff_ne, dec_eq, Lib.runeCells, List.length_map] at *
  generalize bt s i = x0 at *; generalize bt s (i + 1) = x1 at *; generalize bt s (i + 2) = x2 at *; generalize bt s (i + 3) = x3 at *
  revert h
  unfold decodeN
  repeat' split
  all_goals intro h
  all_goals first
    | (exfalso; exact h rfl)
    | (refine ⟨by omega, ?_, by omega, by omega, by omega⟩
       first
        | (rw [Lib.encodeRuneZ_one (by omega) (by omega)]; rfl)
        | (rw [Lib.encodeRuneZ_two (by omega) (by omega)]; rfl)
        | (rw [Lib.encodeRuneZ_three (by omega)]; rfl)
        | (rw [Lib.encodeRuneZ_four (by omega) (by omega)]; rfl))

theorem bt_list (s : ByteArray) (i : Nat) : bt s i = (s.data.toList.getD i 0).toNat := by
  unfold bt
  by_cases h : i < s.size
  · have : s.get! i = s[i]'h := by simp [ByteArray.get!, getElem!_pos, h]; rfl
    rw [this]
    have h2 := Lib.data_getElem? s i h
    simp [List.getD, h2]
  · have h2 : ¬ i < s.data.size := h
    have : s.get! i = 0 := by
      cases s with | mk d => simp at h2; simp [ByteArray.get!, h2]; rfl
    rw [this]
    have : s.data.toList.length ≤ i := by simpa using h2
    simp only [List.getD, List.getElem?_eq_none this]
    rfl

/-- strings.HasPrefix's own reckoning at the three bytes of U+FFFD, of what lies from a byte on. -/
def pre3B (s : ByteArray) (i : Nat) : Bool := decide (3 ≤ s.size - i) && (((s.extract i s.size).extract 0 3).toList == [239, 191, 189])

theorem pre3B_iff (s : ByteArray) (i : Nat) : pre3B s i = true ↔ pre3 s i := by
  have h0 := bt_list s i; have h1 := bt_list s (i + 1); have h2 := bt_list s (i + 2)
  have hl : s.size = s.data.toList.length := Lib.size_eq s
  have e : ((s.extract i s.size).extract 0 3).toList = (s.data.toList.drop i).take 3 := by
    rw [Lib.extract_toList, Lib.extract_to_end]; simp
  have g0 : s.data.toList.getD i 0 = (s.data.toList.drop i).getD 0 0 := by simp
  have g1 : s.data.toList.getD (i + 1) 0 = (s.data.toList.drop i).getD 1 0 := by simp
  have g2 : s.data.toList.getD (i + 2) 0 = (s.data.toList.drop i).getD 2 0 := by simp
  have hd : s.size - i = (s.data.toList.drop i).length := by simp
  unfold pre3B pre3
  rw [e, h0, h1, h2, g0, g1, g2, hd, show i + 3 ≤ s.size ↔ 3 ≤ s.size - i by omega, hd]
  generalize s.data.toList.drop i = l
  match l with
  | [] => simp
  | [a] => simp
  | [a, b] => simp
  | a :: b :: c :: l =>
    simp only [List.length_cons, List.take_succ_cons, List.take_zero, Bool.and_eq_true, decide_eq_true_eq, beq_iff_eq, List.cons.injEq, and_true, List.getD_cons_zero, List.getD_cons_succ]
    rw [← UInt8.toNat_inj, ← UInt8.toNat_inj, ← UInt8.toNat_inj]
    rfl

theorem none_eq (s : ByteArray) (i : Nat) : (decide ((Utf8.decode s i).1 = 65533) && !pre3B s i) = noneB s i := by
  rw [Bool.eq_iff_iff, ← none_iff, ← pre3B_iff]
  simp
theorem none_no (s : ByteArray) (i : Nat) (h : (Utf8.decode s i).1 ≠ 65533) : noneB s i = false := by rw [← none_eq]; simp [h]
theorem none_std (s : ByteArray) (i : Nat) (h : (Utf8.decode s i).1 = 65533) : noneB s i = !pre3B s i := by rw [← none_eq]; simp [h]

/-- A piece does not hang on what lies ahead of it. -/
theorem bt_extract (s : ByteArray) (i j : Nat) : bt (s.extract i s.size) j = bt s (i + j) := by
  rw [bt_list, bt_list, Lib.extract_to_end]; simp
theorem decode_extract (s : ByteArray) (i : Nat) : Utf8.decode (s.extract i s.size) 0 = Utf8.decode s i := by
  rw [dec_eq, dec_eq]
  simp only [bt_extract, Nat.zero_add, Nat.add_zero]
  congr 1
  simp
theorem width_pos (s : ByteArray) (i : Nat) (hi : i < s.size) : 1 ≤ (Utf8.decode s i).2 ∧ (Utf8.decode s i).2 ≤ 4 ∧ i + (Utf8.decode s i).2 ≤ s.size := by
  cases h : noneB s i
  · have := piece_rune s i hi h; omega
  · simp only [noneB, beq_iff_eq] at h; rw [h]; simp; omega


/-- The number that n bytes from i on would make. -/
def val (s : ByteArray) (i n : Nat) : Nat :=
  if n = 1 then bt s i else if n = 2 then bt s i % 32 * 64 + bt s (i + 1) % 64
  else if n = 3 then (bt s i % 16 * 64 + bt s (i + 1) % 64) * 64 + bt s (i + 2) % 64
  else ((bt s i % 8 * 64 + bt s (i + 1) % 64) * 64 + bt s (i + 2) % 64) * 64 + bt s (i + 3) % 64
theorem val_le (s : ByteArray) (i n : Nat) : val s i n < 2097152 := by
  have b0 := bt_lt s i; have b1 := bt_lt s (i + 1); have b2 := bt_lt s (i + 2); have b3 := bt_lt s (i + 3)
  unfold val
  repeat' split
  all_goals omega
/-- What the first byte gives to it, and what so many bytes more make of it. -/
def v0 (s : ByteArray) (i n : Nat) : Nat := if n = 1 then bt s i else if n = 2 then bt s i % 32 else if n = 3 then bt s i % 16 else bt s i % 8
def vj (s : ByteArray) (i n : Nat) : Nat → Nat
  | 0 => v0 s i n
  | k + 1 => vj s i n k * 64 + bt s (i + (k + 1)) % 64
theorem v0_lt (s : ByteArray) (i n : Nat) : v0 s i n < 256 := by
  have b0 := bt_lt s i
  unfold v0
  repeat' split
  all_goals omega
theorem vj_lt (s : ByteArray) (i n k : Nat) (h : k ≤ 3) : vj s i n k < 67108864 ∧ (k ≤ 2 → vj s i n k < 1048576) := by
  have := v0_lt s i n
  have hk : k = 0 ∨ k = 1 ∨ k = 2 ∨ k = 3 := by omega
  rcases hk with rfl | rfl | rfl | rfl <;> simp only [vj] <;> omega
theorem vj_val (s : ByteArray) (i n : Nat) (h1 : 1 ≤ n) (h4 : n ≤ 4) : vj s i n (n - 1) = val s i n := by
  have hn : n = 1 ∨ n = 2 ∨ n = 3 ∨ n = 4 := by omega
  rcases hn with rfl | rfl | rfl | rfl <;> simp [vj, val, v0]
/-- They are that number's own bytes. -/
def hitB (s : ByteArray) (i n : Nat) : Bool := Utf8.valid (val s i n : Int) && (Lib.encodeRune (val s i n : Int) == (s.extract i (i + n)).toList)

theorem toNat_byte (x : Int) (h1 : x < 256) : (x.toNat.toUInt8).toNat = x.toNat := by simp; omega
theorem enc_nat (r : Int) : (Lib.encodeRune r).map UInt8.toNat = (Lib.encodeRuneZ r).map Int.toNat := by
  simp only [Lib.encodeRune, List.map_map]
  apply List.map_congr_left
  intro x hx
  have h1 := (Lib.encodeRuneZ_byte r x hx).2
  exact toNat_byte x h1
theorem map_inj {a b : List UInt8} (h : a.map UInt8.toNat = b.map UInt8.toNat) : a = b := by
  induction a generalizing b with
  | nil => cases b with
    | nil => rfl
    | cons => simp at h
  | cons x a ih => cases b with
    | nil => simp at h
    | cons y b =>
      simp only [List.map_cons, List.cons.injEq] at h
      rw [ih h.2, UInt8.toNat_inj.1 h.1]
theorem bytes_at (s : ByteArray) (i n : Nat) (h : i + n ≤ s.size) : (s.extract i (i + n)).toList.map UInt8.toNat = (List.range n).map fun j => bt s (i + j) := by
  rw [Lib.extract_toList]
  have hl : s.size = s.data.toList.length := Lib.size_eq s
  apply List.ext_getElem
  · simp only [List.length_map, List.length_take, List.length_drop, List.length_range]; omega
  · intro j h1 h2
    simp only [List.length_map, List.length_range] at h2
    simp only [List.getElem_map, List.getElem_take, List.getElem_drop, List.getElem_range, bt_list]
    rw [List.getD_eq_getElem?_getD, List.getElem?_eq_getElem (by omega)]
    rfl
theorem hit_iff (s : ByteArray) (i n : Nat) (h : i + n ≤ s.size) : hitB s i n = true ↔ Utf8.valid (val s i n : Int) = true ∧ (Lib.encodeRuneZ (val s i n : Int)).map Int.toNat = (List.range n).map fun j => bt s (i + j) := by
  unfold hitB
  rw [Bool.and_eq_true, beq_iff_eq, ← bytes_at s i n h, ← enc_nat]
  exact ⟨fun ⟨a, b⟩ => ⟨a, by rw [b]⟩, fun ⟨a, b⟩ => ⟨a, map_inj b⟩⟩

theorem enc_cases (r : Int) (h : Utf8.valid r = true) : (0 ≤ r ∧ r ≤ 127 ∧ Lib.encodeRuneZ r = [r]) ∨ (128 ≤ r ∧ r ≤ 2047 ∧ Lib.encodeRuneZ r = [192 + r / 64, 128 + r % 64])
    ∨ (2048 ≤ r ∧ r ≤ 65535 ∧ Lib.encodeRuneZ r = [224 + r / 4096, 128 + r / 64 % 64, 128 + r % 64]) ∨ (65536 ≤ r ∧ r ≤ 1114111 ∧ Lib.encodeRuneZ r = [240 + r / 262144, 128 + r / 4096 % 64, 128 + r / 64 % 64, 128 + r % 64]) := by
  have hv := (valid_iff r).1 h
  by_cases c1 : r ≤ 127
  · exact .inl ⟨by omega, c1, Lib.encodeRuneZ_one (by omega) c1⟩
  by_cases c2 : r ≤ 2047
  · exact .inr (.inl ⟨by omega, c2, Lib.encodeRuneZ_two (by omega) c2⟩)
  by_cases c3 : r ≤ 65535
  · exact .inr (.inr (.inl ⟨by omega, c3, Lib.encodeRuneZ_three (by omega)⟩))
  · exact .inr (.inr (.inr ⟨by omega, by omega, Lib.encodeRuneZ_four (by omega) (by omega)⟩))

theorem range_1 : List.range 1 = [0] := rfl
theorem range_2 : List.range 2 = [0, 1] := rfl
theorem range_3 : List.range 3 = [0, 1, 2] := rfl
theorem range_4 : List.range 4 = [0, 1, 2, 3] := rfl

/-- A hit tells the piece. -/
theorem hit_piece (s : ByteArray) (i n : Nat) (h1 : 1 ≤ n) (h4 : n ≤ 4) (hn : i + n ≤ s.size) (h : hitB s i n = true) : Utf8.decode s i = (val s i n, n) ∧ noneB s i = false := by
  obtain ⟨hv, he⟩ := (hit_iff s i n hn).1 h
  have hvv := (valid_iff _).1 hv
  have hc := enc_cases _ hv
  have b0 := bt_lt s i; have b1 := bt_lt s (i + 1); have b2 := bt_lt s (i + 2); have b3 := bt_lt s (i + 3)
  have key : Utf8.decode s i = (val s i n, n) ∧ ((val s i n, n) ≠ (65533, 1)) := by
    have hn' : n = 1 ∨ n = 2 ∨ n = 3 ∨ n = 4 := by omega
    rw [dec_eq]
    rcases hn' with rfl | rfl | rfl | rfl
    · simp only [val, if_true, range_1, List.map_cons, List.map_nil, Nat.add_zero] at *
      generalize bt s i = x0 at *; generalize bt s (i + 1) = x1 at *; generalize bt s (i + 2) = x2 at *; generalize bt s (i + 3) = x3 at *
      rcases hc with ⟨p, q, e⟩ | ⟨p, q, e⟩ | ⟨p, q, e⟩ | ⟨p, q, e⟩ <;> rw [e] at he <;> simp only [List.map_cons, List.map_nil, List.cons.injEq, reduceCtorEq, and_false, and_true] at he
      refine ⟨?_, by simp; omega⟩
      unfold decodeN
      rw [if_pos (by omega)]
    · simp only [val, if_true, range_2, List.map_cons, List.map_nil, Nat.add_zero, show ((2 : Nat) = 1) = False by simp, if_false] at *
      generalize bt s i = x0 at *; generalize bt s (i + 1) = x1 at *; generalize bt s (i + 2) = x2 at *; generalize bt s (i + 3) = x3 at *
      rcases hc with ⟨p, q, e⟩ | ⟨p, q, e⟩ | ⟨p, q, e⟩ | ⟨p, q, e⟩ <;> rw [e] at he <;> simp only [List.map_cons, List.map_nil, List.cons.injEq, reduceCtorEq, and_false, and_true] at he
      refine ⟨?_, by simp⟩
      unfold decodeN
      rw [if_neg (by omega), if_pos (by omega), if_pos (by omega)]
    · simp only [val, if_true, range_3, List.map_cons, List.map_nil, Nat.add_zero, show ((3 : Nat) = 1) = False by simp, show ((3 : Nat) = 2) = False by simp, if_false] at *
      generalize bt s i = x0 at *; generalize bt s (i + 1) = x1 at *; generalize bt s (i + 2) = x2 at *; generalize bt s (i + 3) = x3 at *
      rcases hc with ⟨p, q, e⟩ | ⟨p, q, e⟩ | ⟨p, q, e⟩ | ⟨p, q, e⟩ <;> rw [e] at he <;> simp only [List.map_cons, List.map_nil, List.cons.injEq, reduceCtorEq, and_false, and_true] at he
      refine ⟨?_, by simp⟩
      unfold decodeN
      rw [if_neg (by omega), if_neg (by omega), if_pos (by omega), if_pos (by omega)]
      refine Prod.ext ?_ rfl
      show _ = _
      omega
    · simp only [val, range_4, List.map_cons, List.map_nil, Nat.add_zero, show ((4 : Nat) = 1) = False by simp, show ((4 : Nat) = 2) = False by simp, show ((4 : Nat) = 3) = False by simp, if_false] at *
      generalize bt s i = x0 at *; generalize bt s (i + 1) = x1 at *; generalize bt s (i + 2) = x2 at *; generalize bt s (i + 3) = x3 at *
      rcases hc with ⟨p, q, e⟩ | ⟨p, q, e⟩ | ⟨p, q, e⟩ | ⟨p, q, e⟩ <;> rw [e] at he <;> simp only [List.map_cons, List.map_nil, List.cons.injEq, reduceCtorEq, and_false, and_true] at he
      refine ⟨?_, by simp⟩
      unfold decodeN
      rw [if_neg (by omega), if_neg (by omega), if_neg (by omega), if_pos (by omega), if_pos (by omega)]
      refine Prod.ext ?_ rfl
      show _ = _
      omega
  refine ⟨key.1, ?_⟩
  simp only [noneB, key.1, beq_eq_false_iff_ne]
  exact key.2

theorem dec_cases (n b0 b1 b2 b3 : Nat) (h : decodeN n b0 b1 b2 b3 ≠ (65533, 1)) :
    (b0 < 128 ∧ decodeN n b0 b1 b2 b3 = (b0, 1)) ∨ (b0 / 32 = 6 ∧ b1 / 64 = 2 ∧ 128 ≤ b0 % 32 * 64 + b1 % 64 ∧ decodeN n b0 b1 b2 b3 = (b0 % 32 * 64 + b1 % 64, 2))
    ∨ (b0 / 16 = 14 ∧ b1 / 64 = 2 ∧ b2 / 64 = 2 ∧ 2048 ≤ b0 % 16 * 4096 + b1 % 64 * 64 + b2 % 64 ∧ decodeN n b0 b1 b2 b3 = (b0 % 16 * 4096 + b1 % 64 * 64 + b2 % 64, 3))
    ∨ (b0 / 8 = 30 ∧ b1 / 64 = 2 ∧ b2 / 64 = 2 ∧ b3 / 64 = 2 ∧ 65536 ≤ b0 % 8 * 262144 + b1 % 64 * 4096 + b2 % 64 * 64 + b3 % 64 ∧ b0 % 8 * 262144 + b1 % 64 * 4096 + b2 % 64 * 64 + b3 % 64 ≤ 1114111 ∧ decodeN n b0 b1 b2 b3 = (b0 % 8 * 262144 + b1 % 64 * 4096 + b2 % 64 * 64 + b3 % 64, 4)) := by
  by_cases c1 : b0 < 128
  · exact .inl ⟨c1, by unfold decodeN; rw [if_pos c1]⟩
  by_cases c2 : b0 / 32 = 6 ∧ (1 < n ∧ b1 / 64 = 2)
  · have e : decodeN n b0 b1 b2 b3 = if b0 % 32 * 64 + b1 % 64 ≥ 128 then (b0 % 32 * 64 + b1 % 64, 2) else (65533, 1) := by unfold decodeN; rw [if_neg c1, if_pos c2]
    by_cases d : b0 % 32 * 64 + b1 % 64 ≥ 128
    · exact .inr (.inl ⟨c2.1, c2.2.2, d, by rw [e, if_pos d]⟩)
    · exact absurd (by rw [e, if_neg d]) h
  by_cases c3 : b0 / 16 = 14 ∧ (1 < n ∧ b1 / 64 = 2) ∧ (2 < n ∧ b2 / 64 = 2)
  · have e : decodeN n b0 b1 b2 b3 = if b0 % 16 * 4096 + b1 % 64 * 64 + b2 % 64 ≥ 2048 ∧ (b0 % 16 * 4096 + b1 % 64 * 64 + b2 % 64 < 55296 ∨ (57344 ≤ b0 % 16 * 4096 + b1 % 64 * 64 + b2 % 64 ∧ b0 % 16 * 4096 + b1 % 64 * 64 + b2 % 64 ≤ 1114111)) then (b0 % 16 * 4096 + b1 % 64 * 64 + b2 % 64, 3) else (65533, 1) := by unfold decodeN; rw [if_neg c1, if_neg c2, if_pos c3]
    by_cases d : b0 % 16 * 4096 + b1 % 64 * 64 + b2 % 64 ≥ 2048 ∧ (b0 % 16 * 4096 + b1 % 64 * 64 + b2 % 64 < 55296 ∨ (57344 ≤ b0 % 16 * 4096 + b1 % 64 * 64 + b2 % 64 ∧ b0 % 16 * 4096 + b1 % 64 * 64 + b2 % 64 ≤ 1114111))
    · exact .inr (.inr (.inl ⟨c3.1, c3.2.1.2, c3.2.2.2, d.1, by rw [e, if_pos d]⟩))
    · exact absurd (by rw [e, if_neg d]) h
  by_cases c4 : b0 / 8 = 30 ∧ (1 < n ∧ b1 / 64 = 2) ∧ (2 < n ∧ b2 / 64 = 2) ∧ (3 < n ∧ b3 / 64 = 2)
  · have e : decodeN n b0 b1 b2 b3 = if b0 % 8 * 262144 + b1 % 64 * 4096 + b2 % 64 * 64 + b3 % 64 ≥ 65536 ∧ (b0 % 8 * 262144 + b1 % 64 * 4096 + b2 % 64 * 64 + b3 % 64 < 55296 ∨ (57344 ≤ b0 % 8 * 262144 + b1 % 64 * 4096 + b2 % 64 * 64 + b3 % 64 ∧ b0 % 8 * 262144 + b1 % 64 * 4096 + b2 % 64 * 64 + b3 % 64 ≤ 1114111)) then (b0 % 8 * 262144 + b1 % 64 * 4096 + b2 % 64 * 64 + b3 % 64, 4) else (65533, 1) := by unfold decodeN; rw [if_neg c1, if_neg c2, if_neg c3, if_pos c4]
    by_cases d : b0 % 8 * 262144 + b1 % 64 * 4096 + b2 % 64 * 64 + b3 % 64 ≥ 65536 ∧ (b0 % 8 * 262144 + b1 % 64 * 4096 + b2 % 64 * 64 + b3 % 64 < 55296 ∨ (57344 ≤ b0 % 8 * 262144 + b1 % 64 * 4096 + b2 % 64 * 64 + b3 % 64 ∧ b0 % 8 * 262144 + b1 % 64 * 4096 + b2 % 64 * 64 + b3 % 64 ≤ 1114111))
    · exact .inr (.inr (.inr ⟨c4.1, c4.2.1.2, c4.2.2.1.2, c4.2.2.2.2, d.1, by omega, by rw [e, if_pos d]⟩))
    · exact absurd (by rw [e, if_neg d]) h
  · exact absurd (by unfold decodeN; rw [if_neg c1, if_neg c2, if_neg c3, if_neg c4]) h

/-- A piece that is a rune is hit. -/
theorem piece_hit (s : ByteArray) (i : Nat) (hi : i < s.size) (h : noneB s i = false) : val s i (Utf8.decode s i).2 = (Utf8.decode s i).1 ∧ hitB s i (Utf8.decode s i).2 = true := by
  obtain ⟨hv, hl, h1, h4, hn⟩ := piece_rune s i hi h
  have b0 := bt_lt s i; have b1 := bt_lt s (i + 1); have b2 := bt_lt s (i + 2); have b3 := bt_lt s (i + 3)
  suffices hs : val s i (Utf8.decode s i).2 = (Utf8.decode s i).1 ∧ (Lib.encodeRuneZ ((Utf8.decode s i).1 : Int)).map Int.toNat = (List.range (Utf8.decode s i).2).map fun j => bt s (i + j) by
    refine ⟨hs.1, ?_⟩
    rw [hit_iff s i _ hn, hs.1]
    exact ⟨hv, hs.2⟩
  have hvv := (valid_iff _).1 hv
  have h' : Utf8.decode s i ≠ (65533, 1) := by simpa only [noneB, beq_eq_false_iff_ne] using h
  rw [dec_eq] at h'
  have hd := dec_cases _ _ _ _ _ h'
  rw [← dec_eq] at hd
  clear hl hv h h'
  rcases hd with ⟨p0, e⟩ | ⟨p0, p1, p2, e⟩ | ⟨p0, p1, p2, p3, e⟩ | ⟨p0, p1, p2, p3, p4, p5, e⟩
  all_goals rw [e] at hvv
  all_goals rw [e]
  all_goals simp only at hvv
  · refine ⟨by simp [val], ?_⟩
    rw [Lib.encodeRuneZ_one (by omega) (by omega)]
    simp
  · refine ⟨by simp [val], ?_⟩
    rw [Lib.encodeRuneZ_two (by omega) (by omega)]
    simp only [range_2, List.map_cons, List.map_nil, Nat.add_zero, List.cons.injEq, and_true]
    omega
  · refine ⟨by simp only [val]; rw [if_neg (by omega), if_neg (by omega), if_pos trivial]; omega, ?_⟩
    rw [Lib.encodeRuneZ_three (by omega)]
    simp only [range_3, List.map_cons, List.map_nil, Nat.add_zero, List.cons.injEq, and_true]
    omega
  · refine ⟨by simp only [val]; rw [if_neg (by omega), if_neg (by omega), if_neg (by omega)]; omega, ?_⟩
    rw [Lib.encodeRuneZ_four (by omega) (by omega)]
    simp only [range_4, List.map_cons, List.map_nil, Nat.add_zero, List.cons.injEq, and_true]
    omega
/-- Where nothing is hit, the byte is none's. -/
theorem no_hit (s : ByteArray) (i : Nat) (hi : i < s.size) (h : ∀ n, 1 ≤ n → n ≤ 4 → i + n ≤ s.size → hitB s i n = false) : noneB s i = true := by
  cases hn : noneB s i
  · obtain ⟨_, _, h1, h4, hle⟩ := piece_rune s i hi hn
    have := (piece_hit s i hi hn).2
    rw [h _ h1 h4 hle] at this
    cases this
  · rfl
def nextT (s : ByteArray) (at_ : Int) : Int × Int × Bool :=
  if at_ < 0 ∨ (s.size : Int) ≤ at_ then (0, 0, false) else if noneB s at_.toNat then (0, 1, false) else ((Utf8.decode s at_.toNat).1, (Utf8.decode s at_.toNat).2, true)
def nextV (s : ByteArray) (at_ : Int) : Value := .tuple #[.int .i32 (nextT s at_).1, .int .i64 (nextT s at_).2.1, .bool (nextT s at_).2.2]
theorem nextT_out (s : ByteArray) (a : Int) (h : a < 0 ∨ (s.size : Int) ≤ a) : nextT s a = (0, 0, false) := if_pos h
theorem nextT_none (s : ByteArray) (i : Nat) (h : i < s.size) (hn : noneB s i = true) : nextT s i = (0, 1, false) := by
  unfold nextT; rw [if_neg (by omega)]; simp [hn]
theorem nextT_rune (s : ByteArray) (i : Nat) (h : i < s.size) (hn : noneB s i = false) : nextT s i = (((Utf8.decode s i).1 : Int), ((Utf8.decode s i).2 : Int), true) := by
  unfold nextT; rw [if_neg (by omega)]; simp [hn]

end Go.Proofs.YtkbhdojgdgiggaaDoor

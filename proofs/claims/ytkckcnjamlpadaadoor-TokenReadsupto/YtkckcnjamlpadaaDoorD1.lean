/- Plain mathematics: the document's own way to find a piece (as in stage 1). -/
import Derived.Test.YtkckcnjamlpadaaDoorQ1
import Derived.Lib.DecodeN
import Derived.Lib.Strings
import Derived.Lib.IndexBytes
namespace Go.Proofs.YtkckcnjamlpadaaDoor

open Go.Lib (decodeN)

/-- The number that n bytes from i on would make. -/
def val (s : ByteArray) (i n : Nat) : Nat :=
  if n = 1 then bt s i else if n = 2 then bt s i % 32 * 64 + bt s (i + 1) % 64
  else if n = 3 then (bt s i % 16 * 64 + bt s (i + 1) % 64) * 64 + bt s (i + 2) % 64
  else ((bt s i % 8 * 64 + bt s (i + 1) % 64) * 64 + bt s (i + 2) % 64) * 64 + bt s (i + 3) % 64
theorem val_le (s : ByteArray) (i n : Nat) : val s i n < 2097152 := by
  have b0 := bt_lt s i; have b1 := bt_lt s (i + 1); have b2 := bt_lt s (i + 2); have b3 := bt_lt s (i + 3)
  unfold val
  repeat' split
  all_goals omega
/-- What the first byte gives to it, and what so many bytes more make of it. -/
def v0 (s : ByteArray) (i n : Nat) : Nat := if n = 1 then bt s i else if n = 2 then bt s i % 32 else if n = 3 then bt s i % 16 else bt s i % 8
def vj (s : ByteArray) (i n : Nat) : Nat → Nat
  | 0 => v0 s i n
  | k + 1 => vj s i n k * 64 + bt s (i + (k + 1)) % 64
theorem v0_lt (s : ByteArray) (i n : Nat) : v0 s i n < 256 := by
  have b0 := bt_lt s i
  unfold v0
  repeat' split
  all_goals omega
theorem vj_lt (s : ByteArray) (i n k : Nat) (h : k ≤ 3) : vj s i n k < 67108864 ∧ (k ≤ 2 → vj s i n k < 1048576) := by
  have := v0_lt s i n
  have hk : k = 0 ∨ k = 1 ∨ k = 2 ∨ k = 3 := by omega
  rcases hk with rfl | rfl | rfl | rfl <;> simp only [vj] <;> omega
theorem vj_val (s : ByteArray) (i n : Nat) (h1 : 1 ≤ n) (h4 : n ≤ 4) : vj s i n (n - 1) = val s i n := by
  have hn : n = 1 ∨ n = 2 ∨ n = 3 ∨ n = 4 := by omega
  rcases hn with rfl | rfl | rfl | rfl <;> simp [vj, val, v0]
/-- They are that number's own bytes. -/
def hitB (s : ByteArray) (i n : Nat) : Bool := Utf8.valid (val s i n : Int) && (Lib.encodeRune (val s i n : Int) == (s.extract i (i + n)).toList)

theorem toNat_byte (x : Int) (h1 : x < 256) : (x.toNat.toUInt8).toNat = x.toNat := by simp; omega
theorem enc_nat (r : Int) : (Lib.encodeRune r).map UInt8.toNat = (Lib.encodeRuneZ r).map Int.toNat := by
  simp only [Lib.encodeRune, List.map_map]
  apply List.map_congr_left
  intro x hx
  have h1 := (Lib.encodeRuneZ_byte r x hx).2
  exact toNat_byte x h1
theorem map_inj {a b : List UInt8} (h : a.map UInt8.toNat = b.map UInt8.toNat) : a = b := by
  induction a generalizing b with
  | nil => cases b with
    | nil => rfl
    | cons => simp at h
  | cons x a ih => cases b with
    | nil => simp at h
    | cons y b =>
      simp only [List.map_cons, List.cons.injEq] at h
      rw [ih h.2, UInt8.toNat_inj.1 h.1]
theorem bytes_at (s : ByteArray) (i n : Nat) (h : i + n ≤ s.size) : (s.extract i (i + n)).toList.map UInt8.toNat = (List.range n).map fun j => bt s (i + j) := by
  rw [Lib.extract_toList]
  have hl : s.size = s.data.toList.length := Lib.size_eq s
  apply List.ext_getElem
  · simp only [List.length_map, List.length_take, List.length_drop, List.length_range]; omega
  · intro j h1 h2
    simp only [List.length_map, List.length_range] at h2
    simp only [List.getElem_map, List.getElem_take, List.getElem_drop, List.getElem_range, bt_list]
    rw [List.getD_eq_getElem?_getD, List.getElem?_eq_getElem (by omega)]
    rfl
theorem hit_iff (s : ByteArray) (i n : Nat) (h : i + n ≤ s.size) : hitB s i n = true ↔ Utf8.valid (val s i n : Int) = true ∧ (Lib.encodeRuneZ (val s i n : Int)).map Int.toNat = (List.range n).map fun j => bt s (i + j) := by
  unfold hitB
  rw [Bool.and_eq_true, beq_iff_eq, ← bytes_at s i n h, ← enc_nat]
  exact ⟨fun ⟨a, b⟩ => ⟨a, by rw [b]⟩, fun ⟨a, b⟩ => ⟨a, map_inj b⟩⟩

theorem enc_cases (r : Int) (h : Utf8.valid r = true) : (0 ≤ r ∧ r ≤ 127 ∧ Lib.encodeRuneZ r = [r]) ∨ (128 ≤ r ∧ r ≤ 2047 ∧ Lib.encodeRuneZ r = [192 + r / 64, 128 + r % 64])
    ∨ (2048 ≤ r ∧ r ≤ 65535 ∧ Lib.encodeRuneZ r = [224 + r / 4096, 128 + r / 64 % 64, 128 + r % 64]) ∨ (65536 ≤ r ∧ r ≤ 1114111 ∧ Lib.encodeRuneZ r = [240 + r / 262144, 128 + r / 4096 % 64, 128 + r / 64 % 64, 128 + r % 64]) := by
  have hv := (valid_iff r).1 h
  by_cases c1 : r ≤ 127
  · exact .inl ⟨by omega, c1, Lib.encodeRuneZ_one (by omega) c1⟩
  by_cases c2 : r ≤ 2047
  · exact .inr (.inl ⟨by omega, c2, Lib.encodeRuneZ_two (by omega) c2⟩)
  by_cases c3 : r ≤ 65535
  · exact .inr (.inr (.inl ⟨by omega, c3, Lib.encodeRuneZ_three (by omega)⟩))
  · exact .inr (.inr (.inr ⟨by omega, by omega, Lib.encodeRuneZ_four (by omega) (by omega)⟩))

theorem range_1 : List.range 1 = [0] := rfl
theorem range_2 : List.range 2 = [0, 1] := rfl
theorem range_3 : List.range 3 = [0, 1, 2] := rfl
theorem range_4 : List.range 4 = [0, 1, 2, 3] := rfl

/-- A hit tells the piece. -/
theorem hit_piece (s : ByteArray) (i n : Nat) (h1 : 1 ≤ n) (h4 : n ≤ 4) (hn : i + n ≤ s.size) (h : hitB s i n = true) : Utf8.decode s i = (val s i n, n) ∧ noneB s i = false := by
  obtain ⟨hv, he⟩ := (hit_iff s i n hn).1 h
  have hvv := (valid_iff _).1 hv
  have hc := enc_cases _ hv
  have b0 := bt_lt s i; have b1 := bt_lt s (i + 1); have b2 := bt_lt s (i + 2); have b3 := bt_lt s (i + 3)
  have key : Utf8.decode s i = (val s i n, n) ∧ ((val s i n, n) ≠ (65533, 1)) := by
    have hn' : n = 1 ∨ n = 2 ∨ n = 3 ∨ n = 4 := by omega
    rw [dec_eq]
    rcases hn' with rfl | rfl | rfl | rfl
    · simp only [val, if_true, range_1, List.map_cons, List.map_nil, Nat.add_zero] at *
      generalize bt s i = x0 at *; generalize bt s (i + 1) = x1 at *; generalize bt s (i + 2) = x2 at *; generalize bt s (i + 3) = x3 at *
      rcases hc with ⟨p, q, e⟩ | ⟨p, q, e⟩ | ⟨p, q, e⟩ | ⟨p, q, e⟩ <;> rw [e] at he <;> simp only [List.map_cons, List.map_nil, List.cons.injEq, reduceCtorEq, and_false, and_true] at he
      refine ⟨?_, by simp; omega⟩
      unfold decodeN
      rw [if_pos (by omega)]
    · simp only [val, if_true, range_2, List.map_cons, List.map_nil, Nat.add_zero, show ((2 : Nat) = 1) = False by simp, if_false] at *
      generalize bt s i = x0 at *; generalize bt s (i + 1) = x1 at *; generalize bt s (i + 2) = x2 at *; generalize bt s (i + 3) = x3 at *
      rcases hc with ⟨p, q, e⟩ | ⟨p, q, e⟩ | ⟨p, q, e⟩ | ⟨p, q, e⟩ <;> rw [e] at he <;> simp only [List.map_cons, List.map_nil, List.cons.injEq, reduceCtorEq, and_false, and_true] at he
      refine ⟨?_, by simp⟩
      unfold decodeN
      rw [if_neg (by omega), if_pos (by omega), if_pos (by omega)]
    · simp only [val, if_true, range_3, List.map_cons, List.map_nil, Nat.add_zero, show ((3 : Nat) = 1) = False by simp, show ((3 : Nat) = 2) = False by simp, if_false] at *
      generalize bt s i = x0 at *; generalize bt s (i + 1) = x1 at *; generalize bt s (i + 2) = x2 at *; generalize bt s (i + 3) = x3 at *
      rcases hc with ⟨p, q, e⟩ | ⟨p, q, e⟩ | ⟨p, q, e⟩ | ⟨p, q, e⟩ <;> rw [e] at he <;> simp only [List.map_cons, List.map_nil, List.cons.injEq, reduceCtorEq, and_false, and_true] at he
      refine ⟨?_, by simp⟩
      unfold decodeN
      rw [if_neg (by omega), if_neg (by omega), if_pos (by omega), if_pos (by omega)]
      refine Prod.ext ?_ rfl
      show _ = _
      omega
    · simp only [val, range_4, List.map_cons, List.map_nil, Nat.add_zero, show ((4 : Nat) = 1) = False by simp, show ((4 : Nat) = 2) = False by simp, show ((4 : Nat) = 3) = False by simp, if_false] at *
      generalize bt s i = x0 at *; generalize bt s (i + 1) = x1 at *; generalize bt s (i + 2) = x2 at *; generalize bt s (i + 3) = x3 at *
      rcases hc with ⟨p, q, e⟩ | ⟨p, q, e⟩ | ⟨p, q, e⟩ | ⟨p, q, e⟩ <;> rw [e] at he <;> simp only [List.map_cons, List.map_nil, List.cons.injEq, reduceCtorEq, and_false, and_true] at he
      refine ⟨?_, by simp⟩
      unfold decodeN
      rw [if_neg (by omega), if_neg (by omega), if_neg (by omega), if_pos (by omega), if_pos (by omega)]
      refine Prod.ext ?_ rfl
      show _ = _
      omega
  refine ⟨key.1, ?_⟩
  simp only [noneB, key.1, beq_eq_false_iff_ne]
  exact key.2

theorem dec_cases (n b0 b1 b2 b3 : Nat) (h : decodeN n b0 b1 b2 b3 ≠ (65533, 1)) :
    (b0 < 128 ∧ decodeN n b0 b1 b2 b3 = (b0, 1)) ∨ (b0 / 32 = 6 ∧ b1 / 64 = 2 ∧ 128 ≤ b0 % 32 * 64 + b1 % 64 ∧ decodeN n b0 b1 b2 b3 = (b0 % 32 * 64 + b1 % 64, 2))
    ∨ (b0 / 16 = 14 ∧ b1 / 64 = 2 ∧ b2 / 64 = 2 ∧ 2048 ≤ b0 % 16 * 4096 + b1 % 64 * 64 + b2 % 64 ∧ decodeN n b0 b1 b2 b3 = (b0 % 16 * 4096 + b1 % 64 * 64 + b2 % 64, 3))
    ∨ (b0 / 8 = 30 ∧ b1 / 64 = 2 ∧ b2 / 64 = 2 ∧ b3 / 64 = 2 ∧ 65536 ≤ b0 % 8 * 262144 + b1 % 64 * 4096 + b2 % 64 * 64 + b3 % 64 ∧ b0 % 8 * 262144 + b1 % 64 * 4096 + b2 % 64 * 64 + b3 % 64 ≤ 1114111 ∧ decodeN n b0 b1 b2 b3 = (b0 % 8 * 262144 + b1 % 64 * 4096 + b2 % 64 * 64 + b3 % 64, 4)) := by
  by_cases c1 : b0 < 128
  · exact .inl ⟨c1, by unfold decodeN; rw [if_pos c1]⟩
  by_cases c2 : b0 / 32 = 6 ∧ (1 < n ∧ b1 / 64 = 2)
  · have e : decodeN n b0 b1 b2 b3 = if b0 % 32 * 64 + b1 % 64 ≥ 128 then (b0 % 32 * 64 + b1 % 64, 2) else (65533, 1) := by unfold decodeN; rw [if_neg c1, if_pos c2]
    by_cases d : b0 % 32 * 64 + b1 % 64 ≥ 128
    · exact .inr (.inl ⟨c2.1, c2.2.2, d, by rw [e, if_pos d]⟩)
    · exact absurd (by rw [e, if_neg d]) h
  by_cases c3 : b0 / 16 = 14 ∧ (1 < n ∧ b1 / 64 = 2) ∧ (2 < n ∧ b2 / 64 = 2)
  · have e : decodeN n b0 b1 b2 b3 = if b0 % 16 * 4096 + b1 % 64 * 64 + b2 % 64 ≥ 2048 ∧ (b0 % 16 * 4096 + b1 % 64 * 64 + b2 % 64 < 55296 ∨ (57344 ≤ b0 % 16 * 4096 + b1 % 64 * 64 + b2 % 64 ∧ b0 % 16 * 4096 + b1 % 64 * 64 + b2 % 64 ≤ 1114111)) then (b0 % 16 * 4096 + b1 % 64 * 64 + b2 % 64, 3) else (65533, 1) := by unfold decodeN; rw [if_neg c1, if_neg c2, if_pos c3]
    by_cases d : b0 % 16 * 4096 + b1 % 64 * 64 + b2 % 64 ≥ 2048 ∧ (b0 % 16 * 4096 + b1 % 64 * 64 + b2 % 64 < 55296 ∨ (57344 ≤ b0 % 16 * 4096 + b1 % 64 * 64 + b2 % 64 ∧ b0 % 16 * 4096 + b1 % 64 * 64 + b2 % 64 ≤ 1114111))
    · exact .inr (.inr (.inl ⟨c3.1, c3.2.1.2, c3.2.2.2, d.1, by rw [e, if_pos d]⟩))
    · exact absurd (by rw [e, if_neg d]) h
  by_cases c4 : b0 / 8 = 30 ∧ (1 < n ∧ b1 / 64 = 2) ∧ (2 < n ∧ b2 / 64 = 2) ∧ (3 < n ∧ b3 / 64 = 2)
  · have e : decodeN n b0 b1 b2 b3 = if b0 % 8 * 262144 + b1 % 64 * 4096 + b2 % 64 * 64 + b3 % 64 ≥ 65536 ∧ (b0 % 8 * 262144 + b1 % 64 * 4096 + b2 % 64 * 64 + b3 % 64 < 55296 ∨ (57344 ≤ b0 % 8 * 262144 + b1 % 64 * 4096 + b2 % 64 * 64 + b3 % 64 ∧ b0 % 8 * 262144 + b1 % 64 * 4096 + b2 % 64 * 64 + b3 % 64 ≤ 1114111)) then (b0 % 8 * 262144 + b1 % 64 * 4096 + b2 % 64 * 64 + b3 % 64, 4) else (65533, 1) := by unfold decodeN; rw [if_neg c1, if_neg c2, if_neg c3, if_pos c4]
    by_cases d : b0 % 8 * 262144 + b1 % 64 * 4096 + b2 % 64 * 64 + b3 % 64 ≥ 65536 ∧ (b0 % 8 * 262144 + b1 % 64 * 4096 + b2 % 64 * 64 + b3 % 64 < 55296 ∨ (57344 ≤ b0 % 8 * 262144 + b1 % 64 * 4096 + b2 % 64 * 64 + b3 % 64 ∧ b0 % 8 * 262144 + b1 % 64 * 4096 + b2 % 64 * 64 + b3 % 64 ≤ 1114111))
    · exact .inr (.inr (.inr ⟨c4.1, c4.2.1.2, c4.2.2.1.2, c4.2.2.2.2, d.1, by omega, by rw [e, if_pos d]⟩))
    · exact absurd (by rw [e, if_neg d]) h
  · exact absurd (by unfold decodeN; rw [if_neg c1, if_neg c2, if_neg c3, if_neg c4]) h

/-- A piece that is a rune is hit. -/
theorem piece_hit (s : ByteArray) (i : Nat) (hi : i < s.size) (h : noneB s i = false) : val s i (Utf8.decode s i).2 = (Utf8.decode s i).1 ∧ hitB s i (Utf8.decode s i).2 = true := by
  obtain ⟨hv, hl, h1, h4, hn⟩ := piece_rune s i hi h
  have b0 := bt_lt s i; have b1 := bt_lt s (i + 1); have b2 := bt_lt s (i + 2); have b3 := bt_lt s (i + 3)
  suffices hs : val s i (Utf8.decode s i).2 = (Utf8.decode s i).1 ∧ (Lib.encodeRuneZ ((Utf8.decode s i).1 : Int)).map Int.toNat = (List.range (Utf8.decode s i).2).map fun j => bt s (i + j) by
    refine ⟨hs.1, ?_⟩
    rw [hit_iff s i _ hn, hs.1]
    exact ⟨hv, hs.2⟩
  have hvv := (valid_iff _).1 hv
  have h' : Utf8.decode s i ≠ (65533, 1) := by simpa only [noneB, beq_eq_false_iff_ne] using h
  rw [dec_eq] at h'
  have hd := dec_cases _ _ _ _ _ h'
  rw [← dec_eq] at hd
  clear hl hv h h'
  rcases hd with ⟨p0, e⟩ | ⟨p0, p1, p2, e⟩ | ⟨p0, p1, p2, p3, e⟩ | ⟨p0, p1, p2, p3, p4, p5, e⟩
  all_goals rw [e] at hvv
  all_goals rw [e]
  all_goals simp only at hvv
  · refine ⟨by simp [val], ?_⟩
    rw [Lib.encodeRuneZ_one (by omega) (by omega)]
    simp
  · refine ⟨by simp [val], ?_⟩
    rw [Lib.encodeRuneZ_two (by omega) (by omega)]
    simp only [range_2, List.map_cons, List.map_nil, Nat.add_zero, List.cons.injEq, and_true]
    omega
  · refine ⟨by simp only [val]; rw [if_neg (by omega), if_neg (by omega), if_pos trivial]; omega, ?_⟩
    rw [Lib.encodeRuneZ_three (by omega)]
    simp only [range_3, List.map_cons, List.map_nil, Nat.add_zero, List.cons.injEq, and_true]
    omega
  · refine ⟨by simp only [val]; rw [if_neg (by omega), if_neg (by omega), if_neg (by omega)]; omega, ?_⟩
    rw [Lib.encodeRuneZ_four (by omega) (by omega)]
    simp only [range_4, List.map_cons, List.map_nil, Nat.add_zero, List.cons.injEq, and_true]
    omega
/-- Where nothing is hit, the byte is none's. -/
theorem no_hit (s : ByteArray) (i : Nat) (hi : i < s.size) (h : ∀ n, 1 ≤ n → n ≤ 4 → i + n ≤ s.size → hitB s i n = false) : noneB s i = true := by
  cases hn : noneB s i
  · obtain ⟨_, _, h1, h4, hle⟩ := piece_rune s i hi hn
    have := (piece_hit s i hi hn).2
    rw [h _ h1 h4 hle] at this
    cases this
  · rfl
def nextT (s : ByteArray) (at_ : Int) : Int × Int × Bool :=
  if at_ < 0 ∨ (s.size : Int) ≤ at_ then (0, 0, false) else if noneB s at_.toNat then (0, 1, false) else ((Utf8.decode s at_.toNat).1, (Utf8.decode s at_.toNat).2, true)
def nextV (s : ByteArray) (at_ : Int) : Value := .tuple #[.int .i32 (nextT s at_).1, .int .i64 (nextT s at_).2.1, .bool (nextT s at_).2.2]
theorem nextT_out (s : ByteArray) (a : Int) (h : a < 0 ∨ (s.size : Int) ≤ a) : nextT s a = (0, 0, false) := if_pos h
theorem nextT_none (s : ByteArray) (i : Nat) (h : i < s.size) (hn : noneB s i = true) : nextT s i = (0, 1, false) := by
  unfold nextT; rw [if_neg (by omega)]; simp [hn]
theorem nextT_rune (s : ByteArray) (i : Nat) (h : i < s.size) (hn : noneB s i = false) : nextT s i = (((Utf8.decode s i).1 : Int), ((Utf8.decode s i).2 : Int), true) := by
  unfold nextT; rw [if_neg (by omega)]; simp [hn]


end Go.Proofs.YtkckcnjamlpadaaDoor

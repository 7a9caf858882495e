/- OnesCount64 counts the bits of any word. (and what it leads to) -/
import Derived.Test.YtagohbpbgjelaaaGreatDoorWkT3
/- OnesCount64 counts the bits of any word. -/
namespace Go.Proofs.YtagohbpbgjelaaaGreatDoor.Wk
open Go.RowKit Go.Maps

/-- One step of the count, at a word of bytes: what it does to one byte. -/
def s1 (a : Nat) : Nat := (a / 2 &&& 85) + (a &&& 85)
def s2 (a : Nat) : Nat := (a / 4 &&& 51) + (a &&& 51)
def s3 (a : Nat) : Nat := (a / 16 + a) &&& 15
/-- The bits of a byte. -/
def pop8 (a : Nat) : Nat := ((List.range 8).filter fun i => a.testBit i).length
set_option maxRecDepth 100000 in
theorem s123 : ∀ a : Fin 256, s3 (s2 (s1 a.val)) = pop8 a.val ∧ s1 a.val < 256 ∧ s2 (s1 a.val) < 256 := by decide +kernel

/-- A word out of bytes, the lowest first. -/
def word : List Nat → Nat
  | [] => 0
  | a :: l => a + 256 * word l
set_option maxRecDepth 100000 in
theorem word_lt : ∀ (l : List Nat), (∀ a ∈ l, a < 256) → word l < 256 ^ l.length
  | [], _ => by decide
  | a :: l, h => by
    have := word_lt l (fun x hx => h x (List.mem_cons_of_mem _ hx))
    have ha := h a (by simp)
    rw [List.length_cons, Nat.pow_succ]
    show a + 256 * word l < _
    omega
set_option maxRecDepth 100000 in
theorem word_bit (a W i : Nat) (ha : a < 256) : (a + 256 * W).testBit i = if i < 8 then a.testBit i else W.testBit (i - 8) := by
  have := Nat.testBit_two_pow_mul_add W (b := a) (i := 8) ha i
  rw [show (2 : Nat) ^ 8 = 256 from rfl] at this
  rw [Nat.add_comm, this]
set_option maxRecDepth 100000 in
theorem and_word (a b A B : Nat) (ha : a < 256) (hb : b < 256) : (a + 256 * A) &&& (b + 256 * B) = (a &&& b) + 256 * (A &&& B) := by
  apply Nat.eq_of_testBit_eq
  intro i
  have hab : a &&& b < 256 := Nat.lt_of_le_of_lt Nat.and_le_left ha
  rw [Nat.testBit_and, word_bit a A i ha, word_bit b B i hb, word_bit _ _ i hab]
  by_cases h : i < 8
  · rw [if_pos h, if_pos h, if_pos h, Nat.testBit_and]
  · rw [if_neg h, if_neg h, if_neg h, Nat.testBit_and]
set_option maxRecDepth 100000 in
/-- The shifts do not reach over into what the mask keeps. -/
theorem shr_word (a A b k : Nat) (ha : a < 256) (hk : k ≤ 8) (hb : b < 2 ^ (8 - k)) (B : Nat) : ((a + 256 * A) / 2 ^ k) &&& (b + 256 * B) = (a / 2 ^ k &&& b) + 256 * ((A / 2 ^ k) &&& B) := by
  have hb8 : b < 256 := Nat.lt_of_lt_of_le hb (by
    have : 2 ^ (8 - k) ≤ 2 ^ 8 := Nat.pow_le_pow_right (by decide) (by omega)
    exact this)
  apply Nat.eq_of_testBit_eq
  intro i
  have hab : a / 2 ^ k &&& b < 256 := Nat.lt_of_le_of_lt Nat.and_le_right hb8
  rw [Nat.testBit_and, word_bit b B i hb8, word_bit _ _ i hab, ← Nat.shiftRight_eq_div_pow, Nat.testBit_shiftRight, word_bit a A _ ha]
  by_cases h : i < 8
  · rw [if_pos h, if_pos h, Nat.testBit_and, ← Nat.shiftRight_eq_div_pow, Nat.testBit_shiftRight]
    by_cases h2 : k + i < 8
    · rw [if_pos h2]
    · have : b.testBit i = false := Nat.testBit_lt_two_pow (Nat.lt_of_lt_of_le hb (Nat.pow_le_pow_right (by decide) (by omega)))
      rw [this]; simp
  · rw [if_neg h, if_neg h, if_neg (by omega), Nat.testBit_and, ← Nat.shiftRight_eq_div_pow, Nat.testBit_shiftRight]
    congr 2
    omega
end Go.Proofs.YtagohbpbgjelaaaGreatDoor.Wk

/- OnesCount64 counts the bits of any word: the steps, byte by byte. -/
namespace Go.Proofs.YtagohbpbgjelaaaGreatDoor.Wk
open Go.RowKit Go.Maps

set_option maxRecDepth 100000 in
theorem word_of (n : Nat) : ∀ X, X < 256 ^ n → ∃ l : List Nat, l.length = n ∧ (∀ a ∈ l, a < 256) ∧ X = word l := by
  induction n with
  | zero => intro X h; exact ⟨[], rfl, by simp, by simp at h; exact h⟩
  | succ n ih =>
    intro X h
    rw [Nat.pow_succ] at h
    obtain ⟨l, h1, h2, h3⟩ := ih (X / 256) (by omega)
    refine ⟨X % 256 :: l, by simp [h1], fun a ha => ?_, ?_⟩
    · rcases List.mem_cons.1 ha with rfl | ha
      · omega
      · exact h2 a ha
    · show X = X % 256 + 256 * word l
      rw [← h3]; omega
set_option maxRecDepth 100000 in
theorem step1 : ∀ (l : List Nat), (∀ a ∈ l, a < 256) → (word l / 2 &&& word (List.replicate l.length 85)) + (word l &&& word (List.replicate l.length 85)) = word (l.map s1)
  | [], _ => by decide
  | a :: l, h => by
    have ih := step1 l (fun x hx => h x (List.mem_cons_of_mem _ hx))
    have ha := h a (by simp)
    have e1 := shr_word a (word l) 85 1 ha (by decide) (by decide) (word (List.replicate l.length 85))
    have e2 := and_word a 85 (word l) (word (List.replicate l.length 85)) ha (by decide)
    rw [show (2 : Nat) ^ 1 = 2 from rfl] at e1
    show ((a + 256 * word l) / 2 &&& (85 + 256 * word (List.replicate l.length 85))) + ((a + 256 * word l) &&& (85 + 256 * word (List.replicate l.length 85))) = s1 a + 256 * word (l.map s1)
    rw [e1, e2, ← ih]
    unfold s1
    omega
set_option maxRecDepth 100000 in
theorem step2 : ∀ (l : List Nat), (∀ a ∈ l, a < 256) → (word l / 4 &&& word (List.replicate l.length 51)) + (word l &&& word (List.replicate l.length 51)) = word (l.map s2)
  | [], _ => by decide
  | a :: l, h => by
    have ih := step2 l (fun x hx => h x (List.mem_cons_of_mem _ hx))
    have ha := h a (by simp)
    have e1 := shr_word a (word l) 51 2 ha (by decide) (by decide) (word (List.replicate l.length 51))
    have e2 := and_word a 51 (word l) (word (List.replicate l.length 51)) ha (by decide)
    rw [show (2 : Nat) ^ 2 = 4 from rfl] at e1
    show ((a + 256 * word l) / 4 &&& (51 + 256 * word (List.replicate l.length 51))) + ((a + 256 * word l) &&& (51 + 256 * word (List.replicate l.length 51))) = s2 a + 256 * word (l.map s2)
    rw [e1, e2, ← ih]
    unfold s2
    omega
/-- Both halves of a byte are small. -/
def low4 (a : Nat) : Prop := a % 16 ≤ 4 ∧ a / 16 ≤ 4
set_option maxRecDepth 100000 in
theorem s2_low : ∀ a : Fin 256, s2 (s1 a.val) % 16 ≤ 4 ∧ s2 (s1 a.val) / 16 ≤ 4 := by decide +kernel
set_option maxRecDepth 100000 in
theorem and15 (x : Nat) : x &&& 15 = x % 16 := Nat.and_two_pow_sub_one_eq_mod x 4
set_option maxRecDepth 100000 in
theorem word_head (l : List Nat) (h : ∀ a ∈ l, low4 a) : word l % 16 ≤ 4 := by
  cases l with
  | nil => decide
  | cons a l =>
    have := (h a (by simp)).1
    show (a + 256 * word l) % 16 ≤ 4
    omega
set_option maxRecDepth 100000 in
theorem step3 : ∀ (l : List Nat), (∀ a ∈ l, low4 a) → (word l / 16 + word l) &&& word (List.replicate l.length 15) = word (l.map s3)
  | [], _ => by decide
  | a :: l, h => by
    have hl : ∀ x ∈ l, low4 x := fun x hx => h x (List.mem_cons_of_mem _ hx)
    have ih := step3 l hl
    have ha := h a (by simp)
    have hh := word_head l hl
    have e : (a + 256 * word l) / 16 + (a + 256 * word l) = (a / 16 + 16 * (word l % 16) + a) + 256 * (word l / 16 + word l) := by omega
    have hb : a / 16 + 16 * (word l % 16) + a < 256 := by have h1 := ha.1; have h2 := ha.2; omega
    show ((a + 256 * word l) / 16 + (a + 256 * word l)) &&& (15 + 256 * word (List.replicate l.length 15)) = s3 a + 256 * word (l.map s3)
    rw [e, and_word _ 15 _ _ hb (by decide), ih, and15]
    unfold s3
    rw [and15]
    have : (a / 16 + 16 * (word l % 16) + a) % 16 = (a / 16 + a) % 16 := by omega
    rw [this]
end Go.Proofs.YtagohbpbgjelaaaGreatDoor.Wk

/- OnesCount64 counts the bits of any word: the sum of eight bytes. -/
namespace Go.Proofs.YtagohbpbgjelaaaGreatDoor.Wk
open Go.RowKit Go.Maps

set_option maxRecDepth 100000 in
theorem word_tail (a : Nat) (l : List Nat) (ha : a < 256) : word (a :: l) / 256 = word l := by
  show (a + 256 * word l) / 256 = word l
  omega
set_option maxRecDepth 100000 in
theorem word_add : ∀ (a b : List Nat), a.length = b.length → word a + word b = word (List.zipWith (· + ·) a b)
  | [], [], _ => rfl
  | x :: a, y :: b, h => by
    have ih := word_add a b (by simpa using h)
    show (x + 256 * word a) + (y + 256 * word b) = (x + y) + 256 * word (List.zipWith (· + ·) a b)
    rw [← ih]
    omega
set_option maxRecDepth 100000 in
theorem word_pad : ∀ (a : List Nat), word (a ++ [0]) = word a
  | [] => rfl
  | x :: a => by
    show x + 256 * word (a ++ [0]) = x + 256 * word a
    rw [word_pad a]
set_option maxRecDepth 100000 in
theorem div_2 (x : Nat) : x / 65536 = x / 256 / 256 := by rw [Nat.div_div_eq_div_mul]
set_option maxRecDepth 100000 in
theorem div_4 (x : Nat) : x / 4294967296 = x / 256 / 256 / 256 / 256 := by rw [Nat.div_div_eq_div_mul, Nat.div_div_eq_div_mul, Nat.div_div_eq_div_mul]
set_option maxRecDepth 100000 in
theorem step4 (b0 b1 b2 b3 b4 b5 b6 b7 : Nat) (h0 : b0 ≤ 8) (h1 : b1 ≤ 8) (h2 : b2 ≤ 8) (h3 : b3 ≤ 8) (h4 : b4 ≤ 8) (h5 : b5 ≤ 8) (h6 : b6 ≤ 8) (h7 : b7 ≤ 8) (x x4 x5 x6 : Nat)
    (hx : x = word [b0, b1, b2, b3, b4, b5, b6, b7]) (e4 : x4 = x + x / 256) (e5 : x5 = x4 + x4 / 65536) (e6 : x6 = x5 + x5 / 4294967296) : x6 % 128 = b0 + b1 + b2 + b3 + b4 + b5 + b6 + b7 := by
  have c4 : x4 = word [b0 + b1, b1 + b2, b2 + b3, b3 + b4, b4 + b5, b5 + b6, b6 + b7, b7 + 0] := by
    rw [e4, hx, word_tail _ _ (by omega), ← word_pad [b1, b2, b3, b4, b5, b6, b7]]
    exact word_add _ _ rfl
  have c5 : x5 = word [b0 + b1 + (b2 + b3), b1 + b2 + (b3 + b4), b2 + b3 + (b4 + b5), b3 + b4 + (b5 + b6), b4 + b5 + (b6 + b7), b5 + b6 + (b7 + 0), b6 + b7 + 0, b7 + 0 + 0] := by
    rw [e5, c4, div_2, word_tail _ _ (by omega), word_tail _ _ (by omega), ← word_pad [b2 + b3, b3 + b4, b4 + b5, b5 + b6, b6 + b7, b7 + 0], ← word_pad ([b2 + b3, b3 + b4, b4 + b5, b5 + b6, b6 + b7, b7 + 0] ++ [0])]
    exact word_add _ _ rfl
  have c6 : ∃ K, x6 = (b0 + b1 + (b2 + b3) + (b4 + b5 + (b6 + b7))) + 256 * K := by
    rw [e6, c5, div_4, word_tail _ _ (by omega), word_tail _ _ (by omega), word_tail _ _ (by omega), word_tail _ _ (by omega)]
    refine ⟨word [b1 + b2 + (b3 + b4), b2 + b3 + (b4 + b5), b3 + b4 + (b5 + b6), b4 + b5 + (b6 + b7), b5 + b6 + (b7 + 0), b6 + b7 + 0, b7 + 0 + 0] + word [b5 + b6 + (b7 + 0), b6 + b7 + 0, b7 + 0 + 0], ?_⟩
    generalize hA : word [b1 + b2 + (b3 + b4), b2 + b3 + (b4 + b5), b3 + b4 + (b5 + b6), b4 + b5 + (b6 + b7), b5 + b6 + (b7 + 0), b6 + b7 + 0, b7 + 0 + 0] = A
    generalize hC : word [b5 + b6 + (b7 + 0), b6 + b7 + 0, b7 + 0 + 0] = C
    have u1 : ∀ (p : Nat) (l : List Nat), word (p :: l) = p + 256 * word l := fun _ _ => rfl
    rw [u1 (b0 + b1 + (b2 + b3)), u1 (b4 + b5 + (b6 + b7)), hA, hC]
    omega
  obtain ⟨K, hK⟩ := c6
  rw [hK]
  clear hK c4 c5 e4 e5 e6 hx
  omega
end Go.Proofs.YtagohbpbgjelaaaGreatDoor.Wk

/- OnesCount64 counts the bits of any word. -/
namespace Go.Proofs.YtagohbpbgjelaaaGreatDoor.Wk
open Go.RowKit Go.Maps

set_option maxRecDepth 100000 in
theorem word_le (c : Nat) : ∀ (l : List Nat), (∀ a ∈ l, a ≤ c) → 255 * word l + c ≤ c * 256 ^ l.length
  | [], _ => by show 255 * 0 + c ≤ c * 1; omega
  | a :: l, h => by
    have ih := word_le c l (fun x hx => h x (List.mem_cons_of_mem _ hx))
    have ha := h a (by simp)
    rw [List.length_cons, Nat.pow_succ, ← Nat.mul_assoc]
    show 255 * (a + 256 * word l) + c ≤ c * 256 ^ l.length * 256
    omega
set_option maxRecDepth 100000 in
theorem m85 : (6148914691236517205 : Int) = ((word (List.replicate 8 85) : Nat) : Int) := by decide +kernel
set_option maxRecDepth 100000 in
theorem m51 : (3689348814741910323 : Int) = ((word (List.replicate 8 51) : Nat) : Int) := by decide +kernel
set_option maxRecDepth 100000 in
theorem m15 : (1085102592571150095 : Int) = ((word (List.replicate 8 15) : Nat) : Int) := by decide +kernel
set_option maxRecDepth 100000 in
theorem wlt {l : List Nat} (hl : l.length = 8) (h : ∀ a ∈ l, a < 256) : word l < 2 ^ 64 := by
  have := word_lt l h
  rw [hl] at this
  exact this
set_option maxRecDepth 100000 in
theorem wrep (c : Nat) (hc : c < 256) : word (List.replicate 8 c) < 2 ^ 64 := wlt (by simp) (fun a ha => by rw [List.eq_of_mem_replicate ha]; exact hc)
set_option maxRecDepth 100000 in
theorem o1_w {l : List Nat} (hl : l.length = 8) (h : ∀ a ∈ l, a < 256) : o1 (word l : Int) = (word (l.map s1) : Int) := by
  have hs := step1 l h
  rw [hl] at hs
  have hX := wlt hl h
  have hM := wrep 85 (by decide)
  have hY : word (l.map s1) < 2 ^ 64 := wlt (by simpa using hl) (fun a ha => by
    obtain ⟨b, hb, rfl⟩ := List.mem_map.1 ha
    exact (s123 ⟨b, h b hb⟩).2.1)
  unfold o1
  rw [m85, show (word l : Int) / 2 = ((word l / 2 : Nat) : Int) by omega, and_u64 _ _ (by omega) hM, and_u64 _ _ hX hM, ← Int.natCast_add, hs]
  exact wraps_u64 _ (Int.natCast_nonneg _) (by exact_mod_cast hY)
set_option maxRecDepth 100000 in
theorem o2_w {l : List Nat} (hl : l.length = 8) (h : ∀ a ∈ l, a < 256) : o2 (word (l.map s1) : Int) = (word ((l.map s1).map s2) : Int) := by
  have h1 : ∀ a ∈ l.map s1, a < 256 := fun a ha => by
    obtain ⟨b, hb, rfl⟩ := List.mem_map.1 ha
    exact (s123 ⟨b, h b hb⟩).2.1
  have hs := step2 (l.map s1) h1
  rw [List.length_map, hl] at hs
  have hX := wlt (l := l.map s1) (by simpa using hl) h1
  have hM := wrep 51 (by decide)
  have hY : word ((l.map s1).map s2) < 2 ^ 64 := wlt (by simpa using hl) (fun a ha => by
    obtain ⟨b, hb, rfl⟩ := List.mem_map.1 ha
    obtain ⟨c, hc, rfl⟩ := List.mem_map.1 hb
    exact (s123 ⟨c, h c hc⟩).2.2)
  unfold o2
  rw [m51, show (word (l.map s1) : Int) / 4 = ((word (l.map s1) / 4 : Nat) : Int) by omega, and_u64 _ _ (by omega) hM, and_u64 _ _ hX hM, ← Int.natCast_add, hs]
  exact wraps_u64 _ (Int.natCast_nonneg _) (by exact_mod_cast hY)
set_option maxRecDepth 100000 in
theorem o3_w {l : List Nat} (hl : l.length = 8) (h : ∀ a ∈ l, low4 a) : o3 (word l : Int) = (word (l.map s3) : Int) := by
  have hs := step3 l h
  rw [hl] at hs
  have hM := wrep 15 (by decide)
  have hle := word_le 68 l (fun a ha => by have h1 := (h a ha).1; have h2 := (h a ha).2; omega)
  rw [hl, show (256 : Nat) ^ 8 = 18446744073709551616 from rfl] at hle
  have hX : word l / 16 + word l < 2 ^ 64 := by omega
  unfold o3
  rw [m15, show (word l : Int) / 16 + (word l : Int) = ((word l / 16 + word l : Nat) : Int) by omega, wraps_u64 _ (Int.natCast_nonneg _) (by exact_mod_cast hX), and_u64 _ _ hX hM, hs]
set_option maxRecDepth 100000 in
theorem and127 (n : Int) : bits .and .i64 n 127 = n % 128 := by
  show IntKind.i64.wrap ((BitVec.ofInt 64 n &&& BitVec.ofInt 64 127).toNat : Int) = _
  rw [BitVec.toNat_and, show (BitVec.ofInt 64 127).toNat = 2 ^ 7 - 1 by decide, Nat.and_two_pow_sub_one_eq_mod, BitVec.toNat_ofInt, IntKind.wrap_i64]
  have e : ((n % ((2 ^ 64 : Nat) : Int)).toNat : Int) = n % 18446744073709551616 := by
    rw [Int.toNat_of_nonneg (Int.emod_nonneg _ (by decide))]; rfl
  rw [Int.natCast_emod, e]
  show (n % 18446744073709551616 % 128 + 9223372036854775808) % 18446744073709551616 - 9223372036854775808 = n % 128
  omega
end Go.Proofs.YtagohbpbgjelaaaGreatDoor.Wk

/- OnesCount64 counts the bits of any word: the whole. -/
namespace Go.Proofs.YtagohbpbgjelaaaGreatDoor.Wk
open Go.RowKit Go.Maps

/-- How many of the first k bits are set. -/
def pop (k n : Nat) : Nat := ((List.range k).filter fun i => n.testBit i).length
set_option maxRecDepth 100000 in
theorem pop_step (a W m : Nat) (ha : a < 256) : pop (8 + m) (a + 256 * W) = pop8 a + pop m W := by
  unfold pop pop8
  rw [List.range_add, List.filter_append, List.length_append, List.filter_map, List.length_map]
  congr 1
  · congr 1
    apply List.filter_congr
    intro i hi
    rw [word_bit a W i ha, if_pos (List.mem_range.1 hi)]
  · congr 1
    apply List.filter_congr
    intro i _
    show (a + 256 * W).testBit (8 + i) = _
    rw [word_bit a W _ ha, if_neg (by omega)]
    congr 1
    omega
set_option maxRecDepth 100000 in
theorem pop8_le (a : Nat) : pop8 a ≤ 8 := by
  unfold pop8
  have := List.length_filter_le (fun i => a.testBit i) (List.range 8)
  simpa using this
set_option maxRecDepth 100000 in
theorem eight (l : List Nat) (h : l.length = 8) : ∃ a b c d e f g i, l = [a, b, c, d, e, f, g, i] := by
  match l, h with
  | [a, b, c, d, e, f, g, i], _ => exact ⟨a, b, c, d, e, f, g, i, rfl⟩
set_option maxRecDepth 100000 in
theorem wrap_nat (x : Nat) (h : x < 2 ^ 64) : IntKind.u64.wrap (x : Int) = (x : Int) := wraps_u64 _ (Int.natCast_nonneg _) (by exact_mod_cast h)
set_option maxRecDepth 100000 in
theorem o7_w (x : Nat) : o7 (x : Int) = ((x % 128 : Nat) : Int) := by
  unfold o7
  rw [and127]
  unfold wrap64
  omega
set_option maxRecDepth 100000 in
/-- The last four steps. -/
theorem o4567 {l : List Nat} (hl : l.length = 8) (h : ∀ a ∈ l, a ≤ 8) : o7 (o6 (o5 (o4 (word l : Int)))) = (l.sum : Int) := by
  have hle := word_le 8 l h
  rw [hl, show (256 : Nat) ^ 8 = 18446744073709551616 from rfl] at hle
  have e4 : o4 (word l : Int) = ((word l + word l / 256 : Nat) : Int) := by
    unfold o4
    rw [show (word l : Int) + (word l : Int) / 256 = ((word l + word l / 256 : Nat) : Int) by omega]
    exact wrap_nat _ (by omega)
  generalize h4 : word l + word l / 256 = x4 at e4
  have b4 : x4 ≤ 2 * 578721382704613384 := by omega
  have e5 : o5 (x4 : Int) = ((x4 + x4 / 65536 : Nat) : Int) := by
    unfold o5
    rw [show (x4 : Int) + (x4 : Int) / 65536 = ((x4 + x4 / 65536 : Nat) : Int) by omega]
    exact wrap_nat _ (by omega)
  generalize h5 : x4 + x4 / 65536 = x5 at e5
  have b5 : x5 ≤ 4 * 578721382704613384 := by omega
  have e6 : o6 (x5 : Int) = ((x5 + x5 / 4294967296 : Nat) : Int) := by
    unfold o6
    rw [show (x5 : Int) + (x5 : Int) / 4294967296 = ((x5 + x5 / 4294967296 : Nat) : Int) by omega]
    exact wrap_nat _ (by omega)
  generalize h6 : x5 + x5 / 4294967296 = x6 at e6
  rw [e4, e5, e6, o7_w x6]
  obtain ⟨a, b, c, d, e, f, g, i, rfl⟩ := eight l hl
  rw [step4 a b c d e f g i (h _ (by simp)) (h _ (by simp)) (h _ (by simp)) (h _ (by simp)) (h _ (by simp)) (h _ (by simp)) (h _ (by simp)) (h _ (by simp)) _ x4 x5 x6 rfl h4.symm h5.symm h6.symm]
  simp only [List.sum_cons, List.sum_nil]
  omega
set_option maxRecDepth 100000 in
theorem pop_word : ∀ (l : List Nat), (∀ a ∈ l, a < 256) → pop (8 * l.length) (word l) = (l.map pop8).sum
  | [], _ => by decide
  | a :: l, h => by
    have ih := pop_word l (fun x hx => h x (List.mem_cons_of_mem _ hx))
    rw [List.length_cons, show 8 * (l.length + 1) = 8 + 8 * l.length by omega]
    show pop (8 + 8 * l.length) (a + 256 * word l) = _
    rw [pop_step _ _ _ (h a (by simp)), ih, List.map_cons, List.sum_cons]
set_option maxRecDepth 100000 in
/-- OnesCount64 counts the bits. -/
theorem ones_pop (n : Nat) (hn : n < 2 ^ 64) : onesV (n : Int) = (pop 64 n : Int) := by
  obtain ⟨l, hl, h, rfl⟩ := word_of 8 n hn
  unfold onesV
  rw [o1_w hl h, o2_w hl h, o3_w (by simpa using hl) ?low]
  case low =>
    intro a ha
    obtain ⟨b, hb, rfl⟩ := List.mem_map.1 ha
    obtain ⟨c, hc, rfl⟩ := List.mem_map.1 hb
    exact s2_low ⟨c, h c hc⟩
  have hm : ((l.map s1).map s2).map s3 = l.map pop8 := by
    rw [List.map_map, List.map_map]
    apply List.map_congr_left
    intro a ha
    exact (s123 ⟨a, h a ha⟩).1
  rw [hm, o4567 (by simpa using hl) (fun a ha => by
    obtain ⟨b, hb, rfl⟩ := List.mem_map.1 ha
    exact pop8_le b), ← pop_word l h, hl]
end Go.Proofs.YtagohbpbgjelaaaGreatDoor.Wk

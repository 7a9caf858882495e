/- Plain mathematics on a rune's bytes: the model's own encoding is the list of bytes that the contracts speak of. -/
import GoSem.Core.Utf8
import Derived.Lib.RuneBytes
import Derived.Laws.Runes
namespace Go.Proofs.YtkckcnjamlpadabDoor

theorem valid_iff (r : Int) : Utf8.valid r = true ↔ (0 ≤ r ∧ r < 55296) ∨ (57343 < r ∧ r ≤ 1114111) := by
  rw [validRune_eq]; simp [validRune]

theorem encode_eq (r : Int) (h : Utf8.valid r = true) : Utf8.encode r = ⟨(Lib.encodeRune r).toArray⟩ := by
  have hv := (valid_iff r).1 h
  have aux : ∀ x : Int, x.toNat.toUInt8 = UInt8.ofNat x.toNat := fun _ => rfl
  unfold Utf8.encode Lib.encodeRune
  simp only [h, if_true]
  by_cases c1 : r ≤ 127
  · rw [Lib.encodeRuneZ_one (by omega) c1]
    simp only [List.map_cons, List.map_nil, aux]
    rw [if_pos (by omega)]
  by_cases c2 : r ≤ 2047
  · rw [Lib.encodeRuneZ_two (by omega) c2]
    simp only [List.map_cons, List.map_nil, aux]
    rw [if_neg (by omega), if_pos (by omega), show (192 + r / 64).toNat = 192 + r.toNat / 64 by omega, show (128 + r % 64).toNat = 128 + r.toNat % 64 by omega]
  by_cases c3 : r ≤ 65535
  · rw [Lib.encodeRuneZ_three (by omega)]
    simp only [List.map_cons, List.map_nil, aux]
    rw [if_neg (by omega), if_neg (by omega), if_pos (by omega), show (224 + r / 4096).toNat = 224 + r.toNat / 4096 by omega, show (128 + r / 64 % 64).toNat = 128 + r.toNat / 64 % 64 by omega, show (128 + r % 64).toNat = 128 + r.toNat % 64 by omega]
  · rw [Lib.encodeRuneZ_four (by omega) (by omega)]
    simp only [List.map_cons, List.map_nil, aux]
    rw [if_neg (by omega), if_neg (by omega), if_neg (by omega), show (240 + r / 262144).toNat = 240 + r.toNat / 262144 by omega, show (128 + r / 4096 % 64).toNat = 128 + r.toNat / 4096 % 64 by omega, show (128 + r / 64 % 64).toNat = 128 + r.toNat / 64 % 64 by omega, show (128 + r % 64).toNat = 128 + r.toNat % 64 by omega]

theorem encodeRune_le (r : Int) : 1 ≤ (Lib.encodeRune r).length ∧ (Lib.encodeRune r).length ≤ 4 := by
  have := Lib.runeCells_le r
  rw [Lib.runeCells_length] at this
  exact this

/-- The bytes of runes, one behind the other. -/
def joinB (l : List Int) : List UInt8 := l.flatMap Lib.encodeRune
/-- The number of the first that is no rune. -/
def badAt : List Int → Option Nat
  | [] => none
  | r :: l => if Utf8.valid r then (badAt l).map (· + 1) else some 0

theorem joinB_snoc (l : List Int) (r : Int) : joinB (l ++ [r]) = joinB l ++ Lib.encodeRune r := by simp [joinB]
theorem joinB_le (l : List Int) : (joinB l).length ≤ 4 * l.length := by
  induction l with
  | nil => simp [joinB]
  | cons r l ih =>
    have := (encodeRune_le r).2
    simp only [joinB, List.flatMap_cons, List.length_append, List.length_cons] at *
    omega
theorem badAt_here (l : List Int) (k : Nat) (hk : k < l.length) (h : ∀ j (hj : j < k), Utf8.valid (l[j]'(by omega)) = true) (hb : Utf8.valid l[k] = false) : badAt l = some k := by
  induction l generalizing k with
  | nil => simp at hk
  | cons r l ih =>
    cases k with
    | zero => simp at hb; simp [badAt, hb]
    | succ k =>
      have h0 := h 0 (by omega)
      simp at h0 hk hb
      simp only [badAt, h0, if_true]
      rw [ih k hk (fun j hj => by have := h (j + 1) (by omega); simpa using this) hb]
      rfl
theorem badAt_none (l : List Int) (h : ∀ j (hj : j < l.length), Utf8.valid l[j] = true) : badAt l = none := by
  induction l with
  | nil => rfl
  | cons r l ih =>
    have h0 := h 0 (by simp)
    simp at h0
    simp only [badAt, h0, if_true]
    rw [ih (fun j hj => by have := h (j + 1) (by simpa using hj); simpa using this)]
    rfl
theorem badAt_here' (l : List Int) (k : Nat) (hk : k < l.length) (h : ∀ j, j < k → Utf8.valid (l.getD j 0) = true) (hb : Utf8.valid (l.getD k 0) = false) : badAt l = some k :=
  badAt_here l k hk (fun j hj => by have := h j hj; rwa [show l.getD j 0 = l[j]'(by omega) by simp [show j < l.length by omega]] at this) (by rwa [show l.getD k 0 = l[k] by simp [hk]] at hb)
theorem badAt_none' (l : List Int) (h : ∀ j, j < l.length → Utf8.valid (l.getD j 0) = true) : badAt l = none :=
  badAt_none l fun j hj => by have := h j hj; rwa [show l.getD j 0 = l[j] by simp [hj]] at this
end Go.Proofs.YtkckcnjamlpadabDoor

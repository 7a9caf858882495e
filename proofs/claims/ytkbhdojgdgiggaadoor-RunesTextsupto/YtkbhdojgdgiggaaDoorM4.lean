/- Plain mathematics on a set's text. -/
import Derived.Test.YtkbhdojgdgiggaaDoorM3
namespace Go.Proofs.YtkbhdojgdgiggaaDoor

/-- A lower hexadecimal digit. -/
def hexD (n : Nat) : UInt8 := if n < 10 then UInt8.ofNat (48 + n) else UInt8.ofNat (87 + n)
/-- A number's digits, at most so many. -/
def hexF : Nat → Nat → List UInt8
  | 0, _ => []
  | f + 1, n => if n < 16 then [hexD n] else hexF f (n / 16) ++ [hexD (n % 16)]
theorem hexF_le (f n : Nat) : (hexF f n).length ≤ f := by
  induction f generalizing n with
  | zero => simp [hexF]
  | succ f ih =>
    simp only [hexF]
    split
    · simp
    · simp; exact ih _
/-- Runes that are written with a backslash ahead. -/
def markedB (r : Int) : Bool := r == 91 || (r == 93 || (r == 45 || (r == 94 || (r == 92 || r == 34))))
/-- A rune's text. -/
def runeT (r : Int) : List UInt8 :=
  if r = 10 then [92, 110] else if r = 9 then [92, 116] else if r = 13 then [92, 114] else if markedB r = true then [92, UInt8.ofNat r.toNat]
  else if 32 < r ∧ r < 127 then [UInt8.ofNat r.toNat] else [92, 117, 123] ++ hexF 6 r.toNat ++ [125]
theorem runeT_le (r : Int) : (runeT r).length ≤ 10 := by
  have := hexF_le 6 r.toNat
  unfold runeT
  repeat' split
  all_goals simp
  omega
/-- A range's text. -/
def rangeT (x : Rng) : List UInt8 := runeT x.1 ++ (if x.2 = x.1 then [] else 45 :: runeT x.2)
theorem rangeT_le (x : Rng) : (rangeT x).length ≤ 21 := by
  have h1 := runeT_le x.1
  have h2 := runeT_le x.2
  unfold rangeT
  split
  · simp; omega
  · simp; omega
def textTo (l : List Rng) (k : Nat) : List UInt8 := 91 :: (l.take k).flatMap rangeT
def textL (l : List Rng) : List UInt8 := textTo l l.length ++ [93]
theorem textTo_succ (l : List Rng) (k : Nat) (hk : k < l.length) : textTo l (k + 1) = textTo l k ++ rangeT (l.getD k (0, 0)) := by
  unfold textTo
  rw [List.take_add_one, List.flatMap_append]
  simp [List.getD_eq_getElem?_getD, List.getElem?_eq_getElem hk]
theorem textTo_le (l : List Rng) (k : Nat) (hk : k ≤ l.length) : (textTo l k).length ≤ 1 + 21 * k := by
  induction k with
  | zero => simp [textTo]
  | succ k ih =>
    have := ih (by omega)
    have h2 := rangeT_le (l.getD k (0, 0))
    rw [textTo_succ l k (by omega), List.length_append]
    omega
theorem alive_text : textL [(97, 99)] = [91, 97, 45, 99, 93] := by decide +kernel
end Go.Proofs.YtkbhdojgdgiggaaDoor

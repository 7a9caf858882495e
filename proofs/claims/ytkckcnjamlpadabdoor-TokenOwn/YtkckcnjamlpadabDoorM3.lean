/- Plain mathematics on quoted texts: the one form of a value, piece by piece. -/
import Derived.Test.YtkckcnjamlpadabDoorM2
namespace Go.Proofs.YtkckcnjamlpadabDoor

/-- A digit's byte: the number is below 16. -/
def hexD (n : Nat) : UInt8 := if n < 10 then UInt8.ofNat (48 + n) else UInt8.ofNat (87 + n)
/-- The piece at i stands for itself unless it is a quote or a backslash. -/
def plainB (s : ByteArray) (i : Nat) : Bool := decide (32 ≤ (Utf8.decode s i).1) && (!decide ((Utf8.decode s i).1 = 127) && !noneB s i)
/-- How the one form writes the piece at i. -/
def qpart (v : ByteArray) (i : Nat) : List UInt8 :=
  if (Utf8.decode v i).1 = 10 then [92, 110] else if (Utf8.decode v i).1 = 9 then [92, 116] else if (Utf8.decode v i).1 = 13 then [92, 114]
  else if (Utf8.decode v i).1 = 34 then [92, 34] else if (Utf8.decode v i).1 = 92 then [92, 92]
  else if plainB v i then Lib.encodeRune ((Utf8.decode v i).1 : Int) else [92, 120, hexD (bt v i / 16), hexD (bt v i % 16)]
theorem qpart_le (v : ByteArray) (i : Nat) : (qpart v i).length ≤ 4 := by
  have := (encodeRune_le ((Utf8.decode v i).1 : Int)).2
  unfold qpart
  repeat' split
  all_goals simp
  omega
/-- From piece to piece, at most so many. -/
def qFrom (v : ByteArray) : Nat → Nat → List UInt8
  | 0, _ => []
  | f + 1, i => if i < v.size then qpart v i ++ qFrom v f (i + (Utf8.decode v i).2) else []
theorem qFrom_end (v : ByteArray) (f i : Nat) (h : ¬ i < v.size) : qFrom v f i = [] := by
  cases f with
  | zero => rfl
  | succ f => simp [qFrom, h]
theorem qFrom_step (v : ByteArray) (f i : Nat) (h : i < v.size) : qFrom v (f + 1) i = qpart v i ++ qFrom v f (i + (Utf8.decode v i).2) := by simp [qFrom, h]
/-- More fuel than bytes turns nothing. -/
theorem qFrom_fuel (v : ByteArray) (f g i : Nat) (hf : v.size ≤ i + f) (hg : v.size ≤ i + g) : qFrom v f i = qFrom v g i := by
  induction f generalizing g i with
  | zero => rw [qFrom_end v 0 i (by omega), qFrom_end v g i (by omega)]
  | succ f ih =>
    by_cases h : i < v.size
    · cases g with
      | zero => omega
      | succ g =>
        have := (width_pos v i h).1
        rw [qFrom_step v f i h, qFrom_step v g i h, ih g _ (by omega) (by omega)]
    · rw [qFrom_end v _ i h, qFrom_end v _ i h]
/-- The one form. -/
def quoteL (v : ByteArray) : List UInt8 := 34 :: (qFrom v v.size 0 ++ [34])
end Go.Proofs.YtkckcnjamlpadabDoor

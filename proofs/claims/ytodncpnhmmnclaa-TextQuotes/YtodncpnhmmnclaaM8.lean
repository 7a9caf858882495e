/- Plain mathematics on what stands within a quoted text: digits, escapes, parts. -/
import Derived.Test.YtodncpnhmmnclaaM3
import Derived.Test.YtodncpnhmmnclaaM5
import Derived.Laws.Externs
namespace Go.Proofs.Ytodncpnhmmnclaa

/-- A digit's number; -1. -/
def hexV (b : Nat) : Int := if 48 ≤ b ∧ b ≤ 57 then (b : Int) - 48 else if 97 ≤ b ∧ b ≤ 102 then (b : Int) - 87 else -1
theorem hexV_bd (b : Nat) : -1 ≤ hexV b ∧ hexV b ≤ 15 := by
  unfold hexV
  repeat' split
  all_goals omega
theorem hexV_ascii (b : Nat) (h : 0 ≤ hexV b) : b < 128 := by
  unfold hexV at h
  split at h
  · omega
  · split at h <;> omega
/-- From digit to digit: where they end, and their number. -/
def numGo (n : Nat) (f : Nat → Nat) : Nat → Nat → Nat → Nat × Nat
  | 0, i, v => (i, v)
  | k + 1, i, v => if i < n ∧ 0 ≤ hexV (f i) then numGo n f k (i + 1) (16 * v + (hexV (f i)).toNat) else (i, v)
/-- The part that tells a rune by its number: n bytes are there, f tells them. -/
def numOk (n : Nat) (f : Nat → Nat) : Bool :=
  decide (2 < n) && (decide (f 2 = 123) && (decide (4 ≤ (numGo n f 6 3 0).1) && (!(decide (4 < (numGo n f 6 3 0).1) && decide (f 3 = 48)) && (decide ((numGo n f 6 3 0).1 < n) && (decide (f (numGo n f 6 3 0).1 = 125) && Utf8.valid ((numGo n f 6 3 0).2 : Int))))))
def numF (n : Nat) (f : Nat → Nat) : List UInt8 × Nat := if numOk n f then (Lib.encodeRune ((numGo n f 6 3 0).2 : Int), (numGo n f 6 3 0).1 + 1) else ([], 0)
/-- An escape: f 0 is the backslash. -/
def escF (n : Nat) (f : Nat → Nat) : List UInt8 × Nat :=
  if n < 2 then ([], 0) else if f 1 = 110 then ([10], 2) else if f 1 = 116 then ([9], 2) else if f 1 = 114 then ([13], 2)
  else if f 1 = 34 ∨ f 1 = 92 then ([UInt8.ofNat (f 1)], 2)
  else if f 1 = 120 then (if 3 < n ∧ 0 ≤ hexV (f 2) ∧ 0 ≤ hexV (f 3) then ([UInt8.ofNat (16 * hexV (f 2) + hexV (f 3)).toNat], 4) else ([], 0))
  else if f 1 = 117 then numF n f else ([], 0)
/-- The part that begins at i: what it stands for, and how many bytes it has; 0: there is none. -/
def partL (s : ByteArray) (i : Nat) : List UInt8 × Nat :=
  if (Utf8.decode s i).1 = 92 then escF (s.size - i) (fun j => bt s (i + j))
  else if plainB s i && !decide ((Utf8.decode s i).1 = 34) then (Lib.encodeRune ((Utf8.decode s i).1 : Int), (Utf8.decode s i).2) else ([], 0)

theorem numGo_ascii (n : Nat) (f : Nat → Nat) (k i v : Nat) : i ≤ (numGo n f k i v).1 ∧ (numGo n f k i v).1 ≤ i + k ∧ ∀ t, i ≤ t → t < (numGo n f k i v).1 → f t < 128 := by
  induction k generalizing i v with
  | zero => simp [numGo]; omega
  | succ k ih =>
    by_cases h : i < n ∧ 0 ≤ hexV (f i)
    · have hi := ih (i + 1) (16 * v + (hexV (f i)).toNat)
      simp only [numGo, if_pos h]
      refine ⟨by omega, by omega, fun t h1 h2 => ?_⟩
      by_cases e : t = i
      · subst e; exact hexV_ascii _ h.2
      · exact hi.2.2 t (by omega) h2
    · simp only [numGo, if_neg h]; exact ⟨Nat.le_refl _, by omega, fun t h1 h2 => by omega⟩
theorem numF_ascii (n : Nat) (f : Nat → Nat) (h0 : f 0 < 128) (h1 : f 1 < 128) : (numF n f).2 ≤ n ∧ (numF n f).2 ≤ 10 ∧ (numF n f).1.length ≤ 4 ∧ ∀ t, t < (numF n f).2 → f t < 128 := by
  unfold numF
  cases h : numOk n f
  · simp
  · have ha := numGo_ascii n f 6 3 0
    have he := encodeRune_le ((numGo n f 6 3 0).2 : Int)
    simp only [numOk, Bool.and_eq_true, decide_eq_true_eq] at h
    simp only [if_true]
    refine ⟨by omega, by omega, by omega, fun t ht => ?_⟩
    by_cases e0 : t = 0
    · subst e0; exact h0
    by_cases e1 : t = 1
    · subst e1; exact h1
    by_cases e2 : t = 2
    · subst e2; omega
    by_cases e3 : t = (numGo n f 6 3 0).1
    · subst e3; omega
    · exact ha.2.2 t (by omega) (by omega)
theorem escF_ascii (n : Nat) (f : Nat → Nat) (h0 : f 0 < 128) : (escF n f).2 ≤ n ∧ (escF n f).2 ≤ 10 ∧ (escF n f).1.length ≤ 4 ∧ ∀ t, t < (escF n f).2 → f t < 128 := by
  unfold escF
  by_cases hn : n < 2
  · rw [if_pos hn]; simp
  rw [if_neg hn]
  have two : ∀ (l : List UInt8), l.length ≤ 4 → f 1 < 128 → (l, 2).2 ≤ n ∧ (l, 2).2 ≤ 10 ∧ (l, 2).1.length ≤ 4 ∧ ∀ t, t < (l, 2).2 → f t < 128 := fun l hl h1 => by
    refine ⟨by simp only; omega, by simp, hl, fun t ht => ?_⟩
    simp only at ht
    by_cases e0 : t = 0
    · subst e0; exact h0
    · have : t = 1 := by omega
      subst this; exact h1
  by_cases c1 : f 1 = 110
  · rw [if_pos c1]; exact two _ (by simp) (by omega)
  rw [if_neg c1]
  by_cases c2 : f 1 = 116
  · rw [if_pos c2]; exact two _ (by simp) (by omega)
  rw [if_neg c2]
  by_cases c3 : f 1 = 114
  · rw [if_pos c3]; exact two _ (by simp) (by omega)
  rw [if_neg c3]
  by_cases c4 : f 1 = 34 ∨ f 1 = 92
  · rw [if_pos c4]; exact two _ (by simp) (by omega)
  rw [if_neg c4]
  by_cases c5 : f 1 = 120
  · rw [if_pos c5]
    by_cases c6 : 3 < n ∧ 0 ≤ hexV (f 2) ∧ 0 ≤ hexV (f 3)
    · rw [if_pos c6]
      refine ⟨by simp only; omega, by simp, by simp, fun t ht => ?_⟩
      simp only at ht
      have h2 := hexV_ascii _ c6.2.1
      have h3 := hexV_ascii _ c6.2.2
      have : t = 0 ∨ t = 1 ∨ t = 2 ∨ t = 3 := by omega
      rcases this with rfl | rfl | rfl | rfl <;> omega
    · rw [if_neg c6]; simp
  rw [if_neg c5]
  by_cases c7 : f 1 = 117
  · rw [if_pos c7]; exact numF_ascii n f h0 (by omega)
  · rw [if_neg c7]; simp

/-- From part to part: the value, and the byte behind the closing quote. -/
def qread (s : ByteArray) : Nat → Nat → List UInt8 → Option (List UInt8 × Nat)
  | 0, _, _ => none
  | k + 1, i, acc => if i < s.size then (if bt s i = 34 then some (acc, i + 1) else if (partL s i).2 = 0 ∨ 4096 < acc.length + (partL s i).1.length then none else qread s k (i + (partL s i).2) (acc ++ (partL s i).1)) else none
/-- The quoted text with which s begins. -/
def quotedL (s : ByteArray) : Option (List UInt8 × Nat) := if 0 < s.size ∧ bt s 0 = 34 then qread s s.size 1 [] else none
theorem digits_idx (c : Fin 256) : firstIdx ⟨#[48, 49, 50, 51, 52, 53, 54, 55, 56, 57, 97, 98, 99, 100, 101, 102]⟩ (UInt8.ofNat c.val) = hexV c.val := by
  revert c
  decide +kernel
end Go.Proofs.Ytodncpnhmmnclaa

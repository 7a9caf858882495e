/- Plain mathematics on reading a quoted text part by part. -/
import Derived.Test.YtodncpnhmmnclaaM8
import Derived.Test.YtodncpnhmmnclaaM7
namespace Go.Proofs.Ytodncpnhmmnclaa
open Go.Lib

theorem dec_ascii (s : ByteArray) (i : Nat) (h : bt s i < 128) : Utf8.decode s i = (bt s i, 1) := by
  rw [dec_eq]; unfold decodeN; rw [if_pos h]
theorem dec_big (s : ByteArray) (i : Nat) (h : 128 ≤ bt s i) : 128 ≤ (Utf8.decode s i).1 := by
  rw [dec_eq]
  by_cases e : decodeN (s.size - i) (bt s i) (bt s (i + 1)) (bt s (i + 2)) (bt s (i + 3)) = (65533, 1)
  · rw [e]; simp
  · rcases dec_cases _ _ _ _ _ e with ⟨_, q⟩ | ⟨_, _, p, q⟩ | ⟨_, _, _, p, q⟩ | ⟨_, _, _, _, p, _, q⟩ <;> rw [q] <;> simp only <;> omega
theorem dec_q (s : ByteArray) (i : Nat) (c : Nat) (hc : c < 128) : (Utf8.decode s i).1 = c ↔ bt s i = c := by
  by_cases h : bt s i < 128
  · rw [dec_ascii s i h]
  · have := dec_big s i (by omega)
    constructor <;> intro e <;> omega
/-- A part: no more than 4 bytes of value; behind it lie whole pieces. -/
theorem partL_le (s : ByteArray) (i : Nat) (hi : i < s.size) : (partL s i).1.length ≤ 4 ∧ i + (partL s i).2 ≤ s.size ∧ ((partL s i).2 ≠ 0 → (Utf8.decode s i).2 ≤ (partL s i).2 ∧ ∀ t, i + (Utf8.decode s i).2 ≤ t → t < i + (partL s i).2 → bt s t < 128) := by
  unfold partL
  by_cases h : (Utf8.decode s i).1 = 92
  · rw [if_pos h]
    have hb := (dec_q s i 92 (by omega)).1 h
    have hd := dec_ascii s i (by omega)
    have ha := escF_ascii (s.size - i) (fun j => bt s (i + j)) (by show bt s (i + 0) < 128; rw [Nat.add_zero]; omega)
    refine ⟨ha.2.2.1, by omega, fun h0 => ?_⟩
    rw [hd]
    refine ⟨by show 1 ≤ _; omega, fun t h1 h2 => ?_⟩
    have := ha.2.2.2 (t - i) (by omega)
    rwa [show i + (t - i) = t by simp only at h1; omega] at this
  · rw [if_neg h]
    cases hp : plainB s i && !decide ((Utf8.decode s i).1 = 34)
    · simp; omega
    · have := encodeRune_le ((Utf8.decode s i).1 : Int)
      have hw := width_pos s i hi
      simp only [if_true]
      refine ⟨by omega, by omega, fun _ => ⟨Nat.le_refl _, fun t h1 h2 => by omega⟩⟩

theorem qread_end (s : ByteArray) (f i : Nat) (acc : List UInt8) (h : ¬ i < s.size) : qread s f i acc = none := by
  cases f
  · rfl
  · unfold qread; rw [if_neg h]
theorem qread_close (s : ByteArray) (f i : Nat) (acc : List UInt8) (h : i < s.size) (hb : bt s i = 34) : qread s (f + 1) i acc = some (acc, i + 1) := by
  unfold qread; rw [if_pos h, if_pos hb]
theorem qread_bad (s : ByteArray) (f i : Nat) (acc : List UInt8) (h : i < s.size) (hb : bt s i ≠ 34) (hp : (partL s i).2 = 0 ∨ 4096 < acc.length + (partL s i).1.length) : qread s (f + 1) i acc = none := by
  unfold qread; rw [if_pos h, if_neg hb, if_pos hp]
theorem qread_part (s : ByteArray) (f i : Nat) (acc : List UInt8) (h : i < s.size) (hb : bt s i ≠ 34) (hp : (partL s i).2 ≠ 0) (hl : acc.length + (partL s i).1.length ≤ 4096) : qread s (f + 1) i acc = qread s f (i + (partL s i).2) (acc ++ (partL s i).1) := by
  rw [qread, if_pos h, if_neg hb, if_neg (by omega)]
/-- What a reading answers. -/
def readV (o : Option (List UInt8 × Nat)) : ByteArray × Int := match o with
  | some (v, n) => (⟨v.toArray⟩, (n : Int))
  | none => (⟨#[]⟩, 0)
theorem qread_le (s : ByteArray) (f i : Nat) (acc v : List UInt8) (n : Nat) (ha : acc.length ≤ 4096) (h : qread s f i acc = some (v, n)) : v.length ≤ 4096 ∧ i < n ∧ n ≤ s.size := by
  induction f generalizing i acc with
  | zero => simp [qread] at h
  | succ f ih =>
    by_cases hi : i < s.size
    · by_cases hb : bt s i = 34
      · rw [qread_close s f i acc hi hb] at h
        simp only [Option.some.injEq, Prod.mk.injEq] at h
        obtain ⟨rfl, rfl⟩ := h
        exact ⟨ha, by omega, by omega⟩
      · by_cases hp : (partL s i).2 = 0 ∨ 4096 < acc.length + (partL s i).1.length
        · rw [qread_bad s f i acc hi hb hp] at h; cases h
        · rw [qread_part s f i acc hi hb (by omega) (by omega)] at h
          have := ih _ _ (by rw [List.length_append]; omega) h
          exact ⟨this.1, by omega, this.2.2⟩
    · rw [qread_end s _ i acc hi] at h; cases h
theorem quotedL_le (s : ByteArray) (v : List UInt8) (n : Nat) (h : quotedL s = some (v, n)) : v.length ≤ 4096 ∧ 1 < n ∧ n ≤ s.size := by
  unfold quotedL at h
  split at h
  · exact qread_le s _ _ _ _ _ (by simp) h
  · cases h
end Go.Proofs.Ytodncpnhmmnclaa

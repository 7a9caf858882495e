/- Plain mathematics on lines: newlines counted byte by byte, and the places of the pieces. -/
import Derived.Test.YtodncpnhmmnclaaM6
namespace Go.Proofs.Ytodncpnhmmnclaa
open Go.Lib (decodeN)

/-- How many newlines the first i bytes hold; where the line of byte i begins. -/
def nlc (s : ByteArray) : Nat → Nat
  | 0 => 0
  | i + 1 => if bt s i = 10 then nlc s i + 1 else nlc s i
def beg (s : ByteArray) : Nat → Nat
  | 0 => 0
  | i + 1 => if bt s i = 10 then i + 1 else beg s i
theorem beg_le (s : ByteArray) (i : Nat) : beg s i ≤ i := by
  induction i with
  | zero => simp [beg]
  | succ i ih => simp only [beg]; split <;> omega
theorem nlc_le (s : ByteArray) (i : Nat) : nlc s i ≤ i := by
  induction i with
  | zero => simp [nlc]
  | succ i ih => simp only [nlc]; split <;> omega
theorem nlc_mono (s : ByteArray) (i j : Nat) (h : i ≤ j) : nlc s i ≤ nlc s j := by
  induction j with
  | zero => have : i = 0 := by omega
            subst this; exact Nat.le_refl _
  | succ j ih =>
    by_cases e : i = j + 1
    · subst e; exact Nat.le_refl _
    · have := ih (by omega)
      simp only [nlc]; split <;> omega
theorem nlc_same (s : ByteArray) (i d : Nat) (h : ∀ t, t < d → bt s (i + t) ≠ 10) : nlc s (i + d) = nlc s i := by
  induction d with
  | zero => rfl
  | succ d ih =>
    have e := ih (fun t ht => h t (by omega))
    have := h d (by omega)
    show nlc s (i + d + 1) = _
    simp only [nlc, this, if_false]
    exact e
theorem no_nl (s : ByteArray) (a i : Nat) (h1 : beg s a ≤ i) (h2 : i < a) : bt s i ≠ 10 := by
  induction a with
  | zero => omega
  | succ a ih =>
    simp only [beg] at h1
    by_cases e : bt s a = 10
    · rw [if_pos e] at h1; omega
    · rw [if_neg e] at h1
      by_cases ea : i = a
      · subst ea; exact e
      · exact ih h1 (by omega)

/-- A newline is a piece of its own; bytes within a piece are none. -/
theorem dec_nl (s : ByteArray) (i : Nat) (h : bt s i = 10) : Utf8.decode s i = (10, 1) := by
  rw [dec_eq, h]; unfold decodeN; rw [if_pos (by omega)]
theorem dec_no (s : ByteArray) (i : Nat) (h : bt s i ≠ 10) : (Utf8.decode s i).1 ≠ 10 := by
  rw [dec_eq]
  by_cases e : decodeN (s.size - i) (bt s i) (bt s (i + 1)) (bt s (i + 2)) (bt s (i + 3)) = (65533, 1)
  · rw [e]; simp
  · rcases dec_cases _ _ _ _ _ e with ⟨_, q⟩ | ⟨_, _, p, q⟩ | ⟨_, _, _, p, q⟩ | ⟨_, _, _, _, p, _, q⟩ <;> rw [q] <;> simp only <;> omega
theorem dec_within (s : ByteArray) (i t : Nat) (h1 : 1 ≤ t) (h2 : t < (Utf8.decode s i).2) : 128 ≤ bt s (i + t) := by
  rw [dec_eq] at h2
  by_cases e : decodeN (s.size - i) (bt s i) (bt s (i + 1)) (bt s (i + 2)) (bt s (i + 3)) = (65533, 1)
  · rw [e] at h2; simp at h2; omega
  · rcases dec_cases _ _ _ _ _ e with ⟨_, q⟩ | ⟨_, p1, _, q⟩ | ⟨_, p1, p2, _, q⟩ | ⟨_, p1, p2, p3, _, _, q⟩ <;> rw [q] at h2 <;> simp only at h2
    · omega
    · have : t = 1 := by omega
      subst this; omega
    · have : t = 1 ∨ t = 2 := by omega
      rcases this with rfl | rfl <;> omega
    · have : t = 1 ∨ t = 2 ∨ t = 3 := by omega
      rcases this with rfl | rfl | rfl <;> omega

/-- The line of a piece is told by the newlines ahead of it. -/
theorem st_line (s : ByteArray) (k : Nat) : (st s k).2.1 = nlc s (st s k).1 + 1 := by
  induction k with
  | zero => rfl
  | succ k ih =>
    by_cases hp : (st s k).1 < s.size
    · by_cases hn : bt s (st s k).1 = 10
      · have hd := dec_nl s _ hn
        rw [st_nl s k hp (by rw [hd]), hd]
        simp only [nlc, hn, if_true]
        omega
      · rw [st_else s k hp (dec_no s _ hn)]
        simp only
        rw [ih, nlc_same s (st s k).1 (Utf8.decode s (st s k).1).2 ?_]
        intro t ht
        by_cases e : t = 0
        · subst e; exact hn
        · have := dec_within s (st s k).1 t (by omega) ht; omega
    · rw [st_end s k hp]; exact ih

/-- From a piece of a line on, the newline that ends it is come to. -/
theorem to_nl (s : ByteArray) (a : Nat) (ha : a < s.size) (hn : bt s a = 10) (f k : Nat) (hf : a ≤ (st s k).1 + f) (h1 : beg s a ≤ (st s k).1) (h2 : (st s k).1 ≤ a) :
    ∃ m, (st s m).1 = a ∧ (st s m).2.1 = (st s k).2.1 ∧ ∀ t, k ≤ t → t < m → (st s t).1 < s.size := by
  induction f generalizing k with
  | zero => exact ⟨k, by omega, rfl, fun t h1 h2 => by omega⟩
  | succ f ih =>
    by_cases e : (st s k).1 = a
    · exact ⟨k, e, rfl, fun t h1 h2 => by omega⟩
    · have hp : (st s k).1 < s.size := by omega
      have hnn := no_nl s a (st s k).1 h1 (by omega)
      have hs := st_else s k hp (dec_no s _ hnn)
      have hw := width_pos s _ hp
      have hle : (st s k).1 + (Utf8.decode s (st s k).1).2 ≤ a := by
        by_cases hc : (st s k).1 + (Utf8.decode s (st s k).1).2 ≤ a
        · exact hc
        · have := dec_within s (st s k).1 (a - (st s k).1) (by omega) (by omega)
          rw [show (st s k).1 + (a - (st s k).1) = a by omega] at this
          omega
      have hp1 : (st s (k + 1)).1 = (st s k).1 + (Utf8.decode s (st s k).1).2 := by rw [hs]
      obtain ⟨m, hm1, hm2, hm3⟩ := ih (k + 1) (by omega) (by omega) (by omega)
      refine ⟨m, hm1, by rw [hm2, hs], fun t h1 h2 => ?_⟩
      by_cases e2 : t = k
      · subst e2; exact hp
      · exact hm3 t (by omega) h2
/-- A line begins with a piece. -/
theorem line_start (s : ByteArray) (a : Nat) (ha : a ≤ s.size) : ∃ k, (st s k).1 = beg s a ∧ (st s k).2.1 = nlc s a + 1 ∧ (st s k).2.2 = 1 ∧ ∀ t, t < k → (st s t).1 < s.size := by
  induction a with
  | zero => exact ⟨0, rfl, rfl, rfl, fun t ht => by omega⟩
  | succ a ih =>
    obtain ⟨k, h1, h2, h3, h4⟩ := ih (by omega)
    by_cases e : bt s a = 10
    · obtain ⟨m, hm1, hm2, hm3⟩ := to_nl s a (by omega) e a k (by omega) (by omega) (by have := beg_le s a; omega)
      have hd := dec_nl s a e
      have hs := st_nl s m (by omega) (by rw [hm1, hd])
      rw [hm1, hd] at hs
      refine ⟨m + 1, ?_, ?_, ?_, fun t ht => ?_⟩
      · rw [hs]; simp [beg, e]
      · rw [hs]; simp only [nlc, e, if_true]; omega
      · rw [hs]
      · by_cases e1 : t = m
        · subst e1; omega
        · by_cases e2 : t < k
          · exact h4 t e2
          · exact hm3 t (by omega) (by omega)
    · exact ⟨k, by simp only [beg, e, if_false]; exact h1, by simp only [nlc, e, if_false]; exact h2, h3, h4⟩
/-- Two ways of telling a byte's place tell one. -/
theorem at_one (s : ByteArray) (a k j : Nat) (hk : ∀ t, t < k → (st s t).1 < a ∧ (st s t).1 < s.size) (hk2 : a ≤ (st s k).1 ∨ ¬ (st s k).1 < s.size) (hj : ∀ t, t < j → (st s t).1 < a ∧ (st s t).1 < s.size) (hj2 : a ≤ (st s j).1) : k = j := by
  by_cases h1 : k < j
  · have := hj k h1; omega
  · by_cases h2 : j < k
    · have := hk j h2; omega
    · omega
end Go.Proofs.Ytodncpnhmmnclaa

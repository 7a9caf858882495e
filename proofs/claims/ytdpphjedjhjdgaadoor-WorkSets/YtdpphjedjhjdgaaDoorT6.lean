/- Sets: their bits. -/
import Derived.Test.YtdpphjedjhjdgaaDoorT5
namespace Go.Proofs.YtdpphjedjhjdgaaDoor
open Go.RowKit Go.Maps

theorem nodup_bound (N : Nat) : ∀ (l : List Int), l.Nodup → (∀ x ∈ l, 0 ≤ x ∧ x < N) → l.length ≤ N := by
  induction N with
  | zero =>
    intro l _ h
    cases l with
    | nil => simp
    | cons a l => have := h a (by simp); omega
  | succ N ih =>
    intro l hn h
    have h1 := ih (l.erase (N : Int)) (hn.erase _) (fun x hx => by
      have h2 := h x (List.mem_of_mem_erase hx)
      have h3 : x ≠ N := fun e => by subst e; exact hn.not_mem_erase hx
      omega)
    have h2 : l.length ≤ (l.erase (N : Int)).length + 1 := by
      rw [List.length_erase]; split <;> omega
    omega

theorem wraps_u64 (n : Int) (h0 : 0 ≤ n) (h1 : n < 2 ^ 64) : IntKind.u64.wrap n = n := by rw [IntKind.wrap_u64]; omega
theorem and_u64 (X Y : Nat) (hX : X < 2 ^ 64) (hY : Y < 2 ^ 64) : bits .and .u64 X Y = ((X &&& Y : Nat) : Int) := (bits_nat .u64 64 (by decide) wraps_u64 X Y hX hY).1
theorem or_u64 (X Y : Nat) (hX : X < 2 ^ 64) (hY : Y < 2 ^ 64) : bits .or .u64 X Y = ((X ||| Y : Nat) : Int) := (bits_nat .u64 64 (by decide) wraps_u64 X Y hX hY).2
/-- What one has and the other has not. -/
def notN (X Y : Nat) : Nat := (BitVec.ofNat 64 X &&& ~~~ BitVec.ofNat 64 Y).toNat
theorem notN_lt (X Y : Nat) : notN X Y < 2 ^ 64 := (BitVec.ofNat 64 X &&& ~~~ BitVec.ofNat 64 Y).isLt
theorem notN_bit (X Y i : Nat) (hX : X < 2 ^ 64) : (notN X Y).testBit i = (X.testBit i && !Y.testBit i) := by
  unfold notN
  rw [BitVec.testBit_toNat]
  by_cases hi : i < 64
  · rw [BitVec.getLsbD_and, BitVec.getLsbD_not, BitVec.getLsbD_ofNat, BitVec.getLsbD_ofNat]
    simp [hi]
  · have : X.testBit i = false := Nat.testBit_lt_two_pow (Nat.lt_of_lt_of_le hX (Nat.pow_le_pow_right (by decide) (by omega)))
    rw [this]
    simp only [Bool.false_and]
    exact BitVec.getLsbD_of_ge _ _ (by omega)
theorem not_u64 (X Y : Nat) : bits .andNot .u64 X Y = (notN X Y : Int) := by
  show IntKind.u64.wrap ((BitVec.ofInt 64 (X : Int) &&& ~~~ BitVec.ofInt 64 (Y : Int)).toNat : Int) = _
  rw [BitVec.ofInt_natCast, BitVec.ofInt_natCast]
  have := notN_lt X Y
  exact wraps_u64 _ (Int.natCast_nonneg _) (by exact_mod_cast this)

theorem and_pow (Y a : Nat) : Y &&& 2 ^ a = if Y.testBit a then 2 ^ a else 0 := by
  apply Nat.eq_of_testBit_eq
  intro i
  rw [Nat.testBit_and, Nat.testBit_two_pow]
  by_cases e : a = i
  · subst e
    cases h : Y.testBit a
    · simp
    · simp
  · cases h : Y.testBit a
    · simp [e]
    · simp [e]
theorem pow_lt {a : Nat} (h : a < 64) : 2 ^ a < 2 ^ 64 := Nat.pow_lt_pow_right (by decide) h
theorem notN_pow (Y a : Nat) (ha : a < 64) : notN (2 ^ a) Y = if Y.testBit a then 0 else 2 ^ a := by
  apply Nat.eq_of_testBit_eq
  intro i
  rw [notN_bit _ _ _ (pow_lt ha), Nat.testBit_two_pow]
  by_cases e : a = i
  · subst e
    cases h : Y.testBit a
    · simp
    · simp
  · cases h : Y.testBit a
    · simp [e]
    · simp [e]

/-- Blocks that fit: bits of 64, places of numbers. -/
def FitB (bl : List Blk) : Prop := ∀ b ∈ bl, (0 ≤ b.2 ∧ b.2 < 18446744073709551616) ∧ 0 ≤ b.1 ∧ b.1 < 16384
theorem uniq_at {bl : List Blk} (h : Rises bl) {i j : Nat} (hi : i < bl.length) (hj : j < bl.length) (he : bl[i].1 = bl[j].1) : i = j := by
  have pw := List.pairwise_iff_getElem.1 h
  rcases Nat.lt_trichotomy i j with h | h | h
  · have := pw i j hi hj h; omega
  · exact h
  · have := pw j i hj hi h; omega
theorem bitsB_mem {bl : List Blk} (h : Rises bl) {s y : Int} (hm : (s, y) ∈ bl) : bitsB bl s = y := by
  obtain ⟨k, hk, he⟩ := List.mem_iff_getElem.1 hm
  have hat : isAt bl s = true := by
    simp only [isAt, List.any_eq_true, beq_iff_eq]
    exact ⟨(s, y), hm, rfl⟩
  obtain ⟨h1, h2⟩ := (isAt_iff h s).1 hat
  rw [getD_of _ _ h1] at h2
  have e : loc bl s = k := uniq_at h h1 hk (by rw [h2, he])
  unfold bitsB
  rw [hat, if_pos rfl, getD_of _ _ h1]
  have e2 : bl[loc bl s] = bl[k] := by congr 1
  rw [e2, he]
theorem bitsB_not {bl : List Blk} {s : Int} (hm : ∀ y, (s, y) ∉ bl) : bitsB bl s = 0 := by
  unfold bitsB
  rw [if_neg]
  intro hat
  simp only [isAt, List.any_eq_true, beq_iff_eq] at hat
  obtain ⟨⟨a, b⟩, hb, he⟩ := hat
  exact hm b (by rw [← he]; exact hb)
theorem bitsB_same {a b : List Blk} (ha : Rises a) (hb : Rises b) {s : Int} (h : ∀ y, (s, y) ∈ a ↔ (s, y) ∈ b) : bitsB a s = bitsB b s := by
  by_cases hm : ∃ y, (s, y) ∈ a
  · obtain ⟨y, hy⟩ := hm
    rw [bitsB_mem ha hy, bitsB_mem hb ((h y).1 hy)]
  · rw [bitsB_not (fun y hy => hm ⟨y, hy⟩), bitsB_not (fun y hy => hm ⟨y, (h y).2 hy⟩)]
theorem bitsB_fit {bl : List Blk} (hf : FitB bl) (s : Int) : 0 ≤ bitsB bl s ∧ bitsB bl s < 18446744073709551616 := by
  unfold bitsB
  split
  · rename_i hat
    have hl := loc_lt hat
    have : bl.getD (loc bl s) (0, 0) ∈ bl := by rw [getD_of _ _ hl]; exact List.getElem_mem _
    exact (hf _ this).1
  · omega
theorem split_at (bl : List Blk) (i : Nat) (hi : i < bl.length) : bl = bl.take i ++ bl.getD i (0, 0) :: bl.drop (i + 1) := by
  rw [getD_of _ _ hi, ← List.drop_eq_getElem_cons hi, List.take_append_drop]
theorem mem_set {bl : List Blk} {i : Nat} (hi : i < bl.length) (v : Blk) {s y : Int} (hs : s ≠ v.1) (hb : (bl.getD i (0, 0)).1 = v.1) : (s, y) ∈ bl.set i v ↔ (s, y) ∈ bl := by
  have e1 : bl.set i v = bl.take i ++ v :: bl.drop (i + 1) := by rw [List.set_eq_take_append_cons_drop, if_pos hi]
  have hne : (s, y) ≠ v := fun e => hs (by rw [← e])
  have hne2 : (s, y) ≠ bl.getD i (0, 0) := fun e => hs (by rw [← hb, ← e])
  rw [e1]
  conv => rhs; rw [split_at bl i hi]
  simp only [List.mem_append, List.mem_cons, hne, hne2, false_or]
theorem mem_ins (bl : List Blk) (i : Nat) (v : Blk) {s y : Int} (hs : s ≠ v.1) : (s, y) ∈ insB bl i v ↔ (s, y) ∈ bl := by
  have hne : (s, y) ≠ v := fun e => hs (by rw [← e])
  unfold insB
  conv => rhs; rw [← List.take_append_drop i bl]
  simp only [List.mem_append, List.mem_cons, hne, false_or]
theorem mem_del {bl : List Blk} {i : Nat} (hi : i < bl.length) {s y : Int} (hs : s ≠ (bl.getD i (0, 0)).1) : (s, y) ∈ bl.eraseIdx i ↔ (s, y) ∈ bl := by
  have hne2 : (s, y) ≠ bl.getD i (0, 0) := fun e => hs (by rw [← e])
  rw [List.eraseIdx_eq_take_drop_succ]
  conv => rhs; rw [split_at bl i hi]
  simp only [List.mem_append, List.mem_cons, hne2, false_or]

theorem fit_set {bl : List Blk} (hf : FitB bl) (i : Nat) (v : Blk) (hv : (0 ≤ v.2 ∧ v.2 < 18446744073709551616) ∧ 0 ≤ v.1 ∧ v.1 < 16384) : FitB (bl.set i v) := fun b hb => by
  rcases List.mem_or_eq_of_mem_set hb with h | h
  · exact hf b h
  · rw [h]; exact hv
theorem fit_ins {bl : List Blk} (hf : FitB bl) (i : Nat) (v : Blk) (hv : (0 ≤ v.2 ∧ v.2 < 18446744073709551616) ∧ 0 ≤ v.1 ∧ v.1 < 16384) : FitB (insB bl i v) := fun b hb => by
  unfold insB at hb
  rcases List.mem_append.1 hb with h | h
  · exact hf b (List.mem_of_mem_take h)
  · rcases List.mem_cons.1 h with h | h
    · rw [h]; exact hv
    · exact hf b (List.mem_of_mem_drop h)
theorem fit_del {bl : List Blk} (hf : FitB bl) (i : Nat) : FitB (bl.eraseIdx i) := fun b hb => hf b ((List.eraseIdx_sublist _ _).subset hb)
theorem fit_short {bl : List Blk} (h : Rises bl) (hf : FitB bl) : bl.length ≤ 16384 := by
  have := nodup_bound 16384 (bl.map (·.1)) (by
    rw [List.nodup_iff_pairwise_ne, List.pairwise_map]
    exact h.imp (fun h => by omega)) (fun x hx => by
    obtain ⟨b, hb, rfl⟩ := List.mem_map.1 hx
    have := (hf b hb).2
    omega)
  simpa using this

/-- Whether a number is in it, by its bit. -/
theorem has_bit {bl : List Blk} (hf : FitB bl) (m : Int) : hasB bl m = (bitsB bl (m / 64)).toNat.testBit (m % 64).toNat := by
  obtain ⟨h0, h1⟩ := bitsB_fit hf (m / 64)
  have hm1 := Int.emod_nonneg m (show (64 : Int) ≠ 0 by decide)
  have hm2 := Int.emod_lt_of_pos m (show (0 : Int) < 64 by decide)
  unfold hasB bitV
  obtain ⟨X, hX⟩ := Int.eq_ofNat_of_zero_le h0
  rw [hX, and_u64 X _ (by rw [hX] at h1; omega) (pow_lt (by omega)), and_pow, Int.toNat_natCast]
  cases h : X.testBit (m % 64).toNat
  · rfl
  · have : 0 < 2 ^ (m % 64).toNat := Nat.pos_of_ne_zero (by simp)
    simp only [if_true, bne_iff_ne, ne_eq]
    omega
theorem num_eq {m n : Int} : (m / 64 = n / 64 ∧ (m % 64).toNat = (n % 64).toNat) ↔ m = n := by
  have hm1 := Int.emod_nonneg m (show (64 : Int) ≠ 0 by decide)
  have hn1 := Int.emod_nonneg n (show (64 : Int) ≠ 0 by decide)
  constructor
  · rintro ⟨h1, h2⟩; omega
  · rintro rfl; exact ⟨rfl, rfl⟩
/-- A set whose bits are the old ones, and one more or less. -/
theorem has_put {a b : List Blk} (ha : FitB a) (hb : FitB b) (n : Int) (v : Bool) (h1 : ∀ s, s ≠ n / 64 → bitsB b s = bitsB a s) (h2 : ∀ i, (bitsB b (n / 64)).toNat.testBit i = if i = (n % 64).toNat then v else (bitsB a (n / 64)).toNat.testBit i) (m : Int) :
    hasB b m = if m = n then v else hasB a m := by
  rw [has_bit hb, has_bit ha]
  by_cases hd : m / 64 = n / 64
  · rw [hd, h2]
    by_cases hi : (m % 64).toNat = (n % 64).toNat
    · rw [if_pos hi, if_pos (num_eq.1 ⟨hd, hi⟩)]
    · rw [if_neg hi, if_neg (fun e => hi (by rw [e]))]
  · rw [h1 _ hd, if_neg (fun e => hd (by rw [e]))]
end Go.Proofs.YtdpphjedjhjdgaaDoor

/- Sets: Within, Meets, by their numbers. -/
import Derived.Test.YtdpphjedjhjdgaaDoorB8
namespace Go.Proofs.YtdpphjedjhjdgaaDoor
open Go.RowKit Go.Maps

/-- A block's number is in the set just where its bit is set. -/
theorem has_blk {bl : List Blk} (hr : Rises bl) (hf : FitB bl) {t : Int} {Y : Nat} (hm : (t, (Y : Int)) ∈ bl) {i : Nat} (hi : i < 64) : hasB bl (64 * t + i) = Y.testBit i := by
  rw [has_bit hf, show (64 * t + (i : Int)) / 64 = t by omega, show ((64 * t + (i : Int)) % 64).toNat = i by omega, bitsB_mem hr hm, Int.toNat_natCast]
theorem has_at {bl : List Blk} (hf : FitB bl) {t : Int} {i : Nat} (hi : i < 64) : hasB bl (64 * t + i) = (bitsB bl t).toNat.testBit i := by
  rw [has_bit hf, show (64 * t + (i : Int)) / 64 = t by omega, show ((64 * t + (i : Int)) % 64).toNat = i by omega]
/-- What is in it is in a block of it. -/
theorem blk_of {bl : List Blk} (hr : Rises bl) (hf : FitB bl) {m : Int} (h : hasB bl m = true) : ∃ (t : Int) (Y i : Nat), (t, (Y : Int)) ∈ bl ∧ i < 64 ∧ m = 64 * t + i ∧ Y.testBit i = true := by
  have hm1 := Int.emod_nonneg m (show (64 : Int) ≠ 0 by decide)
  have hm2 := Int.emod_lt_of_pos m (show (0 : Int) < 64 by decide)
  have h' := h
  rw [has_bit hf] at h'
  by_cases hx : ∃ y, (m / 64, y) ∈ bl
  · obtain ⟨y, hy⟩ := hx
    obtain ⟨Y, rfl⟩ := Int.eq_ofNat_of_zero_le (hf _ hy).1.1
    rw [bitsB_mem hr hy, Int.toNat_natCast] at h'
    exact ⟨m / 64, Y, (m % 64).toNat, hy, by omega, by omega, h'⟩
  · rw [bitsB_not (fun y hy => hx ⟨y, hy⟩)] at h'
    simp at h'
theorem bit_high {X i : Nat} (hX : X < 2 ^ 64) (h : X.testBit i = true) : i < 64 := by
  rcases Nat.lt_or_ge i 64 with h1 | h1
  · exact h1
  · have : X.testBit i = false := Nat.testBit_lt_two_pow (Nat.lt_of_lt_of_le hX (Nat.pow_le_pow_right (by decide) h1))
    rw [this] at h; cases h
theorem blk_nat {bl : List Blk} (hf : FitB bl) {b : Blk} (hb : b ∈ bl) : ∃ Y : Nat, b.2 = (Y : Int) ∧ Y < 2 ^ 64 := by
  obtain ⟨h0, h1⟩ := (hf b hb).1
  obtain ⟨Y, hY⟩ := Int.eq_ofNat_of_zero_le h0
  exact ⟨Y, hY, by omega⟩
theorem at_nat {cl : List Blk} (hf : FitB cl) (t : Int) : ∃ Z : Nat, bitsB cl t = (Z : Int) ∧ Z < 2 ^ 64 := by
  obtain ⟨h0, h1⟩ := bitsB_fit hf t
  obtain ⟨Z, hZ⟩ := Int.eq_ofNat_of_zero_le h0
  exact ⟨Z, hZ, by omega⟩
theorem within_has {bl cl : List Blk} (hr : Rises bl) (hb : FitB bl) (hc : FitB cl) : withinB bl cl = true ↔ ∀ m, hasB bl m = true → hasB cl m = true := by
  unfold withinB
  rw [List.all_eq_true]
  constructor
  · intro h m hm
    obtain ⟨t, Y, i, hmem, hi, rfl, hbit⟩ := blk_of hr hb hm
    obtain ⟨Y', e, hY⟩ := blk_nat hb hmem
    obtain rfl : Y = Y' := by simp only at e; omega
    obtain ⟨Z, hZ, hZ2⟩ := at_nat hc t
    have h1 := h _ hmem
    simp only [hZ, not_u64, beq_iff_eq] at h1
    have h2 : (notN Y Z).testBit i = false := by rw [show notN Y Z = 0 by omega]; simp
    rw [notN_bit _ _ _ hY, hbit] at h2
    rw [has_at hc hi, hZ, Int.toNat_natCast]
    simpa using h2
  · intro h b hmem
    obtain ⟨Y, hY, hY2⟩ := blk_nat hb hmem
    obtain ⟨t, y⟩ := b
    simp only at hY
    subst hY
    obtain ⟨Z, hZ, hZ2⟩ := at_nat hc t
    simp only [hZ, not_u64, beq_iff_eq]
    have : notN Y Z = 0 := by
      apply Nat.eq_of_testBit_eq
      intro i
      rw [notN_bit _ _ _ hY2, Nat.zero_testBit]
      cases hbit : Y.testBit i
      · rfl
      · have hi := bit_high hY2 hbit
        have := h (64 * t + i) (by rw [has_blk hr hb hmem hi]; exact hbit)
        rw [has_at hc hi, hZ, Int.toNat_natCast] at this
        rw [this]; rfl
    omega
theorem apart_has {bl cl : List Blk} (hr : Rises bl) (hb : FitB bl) (hc : FitB cl) : apartB bl cl = true ↔ ∀ m, hasB bl m = true → hasB cl m = false := by
  unfold apartB
  rw [List.all_eq_true]
  constructor
  · intro h m hm
    obtain ⟨t, Y, i, hmem, hi, rfl, hbit⟩ := blk_of hr hb hm
    obtain ⟨Y', e, hY⟩ := blk_nat hb hmem
    obtain rfl : Y = Y' := by simp only at e; omega
    obtain ⟨Z, hZ, hZ2⟩ := at_nat hc t
    have h1 := h _ hmem
    simp only [hZ, and_u64 Y Z hY hZ2, beq_iff_eq] at h1
    have h2 : (Y &&& Z).testBit i = false := by rw [show Y &&& Z = 0 by omega]; simp
    rw [Nat.testBit_and, hbit] at h2
    rw [has_at hc hi, hZ, Int.toNat_natCast]
    simpa using h2
  · intro h b hmem
    obtain ⟨Y, hY, hY2⟩ := blk_nat hb hmem
    obtain ⟨t, y⟩ := b
    simp only at hY
    subst hY
    obtain ⟨Z, hZ, hZ2⟩ := at_nat hc t
    simp only [hZ, and_u64 Y Z hY2 hZ2, beq_iff_eq]
    have : Y &&& Z = 0 := by
      apply Nat.eq_of_testBit_eq
      intro i
      rw [Nat.testBit_and, Nat.zero_testBit]
      cases hbit : Y.testBit i
      · rfl
      · have hi := bit_high hY2 hbit
        have := h (64 * t + i) (by rw [has_blk hr hb hmem hi]; exact hbit)
        rw [has_at hc hi, hZ, Int.toNat_natCast] at this
        rw [this]; rfl
    omega
end Go.Proofs.YtdpphjedjhjdgaaDoor

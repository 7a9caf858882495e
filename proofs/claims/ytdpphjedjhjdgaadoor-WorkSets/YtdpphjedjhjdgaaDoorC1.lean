/- Sets: how many there are when blocks are laid in; sets within one another that are of one size. -/
import Derived.Test.YtdpphjedjhjdgaaDoorE2
import Derived.Test.YtdpphjedjhjdgaaDoorB9
namespace Go.Proofs.YtdpphjedjhjdgaaDoor
open Go.RowKit Go.Maps

theorem filter_or (f g : Nat → Bool) (l : List Nat) : (l.filter fun i => f i || g i).length = (l.filter f).length + (l.filter fun i => g i && !f i).length := by
  induction l with
  | nil => rfl
  | cons a l ih =>
    simp only [List.filter_cons]
    cases f a <;> cases g a <;> simp [ih] <;> omega
/-- How many of a block's places are in it. -/
def blkc (h : Int → Bool) (t : Int) : Nat := ((List.range 64).filter fun i : Nat => h (64 * t + i)).length
theorem cnt_blk (T : Nat) (h : Int → Bool) : cnt (64 * (T + 1)) h = cnt (64 * T) h + blkc h T := by
  unfold cnt blkc
  rw [show 64 * (T + 1) = 64 * T + 64 by omega, List.range_add, List.filter_append, List.length_append, List.filter_map, List.length_map]
  congr 2
theorem blkc_or (h : Int → Bool) (t : Int) (X : Nat) : (blkc (fun m => h m || (decide (m / 64 = t) && X.testBit (m % 64).toNat)) t : Int) = blkc h t + newH h t X := by
  unfold blkc newH
  rw [← Int.natCast_add, ← filter_or]
  congr 2
  apply List.filter_congr
  intro i hi
  have hi := List.mem_range.1 hi
  show (h (64 * t + (i : Int)) || (decide ((64 * t + (i : Int)) / 64 = t) && X.testBit ((64 * t + (i : Int)) % 64).toNat)) = _
  rw [show (64 * t + (i : Int)) / 64 = t by omega, show ((64 * t + (i : Int)) % 64).toNat = i by omega]
  simp
theorem blkc_off (h : Int → Bool) (t s : Int) (X : Nat) (hs : s ≠ t) : blkc (fun m => h m || (decide (m / 64 = t) && X.testBit (m % 64).toNat)) s = blkc h s := by
  unfold blkc
  congr 1
  apply List.filter_congr
  intro i hi
  have hi := List.mem_range.1 hi
  show (h (64 * s + (i : Int)) || (decide ((64 * s + (i : Int)) / 64 = t) && X.testBit ((64 * s + (i : Int)) % 64).toNat)) = _
  rw [show (64 * s + (i : Int)) / 64 = s by omega]
  simp [hs]
theorem cnt_or (h : Int → Bool) (t : Int) (X : Nat) (ht : 0 ≤ t) : ∀ T : Nat, (cnt (64 * T) (fun m => h m || (decide (m / 64 = t) && X.testBit (m % 64).toNat)) : Int) = cnt (64 * T) h + if t < T then newH h t X else 0 := by
  intro T
  induction T with
  | zero =>
    rw [if_neg (by omega)]
    show ((cnt 0 _ : Nat) : Int) = (cnt 0 h : Nat) + 0
    rfl
  | succ T ih =>
    rw [cnt_blk, cnt_blk]
    by_cases e : (T : Int) = t
    · subst e
      rw [if_neg (by omega)] at ih
      rw [if_pos (by omega)]
      have := blkc_or h T X
      omega
    · rw [blkc_off h t T X e]
      by_cases e2 : t < (T : Int)
      · rw [if_pos e2] at ih
        rw [if_pos (by omega)]
        omega
      · rw [if_neg e2] at ih
        rw [if_neg (by omega)]
        omega
theorem joinS_cnt (h : Int → Bool) (l : List Blk) (hf : FitB l) : ∀ k, k ≤ l.length → (joinS h (l.take k)).2 = (cnt 1048576 (joinS h (l.take k)).1 : Int) - cnt 1048576 h := by
  intro k
  induction k with
  | zero => intro _; show (0 : Int) = _; simp [joinS]
  | succ k ih =>
    intro hk
    rw [joinS_succ h l k (by omega)]
    have := ih (by omega)
    have hm := hf _ (show l.getD k (0, 0) ∈ l by rw [getD_of _ _ (by omega)]; exact List.getElem_mem _)
    have h2 := cnt_or (joinS h (l.take k)).1 (l.getD k (0, 0)).1 (l.getD k (0, 0)).2.toNat hm.2.1 16384
    rw [if_pos (by omega)] at h2
    rw [show (64 * 16384 : Nat) = 1048576 by decide] at h2
    show (joinS h (l.take k)).2 + newH (joinS h (l.take k)).1 (l.getD k (0, 0)).1 (l.getD k (0, 0)).2.toNat = (cnt 1048576 (fun m => (joinS h (l.take k)).1 m || (decide (m / 64 = (l.getD k (0, 0)).1) && (l.getD k (0, 0)).2.toNat.testBit (m % 64).toNat)) : Int) - cnt 1048576 h
    rw [h2]
    omega
/-- Whether a number is in one of some blocks. -/
def anyB (l : List Blk) (m : Int) : Bool := l.any fun b => decide (m / 64 = b.1) && b.2.toNat.testBit (m % 64).toNat
theorem joinS_any (h : Int → Bool) (l : List Blk) (m : Int) : ∀ k, k ≤ l.length → (joinS h (l.take k)).1 m = (h m || anyB (l.take k) m) := by
  intro k
  induction k with
  | zero => intro _; simp [joinS, anyB]
  | succ k ih =>
    intro hk
    rw [joinS_succ h l k (by omega)]
    have := ih (by omega)
    show ((joinS h (l.take k)).1 m || _) = _
    rw [this]
    unfold anyB
    rw [List.take_add_one, List.getElem?_eq_getElem (by omega), List.any_append, List.getD_eq_getElem?_getD, List.getElem?_eq_getElem (by omega)]
    simp [Bool.or_assoc]
theorem anyB_has {l : List Blk} (hr : Rises l) (hf : FitB l) (m : Int) : anyB l m = hasB l m := by
  cases h : hasB l m
  · cases h2 : anyB l m
    · rfl
    · unfold anyB at h2
      obtain ⟨⟨t, y⟩, hb, he⟩ := List.any_eq_true.1 h2
      simp only [Bool.and_eq_true, decide_eq_true_eq] at he
      rw [has_bit hf, he.1, bitsB_mem hr hb, he.2] at h
      cases h
  · obtain ⟨t, Y, i, hb, hi, rfl, hbit⟩ := blk_of hr hf h
    unfold anyB
    refine List.any_eq_true.2 ⟨_, hb, ?_⟩
    rw [show (64 * t + (i : Int)) / 64 = t by omega, show ((64 * t + (i : Int)) % 64).toNat = i by omega, Int.toNat_natCast, hbit]
    simp
theorem join_has (h : Int → Bool) {l : List Blk} (hr : Rises l) (hf : FitB l) (m : Int) : (joinS h l).1 m = (h m || hasB l m) := by
  have := joinS_any h l m l.length (Nat.le_refl _)
  rw [List.take_length, anyB_has hr hf] at this
  exact this
theorem join_cnt (h : Int → Bool) {l : List Blk} (hf : FitB l) : (joinS h l).2 = (cnt 1048576 (joinS h l).1 : Int) - cnt 1048576 h := by
  have := joinS_cnt h l hf l.length (Nat.le_refl _)
  rw [List.take_length] at this
  exact this

theorem cnt_mono (h h' : Int → Bool) (hw : ∀ m, h m = true → h' m = true) : ∀ N : Nat, cnt N h ≤ cnt N h' := by
  intro N
  induction N with
  | zero => exact Nat.le_refl _
  | succ N ih =>
    rw [cnt_succ, cnt_succ]
    have := hw N
    by_cases e : h N = true
    · rw [if_pos e, if_pos (this e)]; omega
    · rw [if_neg e]; omega
theorem cnt_eq (h h' : Int → Bool) (hw : ∀ m, h m = true → h' m = true) : ∀ N : Nat, cnt N h = cnt N h' → ∀ i : Nat, i < N → h' i = true → h i = true := by
  intro N
  induction N with
  | zero => intro _ i hi; omega
  | succ N ih =>
    intro hc i hi hi'
    rw [cnt_succ, cnt_succ] at hc
    have hm := cnt_mono h h' hw N
    have hwN := hw N
    by_cases e : h N = true
    · rw [if_pos e, if_pos (hwN e)] at hc
      by_cases ei : i = N
      · rw [ei]; exact e
      · exact ih (by omega) i (by omega) hi'
    · rw [if_neg e] at hc
      by_cases e' : h' N = true
      · rw [if_pos e'] at hc; omega
      · rw [if_neg e'] at hc
        by_cases ei : i = N
        · rw [ei] at hi'; exact absurd hi' e'
        · exact ih (by omega) i (by omega) hi'
theorem has_range {bl : List Blk} (hr : Rises bl) (hf : FitB bl) {m : Int} (h : hasB bl m = true) : 0 ≤ m ∧ m < 1048576 := by
  obtain ⟨t, Y, i, hb, hi, rfl, -⟩ := blk_of hr hf h
  have := (hf _ hb).2
  simp only at this
  omega
/-- Of one size, one within the other: the other within the one. -/
theorem same_has {bl cl : List Blk} (hr2 : Rises cl) (hf2 : FitB cl) (hw : ∀ m, hasB bl m = true → hasB cl m = true) (hc : cnt 1048576 (hasB bl) = cnt 1048576 (hasB cl)) (m : Int) (h : hasB cl m = true) : hasB bl m = true := by
  obtain ⟨h0, h1⟩ := has_range hr2 hf2 h
  obtain ⟨i, rfl⟩ := Int.eq_ofNat_of_zero_le h0
  exact cnt_eq _ _ hw 1048576 hc i (by omega) h

/-- Like numbers, like blocks. -/
theorem blk_same {bl cl : List Blk} (hr : Rises bl) (hf : FitB bl) (hu : FullB bl) (hr2 : Rises cl) (hf2 : FitB cl) (he : ∀ m, hasB bl m = hasB cl m) {b : Blk} (hb : b ∈ bl) : b ∈ cl := by
  obtain ⟨t, y⟩ := b
  obtain ⟨Y, hY, hY2⟩ := blk_nat hf hb
  simp only at hY
  subst hY
  have hne := hu _ hb
  simp only at hne
  have hat : bitsB cl t = (Y : Int) := by
    obtain ⟨Z, hZ, hZ2⟩ := at_nat hf2 t
    rw [hZ]
    congr 1
    apply Nat.eq_of_testBit_eq
    intro i
    by_cases hi : i < 64
    · have := he (64 * t + i)
      rw [has_blk hr hf hb hi, has_at hf2 hi, hZ, Int.toNat_natCast] at this
      exact this.symm
    · have p : 2 ^ 64 ≤ 2 ^ i := Nat.pow_le_pow_right (by decide) (by omega)
      rw [Nat.testBit_lt_two_pow (Nat.lt_of_lt_of_le hZ2 p), Nat.testBit_lt_two_pow (Nat.lt_of_lt_of_le hY2 p)]
  by_cases hx : ∃ y, (t, y) ∈ cl
  · obtain ⟨y, hy⟩ := hx
    have := bitsB_mem hr2 hy
    rw [hat] at this
    rw [this]; exact hy
  · rw [bitsB_not (fun y hy => hx ⟨y, hy⟩)] at hat
    omega
theorem rises_ext : ∀ {a b : List Blk}, Rises a → Rises b → (∀ x, x ∈ a ↔ x ∈ b) → a = b
  | [], [], _, _, _ => rfl
  | [], y :: b, _, _, h => absurd ((h y).2 (by simp)) (by simp)
  | x :: a, [], _, _, h => absurd ((h x).1 (by simp)) (by simp)
  | x :: a, y :: b, ha, hb, h => by
    have ha' := List.pairwise_cons.1 ha
    have hb' := List.pairwise_cons.1 hb
    have hxy : x = y := by
      rcases List.mem_cons.1 ((h x).1 (by simp)) with e | e
      · exact e
      · rcases List.mem_cons.1 ((h y).2 (by simp)) with e2 | e2
        · exact e2.symm
        · have h1 := hb'.1 x e
          have h2 := ha'.1 y e2
          omega
    subst hxy
    rw [rises_ext ha'.2 hb'.2 (fun z => by
      constructor
      · intro hz
        rcases List.mem_cons.1 ((h z).1 (List.mem_cons_of_mem _ hz)) with e | e
        · have := ha'.1 z hz; rw [e] at this; omega
        · exact e
      · intro hz
        rcases List.mem_cons.1 ((h z).2 (List.mem_cons_of_mem _ hz)) with e | e
        · have := hb'.1 z hz; rw [e] at this; omega
        · exact e)]
theorem blocks_eq {bl cl : List Blk} (hr : Rises bl) (hf : FitB bl) (hu : FullB bl) (hr2 : Rises cl) (hf2 : FitB cl) (hu2 : FullB cl) : bl = cl ↔ ∀ m, hasB bl m = hasB cl m :=
  ⟨fun h m => by rw [h], fun h => rises_ext hr hr2 (fun x => ⟨blk_same hr hf hu hr2 hf2 h, blk_same hr2 hf2 hu2 hr hf (fun m => (h m).symm)⟩)⟩
end Go.Proofs.YtdpphjedjhjdgaaDoor

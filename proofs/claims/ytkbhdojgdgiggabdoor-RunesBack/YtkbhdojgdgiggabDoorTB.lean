/- What Text writes is read back: where the bytes of a text lie. -/
import Derived.Test.YtkbhdojgdgiggabDoorTA
import Derived.Test.YtkbhdojgdgiggabDoorT3
import Derived.Test.YtkbhdojgdgiggabDoorM8
namespace Go.Proofs.YtkbhdojgdgiggabDoor
open Go.RowKit Go.Lib Go.Sort

/-- So many bytes lie from a place on. -/
def At (s : ByteArray) (i : Nat) (b : List UInt8) : Prop := ∀ j, j < b.length → gb s (i + j) = ((b.getD j 0).toNat : Int)
theorem At.cons {s : ByteArray} {i : Nat} {c : UInt8} {b : List UInt8} (h : At s i (c :: b)) : gb s i = (c.toNat : Int) ∧ At s (i + 1) b := by
  refine ⟨by simpa using h 0 (by simp), fun j hj => ?_⟩
  have := h (j + 1) (by simp; omega)
  rw [show i + (j + 1) = i + 1 + j by omega] at this
  simpa using this
theorem At.append {s : ByteArray} {i : Nat} {a b : List UInt8} (h : At s i (a ++ b)) : At s i a ∧ At s (i + a.length) b := by
  constructor
  · intro j hj
    have := h j (by simp; omega)
    rw [this, List.getD_eq_getElem?_getD, List.getD_eq_getElem?_getD, List.getElem?_append_left hj]
  · intro j hj
    have := h (a.length + j) (by simp; omega)
    rw [Nat.add_assoc, this, List.getD_eq_getElem?_getD, List.getD_eq_getElem?_getD, List.getElem?_append_right (by omega)]
    simp
theorem at_start (a b : List UInt8) : At ⟨(a ++ b).toArray⟩ 0 a := by
  intro j hj
  rw [Nat.zero_add, gb, dif_pos (by simp [ByteArray.size]; omega)]
  have : (⟨(a ++ b).toArray⟩ : ByteArray)[j]'(by simp [ByteArray.size]; omega) = (a ++ b)[j]'(by simp; omega) := rfl
  rw [this, List.getD_eq_getElem?_getD, List.getElem?_eq_getElem hj, List.getElem_append_left hj]
  simp

theorem digV_hexD : ∀ d : Fin 16, digV ((hexD d.val).toNat : Int) = d.val := by decide +kernel
/-- The number that digits write. -/
def valL (b : List UInt8) : Int := b.foldl (fun a c => 16 * a + digV (c.toNat : Int)) 0
theorem numTo_val (s : ByteArray) (i : Nat) (b : List UInt8) (h : At s i b) (k : Nat) (hk : k ≤ b.length) : numTo s i k = valL (b.take k) := by
  induction k with
  | zero => simp [numTo, valL]
  | succ k ih =>
    have e : b.take (k + 1) = b.take k ++ [b.getD k 0] := by
      rw [List.take_add_one, List.getD_eq_getElem?_getD, List.getElem?_eq_getElem (by omega)]; simp
    rw [numTo, ih (by omega), e, h k (by omega)]
    simp [valL]
theorem hexF_val (f n : Nat) (h : n < 16 ^ f) : valL (hexF f n) = n := by
  induction f generalizing n with
  | zero => simp at h; subst h; rfl
  | succ f ih =>
    rw [hexF]
    split
    · rename_i h16
      have := digV_hexD ⟨n, h16⟩
      simp only [valL, List.foldl_cons, List.foldl_nil] at this ⊢
      omega
    · have h1 : n / 16 < 16 ^ f := Nat.div_lt_of_lt_mul (by rw [Nat.pow_succ] at h; omega)
      have h2 := ih _ h1
      have h3 := digV_hexD ⟨n % 16, by omega⟩
      simp only [valL, List.foldl_append, List.foldl_cons, List.foldl_nil] at h2 h3 ⊢
      rw [h2, h3]
      omega
theorem hexF_digs (f n : Nat) : ∀ c ∈ hexF f n, 0 ≤ digV (c.toNat : Int) := by
  induction f generalizing n with
  | zero => simp [hexF]
  | succ f ih =>
    rw [hexF]
    split
    · rename_i h16
      intro c hc
      simp at hc; subst hc
      have := digV_hexD ⟨n, h16⟩
      simp only at this; omega
    · intro c hc
      rw [List.mem_append] at hc
      rcases hc with hc | hc
      · exact ih _ c hc
      · simp at hc; subst hc
        have := digV_hexD ⟨n % 16, by omega⟩
        simp only at this; omega
theorem hexF_pos (f n : Nat) : 0 < (hexF (f + 1) n).length := by rw [hexF]; split <;> simp

theorem marked_cases {r : Int} (h : markedB r = true) : r = 91 ∨ r = 93 ∨ r = 45 ∨ r = 94 ∨ r = 92 ∨ r = 34 := by simpa [markedB] using h
theorem not_marked {r : Int} (h : markedB r = false) : r ≠ 91 ∧ r ≠ 93 ∧ r ≠ 45 ∧ r ≠ 94 ∧ r ≠ 92 ∧ r ≠ 34 := by simpa [markedB] using h
/-- A rune's text opens with no sign that means something else. -/
theorem runeT_head (r : Int) : ∃ c t, runeT r = c :: t ∧ c.toNat ≠ 93 ∧ c.toNat ≠ 32 ∧ c.toNat ≠ 45 ∧ c.toNat ≠ 94 := by
  unfold runeT
  by_cases h1 : r = 10
  · rw [if_pos h1]; exact ⟨_, _, rfl, by decide⟩
  rw [if_neg h1]
  by_cases h2 : r = 9
  · rw [if_pos h2]; exact ⟨_, _, rfl, by decide⟩
  rw [if_neg h2]
  by_cases h3 : r = 13
  · rw [if_pos h3]; exact ⟨_, _, rfl, by decide⟩
  rw [if_neg h3]
  by_cases h4 : markedB r = true
  · rw [if_pos h4]; exact ⟨_, _, rfl, by decide⟩
  rw [if_neg h4]
  by_cases h5 : 32 < r ∧ r < 127
  · rw [if_pos h5]
    have hm := not_marked (Bool.eq_false_iff.2 h4)
    refine ⟨_, _, rfl, ?_⟩
    have : (UInt8.ofNat r.toNat).toNat = r.toNat := by show r.toNat % 256 = r.toNat; omega
    rw [this]
    omega
  · rw [if_neg h5]; exact ⟨_, _, rfl, by decide⟩
set_option maxHeartbeats 1000000 in
theorem rd_rune (s : ByteArray) (hs : s.size < 4611686018427387904) (i : Nat) (r : Int) (h0 : 0 ≤ r) (hr : r ≤ 1114111) (h : At s i (runeT r)) : RdOk s i r (i + (runeT r).length) := by
  intro w
  unfold runeT at h ⊢
  by_cases h1 : r = 10
  · rw [if_pos h1] at h ⊢
    have a := h.cons; have b := a.2.cons
    exact readRune_esc s i r _ a.1 w fun w => escape_ok s i 110 r hs b.1 (.inl ⟨rfl, h1⟩) w
  rw [if_neg h1] at h ⊢
  by_cases h2 : r = 9
  · rw [if_pos h2] at h ⊢
    have a := h.cons; have b := a.2.cons
    exact readRune_esc s i r _ a.1 w fun w => escape_ok s i 116 r hs b.1 (.inr (.inl ⟨rfl, h2⟩)) w
  rw [if_neg h2] at h ⊢
  by_cases h3 : r = 13
  · rw [if_pos h3] at h ⊢
    have a := h.cons; have b := a.2.cons
    exact readRune_esc s i r _ a.1 w fun w => escape_ok s i 114 r hs b.1 (.inr (.inr (.inl ⟨rfl, h3⟩))) w
  rw [if_neg h3] at h ⊢
  have hb : ((UInt8.ofNat r.toNat).toNat : Int) = (r.toNat % 256 : Nat) := rfl
  by_cases h4 : markedB r = true
  · rw [if_pos h4] at h ⊢
    have a := h.cons; have b := a.2.cons
    have hm := marked_cases h4
    exact readRune_esc s i r _ a.1 w fun w => escape_ok s i r r hs (by rw [b.1, hb]; omega) (.inr (.inr (.inr (hm.imp (fun h => ⟨h, h⟩) (Or.imp (fun h => ⟨h, h⟩) (Or.imp (fun h => ⟨h, h⟩) (Or.imp (fun h => ⟨h, h⟩) (Or.imp (fun h => ⟨h, h⟩) (fun h => ⟨h, h⟩))))))))) w
  rw [if_neg h4] at h ⊢
  by_cases h5 : 32 < r ∧ r < 127
  · rw [if_pos h5] at h ⊢
    have a := h.cons
    have hm := not_marked (Bool.eq_false_iff.2 h4)
    exact readRune_plain s i r hs (by rw [a.1, hb]; omega) (by omega) (by omega) (by omega) (by omega) (by omega) (by omega) (by omega) w
  rw [if_neg h5] at h ⊢
  have a := h.append
  have b := a.1.append
  have c := b.1.cons; have d := c.2.cons; have f := d.2.cons
  have g := a.2.cons
  have hlt : r.toNat < 16 ^ 6 := by simp; omega
  have hv := numTo_val s (i + 3) (hexF 6 r.toNat) b.2 (hexF 6 r.toNat).length (Nat.le_refl _)
  rw [List.take_length, hexF_val 6 _ hlt] at hv
  have hn : numTo s (i + 3) (hexF 6 r.toNat).length = r := by rw [hv]; omega
  have H := readNumber_ok s i (hexF 6 r.toNat).length hs f.1 (hexF_pos 5 _) (hexF_le 6 _) (fun j hj => by
    rw [show gb s (i + 3 + j) = _ from b.2 j hj]
    refine hexF_digs 6 r.toNat _ ?_
    rw [List.getD_eq_getElem?_getD, List.getElem?_eq_getElem hj]; exact List.getElem_mem _) (by
    have := g.1
    simp only [List.length_append, List.length_cons, List.length_nil] at this
    rw [show i + 3 + (hexF 6 r.toNat).length = i + (0 + 1 + 1 + 1 + (hexF 6 r.toNat).length) by omega]
    exact this) (by rw [hn]; omega)
  rw [hn] at H
  refine readRune_esc s i r _ c.1 w fun w => escape_u s i r _ hs d.1 w fun w => (H w).mono ?_
  rintro e w' ⟨rfl, hb2⟩
  refine ⟨?_, hb2⟩
  unfold RuneR
  simp
  omega
theorem runeT_pos (r : Int) : 0 < (runeT r).length := by
  obtain ⟨c, t, h, _⟩ := runeT_head r
  rw [h]; simp
theorem rd_range (s : ByteArray) (hs : s.size < 4611686018427387904) (i : Nat) (x y : Int) (h0 : 0 ≤ x) (hxy : x ≤ y) (hr : y ≤ 1114111) (h : At s i (rangeT (x, y))) (hn : gb s (i + (rangeT (x, y)).length) ≠ 45) (w : World) :
    Calls Tryd.prog 55 #[.string s, .int .i64 i] w fun e w' => e = .returned (RangeR x y (i + (rangeT (x, y)).length)) ∧ Below w.heap.size w w' := by
  unfold rangeT at h hn ⊢
  simp only at h hn ⊢
  by_cases e : y = x
  · subst e
    rw [if_pos rfl, List.append_nil] at h hn ⊢
    exact readRange_one s i y _ (rd_rune s hs i y h0 hr h) hn w
  · rw [if_neg e] at h hn ⊢
    have a := h.append
    have b := a.2.cons
    have c := rd_rune s hs (i + (runeT x).length + 1) y (by omega) hr b.2
    have H := readRange_two s i x y _ _ hs (rd_rune s hs i x h0 (by omega) a.1) b.1 c hxy w
    rw [show i + (runeT x ++ 45 :: runeT y).length = i + (runeT x).length + 1 + (runeT y).length by simp; omega]
    exact H
theorem rds_all (s : ByteArray) (hs : s.size < 4611686018427387904) (l : List Rng) (hl : ∀ x ∈ l, 0 ≤ x.1 ∧ x.1 ≤ x.2 ∧ x.2 ≤ 1114111) (i : Nat) (h : At s i (l.flatMap rangeT ++ [93])) : Rds s i l (i + (l.flatMap rangeT).length) ∧ gb s i ≠ 45 ∧ gb s i ≠ 94 := by
  induction l generalizing i with
  | nil =>
    have a : At s i [93] := by simpa using h
    have b := a.cons
    refine ⟨by simpa using Rds.done (by simpa using b.1), ?_, ?_⟩
    · rw [b.1]; decide
    · rw [b.1]; decide
  | cons x l ih =>
    rw [List.flatMap_cons, List.append_assoc] at h
    have a := h.append
    have b := ih (fun y hy => hl y (List.mem_cons_of_mem _ hy)) _ a.2
    obtain ⟨x, y⟩ := x
    have hx := hl (x, y) (List.mem_cons_self ..)
    simp only at hx
    obtain ⟨c, t, hc, k1, k2, k3, k4⟩ := runeT_head x
    have hg : gb s i = (c.toNat : Int) := by
      have := a.1
      unfold rangeT at this
      simp only [hc, List.cons_append] at this
      exact this.cons.1
    have hpos : 0 < (rangeT (x, y)).length := by
      have := runeT_pos x
      unfold rangeT; simp; omega
    refine ⟨?_, by rw [hg]; omega, by rw [hg]; omega⟩
    have hst := Rds.step (s := s) (i := i) (n := i + (rangeT (x, y)).length) (x := x) (y := y) (l := l) (by rw [hg]; omega) (by rw [hg]; omega) (fun w => rd_range s hs i x y hx.1 hx.2.1 hx.2.2 a.1 b.2.1 w) (by omega) b.1
    rw [List.flatMap_cons, List.length_append, ← Nat.add_assoc]
    exact hst
/-- The text of a set, with whatever behind it, is read as that set. -/
theorem set_back (l : List Rng) (hup : Up 0 l) (hl : ∀ x ∈ l, isR x = true) (h2048 : l.length ≤ 2048) (b : List UInt8) (hs : (textL l ++ b).length < 4611686018427387904) :
    SetOk ⟨(textL l ++ b).toArray⟩ ((textL l).length - 1) l := by
  intro w
  have hsz : (⟨(textL l ++ b).toArray⟩ : ByteArray).size < 4611686018427387904 := by simpa [ByteArray.size] using hs
  have ha := at_start (textL l) b
  generalize (⟨(textL l ++ b).toArray⟩ : ByteArray) = s at *
  have hr : ∀ x ∈ l, 0 ≤ x.1 ∧ x.1 ≤ x.2 ∧ x.2 ≤ 1114111 := fun x hx => by
    have := hl x hx
    simp [isR] at this; omega
  have e : textL l = 91 :: (l.flatMap rangeT ++ [93]) := by
    unfold textL textTo
    rw [List.take_length]; rfl
  rw [e] at ha ⊢
  have c := ha.cons
  have d := rds_all s hsz l hr (0 + 1) c.2
  have H := readSet_ok s 0 _ l hsz (by simpa using c.1) d.2.2 d.1 h2048 hl w
  have hm : mergedL l = l := by
    have := mergedL_inv l hl
    exact up_uniq this.1 hup this.2
  rw [hm] at H
  rw [show (91 :: (l.flatMap rangeT ++ [93])).length - 1 = 0 + 1 + (l.flatMap rangeT).length by simp; omega]
  exact H
end Go.Proofs.YtkbhdojgdgiggabDoor

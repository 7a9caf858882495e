/- Sets: the search for a block, find. -/
import Derived.Test.YtdpphjedjhjdgaaDoorS1
namespace Go.Proofs.YtdpphjedjhjdgaaDoor
open Go.RowKit Go.Maps

def flatB (bl : List Blk) : List Value := bl.flatMap fun b => [.int .i64 b.1, .int .u64 b.2]
theorem flatB_cons (b : Blk) (bl : List Blk) : flatB (b :: bl) = .int .i64 b.1 :: .int .u64 b.2 :: flatB bl := rfl
theorem flatB_append (a b : List Blk) : flatB (a ++ b) = flatB a ++ flatB b := List.flatMap_append
theorem flatB_length (bl : List Blk) : (flatB bl).length = bl.length * 2 := by
  induction bl with
  | nil => rfl
  | cons b bl ih => rw [flatB_cons, List.length_cons, List.length_cons, ih, List.length_cons]; omega
theorem flatB_at (bl : List Blk) (j : Nat) (hj : j < bl.length) : (flatB bl)[j * 2]? = some (.int .i64 (bl.getD j (0, 0)).1) ∧ (flatB bl)[j * 2 + 1]? = some (.int .u64 (bl.getD j (0, 0)).2) := by
  induction bl generalizing j with
  | nil => simp at hj
  | cons b bl ih =>
    cases j with
    | zero => exact ⟨rfl, rfl⟩
    | succ j =>
      have h := ih j (by simpa using hj)
      rw [flatB_cons]
      rw [show (j + 1) * 2 = j * 2 + 1 + 1 by omega]
      simpa using h
theorem flatB_one (bl : List Blk) : ∀ u ∈ flatB bl, u.oneCell' = true := by
  intro u hu
  simp only [flatB, List.mem_flatMap] at hu
  obtain ⟨b, -, hb⟩ := hu
  simp at hb
  rcases hb with rfl | rfl <;> rfl

/-- Blocks lie there. -/
def BRow (w : World) (a : Option Addr) (bl : List Blk) : Prop :=
  bl = [] ∨ ∃ g, a = some ⟨g, 0, none⟩ ∧ g < w.heap.size ∧ ∀ j, j < bl.length → w.cell? ⟨g, j * 2, none⟩ = some (.int .i64 (bl.getD j (0, 0)).1) ∧ w.cell? ⟨g, j * 2 + 1, none⟩ = some (.int .u64 (bl.getD j (0, 0)).2)
theorem brow_below {w w' : World} {a : Option Addr} {bl : List Blk} (h : BRow w a bl) (hb : Below w.heap.size w w') : BRow w' a bl := by
  rcases h with rfl | ⟨g, rfl, hlt, hc⟩
  · exact .inl rfl
  · refine .inr ⟨g, rfl, Nat.lt_of_lt_of_le hlt hb.size, fun j hj => ?_⟩
    rw [hb.cell (by exact hlt), hb.cell (by exact hlt)]
    exact hc j hj
theorem brow_own {w : World} {B c : Nat} {a : Option Addr} {bl : List Blk} (h : w.ownsRow B 73 2 (.slice a bl.length c) bl.length (flatB bl)) : BRow w a bl := by
  by_cases h0 : bl = []
  · exact .inl h0
  · obtain ⟨g, c', hv, -, hg, -⟩ := own_pos h (List.length_pos_iff.2 h0)
    simp only [Value.slice.injEq] at hv
    obtain ⟨rfl, -, rfl⟩ := hv
    refine .inr ⟨g, rfl, hg, fun j hj => ?_⟩
    have hf := flatB_at bl j hj
    have hl := flatB_length bl
    have e := fun k (hk : k < (flatB bl).length) => own_cell h rfl k hk
    refine ⟨(e _ (by omega)).trans ?_, (e _ (by omega)).trans ?_⟩
    · rw [List.getD_eq_getElem?_getD, hf.1]; rfl
    · rw [List.getD_eq_getElem?_getD, hf.2]; rfl

/-- Blocks rise. -/
def Rises (bl : List Blk) : Prop := bl.Pairwise fun x y => x.1 < y.1
theorem rises_at {bl : List Blk} (h : Rises bl) {i j : Nat} (hij : i < j) (hj : j < bl.length) : (bl.getD i (0, 0)).1 < (bl.getD j (0, 0)).1 := by
  rw [List.getD_eq_getElem?_getD, List.getD_eq_getElem?_getD, List.getElem?_eq_getElem hj, List.getElem?_eq_getElem (by omega)]
  exact (List.pairwise_iff_getElem.1 h) i j (by omega) hj hij
def loc (bl : List Blk) (t : Int) : Nat := (bl.filter fun b => decide (b.1 < t)).length
def isAt (bl : List Blk) (t : Int) : Bool := bl.any fun b => b.1 == t
theorem getD_of (bl : List Blk) (k : Nat) (h : k < bl.length) : bl.getD k (0, 0) = bl[k] := by rw [List.getD_eq_getElem?_getD, List.getElem?_eq_getElem h]; rfl
theorem loc_of {bl : List Blk} {t : Int} {i : Nat} (hi : i ≤ bl.length) (h1 : ∀ k, k < i → (bl.getD k (0, 0)).1 < t) (h2 : ∀ k, i ≤ k → k < bl.length → t ≤ (bl.getD k (0, 0)).1) : loc bl t = i := by
  unfold loc
  conv => lhs; rw [← List.take_append_drop i bl]
  rw [List.filter_append, List.filter_eq_self.2, List.filter_eq_nil_iff.2]
  · simp; omega
  · intro b hb
    obtain ⟨k, hk, rfl⟩ := List.mem_iff_getElem.1 hb
    simp only [List.length_drop] at hk
    have := h2 (i + k) (by omega) (by omega)
    rw [getD_of _ _ (by omega)] at this
    simp only [List.getElem_drop, decide_eq_true_eq]
    omega
  · intro b hb
    obtain ⟨k, hk, rfl⟩ := List.mem_iff_getElem.1 hb
    simp only [List.length_take] at hk
    have := h1 k (by omega)
    rw [getD_of _ _ (by omega)] at this
    simpa using this
theorem isAt_of {bl : List Blk} {t : Int} {i : Nat} (hup : Rises bl) (h1 : ∀ k, k < i → (bl.getD k (0, 0)).1 < t) (h2 : ∀ k, i ≤ k → k < bl.length → t ≤ (bl.getD k (0, 0)).1) : isAt bl t = decide (i < bl.length ∧ (bl.getD i (0, 0)).1 = t) := by
  rw [Bool.eq_iff_iff]
  simp only [isAt, List.any_eq_true, beq_iff_eq, decide_eq_true_eq]
  constructor
  · rintro ⟨b, hb, rfl⟩
    obtain ⟨k, hk, rfl⟩ := List.mem_iff_getElem.1 hb
    rw [← getD_of _ _ hk] at *
    rcases Nat.lt_trichotomy k i with h | h | h
    · have := h1 k h; omega
    · subst h; exact ⟨hk, rfl⟩
    · have a := rises_at hup h hk
      have b := h2 i (Nat.le_refl _) (by omega)
      omega
  · rintro ⟨hi, rfl⟩
    exact ⟨bl[i], List.getElem_mem _, by rw [getD_of _ _ hi]⟩

set_option maxHeartbeats 4000000 in
set_option maxRecDepth 100000 in
theorem search_any (a : Option Addr) (c : Nat) (bl : List Blk) (hlen : bl.length ≤ 1099511627776) (hup : Rises bl) (t : Int) (w : World) (hrow : BRow w a bl) :
    Calls Tryd.prog 55 #[.slice a bl.length c, .int .i64 t, .func (.func 56) #[] #[]] w fun e w' => e = .returned (.tuple #[.int .i64 (loc bl t), .bool (isAt bl t)]) ∧ Below w.heap.size w w' := by
  go_enter Tryd.func55, Tryd.ntmps55
  go_wp2
  go_loopw [9, 10] (fun x y wr => ∃ i j : Nat, x = .int .i64 i ∧ y = .int .i64 j ∧ i ≤ j ∧ j ≤ bl.length ∧ (∀ k, k < i → (bl.getD k (0, 0)).1 < t) ∧ (∀ k, j ≤ k → k < bl.length → t ≤ (bl.getD k (0, 0)).1) ∧ Below w.heap.size w wr) (fun x y _ => (intOf y - intOf x).toNat)
  case atStart => exact ⟨0, bl.length, rfl, rfl, Nat.zero_le _, Nat.le_refl _, fun k h => by omega, fun k h h' => by omega, Below.refl _ _⟩
  case round =>
    obtain ⟨i, j, rfl, rfl, hij, hj, hlo, hhi, hb⟩ := hrel
    have HF := hide (fun x y w' => find1_any x y t w')
    have hrow' := brow_below hrow hb
    by_cases hlt : i < j
    · have hlt' : (i : Int) < j := by omega
      obtain ⟨m, hm⟩ : ∃ m : Nat, ((i : Int) + j) / 2 = m := ⟨(i + j) / 2, by omega⟩
      have hm1 : i ≤ m := by omega
      have hm2 : m < j := by omega
      rcases hrow' with h0 | ⟨g, rfl, hgl, hc⟩
      · subst h0; simp at hj; omega
      obtain ⟨c0, c1⟩ := hc m (by omega)
      have Hlo := hide (fun k (hk : k < m) => rises_at hup hk (by omega))
      have Hhi := hide (fun k (hk : m < k) (hl : k < bl.length) => rises_at hup hk hl)
      have hml : (m : Int) < bl.length := by omega
      have Hb := hide hb; have HA := hide hlo; have HB := hide hhi
      clear hc hb hlo hhi hrow hup
      by_cases hx : (bl.getD m (0, 0)).1 < t
      · have HX : Hid (∀ k, k < m + 1 → (bl.getD k (0, 0)).1 < t) := hide (fun k hk => by
          rcases Nat.lt_or_ge k m with h | h
          · have := unhide Hlo k h; omega
          · obtain rfl : k = m := by omega
            exact hx)
        have hq : cmpI (bl.getD m (0, 0)).1 t = -1 := by simp only [cmpI, hx, if_true]
        have HF1 := hide (fun y w' => unhide HF (bl.getD m (0, 0)).1 y w')
        rw [hq] at HF1
        clear hx hq HF
        generalize bl.getD m (0, 0) = b at *
        go_wp2_with (go_at_call 56; refine (unhide HF1 _ _).mono ?_; rintro e w' ⟨rfl, rfl⟩)
        go_roundw
        case rel => exact ⟨m + 1, j, by go_num, rfl, by omega, hj, unhide HX, unhide HB, (unhide Hb).alloc (by have := (unhide Hb).size; omega) _⟩
        case measure => simp [intOf]; omega
      · have HX : Hid (∀ k, m ≤ k → k < bl.length → t ≤ (bl.getD k (0, 0)).1) := hide (fun k hk hl => by
          rcases Nat.lt_or_ge m k with h | h
          · have := unhide Hhi k h hl; omega
          · obtain rfl : k = m := by omega
            omega)
        obtain ⟨q, hq, hq0⟩ : ∃ q : Int, cmpI (bl.getD m (0, 0)).1 t = q ∧ ¬ q < 0 := ⟨_, rfl, by simp only [cmpI, hx, if_false]; split <;> omega⟩
        have HF1 := hide (fun y w' => unhide HF (bl.getD m (0, 0)).1 y w')
        rw [hq] at HF1
        clear hx hq HF
        generalize bl.getD m (0, 0) = b at *
        go_wp2_with (go_at_call 56; refine (unhide HF1 _ _).mono ?_; rintro e w' ⟨rfl, rfl⟩)
        go_roundw
        case rel => exact ⟨i, m, rfl, by go_num, by omega, by omega, unhide HA, unhide HX, (unhide Hb).alloc (by have := (unhide Hb).size; omega) _⟩
        case measure => simp [intOf]; omega
    · obtain rfl : i = j := by omega
      have HL := hide (loc_of hj hlo hhi)
      have HI := hide (isAt_of hup hlo hhi)
      have Hb := hide hb
      by_cases hl : i < bl.length
      · rcases hrow' with h0 | ⟨g, rfl, hgl, hc⟩
        · subst h0; simp at hl
        obtain ⟨c0, c1⟩ := hc i hl
        have hil : (i : Int) < bl.length := by omega
        clear hc hb hlo hhi hrow hup hlt
        have hq : (cmpI (bl.getD i (0, 0)).1 t == 0) = decide (i < bl.length ∧ (bl.getD i (0, 0)).1 = t) := by
          rw [Bool.eq_iff_iff]; simp only [cmpI, beq_iff_eq, decide_eq_true_eq]; repeat' split <;> omega
        have HI' := hide ((unhide HI).trans hq.symm)
        have HF1 := hide (fun y w' => unhide HF (bl.getD i (0, 0)).1 y w')
        clear HF hq HI
        generalize cmpI (bl.getD i (0, 0)).1 t = q at *
        generalize bl.getD i (0, 0) = b at *
        go_wp2_with (go_at_call 56; refine (unhide HF1 _ _).mono ?_; rintro e w' ⟨rfl, rfl⟩)
        go_ret2
        rw [unhide HL, unhide HI']
        exact ⟨rfl, (unhide Hb).alloc (by have := (unhide Hb).size; omega) _⟩
      · have hil : ¬ (i : Int) < bl.length := by omega
        have HI' : Hid (isAt bl t = false) := hide (by rw [unhide HI]; simp; omega)
        clear hb hlo hhi hrow hup hlt hrow' HI
        go_wp2
        go_ret2
        rw [unhide HL, unhide HI']
        exact ⟨rfl, unhide Hb⟩
end Go.Proofs.YtdpphjedjhjdgaaDoor

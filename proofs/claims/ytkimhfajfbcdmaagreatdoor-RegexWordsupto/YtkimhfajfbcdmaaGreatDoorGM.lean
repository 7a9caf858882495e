/- Pools: SortFunc of few numbers. -/
import Derived.Test.YtkimhfajfbcdmaaGreatDoorQI
import Derived.Test.YtkimhfajfbcdmaaGreatDoorS7
import Derived.Deep.QuietTactic
import Derived.BigQuiet
import Derived.Laws.OwnMore
import Derived.Sort.LotA
namespace Go.Proofs.YtkimhfajfbcdmaaGreatDoor
open Go.RowKit Go.Sort

/-- A row of n numbers lies in block b. -/
def NW (w : World) (b cap n : Nat) (d : Array Int) : Prop := d.size = n ∧ w.ownsRow b 3 1 (.slice (some ⟨b, 0, none⟩) n cap) n (d.toList.map (Value.int .i64))
/-- All but block b is as it was. -/
def OfB (b : Nat) (w w' : World) : Prop := w.heap.size ≤ w'.heap.size ∧ (∀ k, k < w.heap.size → k ≠ b → w'.heap[k]? = w.heap[k]?) ∧ w'.os = w.os ∧ w'.tape = w.tape ∧ w'.output = w.output
theorem ofB_refl (b : Nat) (w : World) : OfB b w w := ⟨Nat.le_refl _, fun _ _ _ => rfl, rfl, rfl, rfl⟩
theorem ofB_t {b : Nat} {A B C : World} (h : OfB b A B) (k : OfB b B C) : OfB b A C := ⟨Nat.le_trans h.1 k.1, fun j hj hn => (k.2.1 j (Nat.lt_of_lt_of_le hj h.1) hn).trans (h.2.1 j hj hn), k.2.2.1.trans h.2.2.1, k.2.2.2.1.trans h.2.2.2.1, k.2.2.2.2.trans h.2.2.2.2⟩
theorem ofB_grown {b : Nat} {A B : World} (h : A.grownBy B (some b)) : OfB b A B := ⟨h.size, fun k hk hn => h.block k hk (fun e => hn (by cases e; rfl)), h.os, h.tape, h.output⟩
theorem ofB_drew {b : Nat} {A B : World} (q : Nat) (h : OfB b A B) : OfB b A (B.drewN q) := h
theorem nw_drew {w : World} {b cap n : Nat} {d : Array Int} (q : Nat) (h : NW w b cap n d) : NW (w.drewN q) b cap n d := h
theorem nw_cell {w : World} {b cap n : Nat} {d : Array Int} (h : NW w b cap n d) (i : Nat) (hi : i < n) : w.cell? ⟨b, i, none⟩ = some (.int .i64 d[i]!) := by
  rw [h.2.cellAt i (by omega)]
  have := h.1
  simp [this ▸ hi]
theorem nw_frozen {w : World} {b cap n : Nat} {d : Array Int} (h : NW w b cap n d) (i : Nat) : w.frozen? ⟨b, i, none⟩ = false := h.2.frozenAt i
theorem nw_swp {w : World} {b cap n : Nat} {d : Array Int} (h : NW w b cap n d) (i j : Nat) :
    NW ((w.setCell ⟨b, i, none⟩ (.int .i64 d[j]!)).setCell ⟨b, j, none⟩ (.int .i64 d[i]!)) b cap n (swp d i j) ∧ OfB b w ((w.setCell ⟨b, i, none⟩ (.int .i64 d[j]!)).setCell ⟨b, j, none⟩ (.int .i64 d[i]!)) := by
  have s1 := h.2.stored i (.int .i64 d[j]!)
  have s2 := s1.1.stored j (.int .i64 d[i]!)
  refine ⟨⟨by rw [size_swp]; exact h.1, ?_⟩, ofB_t (ofB_grown s1.2) (ofB_grown s2.2)⟩
  have e : (swp d i j).toList.map (Value.int .i64) = ((d.toList.map (Value.int .i64)).set i (.int .i64 d[j]!)).set j (.int .i64 d[i]!) := by
    simp [swp, Array.toList_setIfInBounds, List.map_set]
  rw [e]; exact s2.1
def Good (good : Int → Prop) (d : Array Int) : Prop := ∀ i, i < d.size → good d[i]!
theorem good_swp {good : Int → Prop} {d : Array Int} (h : Good good d) (i j : Nat) (hi : i < d.size) (hj : j < d.size) : Good good (swp d i j) := fun k hk => by
  rw [size_swp] at hk
  unfold swp
  by_cases hkj : k = j
  · subst hkj
    rw [getElem!_set_same _ _ _ (by simpa using hj)]
    exact h i hi
  · rw [getElem!_set_other _ _ _ _ hkj]
    by_cases hki : k = i
    · subst hki
      rw [getElem!_set_same _ _ _ hi]
      exact h j hj
    · rw [getElem!_set_other _ _ _ _ hki]
      exact h k hk
def ltC (cf : Int → Int → Int) (x y : Int) : Bool := decide (cf x y < 0)

set_option maxRecDepth 100000 in
set_option maxHeartbeats 2000000 in
theorem insP_any (pb : Nat) (good : Int → Prop) (cf : Int → Int → Int) (b cap n a c : Nat) (d : Array Int) (hc : c ≤ n) (hn : n ≤ 281474976710656) (ha : a ≤ n) (w : World) (h : NW w b cap n d) (hg : Good good d) (hcf : ∀ W, OfB b w W → ∀ x y, good x → good y → Calls Tryz.prog 25 #[.pointer (some ⟨pb, 0, none⟩), .int .i64 x, .int .i64 y] W fun e w' => e = .returned (.int .i64 (cf x y)) ∧ ∃ q, w' = W.drewN q) :
    Calls Tryz.prog 114 #[.slice (some ⟨b, 0, none⟩) n cap, .int .i64 a, .int .i64 c, .func (.func 25) #[.pointer (some ⟨pb, 0, none⟩)] #[]] w fun e w' => (∃ v, e = .returned v) ∧ NW w' b cap n (insertionSort (ltC cf) d a c) ∧ OfB b w w' ∧ Good good (insertionSort (ltC cf) d a c) := by
  unfold insertionSort
  have Hcf := hide hcf
  clear hcf
  go_enter Tryz.func114, Tryz.ntmps114
  go_wp2
  go_loopw [8] (fun x wr => ∃ (i : Nat) (d1 : Array Int), x = .int .i64 i ∧ a < i ∧ i ≤ n + 1 ∧ NW wr b cap n d1 ∧ OfB b w wr ∧ Good good d1 ∧ insOuter (ltC cf) a c i d1 = insOuter (ltC cf) a c (a + 1) d) (fun x _ => c - (intOf x).toNat)
  case atStart => exact ⟨a + 1, d, by go_num, by omega, by omega, h, ofB_refl _ _, hg, rfl⟩
  case round =>
    obtain ⟨i, d1, rfl, hai, hin, hrw, hof, hgd, heq⟩ := hrel
    rw [insOuter] at heq
    by_cases hlt : i < c
    · rw [if_pos hlt] at heq
      have hlt' : (i : Int) < c := by omega
      have Hrw := hide hrw; have Hof := hide hof; have Heq := hide heq; have Hgd := hide hgd
      clear hrw hof heq hgd
      go_wp2
      go_loopw [9] (fun x wr2 => ∃ (j : Nat) (d2 : Array Int), x = .int .i64 j ∧ j ≤ i ∧ NW wr2 b cap n d2 ∧ OfB b w wr2 ∧ Good good d2 ∧ insInner (ltC cf) a j d2 = insInner (ltC cf) a i d1) (fun x _ => (intOf x).toNat)
      case atStart => exact ⟨i, d1, rfl, Nat.le_refl _, unhide Hrw, unhide Hof, unhide Hgd, rfl⟩
      case round =>
        obtain ⟨j, d2, rfl, hji, hrw, hof, hgd, heq⟩ := hrel
        by_cases hja : a < j
        · obtain ⟨k, rfl⟩ : ∃ k, j = k + 1 := ⟨j - 1, by omega⟩
          have hja' : decide ((a : Int) < (k : Int) + 1) = true := by simp; omega
          have hkn : (k : Int) + 1 < n := by omega
          have hkn0 : (k : Int) < n := by omega
          have c0 := nw_cell hrw k (by omega)
          have c1 := nw_cell hrw (k + 1) (by omega)
          have f0 := nw_frozen hrw k
          have f1 := nw_frozen hrw (k + 1)
          have hsz := hrw.1
          have g0 := hgd k (by omega)
          have g1 := hgd (k + 1) (by omega)
          have Hsw := hide (good_swp hgd (k + 1) k (by omega) (by omega))
          rw [insInner] at heq
          have HC := hide (fun W hW => unhide Hcf W hW _ _ g1 g0)
          have Hrw := hide hrw; have Hof := hide hof; have Hgd2 := hide hgd
          clear hrw hof hgd g0 g1 hsz
          by_cases hl : cf d2[k + 1]! d2[k]! < 0
          · have hl' : decide (cf d2[k + 1]! d2[k]! < 0) = true := by simpa using hl
            rw [if_pos (by simp only [ltC, hl', Bool.and_true, decide_eq_true_eq]; omega)] at heq
            have Heq := hide heq
            clear heq
            go_wp2
            go_quiet ((go_at_call 25; exact Calls.quiet_of (unhide HC _ (ofB_drew _ (unhide Hof)))))
            go_wp2
            go_region
            go_wp2
            go_roundw
            case rel =>
              have hs := nw_swp (nw_drew (nq + 1) (unhide Hrw)) (k + 1) k
              exact ⟨k, swp d2 (k + 1) k, rfl, by omega, hs.1, ofB_t (ofB_drew (nq + 1) (unhide Hof)) hs.2, unhide Hsw, unhide Heq⟩
            case measure => simp [intOf]
          · have hl' : decide (cf d2[k + 1]! d2[k]! < 0) = false := by simpa using hl
            rw [if_neg (by simp only [ltC, hl', Bool.and_false]; simp)] at heq
            have Heq := hide heq
            clear heq
            go_wp2
            go_quiet ((go_at_call 25; exact Calls.quiet_of (unhide HC _ (ofB_drew _ (unhide Hof)))))
            go_wp2
            go_roundw
            case rel => exact ⟨i + 1, d2, by go_num, by omega, by omega, nw_drew _ (unhide Hrw), ofB_drew _ (unhide Hof), unhide Hgd2, by rw [unhide Heq]; assumption⟩
            case measure => simp [intOf]; omega
        · have hja' : decide ((a : Int) < (j : Int)) = false := by simp; omega
          have heq2 : d2 = insInner (ltC cf) a i d1 := by
            rw [← heq]
            cases j with
            | zero => rfl
            | succ k => rw [insInner, if_neg (by simp; omega)]
          have Hrw := hide hrw; have Hof := hide hof; have Heq := hide heq2; have Hgd2 := hide hgd
          clear hrw hof heq heq2 hgd
          go_wp2
          go_quiet (fail)
          go_wp2
          go_roundw
          case rel => exact ⟨i + 1, d2, by go_num, by omega, by omega, nw_drew _ (unhide Hrw), ofB_drew _ (unhide Hof), unhide Hgd2, by rw [unhide Heq]; assumption⟩
          case measure => simp [intOf]; omega
    · rw [if_neg hlt] at heq
      go_wp2
      go_end0
      exact ⟨⟨_, rfl⟩, heq ▸ hrw, hof, heq ▸ hgd⟩

set_option maxRecDepth 100000 in
set_option maxHeartbeats 2000000 in
theorem insC_any (good : Int → Prop) (cf : Int → Int → Int) (b cap n a c : Nat) (d : Array Int) (hc : c ≤ n) (hn : n ≤ 281474976710656) (ha : a ≤ n) (w : World) (h : NW w b cap n d) (hg : Good good d) (hcf : ∀ W, OfB b w W → ∀ x y, good x → good y → Calls Tryz.prog 37 #[.int .i64 x, .int .i64 y] W fun e w' => e = .returned (.int .i64 (cf x y)) ∧ ∃ q, w' = W.drewN q) :
    Calls Tryz.prog 114 #[.slice (some ⟨b, 0, none⟩) n cap, .int .i64 a, .int .i64 c, .func (.func 37) #[] #[]] w fun e w' => (∃ v, e = .returned v) ∧ NW w' b cap n (insertionSort (ltC cf) d a c) ∧ OfB b w w' ∧ Good good (insertionSort (ltC cf) d a c) := by
  unfold insertionSort
  have Hcf := hide hcf
  clear hcf
  go_enter Tryz.func114, Tryz.ntmps114
  go_wp2
  go_loopw [8] (fun x wr => ∃ (i : Nat) (d1 : Array Int), x = .int .i64 i ∧ a < i ∧ i ≤ n + 1 ∧ NW wr b cap n d1 ∧ OfB b w wr ∧ Good good d1 ∧ insOuter (ltC cf) a c i d1 = insOuter (ltC cf) a c (a + 1) d) (fun x _ => c - (intOf x).toNat)
  case atStart => exact ⟨a + 1, d, by go_num, by omega, by omega, h, ofB_refl _ _, hg, rfl⟩
  case round =>
    obtain ⟨i, d1, rfl, hai, hin, hrw, hof, hgd, heq⟩ := hrel
    rw [insOuter] at heq
    by_cases hlt : i < c
    · rw [if_pos hlt] at heq
      have hlt' : (i : Int) < c := by omega
      have Hrw := hide hrw; have Hof := hide hof; have Heq := hide heq; have Hgd := hide hgd
      clear hrw hof heq hgd
      go_wp2
      go_loopw [9] (fun x wr2 => ∃ (j : Nat) (d2 : Array Int), x = .int .i64 j ∧ j ≤ i ∧ NW wr2 b cap n d2 ∧ OfB b w wr2 ∧ Good good d2 ∧ insInner (ltC cf) a j d2 = insInner (ltC cf) a i d1) (fun x _ => (intOf x).toNat)
      case atStart => exact ⟨i, d1, rfl, Nat.le_refl _, unhide Hrw, unhide Hof, unhide Hgd, rfl⟩
      case round =>
        obtain ⟨j, d2, rfl, hji, hrw, hof, hgd, heq⟩ := hrel
        by_cases hja : a < j
        · obtain ⟨k, rfl⟩ : ∃ k, j = k + 1 := ⟨j - 1, by omega⟩
          have hja' : decide ((a : Int) < (k : Int) + 1) = true := by simp; omega
          have hkn : (k : Int) + 1 < n := by omega
          have hkn0 : (k : Int) < n := by omega
          have c0 := nw_cell hrw k (by omega)
          have c1 := nw_cell hrw (k + 1) (by omega)
          have f0 := nw_frozen hrw k
          have f1 := nw_frozen hrw (k + 1)
          have hsz := hrw.1
          have g0 := hgd k (by omega)
          have g1 := hgd (k + 1) (by omega)
          have Hsw := hide (good_swp hgd (k + 1) k (by omega) (by omega))
          rw [insInner] at heq
          have HC := hide (fun W hW => unhide Hcf W hW _ _ g1 g0)
          have Hrw := hide hrw; have Hof := hide hof; have Hgd2 := hide hgd
          clear hrw hof hgd g0 g1 hsz
          by_cases hl : cf d2[k + 1]! d2[k]! < 0
          · have hl' : decide (cf d2[k + 1]! d2[k]! < 0) = true := by simpa using hl
            rw [if_pos (by simp only [ltC, hl', Bool.and_true, decide_eq_true_eq]; omega)] at heq
            have Heq := hide heq
            clear heq
            go_wp2
            go_quiet ((go_at_call 37; exact Calls.quiet_of (unhide HC _ (ofB_drew _ (unhide Hof)))))
            go_wp2
            go_region
            go_wp2
            go_roundw
            case rel =>
              have hs := nw_swp (nw_drew (nq + 1) (unhide Hrw)) (k + 1) k
              exact ⟨k, swp d2 (k + 1) k, rfl, by omega, hs.1, ofB_t (ofB_drew (nq + 1) (unhide Hof)) hs.2, unhide Hsw, unhide Heq⟩
            case measure => simp [intOf]
          · have hl' : decide (cf d2[k + 1]! d2[k]! < 0) = false := by simpa using hl
            rw [if_neg (by simp only [ltC, hl', Bool.and_false]; simp)] at heq
            have Heq := hide heq
            clear heq
            go_wp2
            go_quiet ((go_at_call 37; exact Calls.quiet_of (unhide HC _ (ofB_drew _ (unhide Hof)))))
            go_wp2
            go_roundw
            case rel => exact ⟨i + 1, d2, by go_num, by omega, by omega, nw_drew _ (unhide Hrw), ofB_drew _ (unhide Hof), unhide Hgd2, by rw [unhide Heq]; assumption⟩
            case measure => simp [intOf]; omega
        · have hja' : decide ((a : Int) < (j : Int)) = false := by simp; omega
          have heq2 : d2 = insInner (ltC cf) a i d1 := by
            rw [← heq]
            cases j with
            | zero => rfl
            | succ k => rw [insInner, if_neg (by simp; omega)]
          have Hrw := hide hrw; have Hof := hide hof; have Heq := hide heq2; have Hgd2 := hide hgd
          clear hrw hof heq heq2 hgd
          go_wp2
          go_quiet (fail)
          go_wp2
          go_roundw
          case rel => exact ⟨i + 1, d2, by go_num, by omega, by omega, nw_drew _ (unhide Hrw), ofB_drew _ (unhide Hof), unhide Hgd2, by rw [unhide Heq]; assumption⟩
          case measure => simp [intOf]; omega
    · rw [if_neg hlt] at heq
      go_wp2
      go_end0
      exact ⟨⟨_, rfl⟩, heq ▸ hrw, hof, heq ▸ hgd⟩
end Go.Proofs.YtkimhfajfbcdmaaGreatDoor

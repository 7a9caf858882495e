/- slices.Sort at rune: heapSortOrdered, reverseRangeOrdered. -/
import Derived.Test.YtkbhdojgdgiggabDoorQ3
namespace Go.Proofs.YtkbhdojgdgiggabDoor
open Go.RowKit Go.Sort

theorem rw_lt {w : World} {b cap n : Nat} {d : Array Int} (h : RW w b cap n d) : b < w.heap.size := (h.2.lt b rfl).2
/-- Behind the first store of a swap the second one finds its cell, be it the same. -/
theorem rw_cell2 {w : World} {b cap n : Nat} {d : Array Int} (h : RW w b cap n d) (i j : Nat) (hj : j < n) (v : Value) : ∃ u, (w.setCell ⟨b, i, none⟩ v).cell? ⟨b, j, none⟩ = some u ∧ (w.setCell ⟨b, i, none⟩ v).frozen? ⟨b, j, none⟩ = false := by
  have s1 := (h.2.stored i v).1
  have hl := s1.1
  refine ⟨_, (s1.cellAt j (by omega)).trans (List.getElem?_eq_getElem (by omega)), s1.frozenAt j⟩

set_option maxRecDepth 100000 in
set_option maxHeartbeats 4000000 in
theorem rev_any (b cap n a c : Nat) (d : Array Int) (hac : a < c) (hc : c ≤ n) (hn : n ≤ 281474976710656) (w : World) (h : RW w b cap n d) :
    Calls Tryd.prog 65 #[.slice (some ⟨b, 0, none⟩) n cap, .int .i64 a, .int .i64 c] w fun e w' => (∃ v, e = .returned v) ∧ RW w' b cap n (reverseRange d a c) ∧ OfB b w w' := by
  unfold reverseRange
  have e0 : (c : Int) - 1 = ((c - 1 : Nat) : Int) := by omega
  obtain ⟨J, hJ⟩ : ∃ J, J = c - 1 := ⟨_, rfl⟩
  rw [← hJ] at e0 ⊢
  have hJn : J < n := by omega
  clear hJ
  go_enter Tryd.func65, Tryd.ntmps65
  go_wp2
  go_loopw [6, 7] (fun x y wr => ∃ (i j : Nat) (d1 : Array Int), x = .int .i64 i ∧ y = .int .i64 j ∧ i ≤ n ∧ j < n ∧ RW wr b cap n d1 ∧ OfB b w wr ∧ reverseLoop i j d1 = reverseLoop a J d) (fun x y _ => (intOf y).toNat - (intOf x).toNat)
  case atStart => exact ⟨a, J, d, rfl, rfl, by omega, hJn, h, ofB_refl _ _, rfl⟩
  case round =>
    obtain ⟨i, j, d1, rfl, rfl, hi, hj, hrw, hof, heq⟩ := hrel
    rw [reverseLoop] at heq
    by_cases hlt : i < j
    · rw [if_pos hlt] at heq
      have hlt' : (i : Int) < j := by omega
      have ci := rw_cell hrw i (by omega)
      have cj := rw_cell hrw j (by omega)
      have fi := rw_frozen hrw i
      have fj := rw_frozen hrw j
      have bi : (i : Int) < n := by omega
      have bj : (j : Int) < n := by omega
      have ej : (j : Int) - 1 = ((j - 1 : Nat) : Int) := by omega
      obtain ⟨J1, hJ1⟩ : ∃ J1, J1 = j - 1 := ⟨_, rfl⟩
      rw [← hJ1] at heq ej
      have hJ1n : J1 < n := by omega
      have hJ1j : J1 < j := by omega
      have Hrw := hide hrw; have Hof := hide hof; have Heq := hide heq
      clear hrw hof heq hJ1
      go_wp2
      go_region
      go_wp2
      go_roundw
      case rel =>
        have hs := rw_swp (rw_drew 1 (unhide Hrw)) i j
        exact ⟨i + 1, J1, swp d1 i j, by go_num, by go_num, by omega, hJ1n, hs.1, ofB_t (ofB_drew 1 (unhide Hof)) hs.2, unhide Heq⟩
      case measure => simp [intOf]; omega
    · rw [if_neg hlt] at heq
      have hlt' : ¬ (i : Int) < j := by omega
      go_wp2
      go_end0
      exact ⟨⟨_, rfl⟩, heq ▸ hrw, hof⟩

set_option maxRecDepth 100000 in
set_option maxHeartbeats 4000000 in
theorem heap_any (b cap n a c : Nat) (d : Array Int) (hac : a < c) (hc : c ≤ n) (hn : n ≤ 281474976710656) (w : World) (h : RW w b cap n d) :
    Calls Tryd.prog 62 #[.slice (some ⟨b, 0, none⟩) n cap, .int .i64 a, .int .i64 c] w fun e w' => (∃ v, e = .returned v) ∧ RW w' b cap n (heapSort ltInt d a c) ∧ OfB b w w' := by
  unfold heapSort
  obtain ⟨H, hH⟩ : ∃ H, H = c - a := ⟨_, rfl⟩
  obtain ⟨K, hK⟩ : ∃ K, K = (H - 1) / 2 + 1 := ⟨_, rfl⟩
  rw [← hH, ← hK]
  have eH : (c : Int) - (a : Int) = (H : Int) := by omega
  have eK : IntKind.i64.wrap (((H : Int) - 1).tdiv 2) = (K : Int) - 1 := by rw [IntWalk.i64_quo _ _ (by omega)]; omega
  have hHn : a + H ≤ n := by omega
  have hKn : K ≤ H := by omega
  have h0 : 0 < H := by omega
  clear hH hK hac hc
  go_enter Tryd.func62, Tryd.ntmps62
  go_wp2
  go_loopw [9] (fun x wr => ∃ (k : Nat) (d1 : Array Int), x = .int .i64 ((k : Int) - 1) ∧ k ≤ H ∧ RW wr b cap n d1 ∧ OfB b w wr ∧ heapBuild ltInt H a k d1 = heapBuild ltInt H a K d) (fun x _ => (intOf x + 1).toNat)
  case atStart => exact ⟨K, d, rfl, hKn, h, ofB_refl _ _, rfl⟩
  case round =>
    obtain ⟨k, d1, rfl, hk, hrw, hof, heq⟩ := hrel
    cases k with
    | succ m =>
      have ex : ((m + 1 : Nat) : Int) - 1 = (m : Int) := by omega
      rw [ex]
      have HS := hide (sift_any b cap n m H a d1 (by omega) hn (by omega) wr hrw)
      have Hof := hide hof; have Heq := hide heq
      clear hrw hof heq ex
      go_wp2_with fail
      refine (unhide HS).mono ?_
      rintro e w2 ⟨⟨v, rfl⟩, hrw2, hof2⟩
      have Hrw2 := hide hrw2; have Hof2 := hide hof2
      clear hrw2 hof2 HS
      go_wp2
      go_roundw
      case rel => exact ⟨m, _, rfl, by omega, unhide Hrw2, ofB_t (unhide Hof) (unhide Hof2), unhide Heq⟩
      case measure => simp [intOf]
    | zero =>
      rw [show ((0 : Nat) : Int) - 1 = -1 from rfl]
      have heq' : d1 = heapBuild ltInt H a K d := heq
      have Hrw := hide hrw; have Hof := hide hof; have Heq := hide heq'
      clear hrw hof heq heq'
      go_wp2
      go_loopw [10] (fun x wr => ∃ (k : Nat) (d2 : Array Int), x = .int .i64 ((k : Int) - 1) ∧ k ≤ H ∧ RW wr b cap n d2 ∧ OfB b w wr ∧ heapPop ltInt a k d2 = heapPop ltInt a H d1) (fun x _ => (intOf x + 1).toNat)
      case atStart => exact ⟨H, d1, rfl, Nat.le_refl _, unhide Hrw, unhide Hof, rfl⟩
      case round =>
        obtain ⟨k, d2, rfl, hk2, hrw, hof, heq⟩ := hrel
        cases k with
        | succ m =>
          have ex : ((m + 1 : Nat) : Int) - 1 = (m : Int) := by omega
          rw [ex]
          obtain ⟨X, hX⟩ : ∃ X, X = a + m := ⟨_, rfl⟩
          have e1 : (a : Int) + (m : Int) = (X : Int) := by omega
          have bX : (X : Int) < n := by omega
          have ba : (a : Int) < n := by omega
          have wX : IntKind.i64.wrap (X : Int) = (X : Int) := IntWalk.i64_in _ (by omega)
          have ca := rw_cell hrw a (by omega)
          have cX := rw_cell hrw X (by omega)
          have fa := rw_frozen hrw a
          have fX := rw_frozen hrw X
          obtain ⟨vv, c2, f2⟩ := rw_cell2 hrw a X (by omega) (.int .i32 d2[X]!)
          have heq2 : heapPop ltInt a m (siftDown ltInt m a 0 (swp d2 a X)) = heapPop ltInt a H d1 := by rw [hX]; exact heq
          have Hrw := hide hrw; have Hof := hide hof; have Heq2 := hide heq2
          clear hrw hof heq heq2 hX ex
          go_wp2
          go_region
          have hs := rw_swp (unhide Hrw) a X
          have hs1 : RW ((wr.setCell ⟨b, a, none⟩ (.int .i32 d2[X]!)).setCell ⟨b, X, none⟩ (.int .i32 d2[a]!)).drew b cap n (swp d2 a X) := hs.1
          have ho1 : OfB b w ((wr.setCell ⟨b, a, none⟩ (.int .i32 d2[X]!)).setCell ⟨b, X, none⟩ (.int .i32 d2[a]!)).drew := ofB_t (unhide Hof) hs.2
          clear hs
          have HS := hide (sift_any b cap n 0 m a (swp d2 a X) (by omega) hn (by omega) _ hs1)
          have Ho1 := hide ho1
          clear hs1 ho1
          go_wp2_with fail
          refine (unhide HS).mono ?_
          rintro e w2 ⟨⟨v, rfl⟩, hrw2, hof2⟩
          have Hrw2 := hide hrw2; have Hof2 := hide hof2
          clear hrw2 hof2 HS
          go_wp2
          go_roundw
          case rel =>
            exact ⟨m, _, rfl, by omega, unhide Hrw2, ofB_t (unhide Ho1) (unhide Hof2), unhide Heq2⟩
          case measure => simp [intOf]
        | zero =>
          have heq' : d2 = heapPop ltInt a H d1 := heq
          go_wp2
          go_end0
          exact ⟨⟨_, rfl⟩, by rw [← unhide Heq, ← heq']; exact hrw, hof⟩
end Go.Proofs.YtkbhdojgdgiggabDoor

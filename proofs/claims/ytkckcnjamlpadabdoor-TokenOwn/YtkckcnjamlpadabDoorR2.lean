/- SplitN into at most four, at a blank. -/
import Derived.Test.YtkckcnjamlpadabDoorR1
import Derived.Laws.MakeOwn
namespace Go.Proofs.YtkckcnjamlpadabDoor
open Go.RowKit Go.Maps

/-- Cut at the first blanks, at most so many. -/
def splitL : Nat → List UInt8 → List (List UInt8)
  | 0, s => [s]
  | n + 1, s => match cutL 32 s with | some (x, y) => x :: splitL n y | none => [s]
theorem splitL_none {n : Nat} {s : List UInt8} (h : cutL 32 s = none) : splitL n s = [s] := by
  cases n with
  | zero => rfl
  | succ n => simp [splitL, h]
theorem splitL_some {n : Nat} {s x y : List UInt8} (h : cutL 32 s = some (x, y)) : splitL (n + 1) s = x :: splitL n y := by simp [splitL, h]
theorem splitL_enough : ∀ (n m : Nat) (s : List UInt8), s.length ≤ n → s.length ≤ m → splitL n s = splitL m s
  | 0, m, s, h, _ => by
    have : s = [] := List.length_eq_zero_iff.1 (by omega)
    subst this
    rw [splitL_none (n := m) rfl]; rfl
  | n + 1, 0, s, _, h => by
    have : s = [] := List.length_eq_zero_iff.1 (by omega)
    subst this
    rw [splitL_none (n := n + 1) rfl]; rfl
  | n + 1, m + 1, s, h1, h2 => by
    cases hc : cutL 32 s with
    | none => rw [splitL_none hc, splitL_none hc]
    | some p =>
      obtain ⟨x, y⟩ := p
      obtain ⟨e, _⟩ := cutL_some hc
      have hl := congrArg List.length e
      simp only [List.length_append, List.length_cons] at hl
      rw [splitL_some hc, splitL_some hc, splitL_enough n m y (by omega) (by omega)]
theorem splitL_pos (n : Nat) (s : List UInt8) : 0 < (splitL n s).length := by
  cases n with
  | zero => simp [splitL]
  | succ n =>
    cases hc : cutL 32 s with
    | none => rw [splitL_none hc]; simp
    | some p => obtain ⟨x, y⟩ := p; rw [splitL_some hc]; simp
theorem hstr : (Tryd.prog.info? 9).map (fun i => (i.zero, i.size, i.bytes)) = some (some (.string ⟨#[]⟩), 1, 16) := by kernel_rfl
theorem make22 (n : Nat) (hn : n ≤ 4) (w : World) : ∃ cs : Array Value, cs.size = n ∧ (Instr.makeSlice 45 (.int .i64 (n : Int)) (.int .i64 (n : Int))).run Tryd.prog w = .ok (.slice (some ⟨w.heap.size, 0, none⟩) n n) (w.alloc (.cells cs 9)) := by
  obtain ⟨i0, hi, hz0, hz1, hz2⟩ := info_parts hstr
  have h := run_makeSlice (P := Tryd.prog) w 45 9 i0 _ Tryd.underlying45 hi hz0 .i64 .i64 (n : Int) (n : Int) (by omega) (Int.le_refl _) (by rw [hz1]; simp; omega) (by rw [hz2]; omega) (by omega)
  simp only [Int.toNat_natCast] at h
  refine ⟨_, ?_, h⟩
  rw [size_madeCells, hz1, Nat.mul_one]

set_option maxHeartbeats 2000000 in
set_option maxRecDepth 100000 in
theorem genSplit_any (s : List UInt8) (hs : s.length ≤ 281474976710656) (w : World) :
    Calls Tryd.prog 47 #[.string (bs s), .string ⟨#[32]⟩, .int .i64 0, .int .i64 4] w fun e w' => ∃ cap, e = .returned (.slice (some ⟨w.heap.size, 0, none⟩) (splitL 3 s).length cap) ∧ SRow w' (some ⟨w.heap.size, 0, none⟩) (splitL 3 s) ∧ Below w.heap.size w w' := by
  obtain ⟨n1, hn1⟩ : ∃ n1, n1 = min 3 s.length := ⟨_, rfl⟩
  have Hspl : Hid (splitL 3 s = splitL n1 s) := hide (by
    by_cases h : 3 ≤ s.length
    · rw [show n1 = 3 by omega]
    · rw [show n1 = s.length by omega]; exact splitL_enough 3 s.length s (by omega) (by omega))
  obtain ⟨cs0, hcs, hmk⟩ := make22 (n1 + 1) (by omega) w
  rw [show (((n1 + 1 : Nat)) : Int) = (n1 : Int) + 1 by omega] at hmk
  have hmin : min (4 : Int) ((s.length : Int) + 1) = (n1 : Int) + 1 := by omega
  have hn3 : n1 ≤ 3 := by omega
  clear hn1
  generalize hgo : splitL 3 s = P at *
  clear hgo
  have hsl : ((bs s).size : Int) = (s.length : Int) := by rw [bs_size]
  go_enter Tryd.func47, Tryd.ntmps47
  go_wp2
  go_loopw [0, 10] (fun u x wr => ∃ (i : Nat) (done : List (List UInt8)) (rest : List UInt8) (cs : Array Value), u = .string (bs rest) ∧ x = .int .i64 (i : Int) ∧ done.length = i ∧ i ≤ n1 ∧ rest.length ≤ s.length ∧ done ++ splitL (n1 - i) rest = P ∧
      wr.heap[w.heap.size]? = some (.cells cs 9 (0, 0)) ∧ cs.size = n1 + 1 ∧ (∀ j, j < i → cs[j]? = some (.string (bs (done.getD j [])))) ∧ Below w.heap.size w wr) (fun _ x _ => n1 - (intOf x).toNat)
  case atStart => exact ⟨0, [], s, cs0, rfl, rfl, rfl, Nat.zero_le _, Nat.le_refl _, by rw [unhide Hspl]; rfl, heap_new _ _, hcs, fun j hj => absurd hj (Nat.not_lt_zero _), (Below.refl _ _).alloc (Nat.le_refl _) _⟩
  case round =>
    obtain ⟨i, done, rest, cs, rfl, rfl, hdl, hi, hrl, hP, hG, hcz, hcd, hbel⟩ := hrel
    have hsz := hbel.size
    have hgl := lt_of_some hG
    obtain ⟨x0, hx0⟩ : ∃ x0, cs[i]? = some x0 := ⟨cs[i]'(by omega), Array.getElem?_eq_getElem (by omega)⟩
    have ci := cell_block hG i _ hx0
    have fi := frozen_block hG i
    have hrs : ((bs rest).size : Int) = (rest.length : Int) := by rw [bs_size]
    have HG := hide hG; have Hcd := hide hcd; have Hbel := hide hbel; have HP := hide hP
    have hii : (i : Int) < (n1 : Int) + 1 := by omega
    -- the store of a piece at place i
    have Hst := hide (fun (v : List UInt8) (W : World) (hW : W = wr.setCell ⟨w.heap.size, i, none⟩ (.string (bs v))) => show W.heap[w.heap.size]? = some (.cells (cs.setIfInBounds i (.string (bs v))) 9 (0, 0)) ∧ (cs.setIfInBounds i (.string (bs v))).size = n1 + 1 ∧ (∀ j, j < i + 1 → (cs.setIfInBounds i (.string (bs v)))[j]? = some (.string (bs ((done ++ [v]).getD j [])))) ∧ Below w.heap.size w W by
      subst hW
      refine ⟨block_set (unhide HG) _, by simpa using hcz, fun j hj => ?_, (unhide Hbel).setCell (p := ⟨w.heap.size, i, none⟩) (Nat.le_refl _) _⟩
      by_cases e : j = i
      · subst e
        rw [Array.getElem?_setIfInBounds_self_of_lt (by omega)]
        rw [List.getD_eq_getElem?_getD, List.getElem?_append_right (by omega)]
        simp [hdl]
      · rw [Array.getElem?_setIfInBounds_ne (by omega), unhide Hcd j (by omega), List.getD_eq_getElem?_getD, List.getD_eq_getElem?_getD, List.getElem?_append_left (by omega)])
    clear hG hcd hbel hP hx0
    have Hfin : Hid (splitL (n1 - i) rest = [rest] → ∀ W, W = wr.setCell ⟨w.heap.size, i, none⟩ (.string (bs rest)) → P.length = i + 1 ∧ SRow W (some ⟨w.heap.size, 0, none⟩) P ∧ Below w.heap.size w W) := hide (fun h W hW => by
      have hP := unhide HP
      rw [h] at hP
      obtain ⟨g1, g2, g3, g4⟩ := unhide Hst rest W hW
      subst hP
      refine ⟨by simp [hdl], .inr ⟨w.heap.size, 0, rfl, lt_of_some g1, fun j hj => ?_⟩, g4⟩
      have hj' : j < i + 1 := by simp at hj; omega
      rw [Nat.zero_add]
      exact cell_block g1 j _ (g3 j hj'))
    by_cases hlt : i < n1
    · have hlt' : (i : Int) < n1 := by omega
      have HX := hide (Tryd.strings_Index_one (bs rest) 32)
      rcases index_cut (c := 32) rest with ⟨h1, h2, h3⟩ | ⟨m, h1, h2, h3⟩
      · rw [show Lib.indexByte (bs rest).data.toList 32 = -1 from h2] at HX
        have Hf := hide (unhide Hfin (splitL_none h3))
        clear h1 h2 h3
        go_wp2_with fail
        refine (unhide HX _).mono ?_
        rintro e w1 ⟨rfl, rfl⟩
        go_wp2
        go_ret
        obtain ⟨f1, f2, f3⟩ := unhide Hf _ rfl
        rw [f1]
        exact ⟨_, rfl, f2, f3⟩
      · rw [show Lib.indexByte (bs rest).data.toList 32 = (m : Int) from h1] at HX
        have e1 : (bs rest).extract 0 m = bs (rest.take m) := by rw [bs_extract]; rfl
        have e2 : (bs rest).extract (m + 1) (bs rest).size = bs (rest.drop (m + 1)) := by rw [bs_extract, bs_size, List.take_of_length_le (by simp)]
        have hm : (m : Int) < rest.length := by omega
        have hm0 : ¬ (m : Int) < 0 := by omega
        have hm1 : (m : Int) ≤ rest.length := by omega
        have hm2 : (m : Int) + 1 ≤ rest.length := by omega
        have Hnx := hide (show (done ++ [rest.take m]) ++ splitL (n1 - (i + 1)) (rest.drop (m + 1)) = P by
          rw [← unhide HP, show n1 - i = (n1 - (i + 1)) + 1 by omega, splitL_some h3, List.append_assoc]; rfl)
        have hrd : (rest.drop (m + 1)).length ≤ s.length := by simp; omega
        clear h1 h3
        rw [bs_size] at e2
        go_wp2_with fail
        refine (unhide HX _).mono ?_
        rintro e w1 ⟨rfl, rfl⟩
        go_wp2
        go_roundw
        case rel =>
          obtain ⟨g1, g2, g3, g4⟩ := unhide Hst (rest.take m) _ rfl
          exact ⟨i + 1, done ++ [rest.take m], rest.drop (m + 1), _, by first | rfl | rw [e2] | (rw [bs_size, e2]), by go_num, by simp [hdl], by omega, hrd, unhide Hnx, g1, g2, g3, g4⟩
        case measure => simp [intOf]; omega
    · obtain rfl : i = n1 := by omega
      have Hf := hide (unhide Hfin (by simp [splitL]))
      go_wp2
      go_ret
      obtain ⟨f1, f2, f3⟩ := unhide Hf _ rfl
      rw [f1]
      exact ⟨_, rfl, f2, f3⟩
set_option maxHeartbeats 1000000 in
theorem splitN_any (s : List UInt8) (hs : s.length ≤ 281474976710656) (w : World) :
    Calls Tryd.prog 39 #[.string (bs s), .string ⟨#[32]⟩, .int .i64 4] w fun e w' => ∃ cap, e = .returned (.slice (some ⟨w.heap.size, 0, none⟩) (splitL 3 s).length cap) ∧ SRow w' (some ⟨w.heap.size, 0, none⟩) (splitL 3 s) ∧ Below w.heap.size w w' := by
  have H := hide (genSplit_any s hs)
  generalize splitL 3 s = P at *
  go_enter Tryd.func39, Tryd.ntmps39
  go_wp2_with fail
  refine (unhide H _).mono ?_
  rintro e w1 ⟨cap, rfl, h1, h2⟩
  go_wp2
  go_ret
  exact ⟨cap, rfl, h1, h2⟩
end Go.Proofs.YtkckcnjamlpadabDoor

/- The document's limited. (and what it leads to) -/
import Derived.Test.YtkimhfajfbcdmaaGreatDoorQZ
import Derived.Deep.QuietTactic
import Derived.BigQuiet
/- The document's limited. -/
namespace Go.Proofs.YtkimhfajfbcdmaaGreatDoor
open Go.RowKit Go.Maps

set_option maxHeartbeats 1000000 in
set_option maxRecDepth 100000 in
theorem limited_ok (Q : Nat → Prop) (t : Rx) (ht : partsT t < 1000000000000000000) (hl : limV t = 0) (W : World) (v0 v1 v2 : Value) (hX : RxAt Q W t v0 v1 v2) :
    Calls Tryz.prog 15 #[.agg #[v0, v1, v2], .int .i64 0] W fun e w' => e = .returned (.tuple #[.agg #[v0, v1, v2], .int .i64 0]) ∧ Below W.heap.size W w' ∧ (∀ k, k < W.heap.size → w'.heap[k]? = W.heap[k]?) := by
  obtain ⟨kk, s1, n1, c1, s2, n2, c2, rfl, rfl, rfl⟩ := rxAt_formQ hX
  have HX := hide (fun W' (hb : Below W.heap.size W W') => rxAt_kept (Q := Q) (Q' := Q) hb.size (fun q _ hl => hb.block q hl) (fun _ h _ => h) _ _ _ _ hX)
  have HL := hide (fun W' h => limits_any Q t ht W' _ _ _ (unhide HX W' h))
  have hb0 : Below W.heap.size W ((W.alloc (.cells #[.int .i64 kk, .slice s1 n1 c1, .slice s2 n2 c2] 26)).alloc (.cells #[.int .i64 0, .slice none 0 0, .slice none 0 0] 26)) := ((Below.refl _ _).alloc (Nat.le_refl _) _).alloc (by simp) _
  have hbr : ((W.alloc (.cells #[.int .i64 kk, .slice s1 n1 c1, .slice s2 n2 c2] 26)).alloc (.cells #[.int .i64 0, .slice none 0 0, .slice none 0 0] 26)).heap[W.heap.size]? = some (.cells #[.int .i64 kk, .slice s1 n1 c1, .slice s2 n2 c2] 26 (0, 0)) := (Below.heap_alloc _ _ _ (by simp)).trans (heap_new W _)
  have hbz : ((W.alloc (.cells #[.int .i64 kk, .slice s1 n1 c1, .slice s2 n2 c2] 26)).alloc (.cells #[.int .i64 0, .slice none 0 0, .slice none 0 0] 26)).heap[W.heap.size + 1]? = some (.cells #[.int .i64 0, .slice none 0 0, .slice none 0 0] 26 (0, 0)) := by
    have := heap_new (W.alloc (.cells #[.int .i64 kk, .slice s1 n1 c1, .slice s2 n2 c2] 26)) (.cells #[.int .i64 0, .slice none 0 0, .slice none 0 0] 26)
    rwa [show (W.alloc (.cells #[.int .i64 kk, .slice s1 n1 c1, .slice s2 n2 c2] 26)).heap.size = W.heap.size + 1 by simp] at this
  have hs0 : ((W.alloc (.cells #[.int .i64 kk, .slice s1 n1 c1, .slice s2 n2 c2] 26)).alloc (.cells #[.int .i64 0, .slice none 0 0, .slice none 0 0] 26)).heap.size = W.heap.size + 2 := by simp
  have Hb0 := hide hb0; have Hbr := hide hbr; have Hbz := hide hbz; have Hs0 := hide hs0
  rw [hl] at HL
  clear hl
  clear hX hb0 hbr hbz hs0
  go_enter Tryz.func15, Tryz.ntmps15
  go_wp2_with fail
  refine (unhide HL _ (unhide Hb0)).mono ?_
  rintro e1 w1 ⟨rfl, hb1⟩
  rw [unhide Hs0] at hb1
  have hbW1 := (unhide Hb0).trans (hb1.mono (by omega))
  have hbr1 := (hb1.block W.heap.size (by omega)).trans (unhide Hbr)
  have hbz1 := (hb1.block (W.heap.size + 1) (by omega)).trans (unhide Hbz)
  have r0 := cell_block hbr1 0 _ rfl
  have r1 := cell_block hbr1 1 _ rfl
  have r2 := cell_block hbr1 2 _ rfl
  have b0 := cell_block hbz1 0 _ rfl
  have b1 := cell_block hbz1 1 _ rfl
  have b2 := cell_block hbz1 2 _ rfl
  have f0 := frozen_block hbz1 0
  have f1 := frozen_block hbz1 1
  have f2 := frozen_block hbz1 2
  have HbW1 := hide hbW1; have Hbz1 := hide hbz1
  clear hbr1 hbz1 hb1 hbW1 HL HX
  go_wp2
  have hg3 := block_set (i := 2) (block_set (i := 1) (block_set (i := 0) (unhide Hbz1) (.int .i64 kk)) (.slice s1 n1 c1)) (.slice s2 n2 c2)
  have t0 := cell_block hg3 0 (.int .i64 kk) rfl
  have t1 := cell_block hg3 1 (.slice s1 n1 c1) rfl
  have t2 := cell_block hg3 2 (.slice s2 n2 c2) rfl
  refine bodyPost_ret (v := .tuple #[.agg #[.int .i64 kk, .slice s1 n1 c1, .slice s2 n2 c2], .int .i64 0]) (by simp [results, Tryz.results15, go_sem, t0, t1, t2]) rfl ?_
  have hbb := ((((unhide HbW1).setCell (p := ⟨W.heap.size + 1, 0, none⟩) (Nat.le_succ _) (.int .i64 kk)).setCell (p := ⟨W.heap.size + 1, 1, none⟩) (Nat.le_succ _) (.slice s1 n1 c1)).setCell (p := ⟨W.heap.size + 1, 2, none⟩) (Nat.le_succ _) (.slice s2 n2 c2))
  exact ⟨rfl, hbb, fun k hk => hbb.block k hk⟩
set_option maxHeartbeats 1000000 in
set_option maxRecDepth 100000 in
theorem limited_no (Q : Nat → Prop) (t : Rx) (ht : partsT t < 1000000000000000000) (hl : limV t ≠ 0) (W : World) (v0 v1 v2 : Value) (hX : RxAt Q W t v0 v1 v2) :
    Calls Tryz.prog 15 #[.agg #[v0, v1, v2], .int .i64 0] W fun e w' => e = .returned (.tuple #[.agg #[.int .i64 0, .slice none 0 0, .slice none 0 0], .int .i64 (limV t)]) ∧ Below W.heap.size W w' ∧ (∀ k, k < W.heap.size → w'.heap[k]? = W.heap[k]?) := by
  obtain ⟨kk, s1, n1, c1, s2, n2, c2, rfl, rfl, rfl⟩ := rxAt_formQ hX
  have HX := hide (fun W' (hb : Below W.heap.size W W') => rxAt_kept (Q := Q) (Q' := Q) hb.size (fun q _ hl => hb.block q hl) (fun _ h _ => h) _ _ _ _ hX)
  have HL := hide (fun W' h => limits_any Q t ht W' _ _ _ (unhide HX W' h))
  have hb0 : Below W.heap.size W ((W.alloc (.cells #[.int .i64 kk, .slice s1 n1 c1, .slice s2 n2 c2] 26)).alloc (.cells #[.int .i64 0, .slice none 0 0, .slice none 0 0] 26)) := ((Below.refl _ _).alloc (Nat.le_refl _) _).alloc (by simp) _
  have hbr : ((W.alloc (.cells #[.int .i64 kk, .slice s1 n1 c1, .slice s2 n2 c2] 26)).alloc (.cells #[.int .i64 0, .slice none 0 0, .slice none 0 0] 26)).heap[W.heap.size]? = some (.cells #[.int .i64 kk, .slice s1 n1 c1, .slice s2 n2 c2] 26 (0, 0)) := (Below.heap_alloc _ _ _ (by simp)).trans (heap_new W _)
  have hbz : ((W.alloc (.cells #[.int .i64 kk, .slice s1 n1 c1, .slice s2 n2 c2] 26)).alloc (.cells #[.int .i64 0, .slice none 0 0, .slice none 0 0] 26)).heap[W.heap.size + 1]? = some (.cells #[.int .i64 0, .slice none 0 0, .slice none 0 0] 26 (0, 0)) := by
    have := heap_new (W.alloc (.cells #[.int .i64 kk, .slice s1 n1 c1, .slice s2 n2 c2] 26)) (.cells #[.int .i64 0, .slice none 0 0, .slice none 0 0] 26)
    rwa [show (W.alloc (.cells #[.int .i64 kk, .slice s1 n1 c1, .slice s2 n2 c2] 26)).heap.size = W.heap.size + 1 by simp] at this
  have hs0 : ((W.alloc (.cells #[.int .i64 kk, .slice s1 n1 c1, .slice s2 n2 c2] 26)).alloc (.cells #[.int .i64 0, .slice none 0 0, .slice none 0 0] 26)).heap.size = W.heap.size + 2 := by simp
  have Hb0 := hide hb0; have Hbr := hide hbr; have Hbz := hide hbz; have Hs0 := hide hs0
  have hlb : (limV t == 0) = false := by simpa using hl
  have hln : (limV t != 0) = true := by simpa using hl
  generalize limV t = V at *
  clear hX hb0 hbr hbz hs0
  go_enter Tryz.func15, Tryz.ntmps15
  go_wp2_with fail
  refine (unhide HL _ (unhide Hb0)).mono ?_
  rintro e1 w1 ⟨rfl, hb1⟩
  rw [unhide Hs0] at hb1
  have hbW1 := (unhide Hb0).trans (hb1.mono (by omega))
  have hbr1 := (hb1.block W.heap.size (by omega)).trans (unhide Hbr)
  have hbz1 := (hb1.block (W.heap.size + 1) (by omega)).trans (unhide Hbz)
  have r0 := cell_block hbr1 0 _ rfl
  have r1 := cell_block hbr1 1 _ rfl
  have r2 := cell_block hbr1 2 _ rfl
  have b0 := cell_block hbz1 0 _ rfl
  have b1 := cell_block hbz1 1 _ rfl
  have b2 := cell_block hbz1 2 _ rfl
  have f0 := frozen_block hbz1 0
  have f1 := frozen_block hbz1 1
  have f2 := frozen_block hbz1 2
  have HbW1 := hide hbW1; have Hbz1 := hide hbz1
  clear hbr1 hbz1 hb1 hbW1 HL HX
  go_wp2
  have hg3 := block_set (i := 2) (block_set (i := 1) (block_set (i := 0) (unhide Hbz1) (.int .i64 0)) (.slice none 0 0)) (.slice none 0 0)
  have t0 := cell_block hg3 0 (.int .i64 0) rfl
  have t1 := cell_block hg3 1 (.slice none 0 0) rfl
  have t2 := cell_block hg3 2 (.slice none 0 0) rfl
  refine bodyPost_ret (v := .tuple #[.agg #[.int .i64 0, .slice none 0 0, .slice none 0 0], .int .i64 V]) (by simp [results, Tryz.results15, go_sem, t0, t1, t2]) rfl ?_
  have hbb := ((((unhide HbW1).setCell (p := ⟨W.heap.size + 1, 0, none⟩) (Nat.le_succ _) (.int .i64 0)).setCell (p := ⟨W.heap.size + 1, 1, none⟩) (Nat.le_succ _) (.slice none 0 0)).setCell (p := ⟨W.heap.size + 1, 2, none⟩) (Nat.le_succ _) (.slice none 0 0))
  exact ⟨rfl, hbb, fun k hk => hbb.block k hk⟩
end Go.Proofs.YtkimhfajfbcdmaaGreatDoor

/- Contract of the reference's Check. -/
namespace Go.Proofs.YtkimhfajfbcdmaaGreatDoor
open Go.RowKit

theorem below_drewR {B : Nat} {a w : World} (h : Below B a w) (n : Nat) : Below B a (w.drewN n) := ⟨h.os, h.tape, h.output, h.size, h.block⟩

set_option maxHeartbeats 4000000 in
set_option maxRecDepth 100000 in
theorem rCheck_any (a : Option Addr) (cap : Nat) (l : List Rng) (hl : l.length ≤ 281474976710656) (w : World) (hrow : RowAt w a l) :
    Calls Tryz.prog 14 #[.slice a l.length cap] w fun e w' => e = .returned (.int .i64 (checkV l)) ∧ Below w.heap.size w w' := by
  have Hrow := hide hrow
  clear hrow
  go_enter Tryz.func14, Tryz.ntmps14
  go_wp2
  go_loopw [3] (fun x wr => ∃ k : Nat, x = .int .i64 k ∧ k ≤ l.length ∧ Below w.heap.size w wr ∧ okTo l k) (fun x _ => l.length - (intOf x).toNat)
  case atStart => exact ⟨0, rfl, by omega, Below.refl _ _, okTo_zero l⟩
  case round =>
    obtain ⟨k, rfl, hk, hbel, hok⟩ := hrel
    have hsz := hbel.size
    have Hbel := hide hbel; have Hok := hide hok
    clear hbel hok
    by_cases hkl : k < l.length
    · obtain ⟨b, off, rfl, hlt, hc⟩ : ∃ b off, a = some ⟨b, off, none⟩ ∧ b < wr.heap.size ∧ ∀ j, j < l.length → wr.cell? ⟨b, off + j * 2, none⟩ = some (.int .i32 (l.getD j (0, 0)).1) ∧ wr.cell? ⟨b, off + j * 2 + 1, none⟩ = some (.int .i32 (l.getD j (0, 0)).2) := by
        rcases rowAt_below (unhide Hrow) (Nat.le_refl _) (unhide Hbel) with rfl | h
        · simp at hkl
        · exact h
      have hkl' : (k : Int) < l.length := by omega
      have hk00 : (0 : Int) ≤ (k : Int) := by omega
      have q0 := (hc k hkl).1
      have q1 := (hc k hkl).2
      have Hat := hide (show okAt l k = (isR (l.getD k (0, 0)) && (decide (k = 0) || decide ((l.getD (k - 1) (0, 0)).2 + 2 ≤ (l.getD k (0, 0)).1))) from rfl)
      have Hz := hide (fun (h : k ≠ 0) => And.intro (hc (k - 1) (by omega)).2 (okAt_isR (unhide Hok (k - 1) (by omega))))
      clear hc
      generalize l.getD (k - 1) (0, 0) = z at *
      generalize l.getD k (0, 0) = x at *
      obtain ⟨x, y⟩ := x
      obtain ⟨z0, z⟩ := z
      simp only at q0 q1 Hat Hz
      have hisr : isR (x, y) = decide (0 ≤ x ∧ x ≤ y ∧ y ≤ 1114111) := rfl
      rw [hisr] at Hat
      clear hisr
      by_cases c1 : x < 0
      · have Ho : Hid (okAt l k = false) := hide (by rw [unhide Hat, decide_eq_false (by omega)]; rfl)
        clear Hat Hz
        go_wp2_with fail
        go_quiet (fail)
        go_wp2
        go_ret
        exact ⟨by rw [checkV_bad hkl (unhide Ho)]; rfl, below_drewR (unhide Hbel) _⟩
      · have d1 : decide (x < 0) = false := by simp; omega
        by_cases c2 : y < x
        · have Ho : Hid (okAt l k = false) := hide (by rw [unhide Hat, decide_eq_false (by omega)]; rfl)
          clear Hat Hz
          go_wp2_with fail
          go_quiet (fail)
          go_wp2
          go_ret
          exact ⟨by rw [checkV_bad hkl (unhide Ho)]; rfl, below_drewR (unhide Hbel) _⟩
        · have d2 : decide (y < x) = false := by simp; omega
          by_cases c3 : 1114111 < y
          · have Ho : Hid (okAt l k = false) := hide (by rw [unhide Hat, decide_eq_false (by omega)]; rfl)
            clear Hat Hz
            go_wp2_with fail
            go_quiet (fail)
            go_wp2
            go_ret
            exact ⟨by rw [checkV_bad hkl (unhide Ho)]; rfl, below_drewR (unhide Hbel) _⟩
          · have d3 : decide (1114111 < y) = false := by simp; omega
            rw [decide_eq_true (show 0 ≤ x ∧ x ≤ y ∧ y ≤ 1114111 by omega)] at Hat
            by_cases hk0 : k = 0
            · have Ho : Hid (okAt l k = true) := hide (by rw [unhide Hat]; simp [hk0])
              have e0 : decide ((0 : Int) < (k : Int)) = false := by simp; omega
              have e1 : decide (0 < k) = false := by simp; omega
              have Hk0 := hide hk0
              clear hk0 Hz Hat
              go_wp2_with fail
              go_quiet (fail)
              go_wp2_with fail
              go_quiet (fail)
              go_wp2
              go_roundw
              case rel => exact ⟨k + 1, by go_num, by omega, below_drewR (unhide Hbel) _, okTo_succ (unhide Hok) (unhide Ho)⟩
              case measure => simp [intOf]; omega
            · obtain ⟨m, rfl⟩ : ∃ m, k = m + 1 := ⟨k - 1, by omega⟩
              obtain ⟨hp, hz1, hz2, hz3⟩ := unhide Hz hk0
              have e1 : m + 1 - 1 = m := by omega
              rw [e1] at hp
              clear Hz e1
              have hws : IntKind.i64.wrap (((m + 1 : Nat) : Int) - 1) = (m : Int) := by rw [show ((m + 1 : Nat) : Int) - 1 = (m : Int) by omega]; exact IntWalk.i64_in _ ⟨by omega, by omega⟩
              have hm1 : (m : Int) < l.length := by omega
              have hm0 : (0 : Int) ≤ m := by omega
              have g0 : (0 : Int) < ((m + 1 : Nat) : Int) := by omega
              by_cases hx : x < z + 2
              · have Ho : Hid (okAt l (m + 1) = false) := hide (by rw [unhide Hat]; simp; omega)
                clear Hat
                go_wp2_with fail
                go_quiet (fail)
                go_wp2_with fail
                go_quiet (fail)
                go_wp2
                go_ret
                exact ⟨by rw [checkV_bad hkl (unhide Ho)]; rfl, below_drewR (below_drewR (unhide Hbel) _) _⟩
              · have Ho : Hid (okAt l (m + 1) = true) := hide (by rw [unhide Hat]; simp; omega)
                clear Hat
                go_wp2_with fail
                go_quiet (fail)
                go_wp2_with fail
                go_quiet (fail)
                go_wp2
                go_roundw
                case rel => exact ⟨m + 1 + 1, by go_num, by omega, below_drewR (unhide Hbel) _, okTo_succ (unhide Hok) (unhide Ho)⟩
                case measure => simp [intOf]; omega
    · have hkl' : ¬ (k : Int) < l.length := by omega
      have hke : k = l.length := by omega
      subst hke
      by_cases h2 : 2048 < l.length
      · have h2' : (2048 : Int) < l.length := by omega
        go_wp2
        go_ret
        exact ⟨by rw [checkV_long (unhide Hok) h2]; rfl, unhide Hbel⟩
      · have h2' : ¬ (2048 : Int) < l.length := by omega
        go_wp2
        go_ret
        exact ⟨by rw [checkV_ok (unhide Hok) h2]; rfl, unhide Hbel⟩
end Go.Proofs.YtkimhfajfbcdmaaGreatDoor

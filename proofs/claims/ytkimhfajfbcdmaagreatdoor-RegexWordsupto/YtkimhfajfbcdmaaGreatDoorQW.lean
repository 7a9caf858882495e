/- Contract of the reference's Check. (and what it leads to) -/
import Derived.Test.YtkimhfajfbcdmaaGreatDoorQV
import Derived.Deep.QuietTactic
import Derived.BigQuiet
/- Contract of the reference's Check. -/
namespace Go.Proofs.YtkimhfajfbcdmaaGreatDoor
open Go.RowKit

theorem below_drewR {B : Nat} {a w : World} (h : Below B a w) (n : Nat) : Below B a (w.drewN n) := ⟨h.os, h.tape, h.output, h.size, h.block⟩

set_option maxHeartbeats 4000000 in
set_option maxRecDepth 100000 in
theorem rCheck_any (a : Option Addr) (cap : Nat) (l : List Rng) (hl : l.length ≤ 281474976710656) (w : World) (hrow : RowAt w a l) :
    Calls Tryz.prog 14 #[.slice a l.length cap] w fun e w' => e = .returned (.int .i64 (checkV l)) ∧ Below w.heap.size w w' := by
  have Hrow := hide hrow
  clear hrow
  go_enter Tryz.func14, Tryz.ntmps14
  go_wp2
  go_loopw [3] (fun x wr => ∃ k : Nat, x = .int .i64 k ∧ k ≤ l.length ∧ Below w.heap.size w wr ∧ okTo l k) (fun x _ => l.length - (intOf x).toNat)
  case atStart => exact ⟨0, rfl, by omega, Below.refl _ _, okTo_zero l⟩
  case round =>
    obtain ⟨k, rfl, hk, hbel, hok⟩ := hrel
    have hsz := hbel.size
    have Hbel := hide hbel; have Hok := hide hok
    clear hbel hok
    by_cases hkl : k < l.length
    · obtain ⟨b, off, rfl, hlt, hc⟩ : ∃ b off, a = some ⟨b, off, none⟩ ∧ b < wr.heap.size ∧ ∀ j, j < l.length → wr.cell? ⟨b, off + j * 2, none⟩ = some (.int .i32 (l.getD j (0, 0)).1) ∧ wr.cell? ⟨b, off + j * 2 + 1, none⟩ = some (.int .i32 (l.getD j (0, 0)).2) := by
        rcases rowAt_below (unhide Hrow) (Nat.le_refl _) (unhide Hbel) with rfl | h
        · simp at hkl
        · exact h
      have hkl' : (k : Int) < l.length := by omega
      have hk00 : (0 : Int) ≤ (k : Int) := by omega
      have q0 := (hc k hkl).1
      have q1 := (hc k hkl).2
      have Hat := hide (show okAt l k = (isR (l.getD k (0, 0)) && (decide (k = 0) || decide ((l.getD (k - 1) (0, 0)).2 + 2 ≤ (l.getD k (0, 0)).1))) from rfl)
      have Hz := hide (fun (h : k ≠ 0) => And.intro (hc (k - 1) (by omega)).2 (okAt_isR (unhide Hok (k - 1) (by omega))))
      clear hc
      generalize l.getD (k - 1) (0, 0) = z at *
      generalize l.getD k (0, 0) = x at *
      obtain ⟨x, y⟩ := x
      obtain ⟨z0, z⟩ := z
      simp only at q0 q1 Hat Hz
      have hisr : isR (x, y) = decide (0 ≤ x ∧ x ≤ y ∧ y ≤ 1114111) := rfl
      rw [hisr] at Hat
      clear hisr
      by_cases c1 : x < 0
      · have Ho : Hid (okAt l k = false) := hide (by rw [unhide Hat, decide_eq_false (by omega)]; rfl)
        clear Hat Hz
        go_wp2_with fail
        go_quiet (fail)
        go_wp2
        go_ret
        exact ⟨by rw [checkV_bad hkl (unhide Ho)]; rfl, below_drewR (unhide Hbel) _⟩
      · have d1 : decide (x < 0) = false := by simp; omega
        by_cases c2 : y < x
        · have Ho : Hid (okAt l k = false) := hide (by rw [unhide Hat, decide_eq_false (by omega)]; rfl)
          clear Hat Hz
          go_wp2_with fail
          go_quiet (fail)
          go_wp2
          go_ret
          exact ⟨by rw [checkV_bad hkl (unhide Ho)]; rfl, below_drewR (unhide Hbel) _⟩
        · have d2 : decide (y < x) = false := by simp; omega
          by_cases c3 : 1114111 < y
          · have Ho : Hid (okAt l k = false) := hide (by rw [unhide Hat, decide_eq_false (by omega)]; rfl)
            clear Hat Hz
            go_wp2_with fail
            go_quiet (fail)
            go_wp2
            go_ret
            exact ⟨by rw [checkV_bad hkl (unhide Ho)]; rfl, below_drewR (unhide Hbel) _⟩
          · have d3 : decide (1114111 < y) = false := by simp; omega
            rw [decide_eq_true (show 0 ≤ x ∧ x ≤ y ∧ y ≤ 1114111 by omega)] at Hat
            by_cases hk0 : k = 0
            · have Ho : Hid (okAt l k = true) := hide (by rw [unhide Hat]; simp [hk0])
              have e0 : decide ((0 : Int) < (k : Int)) = false := by simp; omega
              have e1 : decide (0 < k) = false := by simp; omega
              have Hk0 := hide hk0
              clear hk0 Hz Hat
              go_wp2_with fail
              go_quiet (fail)
              go_wp2_with fail
              go_quiet (fail)
              go_wp2
              go_roundw
              case rel => exact ⟨k + 1, by go_num, by omega, below_drewR (unhide Hbel) _, okTo_succ (unhide Hok) (unhide Ho)⟩
              case measure => simp [intOf]; omega
            · obtain ⟨m, rfl⟩ : ∃ m, k = m + 1 := ⟨k - 1, by omega⟩
              obtain ⟨hp, hz1, hz2, hz3⟩ := unhide Hz hk0
              have e1 : m + 1 - 1 = m := by omega
              rw [e1] at hp
              clear Hz e1
              have hws : IntKind.i64.wrap (((m + 1 : Nat) : Int) - 1) = (m : Int) := by rw [show ((m + 1 : Nat) : Int) - 1 = (m : Int) by omega]; exact IntWalk.i64_in _ ⟨by omega, by omega⟩
              have hm1 : (m : Int) < l.length := by omega
              have hm0 : (0 : Int) ≤ m := by omega
              have g0 : (0 : Int) < ((m + 1 : Nat) : Int) := by omega
              by_cases hx : x < z + 2
              · have Ho : Hid (okAt l (m + 1) = false) := hide (by rw [unhide Hat]; simp; omega)
                clear Hat
                go_wp2_with fail
                go_quiet (fail)
                go_wp2_with fail
                go_quiet (fail)
                go_wp2
                go_ret
                exact ⟨by rw [checkV_bad hkl (unhide Ho)]; rfl, below_drewR (below_drewR (unhide Hbel) _) _⟩
              · have Ho : Hid (okAt l (m + 1) = true) := hide (by rw [unhide Hat]; simp; omega)
                clear Hat
                go_wp2_with fail
                go_quiet (fail)
                go_wp2_with fail
                go_quiet (fail)
                go_wp2
                go_roundw
                case rel => exact ⟨m + 1 + 1, by go_num, by omega, below_drewR (unhide Hbel) _, okTo_succ (unhide Hok) (unhide Ho)⟩
                case measure => simp [intOf]; omega
    · have hkl' : ¬ (k : Int) < l.length := by omega
      have hke : k = l.length := by omega
      subst hke
      by_cases h2 : 2048 < l.length
      · have h2' : (2048 : Int) < l.length := by omega
        go_wp2
        go_ret
        exact ⟨by rw [checkV_long (unhide Hok) h2]; rfl, unhide Hbel⟩
      · have h2' : ¬ (2048 : Int) < l.length := by omega
        go_wp2
        go_ret
        exact ⟨by rw [checkV_ok (unhide Hok) h2]; rfl, unhide Hbel⟩
end Go.Proofs.YtkimhfajfbcdmaaGreatDoor

/- The document's None, Of, Set. -/
namespace Go.Proofs.YtkimhfajfbcdmaaGreatDoor
open Go.RowKit Go.Maps

set_option maxHeartbeats 1000000 in
set_option maxRecDepth 100000 in
theorem refNone_any (W : World) : Calls Tryz.prog 30 #[] W fun e w' => e = .returned (.agg #[.int .i64 0, .slice none 0 0, .slice none 0 0]) ∧ Below W.heap.size W w' := by
  go_enter Tryz.func30, Tryz.ntmps30
  go_wp2
  refine bodyPost_ret (v := .agg #[.int .i64 0, .slice none 0 0, .slice none 0 0]) (by simp [results, Tryz.results30, go_sem]) rfl ?_
  exact ⟨rfl, (Below.refl _ _).alloc (Nat.le_refl _) _⟩
set_option maxHeartbeats 1000000 in
set_option maxRecDepth 100000 in
theorem refOf_some (W : World) (a : Option Addr) (n cap : Nat) (hn : 0 < n) : Calls Tryz.prog 16 #[.slice a n cap] W fun e w' => e = .returned (.agg #[.int .i64 2, .slice a n cap, .slice none 0 0]) ∧ Below W.heap.size W w' := by
  have hn' : ((n : Int) == 0) = false := by simp; omega
  go_enter Tryz.func16, Tryz.ntmps16
  go_wp2
  refine bodyPost_ret (v := .agg #[.int .i64 2, .slice a n cap, .slice none 0 0]) (by simp [results, Tryz.results16, go_sem]) rfl ?_
  exact ⟨rfl, (Below.refl _ _).alloc (Nat.le_refl _) _⟩
set_option maxHeartbeats 1000000 in
set_option maxRecDepth 100000 in
theorem refOf_none (W : World) (a : Option Addr) (cap : Nat) : Calls Tryz.prog 16 #[.slice a 0 cap] W fun e w' => e = .returned (.agg #[.int .i64 0, .slice none 0 0, .slice none 0 0]) ∧ Below W.heap.size W w' := by
  have hb0 : Below W.heap.size W (W.alloc (.cells #[.int .i64 0, .slice none 0 0, .slice none 0 0] 26)) := (Below.refl _ _).alloc (Nat.le_refl _) _
  have hbz := heap_new W (.cells #[.int .i64 0, .slice none 0 0, .slice none 0 0] 26)
  have hs0 : (W.alloc (.cells #[.int .i64 0, .slice none 0 0, .slice none 0 0] 26)).heap.size = W.heap.size + 1 := by simp
  have Hb0 := hide hb0; have Hbz := hide hbz; have Hs0 := hide hs0
  clear hb0 hbz hs0
  go_enter Tryz.func16, Tryz.ntmps16
  go_wp2_with fail
  refine (refNone_any _).mono ?_
  rintro e1 w1 ⟨rfl, hb1⟩
  rw [unhide Hs0] at hb1
  have hbz1 := (hb1.block W.heap.size (by omega)).trans (unhide Hbz)
  have b0 := cell_block hbz1 0 _ rfl
  have b1 := cell_block hbz1 1 _ rfl
  have b2 := cell_block hbz1 2 _ rfl
  have f0 := frozen_block hbz1 0
  have f1 := frozen_block hbz1 1
  have f2 := frozen_block hbz1 2
  have Hb1 := hide ((unhide Hb0).trans (hb1.mono (by omega))); have Hbz1 := hide hbz1
  clear hb1 hbz1
  go_wp2
  have hg3 := block_set (i := 2) (block_set (i := 1) (block_set (i := 0) (unhide Hbz1) (.int .i64 0)) (.slice none 0 0)) (.slice none 0 0)
  have t0 := cell_block hg3 0 (.int .i64 0) rfl
  have t1 := cell_block hg3 1 (.slice none 0 0) rfl
  have t2 := cell_block hg3 2 (.slice none 0 0) rfl
  refine bodyPost_ret (v := .agg #[.int .i64 0, .slice none 0 0, .slice none 0 0]) (by simp [results, Tryz.results16, go_sem, t0, t1, t2]) rfl ?_
  exact ⟨rfl, ((((unhide Hb1).setCell (p := ⟨W.heap.size, 0, none⟩) (Nat.le_refl _) _).setCell (p := ⟨W.heap.size, 1, none⟩) (Nat.le_refl _) _).setCell (p := ⟨W.heap.size, 2, none⟩) (Nat.le_refl _) _)⟩
end Go.Proofs.YtkimhfajfbcdmaaGreatDoor

/- The document's Set. -/
namespace Go.Proofs.YtkimhfajfbcdmaaGreatDoor
open Go.RowKit Go.Maps

def TreePostQ (Q : Nat → Prop) (W : World) (E : Int) (T : Rx) (e : Ending) (w' : World) : Prop := ∃ v0 v1 v2, e = .returned (.tuple #[.agg #[v0, v1, v2], .int .i64 E]) ∧ Below W.heap.size W w' ∧
      (if E = 0 then RxAt Q w' T v0 v1 v2 else (v0 = .int .i64 0 ∧ v1 = .slice none 0 0 ∧ v2 = .slice none 0 0))
theorem setT_parts (s : List Rg) (hs : s.length ≤ 2048) : partsT (setT s) ≤ 2049 ∧ limV (setT s) = 0 := by
  by_cases h : s = []
  · subst h
    exact ⟨by decide, by decide⟩
  · have h1 : partsT (setT s) = 1 + s.length := by rw [setT, if_neg h]; simp [partsT, partsTs]
    have h2 : nestT (setT s) = 1 := by rw [setT, if_neg h]; simp [nestT, nestTs]
    refine ⟨by omega, ?_⟩
    unfold limV
    rw [h1, h2, if_neg (by omega), if_neg (by decide)]
/-- Of, as a tree. -/
theorem refOf_any (W : World) (a : Option Addr) (cap : Nat) (s : List Rg) (hrow : RowAt W a s) (N : Nat) (hN : s = [] ∨ ∀ y, a = some y → y.block < N) : Calls Tryz.prog 16 #[.slice a s.length cap] W fun e w' => ∃ v0 v1 v2, e = .returned (.agg #[v0, v1, v2]) ∧ Below W.heap.size W w' ∧ RxAt (fun k => k < N) w' (setT s) v0 v1 v2 := by
  by_cases h : s = []
  · subst h
    refine (refOf_none W a cap).mono ?_
    rintro e w ⟨rfl, hb⟩
    refine ⟨_, _, _, rfl, hb, ?_⟩
    unfold setT RxAt
    exact ⟨rfl, ⟨none, 0, rfl, .inl rfl, .inl rfl⟩, none, 0, [], rfl, rfl, .inl rfl⟩
  · refine (refOf_some W a s.length cap (List.length_pos_iff.2 h)).mono ?_
    rintro e w ⟨rfl, hb⟩
    refine ⟨_, _, _, rfl, hb, ?_⟩
    rw [setT, if_neg h]
    unfold RxAt
    exact ⟨rfl, ⟨a, cap, rfl, rowAt_below hrow (Nat.le_refl _) hb, .inr (hN.resolve_left h)⟩, none, 0, [], rfl, rfl, .inl rfl⟩
set_option maxHeartbeats 1000000 in
set_option maxRecDepth 100000 in
theorem refSet_any (W : World) (a : Option Addr) (cap : Nat) (s : List Rg) (hl : s.length ≤ 281474976710656) (hrow : RowAt W a s) (N : Nat) (hN : s = [] ∨ ∀ y, a = some y → y.block < N) (hNW : N ≤ W.heap.size) :
    Calls Tryz.prog 5 #[.slice a s.length cap] W (TreePostQ (fun k => k < N) W (checkV s) (setT s)) := by
  have hb0 : Below W.heap.size W (W.alloc (.cells #[.int .i64 0, .slice none 0 0, .slice none 0 0] 26)) := (Below.refl _ _).alloc (Nat.le_refl _) _
  have hbx : (W.alloc (.cells #[.int .i64 0, .slice none 0 0, .slice none 0 0] 26)).heap[W.heap.size]? = some (.cells #[.int .i64 0, .slice none 0 0, .slice none 0 0] 26 (0, 0)) := heap_new W _
  have hs0 : (W.alloc (.cells #[.int .i64 0, .slice none 0 0, .slice none 0 0] 26)).heap.size = W.heap.size + 1 := by simp
  have HC := hide (rCheck_any a cap s hl _ (rowAt_below hrow (Nat.le_refl _) hb0))
  have Hrow := hide hrow; have Hb0 := hide hb0; have Hbx := hide hbx; have Hs0 := hide hs0; have HN := hide hN
  clear hrow hb0 hbx hs0 hN
  have hcz := @checkV_zero s
  generalize checkV s = V at *
  go_enter Tryz.func5, Tryz.ntmps5
  go_wp2_with fail
  refine (unhide HC).mono ?_
  rintro e1 w1 ⟨rfl, hb1⟩
  rw [unhide Hs0] at hb1
  have hbx1 := (hb1.block W.heap.size (by omega)).trans (unhide Hbx)
  have hbW1 := (unhide Hb0).trans (hb1.mono (by omega))
  have hs1 : W.heap.size + 1 ≤ w1.heap.size := by have := hb1.size; rw [unhide Hs0] at this; exact this
  have Hbx1 := hide hbx1; have HbW1 := hide hbW1
  clear hb1 HC hbx1 hbW1
  by_cases hV : V = 0
  · obtain ⟨hp1, hp2⟩ := setT_parts s (hcz hV).2
    have HO := hide (refOf_any w1 a cap s (rowAt_below (unhide Hrow) (Nat.le_refl _) (unhide HbW1)) N (unhide HN))
    have Hp2 := hide hp2
    clear hcz hp2
    subst hV
    go_wp2_with fail
    refine (unhide HO).mono ?_
    rintro e2 w2 ⟨v0, v1, v2, rfl, hb2, hX2⟩
    have HLm := hide (limited_ok _ _ (Nat.lt_of_le_of_lt hp1 (by decide)) (unhide Hp2) w2 _ _ _ hX2)
    obtain ⟨kk, s1, n1, c1, s2, n2, c2, rfl, rfl, rfl⟩ := rxAt_formQ hX2
    have hs2 := hb2.size
    have Hbx2 := hide ((hb2.block W.heap.size (by omega)).trans (unhide Hbx1))
    have HbW2 := hide ((unhide HbW1).trans (hb2.mono (by omega)))
    have HX2 := hide hX2
    clear hb2 hX2 HO
    go_wp2_with fail
    refine (unhide HLm).mono ?_
    rintro e3 w3 ⟨rfl, hb3, -⟩
    have hbx3 := (hb3.block W.heap.size (by omega)).trans (unhide Hbx2)
    have b0 := cell_block hbx3 0 _ rfl
    have b1 := cell_block hbx3 1 _ rfl
    have b2 := cell_block hbx3 2 _ rfl
    have f0 := frozen_block hbx3 0
    have f1 := frozen_block hbx3 1
    have f2 := frozen_block hbx3 2
    have HbW3 := hide ((unhide HbW2).trans (hb3.mono (by omega)))
    have Hb3 := hide hb3; have Hbx3 := hide hbx3
    clear hb3 hbx3 HLm
    go_wp2
    have hg3 := block_set (i := 2) (block_set (i := 1) (block_set (i := 0) (unhide Hbx3) (.int .i64 kk)) (.slice s1 n1 c1)) (.slice s2 n2 c2)
    have t0 := cell_block hg3 0 (.int .i64 kk) rfl
    have t1 := cell_block hg3 1 (.slice s1 n1 c1) rfl
    have t2 := cell_block hg3 2 (.slice s2 n2 c2) rfl
    refine bodyPost_ret (v := .tuple #[.agg #[.int .i64 kk, .slice s1 n1 c1, .slice s2 n2 c2], .int .i64 0]) (by simp [results, Tryz.results5, go_sem, t0, t1, t2]) rfl ?_
    have hB := ((((unhide Hb3).mono (show W.heap.size ≤ w2.heap.size by omega)).setCell (p := ⟨W.heap.size, 0, none⟩) (Nat.le_refl _) (.int .i64 kk)).setCell (p := ⟨W.heap.size, 1, none⟩) (Nat.le_refl _) (.slice s1 n1 c1)).setCell (p := ⟨W.heap.size, 2, none⟩) (Nat.le_refl _) (.slice s2 n2 c2)
    refine ⟨_, _, _, rfl, (unhide HbW2).trans hB, ?_⟩
    rw [if_pos rfl]
    exact rxAt_kept (Q := fun k => k < N) (Q' := fun k => k < N) hB.size (fun k hk _ => hB.block k (by omega)) (fun _ h _ => h) _ _ _ _ (unhide HX2)
  · have hVb : (V == 0) = false := by simpa using hV
    have hVn : (V != 0) = true := by simpa using hV
    have b0 := cell_block (unhide Hbx1) 0 _ rfl
    have b1 := cell_block (unhide Hbx1) 1 _ rfl
    have b2 := cell_block (unhide Hbx1) 2 _ rfl
    have f0 := frozen_block (unhide Hbx1) 0
    have f1 := frozen_block (unhide Hbx1) 1
    have f2 := frozen_block (unhide Hbx1) 2
    clear hcz
    go_wp2
    have hg3 := block_set (i := 2) (block_set (i := 1) (block_set (i := 0) (unhide Hbx1) (.int .i64 0)) (.slice none 0 0)) (.slice none 0 0)
    have t0 := cell_block hg3 0 (.int .i64 0) rfl
    have t1 := cell_block hg3 1 (.slice none 0 0) rfl
    have t2 := cell_block hg3 2 (.slice none 0 0) rfl
    refine bodyPost_ret (v := .tuple #[.agg #[.int .i64 0, .slice none 0 0, .slice none 0 0], .int .i64 V]) (by simp [results, Tryz.results5, go_sem, t0, t1, t2]) rfl ?_
    refine ⟨_, _, _, rfl, ((((unhide HbW1).setCell (p := ⟨W.heap.size, 0, none⟩) (Nat.le_refl _) _).setCell (p := ⟨W.heap.size, 1, none⟩) (Nat.le_refl _) _).setCell (p := ⟨W.heap.size, 2, none⟩) (Nat.le_refl _) _), ?_⟩
    rw [if_neg hV]
    exact ⟨rfl, rfl, rfl⟩
end Go.Proofs.YtkimhfajfbcdmaaGreatDoor

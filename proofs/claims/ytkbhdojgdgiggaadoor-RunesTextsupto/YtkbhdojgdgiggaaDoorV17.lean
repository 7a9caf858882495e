/- Contracts of CompareFunc, both Compares, Not and Minus. -/
import Derived.Test.YtkbhdojgdgiggaaDoorV16
namespace Go.Proofs.YtkbhdojgdgiggaaDoor
open Go.RowKit

theorem cmpR_eq (x y : Rng) : cmpR x y = if x.1 < y.1 then -1 else if y.1 < x.1 then 1 else if x.2 < y.2 then -1 else if y.2 < x.2 then 1 else 0 := by
  unfold cmpR orV Lib.compareInt
  by_cases h1 : x.1 < y.1
  · simp [h1]
  · by_cases h2 : y.1 < x.1
    · simp [h1, h2]
    · by_cases h3 : x.2 < y.2 <;> simp [h1, h2, h3]
theorem orderV_cmp (l m : List Rng) (k : Nat) (hk : k < l.length) (hm : k < m.length) : orderV (l.drop k) (m.drop k) = if cmpR (l.getD k (0, 0)) (m.getD k (0, 0)) = 0 then orderV (l.drop (k + 1)) (m.drop (k + 1)) else cmpR (l.getD k (0, 0)) (m.getD k (0, 0)) := by
  rw [orderV_drop l m k hk hm, cmpR_eq]
  repeat' split
  all_goals first | rfl | (exfalso; omega)
theorem grow_below {w w' : World} (h : ∃ q os', w' = Go.Sort.grow (w.drewN q) os') : Below w.heap.size w w' := by
  obtain ⟨q, os, rfl⟩ := h
  refine ⟨rfl, rfl, rfl, by simp [Go.Sort.grow, World.drewN], fun k hk => ?_⟩
  show (w.heap ++ os)[k]? = _
  rw [Array.getElem?_append_left hk]

set_option maxHeartbeats 4000000 in
set_option maxRecDepth 100000 in
theorem compareFunc_any (a a2 : Option Addr) (cap cap2 : Nat) (l m : List Rng) (hl : l.length ≤ 281474976710656) (hm : m.length ≤ 281474976710656) (w : World) (hrow : RowAt w a l) (hrow2 : RowAt w a2 m) :
    Calls Tryd.prog 47 #[.slice a l.length cap, .slice a2 m.length cap2, .func (.func 48) #[] #[]] w fun e w' => e = .returned (.int .i64 (orderV l m)) ∧ Below w.heap.size w w' := by
  have Hrow := hide hrow; have Hrow2 := hide hrow2
  clear hrow hrow2
  have HR : Hid (orderV l m = orderV (l.drop 0) (m.drop 0)) := hide rfl
  generalize orderV l m = R at *
  go_enter Tryd.func47, Tryd.ntmps47
  go_wp2
  go_loopw [13] (fun x wr => ∃ k : Nat, x = .int .i64 k ∧ k ≤ l.length ∧ k ≤ m.length ∧ Below w.heap.size w wr ∧ R = orderV (l.drop k) (m.drop k)) (fun x _ => l.length - (intOf x).toNat)
  case atStart => exact ⟨0, rfl, by omega, by omega, Below.refl _ _, unhide HR⟩
  case round =>
    obtain ⟨k, rfl, hk, hk2, hbel, hR⟩ := hrel
    have hsz := hbel.size
    have Hbel := hide hbel; have HRR := hide hR
    clear hbel hR HR
    by_cases hkl : k < l.length
    · obtain ⟨b, off, rfl, hlt, hc⟩ := rowAt_cells (unhide Hrow) (unhide Hbel) hkl
      have hkl' : (k : Int) < l.length := by omega
      have q0 := (hc k hkl).1
      have q1 := (hc k hkl).2
      by_cases hkm : k < m.length
      · obtain ⟨b2, off2, rfl, hlt2, hc2⟩ := rowAt_cells (unhide Hrow2) (unhide Hbel) hkm
        have hkm' : (k : Int) < m.length := by omega
        have hkm2 : ¬ (m.length : Int) ≤ k := by omega
        have q2 := (hc2 k hkm).1
        have q3 := (hc2 k hkm).2
        have Hst := hide ((unhide HRR).trans (orderV_cmp l m k hkl hkm))
        clear hc hc2 HRR
        generalize l.getD k (0, 0) = x at *
        generalize m.getD k (0, 0) = u at *
        obtain ⟨x, y⟩ := x
        obtain ⟨u, v⟩ := u
        simp only at q0 q1 q2 q3
        generalize hR2 : orderV (l.drop (k + 1)) (m.drop (k + 1)) = R2 at *
        have HR2 := hide hR2
        clear hR2
        have HC := hide (cmpR_any x y u v)
        generalize cmpR (x, y) (u, v) = c at *
        have t2 : (wr.alloc (.cells #[.int .i32 x, .int .i32 y] 55)).cell? ⟨b2, off2 + k * 2, none⟩ = some (.int .i32 u) := (World.cell?_alloc_lt _ _ _ hlt2).trans q2
        have t3 : (wr.alloc (.cells #[.int .i32 x, .int .i32 y] 55)).cell? ⟨b2, off2 + k * 2 + 1, none⟩ = some (.int .i32 v) := (World.cell?_alloc_lt _ _ _ hlt2).trans q3
        have HB := hide (((unhide Hbel).alloc hsz (.cells #[.int .i32 x, .int .i32 y] 55)).alloc (by simp; omega) (.cells #[.int .i32 u, .int .i32 v] 55))
        by_cases hc0 : c = 0
        · have hc1 : (c != 0) = false := by simp [hc0]
          rw [if_pos hc0] at Hst
          clear hc0
          go_wp2_with fail
          refine (unhide HC _).mono ?_
          rintro e w1 ⟨rfl, hg⟩
          have hb1 := grow_below hg
          have Hb1 := hide ((unhide HB).trans (below_le hb1 (unhide HB).size))
          clear hg hb1
          go_wp2
          go_roundw
          case rel => exact ⟨k + 1, by go_num, by omega, by omega, unhide Hb1, by rw [unhide HR2]; exact unhide Hst⟩
          case measure => simp [intOf]; omega
        · have hc1 : (c != 0) = true := by simp [hc0]
          rw [if_neg hc0] at Hst
          clear hc0
          go_wp2_with fail
          refine (unhide HC _).mono ?_
          rintro e w1 ⟨rfl, hg⟩
          have hb1 := grow_below hg
          have Hb1 := hide ((unhide HB).trans (below_le hb1 (unhide HB).size))
          clear hg hb1
          go_wp2
          go_ret
          rw [unhide Hst]
          exact ⟨rfl, unhide Hb1⟩
      · have hkm2 : (m.length : Int) ≤ k := by omega
        have Hend := hide ((unhide HRR).trans (orderV_end l m k hk hk2 (by omega)))
        rw [if_neg (by omega), if_pos (by omega)] at Hend
        clear hc HRR
        generalize l.getD k (0, 0) = x at *
        obtain ⟨x, y⟩ := x
        simp only at q0 q1
        go_wp2
        go_ret
        rw [unhide Hend]
        exact ⟨rfl, (unhide Hbel).alloc hsz _⟩
    · have hkl' : ¬ (k : Int) < l.length := by omega
      have hke : k = l.length := by omega
      subst hke
      have Hend := hide ((unhide HRR).trans (orderV_end l m l.length hk hk2 (by omega)))
      by_cases h2 : l.length < m.length
      · have h2' : (l.length : Int) < m.length := by omega
        rw [if_pos h2] at Hend
        go_wp2
        go_ret
        rw [unhide Hend]
        exact ⟨rfl, unhide Hbel⟩
      · have h2' : ¬ (l.length : Int) < m.length := by omega
        rw [if_neg h2, if_neg (by omega)] at Hend
        go_wp2
        go_ret
        rw [unhide Hend]
        exact ⟨rfl, unhide Hbel⟩

/-- Two rows in a new block. -/
theorem setsAt_two {w : World} {a b : Option Addr} {ca cb : Nat} {l m : List Rng} (h1 : RowAt w a l) (h2 : RowAt w b m) : SetsAt (w.alloc (.cells #[.slice a l.length ca, .slice b m.length cb] 22)) (some ⟨w.heap.size, 0, none⟩) [l, m] := by
  have hb : Below w.heap.size w (w.alloc (.cells #[.slice a l.length ca, .slice b m.length cb] 22)) := (Below.refl _ _).alloc (Nat.le_refl _) _
  have hc := World.cell?_alloc_mark w #[.slice a l.length ca, .slice b m.length cb] 22 (0, 0)
  refine .inr ⟨w.heap.size, 0, rfl, by simp, fun i hi => ?_⟩
  have hi2 : i = 0 ∨ i = 1 := by simp at hi; omega
  rcases hi2 with rfl | rfl
  · exact ⟨a, ca, hc 0, rowAt_below h1 (Nat.le_refl _) hb⟩
  · exact ⟨b, cb, hc 1, rowAt_below h2 (Nat.le_refl _) hb⟩
theorem setsAt_one {w : World} {a : Option Addr} {ca : Nat} {l : List Rng} (h1 : RowAt w a l) : SetsAt (w.alloc (.cells #[.slice a l.length ca] 22)) (some ⟨w.heap.size, 0, none⟩) [l] := by
  have hb : Below w.heap.size w (w.alloc (.cells #[.slice a l.length ca] 22)) := (Below.refl _ _).alloc (Nat.le_refl _) _
  have hc := World.cell?_alloc_mark w #[.slice a l.length ca] 22 (0, 0)
  refine .inr ⟨w.heap.size, 0, rfl, by simp, fun i hi => ?_⟩
  have hi2 : i = 0 := by simp at hi; omega
  subst hi2
  exact ⟨a, ca, hc 0, rowAt_below h1 (Nat.le_refl _) hb⟩
theorem chk_two (l m : List Rng) : chkAll [l, m] = if checkV l = 0 then checkV m else checkV l := by
  unfold chkAll chkAll chkAll
  split
  · split <;> simp_all
  · rfl
/-- What Compare answers. -/
def cmpC (l m : List Rng) : Int := chkAll [l, m]
def cmpV (l m : List Rng) : Int := if chkAll [l, m] = 0 then orderV l m else 0
set_option maxHeartbeats 2000000 in
set_option maxRecDepth 100000 in
theorem compare_law (a a2 : Option Addr) (cap cap2 : Nat) (l m : List Rng) (hl : l.length ≤ 281474976710656) (hm : m.length ≤ 281474976710656) (w : World) (hrow : RowAt w a l) (hrow2 : RowAt w a2 m) :
    Calls Tryd.prog 25 #[.slice a l.length cap, .slice a2 m.length cap2] w fun e w' => e = .returned (.tuple #[.int .i64 (cmpV l m), .int .i64 (cmpC l m)]) ∧ Below w.heap.size w w' := by
  have hbw : Below w.heap.size w (w.alloc (.cells #[.slice a l.length cap, .slice a2 m.length cap2] 22)) := (Below.refl _ _).alloc (Nat.le_refl _) _
  have HC := hide (checkAll_any (some ⟨w.heap.size, 0, none⟩) 2 [l, m] (by simp) (by simp [hl, hm]) _ (setsAt_two (ca := cap) (cb := cap2) hrow hrow2))
  have HO := hide (fun w' (hb : Below w.heap.size w w') => compareFunc_any a a2 cap cap2 l m hl hm w' (rowAt_below hrow (Nat.le_refl _) hb) (rowAt_below hrow2 (Nat.le_refl _) hb))
  have Hbw := hide hbw
  clear hbw hrow hrow2
  by_cases hc : chkAll [l, m] = 0
  · have Hv : Hid (cmpV l m = orderV l m ∧ cmpC l m = 0) := hide ⟨if_pos hc, hc⟩
    rw [hc] at HC
    clear hc
    generalize orderV l m = R at *
    go_enter Tryd.func25, Tryd.ntmps25
    go_wp2_with fail
    refine (unhide HC).mono ?_
    rintro e w1 ⟨rfl, hb1⟩
    have hb2 := (unhide Hbw).trans (below_le hb1 (unhide Hbw).size)
    have HO1 := hide (unhide HO w1 hb2)
    have Hb2 := hide hb2
    clear hb1 hb2 HO
    go_wp2_with fail
    refine (unhide HO1).mono ?_
    rintro e w2 ⟨rfl, hb3⟩
    have Hb3 := hide ((unhide Hb2).trans (below_le hb3 (unhide Hb2).size))
    clear hb3
    go_wp2
    go_ret2
    rw [(unhide Hv).1, (unhide Hv).2]
    exact ⟨rfl, unhide Hb3⟩
  · have Hv : Hid (cmpV l m = 0 ∧ cmpC l m = chkAll [l, m]) := hide ⟨if_neg hc, rfl⟩
    have hc' : (chkAll [l, m] != 0) = true := by simpa using hc
    clear hc
    generalize chkAll [l, m] = c at *
    go_enter Tryd.func25, Tryd.ntmps25
    go_wp2_with fail
    refine (unhide HC).mono ?_
    rintro e w1 ⟨rfl, hb1⟩
    have Hb2 := hide ((unhide Hbw).trans (below_le hb1 (unhide Hbw).size))
    clear hb1
    go_wp2
    go_ret2
    rw [(unhide Hv).1, (unhide Hv).2]
    exact ⟨rfl, unhide Hb2⟩
set_option maxHeartbeats 2000000 in
set_option maxRecDepth 100000 in
theorem rCompare_law (a a2 : Option Addr) (cap cap2 : Nat) (l m : List Rng) (hl : l.length ≤ 281474976710656) (hm : m.length ≤ 281474976710656) (w : World) (hrow : RowAt w a l) (hrow2 : RowAt w a2 m) :
    Calls Tryd.prog 26 #[.slice a l.length cap, .slice a2 m.length cap2] w fun e w' => e = .returned (.tuple #[.int .i64 (cmpV l m), .int .i64 (cmpC l m)]) ∧ Below w.heap.size w w' := by
  have hbw : Below w.heap.size w (w.alloc (.cells #[.slice a l.length cap, .slice a2 m.length cap2] 22)) := (Below.refl _ _).alloc (Nat.le_refl _) _
  have HC := hide (checked_any (some ⟨w.heap.size, 0, none⟩) 2 [l, m] (by simp) (by simp [hl, hm]) _ (setsAt_two (ca := cap) (cb := cap2) hrow hrow2))
  have HO := hide (fun w' (hb : Below w.heap.size w w') => order_any a a2 cap cap2 l m hl hm w' (rowAt_below hrow (Nat.le_refl _) hb) (rowAt_below hrow2 (Nat.le_refl _) hb))
  have Hbw := hide hbw
  clear hbw hrow hrow2
  by_cases hc : chkAll [l, m] = 0
  · have Hv : Hid (cmpV l m = orderV l m ∧ cmpC l m = 0) := hide ⟨if_pos hc, hc⟩
    rw [hc] at HC
    clear hc
    generalize orderV l m = R at *
    go_enter Tryd.func26, Tryd.ntmps26
    go_wp2_with fail
    refine (unhide HC).mono ?_
    rintro e w1 ⟨rfl, hb1⟩
    have hb2 := (unhide Hbw).trans (below_le hb1 (unhide Hbw).size)
    have HO1 := hide (unhide HO w1 hb2)
    have Hb2 := hide hb2
    clear hb1 hb2 HO
    go_wp2_with fail
    refine (unhide HO1).mono ?_
    rintro e w2 ⟨rfl, hb3⟩
    have Hb3 := hide ((unhide Hb2).trans (below_le hb3 (unhide Hb2).size))
    clear hb3
    go_wp2
    go_ret2
    rw [(unhide Hv).1, (unhide Hv).2]
    exact ⟨rfl, unhide Hb3⟩
  · have Hv : Hid (cmpV l m = 0 ∧ cmpC l m = chkAll [l, m]) := hide ⟨if_neg hc, rfl⟩
    have hc' : (chkAll [l, m] != 0) = true := by simpa using hc
    clear hc
    generalize chkAll [l, m] = c at *
    go_enter Tryd.func26, Tryd.ntmps26
    go_wp2_with fail
    refine (unhide HC).mono ?_
    rintro e w1 ⟨rfl, hb1⟩
    have Hb2 := hide ((unhide Hbw).trans (below_le hb1 (unhide Hbw).size))
    clear hb1
    go_wp2
    go_ret2
    rw [(unhide Hv).1, (unhide Hv).2]
    exact ⟨rfl, unhide Hb2⟩
end Go.Proofs.YtkbhdojgdgiggaaDoor

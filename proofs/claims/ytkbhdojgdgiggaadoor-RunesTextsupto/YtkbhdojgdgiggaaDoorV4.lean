/- Contracts of both Sizes and of Has. -/
import Derived.Test.YtkbhdojgdgiggaaDoorV3
import Derived.Test.YtkbhdojgdgiggaaDoorM2
namespace Go.Proofs.YtkbhdojgdgiggaaDoor
open Go.RowKit

/-- Where a row with something in it lies, in a later world. -/
theorem rowAt_cells {w wr : World} {a : Option Addr} {l : List Rng} (h : RowAt w a l) (hb : Below w.heap.size w wr) {k : Nat} (hk : k < l.length) :
    ∃ b off, a = some ⟨b, off, none⟩ ∧ b < wr.heap.size ∧ ∀ j, j < l.length → wr.cell? ⟨b, off + j * 2, none⟩ = some (.int .i32 (l.getD j (0, 0)).1) ∧ wr.cell? ⟨b, off + j * 2 + 1, none⟩ = some (.int .i32 (l.getD j (0, 0)).2) := by
  rcases rowAt_below h (Nat.le_refl _) hb with rfl | h
  · simp at hk
  · exact h

set_option maxHeartbeats 1000000 in
theorem size_no (v : Value) (c : Int) (hc : (c != 0) = true) (w : World)
    (H : Hid (Calls Tryd.prog 9 #[v] w fun e w' => e = .returned (.int .i64 c) ∧ Below w.heap.size w w')) :
    Calls Tryd.prog 11 #[v] w fun e w' => e = .returned (.int .i64 0) ∧ Below w.heap.size w w' := by
  go_enter Tryd.func11, Tryd.ntmps11
  go_wp2_with fail
  refine (unhide H).mono ?_
  rintro e w1 ⟨rfl, hb1⟩
  go_wp2
  go_ret
  exact ⟨rfl, hb1⟩
set_option maxHeartbeats 1000000 in
theorem rSize_no (v : Value) (c : Int) (hc : (c != 0) = true) (w : World)
    (H : Hid (Calls Tryd.prog 10 #[v] w fun e w' => e = .returned (.int .i64 c) ∧ Below w.heap.size w w')) :
    Calls Tryd.prog 12 #[v] w fun e w' => e = .returned (.int .i64 0) ∧ Below w.heap.size w w' := by
  go_enter Tryd.func12, Tryd.ntmps12
  go_wp2_with fail
  refine (unhide H).mono ?_
  rintro e w1 ⟨rfl, hb1⟩
  go_wp2
  go_ret
  exact ⟨rfl, hb1⟩

set_option maxHeartbeats 2000000 in
set_option maxRecDepth 100000 in
theorem size_yes (a : Option Addr) (cap : Nat) (l : List Rng) (hl : l.length ≤ 2048) (hok : okTo l l.length) (w : World) (hrow : RowAt w a l)
    (H : Hid (Calls Tryd.prog 9 #[.slice a l.length cap] w fun e w' => e = .returned (.int .i64 0) ∧ Below w.heap.size w w')) :
    Calls Tryd.prog 11 #[.slice a l.length cap] w fun e w' => e = .returned (.int .i64 (sizeTo l l.length)) ∧ Below w.heap.size w w' := by
  have Hrow := hide hrow; have Hok := hide hok
  clear hrow hok
  go_enter Tryd.func11, Tryd.ntmps11
  go_wp2_with fail
  refine (unhide H).mono ?_
  rintro e w1 ⟨rfl, hb1⟩
  have Hb1 := hide hb1
  clear hb1 H
  go_wp2
  go_loopw [3, 11] (fun n x wr => ∃ k : Nat, n = .int .i64 (sizeTo l k) ∧ x = .int .i64 k ∧ k ≤ l.length ∧ Below w.heap.size w wr) (fun _ x _ => l.length - (intOf x).toNat)
  case atStart => exact ⟨0, rfl, rfl, by omega, unhide Hb1⟩
  case round =>
    obtain ⟨k, rfl, rfl, hk, hbel⟩ := hrel
    have hsz := hbel.size
    have Hbel := hide hbel
    clear hbel
    have hbd := sizeTo_bd (unhide Hok) k hk
    by_cases hkl : k < l.length
    · obtain ⟨b, off, rfl, hlt, hc⟩ := rowAt_cells (unhide Hrow) (unhide Hbel) hkl
      have hkl' : (k : Int) < l.length := by omega
      have q0 := (hc k hkl).1
      have q1 := (hc k hkl).2
      have hr := okAt_isR (unhide Hok k hkl)
      have Hs := hide (show sizeTo l (k + 1) = sizeTo l k + ((l.getD k (0, 0)).2 - (l.getD k (0, 0)).1 + 1) from rfl)
      clear hc
      generalize l.getD k (0, 0) = x at *
      obtain ⟨x, y⟩ := x
      simp only at q0 q1 hr Hs
      generalize sizeTo l k = n at *
      go_wp2
      go_roundw
      case rel =>
        refine ⟨k + 1, ?_, by go_num, by omega, (unhide Hbel).alloc hsz _⟩
        rw [unhide Hs]
      case measure => simp [intOf]; omega
    · have hkl' : ¬ (k : Int) < l.length := by omega
      have hke : k = l.length := by omega
      subst hke
      go_wp2
      go_ret
      exact ⟨rfl, unhide Hbel⟩
set_option maxHeartbeats 2000000 in
set_option maxRecDepth 100000 in
theorem rSize_yes (a : Option Addr) (cap : Nat) (l : List Rng) (hl : l.length ≤ 2048) (hok : okTo l l.length) (w : World) (hrow : RowAt w a l)
    (H : Hid (Calls Tryd.prog 10 #[.slice a l.length cap] w fun e w' => e = .returned (.int .i64 0) ∧ Below w.heap.size w w')) :
    Calls Tryd.prog 12 #[.slice a l.length cap] w fun e w' => e = .returned (.int .i64 (sizeTo l l.length)) ∧ Below w.heap.size w w' := by
  have Hrow := hide hrow; have Hok := hide hok
  clear hrow hok
  go_enter Tryd.func12, Tryd.ntmps12
  go_wp2_with fail
  refine (unhide H).mono ?_
  rintro e w1 ⟨rfl, hb1⟩
  have Hb1 := hide hb1
  clear hb1 H
  go_wp2
  go_loopw [3, 4] (fun n x wr => ∃ k : Nat, n = .int .i64 (sizeTo l k) ∧ x = .int .i64 k ∧ k ≤ l.length ∧ Below w.heap.size w wr) (fun _ x _ => l.length - (intOf x).toNat)
  case atStart => exact ⟨0, rfl, rfl, by omega, unhide Hb1⟩
  case round =>
    obtain ⟨k, rfl, rfl, hk, hbel⟩ := hrel
    have hsz := hbel.size
    have Hbel := hide hbel
    clear hbel
    have hbd := sizeTo_bd (unhide Hok) k hk
    by_cases hkl : k < l.length
    · obtain ⟨b, off, rfl, hlt, hc⟩ := rowAt_cells (unhide Hrow) (unhide Hbel) hkl
      have hkl' : (k : Int) < l.length := by omega
      have hk00 : (0 : Int) ≤ (k : Int) := by omega
      have q0 := (hc k hkl).1
      have q1 := (hc k hkl).2
      have hr := okAt_isR (unhide Hok k hkl)
      have Hs := hide (show sizeTo l (k + 1) = sizeTo l k + ((l.getD k (0, 0)).2 - (l.getD k (0, 0)).1 + 1) from rfl)
      clear hc
      generalize l.getD k (0, 0) = x at *
      obtain ⟨x, y⟩ := x
      simp only at q0 q1 hr Hs
      generalize sizeTo l k = n at *
      go_wp2_with fail
      go_quiet (fail)
      go_wp2
      go_roundw
      case rel =>
        refine ⟨k + 1, ?_, by go_num, by omega, below_drewN (unhide Hbel) _⟩
        rw [unhide Hs]
        go_num
      case measure => simp [intOf]; omega
    · have hkl' : ¬ (k : Int) < l.length := by omega
      have hke : k = l.length := by omega
      subst hke
      go_wp2
      go_ret
      exact ⟨rfl, unhide Hbel⟩
theorem size_any (a : Option Addr) (cap : Nat) (l : List Rng) (hl : l.length ≤ 281474976710656) (w : World) (hrow : RowAt w a l) :
    Calls Tryd.prog 11 #[.slice a l.length cap] w fun e w' => e = .returned (.int .i64 (sizeV l)) ∧ Below w.heap.size w w' := by
  have H := check_any a cap l hl w hrow
  by_cases h : checkV l = 0
  · rw [h] at H
    rw [show sizeV l = sizeTo l l.length from if_pos h]
    exact size_yes a cap l (checkV_zero h).2 (checkV_zero h).1 w hrow (hide H)
  · rw [show sizeV l = 0 from if_neg h]
    exact size_no _ _ (by simpa using h) w (hide H)
theorem rSize_any (a : Option Addr) (cap : Nat) (l : List Rng) (hl : l.length ≤ 281474976710656) (w : World) (hrow : RowAt w a l) :
    Calls Tryd.prog 12 #[.slice a l.length cap] w fun e w' => e = .returned (.int .i64 (sizeV l)) ∧ Below w.heap.size w w' := by
  have H := rCheck_any a cap l hl w hrow
  by_cases h : checkV l = 0
  · rw [h] at H
    rw [show sizeV l = sizeTo l l.length from if_pos h]
    exact rSize_yes a cap l (checkV_zero h).2 (checkV_zero h).1 w hrow (hide H)
  · rw [show sizeV l = 0 from if_neg h]
    exact rSize_no _ _ (by simpa using h) w (hide H)

set_option maxHeartbeats 2000000 in
set_option maxRecDepth 100000 in
theorem has_any (a : Option Addr) (cap : Nat) (l : List Rng) (hl : l.length ≤ 281474976710656) (r : Int) (w : World) (hrow : RowAt w a l) :
    Calls Tryd.prog 38 #[.slice a l.length cap, .int .i32 r] w fun e w' => e = .returned (.bool (hasB l r)) ∧ Below w.heap.size w w' := by
  have Hrow := hide hrow
  clear hrow
  go_enter Tryd.func38, Tryd.ntmps38
  go_wp2
  go_loopw [9] (fun x wr => ∃ k : Nat, x = .int .i64 k ∧ k ≤ l.length ∧ Below w.heap.size w wr ∧ ∀ n, n < k → ¬ ((l.getD n (0, 0)).1 ≤ r ∧ r ≤ (l.getD n (0, 0)).2)) (fun x _ => l.length - (intOf x).toNat)
  case atStart => exact ⟨0, rfl, by omega, Below.refl _ _, fun n h => by omega⟩
  case round =>
    obtain ⟨k, rfl, hk, hbel, hno⟩ := hrel
    have hsz := hbel.size
    have Hbel := hide hbel; have Hno := hide hno
    clear hbel hno
    by_cases hkl : k < l.length
    · obtain ⟨b, off, rfl, hlt, hc⟩ := rowAt_cells (unhide Hrow) (unhide Hbel) hkl
      have hkl' : (k : Int) < l.length := by omega
      have q0 := (hc k hkl).1
      have q1 := (hc k hkl).2
      have Hy := hide (hasB_at (r := r) hkl)
      have Hn := hide (fun (h : ¬ ((l.getD k (0, 0)).1 ≤ r ∧ r ≤ (l.getD k (0, 0)).2)) n (hn : n < k + 1) => show ¬ ((l.getD n (0, 0)).1 ≤ r ∧ r ≤ (l.getD n (0, 0)).2) from
        if e : n = k then by subst e; exact h else unhide Hno n (by omega))
      clear hc Hno
      generalize l.getD k (0, 0) = x at *
      obtain ⟨x, y⟩ := x
      simp only at q0 q1 Hy Hn
      by_cases c1 : x ≤ r
      · by_cases c2 : r ≤ y
        · have hh := unhide Hy ⟨c1, c2⟩
          have Hh := hide hh
          clear hh Hy Hn
          go_wp2
          go_ret
          rw [unhide Hh]
          exact ⟨rfl, (unhide Hbel).alloc hsz _⟩
        · have Hh := hide (unhide Hn (by omega))
          clear Hy Hn
          go_wp2
          go_roundw
          case rel => exact ⟨k + 1, by go_num, by omega, (unhide Hbel).alloc hsz _, unhide Hh⟩
          case measure => simp [intOf]; omega
      · have Hh := hide (unhide Hn (by omega))
        clear Hy Hn
        go_wp2
        go_roundw
        case rel => exact ⟨k + 1, by go_num, by omega, (unhide Hbel).alloc hsz _, unhide Hh⟩
        case measure => simp [intOf]; omega
    · have hkl' : ¬ (k : Int) < l.length := by omega
      have hke : k = l.length := by omega
      subst hke
      have hh := hasB_none (unhide Hno)
      have Hh := hide hh
      clear hh
      go_wp2
      go_ret
      rw [unhide Hh]
      exact ⟨rfl, unhide Hbel⟩
end Go.Proofs.YtkbhdojgdgiggaaDoor

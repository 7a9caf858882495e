/- Contract of the reference's Check. -/
import Derived.Test.YtkbhdojgdgiggaaDoorV2
import Derived.Deep.QuietTactic
import Derived.BigQuiet
namespace Go.Proofs.YtkbhdojgdgiggaaDoor
open Go.RowKit

theorem below_drewN {B : Nat} {a w : World} (h : Below B a w) (n : Nat) : Below B a (w.drewN n) := ⟨h.os, h.tape, h.output, h.size, h.block⟩

set_option maxHeartbeats 4000000 in
set_option maxRecDepth 100000 in
theorem rCheck_any (a : Option Addr) (cap : Nat) (l : List Rng) (hl : l.length ≤ 281474976710656) (w : World) (hrow : RowAt w a l) :
    Calls Tryd.prog 10 #[.slice a l.length cap] w fun e w' => e = .returned (.int .i64 (checkV l)) ∧ Below w.heap.size w w' := by
  have Hrow := hide hrow
  clear hrow
  go_enter Tryd.func10, Tryd.ntmps10
  go_wp2
  go_loopw [3] (fun x wr => ∃ k : Nat, x = .int .i64 k ∧ k ≤ l.length ∧ Below w.heap.size w wr ∧ okTo l k) (fun x _ => l.length - (intOf x).toNat)
  case atStart => exact ⟨0, rfl, by omega, Below.refl _ _, okTo_zero l⟩
  case round =>
    obtain ⟨k, rfl, hk, hbel, hok⟩ := hrel
    have hsz := hbel.size
    have Hbel := hide hbel; have Hok := hide hok
    clear hbel hok
    by_cases hkl : k < l.length
    · obtain ⟨b, off, rfl, hlt, hc⟩ : ∃ b off, a = some ⟨b, off, none⟩ ∧ b < wr.heap.size ∧ ∀ j, j < l.length → wr.cell? ⟨b, off + j * 2, none⟩ = some (.int .i32 (l.getD j (0, 0)).1) ∧ wr.cell? ⟨b, off + j * 2 + 1, none⟩ = some (.int .i32 (l.getD j (0, 0)).2) := by
        rcases rowAt_below (unhide Hrow) (Nat.le_refl _) (unhide Hbel) with rfl | h
        · simp at hkl
        · exact h
      have hkl' : (k : Int) < l.length := by omega
      have hk00 : (0 : Int) ≤ (k : Int) := by omega
      have q0 := (hc k hkl).1
      have q1 := (hc k hkl).2
      have Hat := hide (show okAt l k = (isR (l.getD k (0, 0)) && (decide (k = 0) || decide ((l.getD (k - 1) (0, 0)).2 + 2 ≤ (l.getD k (0, 0)).1))) from rfl)
      have Hz := hide (fun (h : k ≠ 0) => And.intro (hc (k - 1) (by omega)).2 (okAt_isR (unhide Hok (k - 1) (by omega))))
      clear hc
      generalize l.getD (k - 1) (0, 0) = z at *
      generalize l.getD k (0, 0) = x at *
      obtain ⟨x, y⟩ := x
      obtain ⟨z0, z⟩ := z
      simp only at q0 q1 Hat Hz
      have hisr : isR (x, y) = decide (0 ≤ x ∧ x ≤ y ∧ y ≤ 1114111) := rfl
      rw [hisr] at Hat
      clear hisr
      by_cases c1 : x < 0
      · have Ho : Hid (okAt l k = false) := hide (by rw [unhide Hat, decide_eq_false (by omega)]; rfl)
        clear Hat Hz
        go_wp2_with fail
        go_quiet (fail)
        go_wp2
        go_ret
        exact ⟨by rw [checkV_bad hkl (unhide Ho)]; rfl, below_drewN (unhide Hbel) _⟩
      · have d1 : decide (x < 0) = false := by simp; omega
        by_cases c2 : y < x
        · have Ho : Hid (okAt l k = false) := hide (by rw [unhide Hat, decide_eq_false (by omega)]; rfl)
          clear Hat Hz
          go_wp2_with fail
          go_quiet (fail)
          go_wp2
          go_ret
          exact ⟨by rw [checkV_bad hkl (unhide Ho)]; rfl, below_drewN (unhide Hbel) _⟩
        · have d2 : decide (y < x) = false := by simp; omega
          by_cases c3 : 1114111 < y
          · have Ho : Hid (okAt l k = false) := hide (by rw [unhide Hat, decide_eq_false (by omega)]; rfl)
            clear Hat Hz
            go_wp2_with fail
            go_quiet (fail)
            go_wp2
            go_ret
            exact ⟨by rw [checkV_bad hkl (unhide Ho)]; rfl, below_drewN (unhide Hbel) _⟩
          · have d3 : decide (1114111 < y) = false := by simp; omega
            rw [decide_eq_true (show 0 ≤ x ∧ x ≤ y ∧ y ≤ 1114111 by omega)] at Hat
            by_cases hk0 : k = 0
            · have Ho : Hid (okAt l k = true) := hide (by rw [unhide Hat]; simp [hk0])
              have e0 : decide ((0 : Int) < (k : Int)) = false := by simp; omega
              have e1 : decide (0 < k) = false := by simp; omega
              have Hk0 := hide hk0
              clear hk0 Hz Hat
              go_wp2_with fail
              go_quiet (fail)
              go_wp2_with fail
              go_quiet (fail)
              go_wp2
              go_roundw
              case rel => exact ⟨k + 1, by go_num, by omega, below_drewN (unhide Hbel) _, okTo_succ (unhide Hok) (unhide Ho)⟩
              case measure => simp [intOf]; omega
            · obtain ⟨m, rfl⟩ : ∃ m, k = m + 1 := ⟨k - 1, by omega⟩
              obtain ⟨hp, hz1, hz2, hz3⟩ := unhide Hz hk0
              have e1 : m + 1 - 1 = m := by omega
              rw [e1] at hp
              clear Hz e1
              have hws : IntKind.i64.wrap (((m + 1 : Nat) : Int) - 1) = (m : Int) := by rw [show ((m + 1 : Nat) : Int) - 1 = (m : Int) by omega]; exact IntWalk.i64_in _ ⟨by omega, by omega⟩
              have hm1 : (m : Int) < l.length := by omega
              have hm0 : (0 : Int) ≤ m := by omega
              have g0 : (0 : Int) < ((m + 1 : Nat) : Int) := by omega
              by_cases hx : x < z + 2
              · have Ho : Hid (okAt l (m + 1) = false) := hide (by rw [unhide Hat]; simp; omega)
                clear Hat
                go_wp2_with fail
                go_quiet (fail)
                go_wp2_with fail
                go_quiet (fail)
                go_wp2
                go_ret
                exact ⟨by rw [checkV_bad hkl (unhide Ho)]; rfl, below_drewN (below_drewN (unhide Hbel) _) _⟩
              · have Ho : Hid (okAt l (m + 1) = true) := hide (by rw [unhide Hat]; simp; omega)
                clear Hat
                go_wp2_with fail
                go_quiet (fail)
                go_wp2_with fail
                go_quiet (fail)
                go_wp2
                go_roundw
                case rel => exact ⟨m + 1 + 1, by go_num, by omega, below_drewN (unhide Hbel) _, okTo_succ (unhide Hok) (unhide Ho)⟩
                case measure => simp [intOf]; omega
    · have hkl' : ¬ (k : Int) < l.length := by omega
      have hke : k = l.length := by omega
      subst hke
      by_cases h2 : 2048 < l.length
      · have h2' : (2048 : Int) < l.length := by omega
        go_wp2
        go_ret
        exact ⟨by rw [checkV_long (unhide Hok) h2]; rfl, unhide Hbel⟩
      · have h2' : ¬ (2048 : Int) < l.length := by omega
        go_wp2
        go_ret
        exact ⟨by rw [checkV_ok (unhide Hok) h2]; rfl, unhide Hbel⟩
end Go.Proofs.YtkbhdojgdgiggaaDoor

/- Contracts of the reference's holds and made. -/
import Derived.Test.YtkbhdojgdgiggaaDoorV12
namespace Go.Proofs.YtkbhdojgdgiggaaDoor
open Go.RowKit

/-- How many of the sets have it. -/
def cntB (ls : List (List Rng)) (r : Int) : Nat := ls.countP (hasB · r)
theorem cnt_take (ls : List (List Rng)) (i : Nat) (hi : i < ls.length) (r : Int) : cntB (ls.take (i + 1)) r = cntB (ls.take i) r + (if hasB (ls.getD i []) r then 1 else 0) := by
  unfold cntB
  rw [List.take_add_one, List.countP_append]
  simp [List.getD_eq_getElem?_getD, List.getElem?_eq_getElem hi, List.countP_cons]
theorem cnt_le (ls : List (List Rng)) (r : Int) : cntB ls r ≤ ls.length := List.countP_le_length
/-- Is a rune in what is made of sets? (0: union; 1: meet; 3: not) -/
def holdsB (what : Int) (ls : List (List Rng)) (r : Int) : Bool :=
  if what = 0 then decide (0 < cntB ls r) else if what = 1 then decide (cntB ls r = ls.length) else decide (cntB ls r = 0)

set_option maxHeartbeats 4000000 in
set_option maxRecDepth 100000 in
theorem holds_any (what : Int) (hw : what = 0 ∨ what = 1 ∨ what = 3) (a : Option Addr) (cap : Nat) (ls : List (List Rng)) (hn : ls.length ≤ 281474976710656) (hl : ∀ s ∈ ls, s.length ≤ 281474976710656) (r : Int) (w : World) (hsets : SetsAt w a ls) :
    Calls Tryd.prog 61 #[.slice a ls.length cap, .int .i32 r, .int .i64 what] w fun e w' => e = .returned (.bool (holdsB what ls r)) ∧ Below w.heap.size w w' := by
  have Hs := hide hsets
  have Hl : Hid (∀ i, i < ls.length → (ls.getD i []).length ≤ 281474976710656) := hide fun i hi => by
    refine hl _ ?_
    rw [List.getD_eq_getElem?_getD, List.getElem?_eq_getElem hi]; exact List.getElem_mem _
  clear hsets hl
  go_enter Tryd.func61, Tryd.ntmps61
  go_wp2
  go_loopw [7, 8] (fun n x wr => ∃ i : Nat, n = .int .i64 (cntB (ls.take i) r : Nat) ∧ x = .int .i64 i ∧ i ≤ ls.length ∧ Below w.heap.size w wr ∧ cntB (ls.take i) r ≤ i) (fun _ x _ => ls.length - (intOf x).toNat)
  case atStart => exact ⟨0, rfl, rfl, by omega, Below.refl _ _, by simp [cntB]⟩
  case round =>
    obtain ⟨i, rfl, rfl, hi, hbel, hci⟩ := hrel
    have hsz := hbel.size
    have Hbel := hide hbel
    clear hbel
    by_cases hil : i < ls.length
    · have hil' : (i : Int) < ls.length := by omega
      obtain ⟨b, off, ai, ci, rfl, hlt, hcell, hrow⟩ := setsAt_cell (unhide Hs) (unhide Hbel) hil
      have hls := unhide Hl i hil
      have Hct := hide (cnt_take ls i hil r)
      generalize ls.getD i [] = s at *
      have HH := hide (rHas_any ai ci s hls r wr hrow)
      clear hrow
      generalize cntB (ls.take i) r = c at *
      cases hh : hasB s r
      · rw [hh] at HH Hct
        simp only [Bool.false_eq_true, if_false, Nat.add_zero] at Hct
        clear hh
        go_wp2_with fail
        refine (unhide HH).mono ?_
        rintro e w1 ⟨rfl, hb1⟩
        have Hb1 := hide ((unhide Hbel).trans (below_le hb1 hsz))
        clear hb1
        go_wp2
        go_roundw
        case rel => exact ⟨i + 1, by rw [unhide Hct], by go_num, by omega, unhide Hb1, by rw [unhide Hct]; omega⟩
        case measure => simp [intOf]; omega
      · rw [hh] at HH Hct
        simp only [if_true] at Hct
        clear hh
        go_wp2_with fail
        refine (unhide HH).mono ?_
        rintro e w1 ⟨rfl, hb1⟩
        have Hb1 := hide ((unhide Hbel).trans (below_le hb1 hsz))
        clear hb1
        go_wp2
        go_roundw
        case rel => exact ⟨i + 1, by rw [unhide Hct]; go_num, by go_num, by omega, unhide Hb1, by rw [unhide Hct]; omega⟩
        case measure => simp [intOf]; omega
    · have hil' : ¬ (i : Int) < ls.length := by omega
      have hie : i = ls.length := by omega
      subst hie
      rw [List.take_length] at *
      generalize hc : cntB ls r = c at *
      have Hc := hide hc
      clear hc
      rcases hw with rfl | rfl | rfl
      · go_wp2
        go_ret
        exact ⟨ret_bool (by unfold holdsB; rw [unhide Hc, Bool.eq_iff_iff]; simp), unhide Hbel⟩
      · go_wp2
        go_ret
        exact ⟨ret_bool (by unfold holdsB; rw [unhide Hc, Bool.eq_iff_iff]; simp; omega), unhide Hbel⟩
      · go_wp2
        go_ret
        exact ⟨ret_bool (by unfold holdsB; rw [unhide Hc, Bool.eq_iff_iff]; simp), unhide Hbel⟩
end Go.Proofs.YtkbhdojgdgiggaaDoor

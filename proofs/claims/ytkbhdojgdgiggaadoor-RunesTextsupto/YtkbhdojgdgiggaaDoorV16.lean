/- Contracts of checkAll, of the reference's checked, and of rest. -/
import Derived.Test.YtkbhdojgdgiggaaDoorV15
namespace Go.Proofs.YtkbhdojgdgiggaaDoor
open Go.RowKit

/-- The first error of sets. -/
def chkAll : List (List Rng) → Int
  | [] => 0
  | s :: ls => if checkV s = 0 then chkAll ls else checkV s
theorem chkAll_bad (ls : List (List Rng)) (i : Nat) (hi : i < ls.length) (h : ∀ j, j < i → checkV (ls.getD j []) = 0) (hb : checkV (ls.getD i []) ≠ 0) : chkAll ls = checkV (ls.getD i []) := by
  induction ls generalizing i with
  | nil => simp at hi
  | cons s ls ih =>
    cases i with
    | zero => simp only [List.getD_cons_zero] at hb ⊢; unfold chkAll; rw [if_neg hb]
    | succ i =>
      have h0 : checkV s = 0 := by simpa using h 0 (by omega)
      unfold chkAll
      rw [if_pos h0, List.getD_cons_succ]
      exact ih i (by simpa using hi) (fun j hj => by simpa using h (j + 1) (by omega)) (by simpa using hb)
theorem chkAll_ok (ls : List (List Rng)) (h : ∀ j, j < ls.length → checkV (ls.getD j []) = 0) : chkAll ls = 0 := by
  induction ls with
  | nil => rfl
  | cons s ls ih =>
    have h0 : checkV s = 0 := by simpa using h 0 (by simp)
    unfold chkAll
    rw [if_pos h0]
    exact ih fun j hj => by simpa using h (j + 1) (by simpa using hj)

set_option maxHeartbeats 2000000 in
set_option maxRecDepth 100000 in
theorem checkAll_any (a : Option Addr) (cap : Nat) (ls : List (List Rng)) (hn : ls.length ≤ 281474976710656) (hl : ∀ s ∈ ls, s.length ≤ 281474976710656) (w : World) (hsets : SetsAt w a ls) :
    Calls Tryd.prog 43 #[.slice a ls.length cap] w fun e w' => e = .returned (.int .i64 (chkAll ls)) ∧ Below w.heap.size w w' := by
  have Hs := hide hsets
  have Hl : Hid (∀ i, i < ls.length → (ls.getD i []).length ≤ 281474976710656) := hide fun i hi => by
    refine hl _ ?_
    rw [List.getD_eq_getElem?_getD, List.getElem?_eq_getElem hi]; exact List.getElem_mem _
  clear hsets hl
  go_enter Tryd.func43, Tryd.ntmps43
  go_wp2
  go_loopw [8] (fun x wr => ∃ i : Nat, x = .int .i64 i ∧ i ≤ ls.length ∧ Below w.heap.size w wr ∧ ∀ j, j < i → checkV (ls.getD j []) = 0) (fun x _ => ls.length - (intOf x).toNat)
  case atStart => exact ⟨0, rfl, by omega, Below.refl _ _, fun j h => by omega⟩
  case round =>
    obtain ⟨i, rfl, hi, hbel, hall⟩ := hrel
    have hsz := hbel.size
    have Hbel := hide hbel; have Hall := hide hall
    clear hbel hall
    by_cases hil : i < ls.length
    · have hil' : (i : Int) < ls.length := by omega
      obtain ⟨b, off, ai, ci, rfl, hlt, hcell, hrow⟩ := setsAt_cell (unhide Hs) (unhide Hbel) hil
      have hls := unhide Hl i hil
      have Hbad := hide (chkAll_bad ls i hil (unhide Hall))
      have Hgo := hide (fun (h : checkV (ls.getD i []) = 0) j (hj : j < i + 1) => show checkV (ls.getD j []) = 0 from if e : j = i then by subst e; exact h else unhide Hall j (by omega))
      generalize ls.getD i [] = s at *
      have HH := hide (check_any ai ci s hls wr hrow)
      clear hrow
      generalize checkV s = c at *
      by_cases hc : c = 0
      · have hc' : (c != 0) = false := by simp [hc]
        have Hg := hide (unhide Hgo hc)
        clear hc Hgo Hbad
        go_wp2_with fail
        refine (unhide HH).mono ?_
        rintro e w1 ⟨rfl, hb1⟩
        have Hb1 := hide ((unhide Hbel).trans (below_le hb1 hsz))
        clear hb1
        go_wp2
        go_roundw
        case rel => exact ⟨i + 1, by go_num, by omega, unhide Hb1, unhide Hg⟩
        case measure => simp [intOf]; omega
      · have hc' : (c != 0) = true := by simp [hc]
        have Hb := hide (unhide Hbad hc)
        clear hc Hgo Hbad
        go_wp2_with fail
        refine (unhide HH).mono ?_
        rintro e w1 ⟨rfl, hb1⟩
        have Hb1 := hide ((unhide Hbel).trans (below_le hb1 hsz))
        clear hb1
        go_wp2
        go_ret
        rw [unhide Hb]
        exact ⟨rfl, unhide Hb1⟩
    · have hil' : ¬ (i : Int) < ls.length := by omega
      have hie : i = ls.length := by omega
      subst hie
      have Hok := hide (chkAll_ok ls (unhide Hall))
      go_wp2
      go_ret
      rw [unhide Hok]
      exact ⟨rfl, unhide Hbel⟩
set_option maxHeartbeats 2000000 in
set_option maxRecDepth 100000 in
theorem checked_any (a : Option Addr) (cap : Nat) (ls : List (List Rng)) (hn : ls.length ≤ 281474976710656) (hl : ∀ s ∈ ls, s.length ≤ 281474976710656) (w : World) (hsets : SetsAt w a ls) :
    Calls Tryd.prog 45 #[.slice a ls.length cap] w fun e w' => e = .returned (.int .i64 (chkAll ls)) ∧ Below w.heap.size w w' := by
  have Hs := hide hsets
  have Hl : Hid (∀ i, i < ls.length → (ls.getD i []).length ≤ 281474976710656) := hide fun i hi => by
    refine hl _ ?_
    rw [List.getD_eq_getElem?_getD, List.getElem?_eq_getElem hi]; exact List.getElem_mem _
  clear hsets hl
  go_enter Tryd.func45, Tryd.ntmps45
  go_wp2
  go_loopw [3] (fun x wr => ∃ i : Nat, x = .int .i64 i ∧ i ≤ ls.length ∧ Below w.heap.size w wr ∧ ∀ j, j < i → checkV (ls.getD j []) = 0) (fun x _ => ls.length - (intOf x).toNat)
  case atStart => exact ⟨0, rfl, by omega, Below.refl _ _, fun j h => by omega⟩
  case round =>
    obtain ⟨i, rfl, hi, hbel, hall⟩ := hrel
    have hsz := hbel.size
    have Hbel := hide hbel; have Hall := hide hall
    clear hbel hall
    by_cases hil : i < ls.length
    · have hil' : (i : Int) < ls.length := by omega
      obtain ⟨b, off, ai, ci, rfl, hlt, hcell, hrow⟩ := setsAt_cell (unhide Hs) (unhide Hbel) hil
      have hls := unhide Hl i hil
      have Hbad := hide (chkAll_bad ls i hil (unhide Hall))
      have Hgo := hide (fun (h : checkV (ls.getD i []) = 0) j (hj : j < i + 1) => show checkV (ls.getD j []) = 0 from if e : j = i then by subst e; exact h else unhide Hall j (by omega))
      generalize ls.getD i [] = s at *
      have HH := hide (rCheck_any ai ci s hls wr hrow)
      clear hrow
      generalize checkV s = c at *
      by_cases hc : c = 0
      · have hc' : (c != 0) = false := by simp [hc]
        have Hg := hide (unhide Hgo hc)
        clear hc Hgo Hbad
        go_wp2_with fail
        refine (unhide HH).mono ?_
        rintro e w1 ⟨rfl, hb1⟩
        have Hb1 := hide ((unhide Hbel).trans (below_le hb1 hsz))
        clear hb1
        go_wp2
        go_roundw
        case rel => exact ⟨i + 1, by go_num, by omega, unhide Hb1, unhide Hg⟩
        case measure => simp [intOf]; omega
      · have hc' : (c != 0) = true := by simp [hc]
        have Hb := hide (unhide Hbad hc)
        clear hc Hgo Hbad
        go_wp2_with fail
        refine (unhide HH).mono ?_
        rintro e w1 ⟨rfl, hb1⟩
        have Hb1 := hide ((unhide Hbel).trans (below_le hb1 hsz))
        clear hb1
        go_wp2
        go_ret
        rw [unhide Hb]
        exact ⟨rfl, unhide Hb1⟩
    · have hil' : ¬ (i : Int) < ls.length := by omega
      have hie : i = ls.length := by omega
      subst hie
      have Hok := hide (chkAll_ok ls (unhide Hall))
      go_wp2
      go_ret
      rw [unhide Hok]
      exact ⟨rfl, unhide Hbel⟩

theorem restFrom_step (fr : Int) (l : List Rng) (k : Nat) (hk : k < l.length) : restFrom fr (l.drop k) = (if fr < (l.getD k (0, 0)).1 then [(fr, (l.getD k (0, 0)).1 - 1)] else []) ++ restFrom ((l.getD k (0, 0)).2 + 1) (l.drop (k + 1)) := by
  rw [List.drop_eq_getElem_cons hk, restFrom]
  simp [List.getD_eq_getElem?_getD, List.getElem?_eq_getElem hk]
set_option maxHeartbeats 4000000 in
set_option maxRecDepth 100000 in
theorem rest_any (a : Option Addr) (cap : Nat) (l : List Rng) (hl : (l.length + 1) * 8 ≤ 140737488355328) (hR : ∀ x ∈ l, isR x = true) (w : World) (hrow : RowAt w a l) :
    Calls Tryd.prog 46 #[.slice a l.length cap] w fun e w' => ∃ v, e = .returned v ∧ w'.ownsRow w.heap.size 55 2 v (restL l).length (flat (restL l)) ∧ Below w.heap.size w w' := by
  obtain ⟨i0, hi, hz0, hz1, hz2⟩ := info_parts hrange
  have Hrow := hide hrow
  have HR : Hid (∀ k, k < l.length → isR (l.getD k (0, 0)) = true) := hide fun k hk => by
    refine hR _ ?_
    rw [List.getD_eq_getElem?_getD, List.getElem?_eq_getElem hk]; exact List.getElem_mem _
  clear hrow hR
  go_enter Tryd.func46, Tryd.ntmps46
  go_wp2
  go_loopw [3, 4, 9] (fun u f x wr => ∃ (k : Nat) (fr : Int) (acc : List Rng), wr.ownsRow w.heap.size 55 2 u acc.length (flat acc) ∧ f = .int .i32 fr ∧ x = .int .i64 k ∧ k ≤ l.length ∧ Below w.heap.size w wr ∧ acc ++ restFrom fr (l.drop k) = restL l ∧ acc.length ≤ k ∧ 0 ≤ fr ∧ fr ≤ 1114112) (fun _ _ x _ => l.length - (intOf x).toNat)
  case atStart => exact ⟨0, 0, [], ⟨rfl, .inl ⟨rfl, rfl⟩⟩, rfl, rfl, by omega, Below.refl _ _, rfl, by simp, by omega, by omega⟩
  case round =>
    obtain ⟨k, fr, acc, hown, rfl, rfl, hk, hbel, hacc, hlen, hf0, hf1⟩ := hrel
    have hsz := hbel.size
    obtain ⟨ua, ucap, rfl⟩ := ownsRow_slice hown
    have Hown := hide hown; have Hbel := hide hbel; have Hacc := hide hacc
    clear hown hbel hacc
    by_cases hkl : k < l.length
    · obtain ⟨b, off, rfl, hlt, hc⟩ := rowAt_cells (unhide Hrow) (unhide Hbel) hkl
      have hkl' : (k : Int) < l.length := by omega
      have q0 := (hc k hkl).1
      have q1 := (hc k hkl).2
      have hx := unhide HR k hkl
      have Hst := hide (restFrom_step fr l k hkl)
      clear hc
      generalize l.getD k (0, 0) = x at *
      obtain ⟨x, y⟩ := x
      have hxr : 0 ≤ x ∧ x ≤ y ∧ y ≤ 1114111 := by simpa [isR] using hx
      simp only at q0 q1 Hst
      clear hx
      by_cases hfx : fr < x
      · have Hacc2 : Hid ((acc ++ [(fr, x - 1)]) ++ restFrom (y + 1) (l.drop (k + 1)) = restL l) := hide (by
          rw [← unhide Hacc, unhide Hst, if_pos hfx, List.append_assoc])
        have Hown0 := hide (fun o => ((unhide Hown).alloc (.cells #[.int .i32 x, .int .i32 y] 55)).alloc o)
        clear Hst Hacc
        go_wp2_with (at_builtin; refine wpList_append_own _ rfl _ _ 22 rfl w.heap.size 55 i0 (.agg #[.int .i32 0, .int .i32 0]) 2 8 Tryd.underlying22 hi hz0 hz1 hz2 rfl (by decide) _ _ _ rfl (unhide Hown0 _) ⟨wr.heap.size + 1, 0, none⟩ 1 1 [.int .i32 fr, .int .i32 (x - 1)] rfl rfl ?c1 ?c2 ?c3 ?c4 ?c5 ?_)
        case c1 => exact cell_new2 _ _ (by simp) _ _ _
        case c2 => intro u hu; simp at hu; rcases hu with rfl | rfl <;> rfl
        case c3 => unfold maxLen; omega
        case c4 => omega
        case c5 => simp; omega
        intro v' w3 hown' hgrow _
        have hbx := ((unhide Hbel).alloc hsz (.cells #[.int .i32 x, .int .i32 y] 55)).alloc (by simp; omega) (.cells #[.int .i32 fr, .int .i32 (x - 1)] 55)
        have p1 : w3.cell? ⟨wr.heap.size, 1, none⟩ = some (.int .i32 y) := by
          refine hgrow.cell ?_ (by intro e; have := (unhide Hown).lt wr.heap.size e.symm; omega)
          exact (World.cell?_alloc_lt _ _ _ (by simp)).trans (World.cell?_alloc_mark wr #[.int .i32 x, .int .i32 y] 55 (0, 0) 1)
        have Hb3 := hide (hbx.grown hgrow (by simp; omega) (fun x hx => ((unhide Hown).lt x hx).1))
        have Hown3 := hide hown'
        clear hbx hgrow hown'
        go_wp2
        go_roundw
        case rel =>
          refine ⟨k + 1, y + 1, acc ++ [(fr, x - 1)], ?_, by go_num, by go_num, by omega, unhide Hb3, unhide Hacc2, by simp; omega, by omega, by omega⟩
          rw [flat_append]
          simpa [flat, encR] using unhide Hown3
        case measure => simp [intOf]; omega
      · have Hacc2 : Hid (acc ++ restFrom (y + 1) (l.drop (k + 1)) = restL l) := hide (by
          rw [← unhide Hacc, unhide Hst, if_neg hfx, List.nil_append])
        clear Hst Hacc
        go_wp2
        go_roundw
        case rel => exact ⟨k + 1, y + 1, acc, (unhide Hown).alloc _, by go_num, by go_num, by omega, (unhide Hbel).alloc hsz _, unhide Hacc2, by omega, by omega, by omega⟩
        case measure => simp [intOf]; omega
    · have hkl' : ¬ (k : Int) < l.length := by omega
      have hke : k = l.length := by omega
      subst hke
      have Hend : Hid (restL l = acc ++ (if fr ≤ 1114111 then [(fr, 1114111)] else [])) := hide (by rw [← unhide Hacc, List.drop_length]; rfl)
      clear Hacc
      by_cases hfm : fr ≤ 1114111
      · rw [if_pos hfm] at Hend
        have Hown0 := hide (fun o => (unhide Hown).alloc o)
        go_wp2_with (at_builtin; refine wpList_append_own _ rfl _ _ 22 rfl w.heap.size 55 i0 (.agg #[.int .i32 0, .int .i32 0]) 2 8 Tryd.underlying22 hi hz0 hz1 hz2 rfl (by decide) _ _ _ rfl (unhide Hown0 _) ⟨wr.heap.size, 0, none⟩ 1 1 [.int .i32 fr, .int .i32 1114111] rfl rfl ?d1 ?d2 ?d3 ?d4 ?d5 ?_)
        case d2 => exact ⟨rfl, rfl⟩
        case d3 => unfold maxLen; omega
        case d4 => omega
        case d5 => omega
        intro v' w3 hown' hgrow _
        have Hb3 := hide (((unhide Hbel).alloc hsz (.cells #[.int .i32 fr, .int .i32 1114111] 55)).grown hgrow (by simp; omega) (fun x hx => ((unhide Hown).lt x hx).1))
        have Hown3 := hide hown'
        clear hgrow hown'
        go_wp2
        go_ret
        refine ⟨_, rfl, ?_, unhide Hb3⟩
        rw [unhide Hend, flat_append]
        simpa [flat, encR] using unhide Hown3
      · rw [if_neg hfm, List.append_nil] at Hend
        go_wp2
        go_ret
        rw [unhide Hend]
        exact ⟨_, rfl, unhide Hown, unhide Hbel⟩
end Go.Proofs.YtkbhdojgdgiggaaDoor

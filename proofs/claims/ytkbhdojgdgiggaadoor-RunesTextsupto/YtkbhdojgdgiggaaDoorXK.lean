/- Both Texts. -/
import Derived.Test.YtkbhdojgdgiggaaDoorXI
import Derived.Test.YtkbhdojgdgiggaaDoorV9
import Derived.Test.YtkbhdojgdgiggaaDoorM5
import Derived.Test.YtkbhdojgdgiggaaDoorV18
namespace Go.Proofs.YtkbhdojgdgiggaaDoor
open Go.RowKit Go.Lib Go.Sort

theorem Tz.below {w w' : World} {B : Nat} (h : Tz w) (hb : Below B w w') (hB : 4 < B) : Tz w' := ⟨(hb.cell (p := ⟨4, 15, none⟩) hB).trans h.1, Nat.lt_of_lt_of_le h.2 hb.size⟩
def txtL (l : List Rng) : List UInt8 := if checkV l = 0 then textL l else []
set_option maxHeartbeats 1000000 in
set_option maxRecDepth 100000 in
theorem text_no (a : Option Addr) (cap : Nat) (l : List Rng) (hl : l.length ≤ 281474976710656) (w : World) (hrow : RowAt w a l) (hne : checkV l ≠ 0) :
    Calls Tryd.prog 31 #[.slice a l.length cap] w fun e w' => e = .returned (.tuple #[.string ⟨([] : List UInt8).toArray⟩, .int .i64 (checkV l)]) ∧ Below w.heap.size w w' := by
  have H := hide (check_any a cap l hl w hrow)
  have hne' : (checkV l != 0) = true := by simpa using hne
  generalize checkV l = c at *
  clear hrow
  go_enter Tryd.func31, Tryd.ntmps31
  go_wp2_with fail
  refine (unhide H).mono ?_
  rintro e w1 ⟨rfl, hb⟩
  go_wp2
  go_ret2
  exact ⟨rfl, hb⟩
theorem text_any (a : Option Addr) (cap : Nat) (l : List Rng) (hl : l.length ≤ 281474976710656) (w : World) (hT : Tz w) (hrow : RowAt w a l) :
    Calls Tryd.prog 31 #[.slice a l.length cap] w fun e w' => e = .returned (.tuple #[.string ⟨(txtL l).toArray⟩, .int .i64 (checkV l)]) ∧ Below w.heap.size w w' := by
  unfold txtL
  by_cases hc : checkV l = 0
  · rw [if_pos hc, hc]
    have hz := checkV_zero hc
    have hir := set_isR hc
    have hC := check_any a cap l hl w hrow
    rw [hc] at hC
    refine text_yes a cap l hz.2 w hrow (fun x hx => ?_) (hide hC)
    have h := hir x hx
    simp [isR] at h
    exact ⟨appR_any x.1 (by omega) (by omega) w hT, appR_any x.2 (by omega) (by omega) w hT⟩
  · rw [if_neg hc]; exact text_no a cap l hl w hrow hc
set_option maxHeartbeats 1000000 in
set_option maxRecDepth 100000 in
theorem rText_no (a : Option Addr) (cap : Nat) (l : List Rng) (hl : l.length ≤ 281474976710656) (w : World) (hrow : RowAt w a l) (hne : checkV l ≠ 0) :
    Calls Tryd.prog 32 #[.slice a l.length cap] w fun e w' => e = .returned (.tuple #[.string ⟨([] : List UInt8).toArray⟩, .int .i64 (checkV l)]) ∧ Below w.heap.size w w' := by
  have H := hide (rCheck_any a cap l hl w hrow)
  have hne' : (checkV l != 0) = true := by simpa using hne
  generalize checkV l = c at *
  clear hrow
  go_enter Tryd.func32, Tryd.ntmps32
  go_wp2_with fail
  refine (unhide H).mono ?_
  rintro e w1 ⟨rfl, hb⟩
  go_wp2
  go_ret2
  exact ⟨rfl, hb⟩
set_option maxHeartbeats 4000000 in
set_option maxRecDepth 100000 in
theorem rText_yes (a : Option Addr) (cap : Nat) (l : List Rng) (hl : l.length ≤ 2048) (hir : ∀ x ∈ l, isR x = true) (w : World) (hT : Tz w) (hrow : RowAt w a l)
    (H : Hid (Calls Tryd.prog 10 #[.slice a l.length cap] w fun e w' => e = .returned (.int .i64 0) ∧ Below w.heap.size w w')) :
    Calls Tryd.prog 32 #[.slice a l.length cap] w fun e w' => e = .returned (.tuple #[.string ⟨(textL l).toArray⟩, .int .i64 0]) ∧ Below w.heap.size w w' := by
  have Hrow := hide hrow; have HT := hide hT; have Hir := hide hir
  clear hrow hT hir
  go_enter Tryd.func32, Tryd.ntmps32
  go_wp2_with fail
  refine (unhide H).mono ?_
  rintro e w0 ⟨rfl, hb0⟩
  have Hb0 := hide hb0
  clear hb0 H
  go_wp2
  go_loopw [5, 6] (fun u x wr => ∃ k : Nat, u = .string ⟨(textTo l k).toArray⟩ ∧ x = .int .i64 k ∧ k ≤ l.length ∧ Below w.heap.size w wr) (fun _ x _ => l.length - (intOf x).toNat)
  case atStart => exact ⟨0, rfl, rfl, by omega, unhide Hb0⟩
  case round =>
    obtain ⟨k, rfl, rfl, hk, hbel⟩ := hrel
    have hle := textTo_le l k hk
    have Hbel := hide hbel
    clear hbel
    by_cases hkl : k < l.length
    · obtain ⟨b, off, rfl, hlt, hc⟩ := rowAt_cells (unhide Hrow) (unhide Hbel) hkl
      have hkl' : (k : Int) < l.length := by omega
      have q0 := (hc k hkl).1
      have q1 := (hc k hkl).2
      have hmem : l.getD k (0, 0) ∈ l := by
        rw [List.getD_eq_getElem?_getD, List.getElem?_eq_getElem hkl]; exact List.getElem_mem _
      have hxr := unhide Hir _ hmem
      have Hst := hide (textTo_succ l k hkl)
      clear hc hmem
      generalize l.getD k (0, 0) = x at *
      obtain ⟨x, y⟩ := x
      simp only at q0 q1
      simp [isR] at hxr
      have hrt : rangeT (x, y) = runeT x ++ (if y = x then [] else 45 :: runeT y) := rfl
      rw [hrt] at Hst
      clear hrt
      generalize textTo l k = acc at *
      have hTw := (unhide HT).below (unhide Hbel) (unhide HT).2
      have hlx := runeT_le x
      have hly := runeT_le y
      have HX := hide (one_any x (by omega) (by omega) wr hTw)
      have HY := hide (fun w1 (hb : Below wr.heap.size wr w1) => one_any y (by omega) (by omega) w1 (hTw.below hb hTw.2))
      have hcat := cat_eq acc (runeT x)
      clear hTw
      have hltr : b < wr.heap.size := hlt
      go_wp2_with fail
      refine (unhide HX).mono ?_
      rintro e w1 ⟨rfl, hb1⟩
      have p0 := (hb1.cell (p := ⟨b, off + k * 2, none⟩) hltr).trans q0
      have p1 := (hb1.cell (p := ⟨b, off + k * 2 + 1, none⟩) hltr).trans q1
      have Hb1 := hide ((unhide Hbel).trans (below_le hb1 (unhide Hbel).size))
      have Hbw := hide hb1
      clear q0 q1 hb1 HX
      by_cases hxy : y = x
      · have hxy' : (y != x) = false := by simp [hxy]
        have Hxy := hide hxy
        clear hxy
        clear HY
        go_wp2
        go_quiet (fail)
        go_wp2
        go_roundw
        case rel =>
          refine ⟨k + 1, ?_, by go_num, by omega, below_drewN (unhide Hb1) _⟩
          rw [unhide Hst, if_pos (unhide Hxy), List.append_nil]
        case measure => simp [intOf]; omega
      · have hxy' : (y != x) = true := by simp [hxy]
        have Hxy := hide hxy
        clear hxy
        go_wp2_with fail
        go_quiet (fail)
        have HYw := hide (unhide HY (w1.drewN nq) (below_drewN (unhide Hbw) nq))
        have Hb2 := hide (below_drewN (unhide Hb1) nq)
        have r1 : (w1.drewN nq).cell? ⟨b, off + k * 2 + 1, none⟩ = some (.int .i32 y) := p1
        generalize w1.drewN nq = W1 at *
        have hcat2 := cat_eq (acc ++ runeT x) [45]
        have hcat3 := cat_eq (acc ++ runeT x ++ [45]) (runeT y)
        have hlen2 : (acc ++ runeT x).length ≤ 60000 := by rw [List.length_append]; omega
        have Hst2 : Hid (textTo l (k + 1) = acc ++ runeT x ++ [45] ++ runeT y) := hide (by rw [unhide Hst, if_neg (unhide Hxy)]; simp)
        clear p0 p1 HY hcat Hst
        generalize acc ++ runeT x = acc2 at *
        go_wp2_with fail
        refine (unhide HYw).mono ?_
        rintro e w2 ⟨rfl, hb2⟩
        have Hb3 := hide ((unhide Hb2).trans (below_le hb2 (unhide Hb2).size))
        clear hb2
        go_wp2
        go_roundw
        case rel =>
          refine ⟨k + 1, ?_, by go_num, by omega, unhide Hb3⟩
          rw [unhide Hst2]; simp
        case measure => simp [intOf]; omega
    · have hkl' : ¬ (k : Int) < l.length := by omega
      have hke : k = l.length := by omega
      subst hke
      have hcat := cat_eq (textTo l l.length) [93]
      have Htl := hide (show textTo l l.length ++ [93] = textL l from rfl)
      go_wp2
      go_ret2
      exact ⟨rfl, unhide Hbel⟩
theorem rText_any (a : Option Addr) (cap : Nat) (l : List Rng) (hl : l.length ≤ 281474976710656) (w : World) (hT : Tz w) (hrow : RowAt w a l) :
    Calls Tryd.prog 32 #[.slice a l.length cap] w fun e w' => e = .returned (.tuple #[.string ⟨(txtL l).toArray⟩, .int .i64 (checkV l)]) ∧ Below w.heap.size w w' := by
  unfold txtL
  by_cases hc : checkV l = 0
  · rw [if_pos hc, hc]
    have hC := rCheck_any a cap l hl w hrow
    rw [hc] at hC
    exact rText_yes a cap l (checkV_zero hc).2 (set_isR hc) w hT hrow (hide hC)
  · rw [if_neg hc]; exact rText_no a cap l hl w hrow hc
end Go.Proofs.YtkbhdojgdgiggaaDoor

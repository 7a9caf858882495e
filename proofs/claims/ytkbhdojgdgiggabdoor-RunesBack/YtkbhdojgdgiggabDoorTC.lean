/- The law RunesBack, walked. -/
import Derived.Test.YtkbhdojgdgiggabDoorTB
namespace Go.Proofs.YtkbhdojgdgiggabDoor
open Go.RowKit Go.Lib Go.Sort

theorem up_isR {l : List Rng} {lo : Int} (h : Up lo l) (h0 : 0 ≤ lo) : ∀ x ∈ l, isR x = true := by
  induction l generalizing lo with
  | nil => intro x hx; cases hx
  | cons y l ih =>
    obtain ⟨h1, h2, h3, h4⟩ := h
    intro x hx
    rcases List.mem_cons.1 hx with rfl | hx
    · simp [isR]; omega
    · exact ih h4 (by omega) x hx
theorem same_back (a a2 : Option Addr) (cap cap2 : Nat) (l : List Rng) (hl : l.length ≤ 281474976710656) (w : World) (hrow : RowAt w a l) (hrow2 : RowAt w a2 l) :
    Calls Tryd.prog 16 #[.slice a l.length cap, .slice a2 l.length cap2] w fun e w' => e = .returned (.bool true) ∧ Below w.heap.size w w' :=
  (same_any a a2 cap cap2 l l hl hl w hrow hrow2).mono fun _ _ ⟨h1, h2⟩ => ⟨by rw [h1]; simp, h2⟩
set_option maxHeartbeats 1000000 in
set_option maxRecDepth 100000 in
theorem text_no (a : Option Addr) (cap : Nat) (l : List Rng) (hl : l.length ≤ 281474976710656) (w : World) (hrow : RowAt w a l) (hne : checkV l ≠ 0) :
    Calls Tryd.prog 19 #[.slice a l.length cap] w fun e w' => e = .returned (.tuple #[.string ⟨#[]⟩, .int .i64 (checkV l)]) ∧ Below w.heap.size w w' := by
  have H := hide (check_any a cap l hl w hrow)
  have hne' : (checkV l != 0) = true := by simpa using hne
  generalize checkV l = c at *
  clear hrow
  go_enter Tryd.func19, Tryd.ntmps19
  go_wp2_with fail
  refine (unhide H).mono ?_
  rintro e w1 ⟨rfl, hb⟩
  go_wp2
  go_ret2
  exact ⟨rfl, hb⟩
set_option maxHeartbeats 1000000 in
set_option maxRecDepth 100000 in
theorem back_no (a : Option Addr) (cap : Nat) (l : List Rng) (hl : l.length ≤ 281474976710656) (b : ByteArray) (w : World) (hrow : RowAt w a l) (hne : checkV l ≠ 0) :
    Calls Tryd.prog 5 #[.slice a l.length cap, .string b] w fun e w' => e = .returned (.bool true) ∧ Below w.heap.size w w' := by
  have H := hide (text_no a cap l hl w hrow hne)
  have hne' : (checkV l != 0) = true := by simpa using hne
  generalize checkV l = c at *
  clear hrow
  go_enter Tryd.func5, Tryd.ntmps5
  go_wp2_with fail
  refine (unhide H).mono ?_
  rintro e w1 ⟨rfl, hb⟩
  have HA := hide (awake_any w1)
  have Hb := hide hb
  clear hb
  go_wp2_with fail
  refine (unhide HA).mono ?_
  rintro e w2 ⟨rfl, hb2⟩
  go_wp2
  go_ret
  exact ⟨rfl, (unhide Hb).trans (below_le hb2 (unhide Hb).size)⟩
set_option maxHeartbeats 2000000 in
set_option maxRecDepth 100000 in
theorem back_set (a : Option Addr) (cap : Nat) (l : List Rng) (hl : l.length ≤ 2048) (s b : ByteArray) (e : Nat) (he : s.size = e + 1) (hsum : s.size + b.size ≤ 9223372036854775807) (w : World) (hrow : RowAt w a l)
    (H : Hid (Calls Tryd.prog 19 #[.slice a l.length cap] w fun e w' => e = .returned (.tuple #[.string s, .int .i64 0]) ∧ Below w.heap.size w w'))
    (hP : SetOk s e l) (hF : SetOk (s ++ b) e l) :
    Calls Tryd.prog 5 #[.slice a l.length cap, .string b] w fun e w' => e = .returned (.bool true) ∧ Below w.heap.size w w' := by
  have HP := hide (parse_ok s e l he hl hP)
  have HF := hide (from_ok (s ++ b) e l hl hF)
  have Hrow := hide hrow
  have hq : (((e + 1 : Nat) : Int) == (s.size : Int)) = true := by simp [he]
  clear hP hF hrow
  go_enter Tryd.func5, Tryd.ntmps5
  go_wp2_with fail
  refine (unhide H).mono ?_
  rintro q w1 ⟨rfl, hb1⟩
  have B1 := hide hb1
  clear hb1 H
  go_wp2_with fail
  refine (unhide HP _).mono ?_
  rintro q w2 ⟨v, rfl, hown, hb⟩
  obtain ⟨va, vc, rfl⟩ := ownsRow_slice hown
  have hb02 := (unhide B1).trans (below_le hb (unhide B1).size)
  have B2 := hide hb02
  have HU := hide hown
  clear hown hb hb02
  go_wp2_with fail
  refine (unhide HF _).mono ?_
  rintro q w3 ⟨v2, rfl, hown2, hb2⟩
  obtain ⟨va2, vc2, rfl⟩ := ownsRow_slice hown2
  have hfb := (FB.start w2).below hb2 (by simp)
  have hfa := hfb.alloc (.cells #[.int .i64 0, .int .i64 0] 43)
  have f0 := hfa.cell0; have f1 := hfa.cell1
  have Hfa := hide hfa
  clear hfa
  have hb03 : Below w.heap.size w w3 := ((unhide B2).alloc (unhide B2).size _).trans (below_le hb2 (by have := (unhide B2).size; simp; omega))
  have hU3 : w3.ownsRow w1.heap.size 53 2 (.slice va l.length vc) l.length (flat l) := ownsRow_below ((unhide HU).alloc _) hb2 (Nat.le_refl _)
  have B3 := hide hb03
  have HU3 := hide hU3; have HV3 := hide hown2
  clear hb03 hU3 hown2 hb2 hfb
  have hW := (unhide B3).alloc (unhide B3).size (.cells #[.int .i64 0, .int .i64 0] 43)
  have HRs := hide (And.intro (rowAt_own ((unhide HU3).alloc (.cells #[.int .i64 0, .int .i64 0] 43))) (And.intro (rowAt_own ((unhide HV3).alloc (.cells #[.int .i64 0, .int .i64 0] 43))) (rowAt_below (unhide Hrow) (Nat.le_refl _) hW)))
  have HS1 := hide (same_back va a vc cap l (by omega) _ (unhide HRs).1 (unhide HRs).2.2)
  have HW := hide hW
  have Hg := hide (FB.start w3)
  clear hW
  go_wp2_with fail
  generalize w3.alloc (.cells #[.int .i64 0, .int .i64 0] 43) = W3 at *
  refine (unhide HS1).mono ?_
  rintro q w4 ⟨rfl, hb4⟩
  have g0 := ((unhide Hg).below hb4 (unhide Hg).lt).cell0
  have g1 := ((unhide Hg).below hb4 (unhide Hg).lt).cell1
  have HS2 := hide (same_back va2 a vc2 cap l (by omega) w4 (rowAt_below (unhide HRs).2.1 (Nat.le_refl _) hb4) (rowAt_below (unhide HRs).2.2 (Nat.le_refl _) hb4))
  have B4 := hide ((unhide HW).trans (below_le hb4 (unhide HW).size))
  clear hb4 HS1
  go_wp2_with fail
  refine (unhide HS2).mono ?_
  rintro q w5 ⟨rfl, hb5⟩
  have B5 := hide ((unhide B4).trans (below_le hb5 (unhide B4).size))
  have HA := hide (awake_any w5)
  clear hb5 HS2 g0 g1
  go_wp2_with fail
  refine (unhide HA).mono ?_
  rintro q w6 ⟨rfl, hb6⟩
  go_wp2
  go_ret
  exact ⟨rfl, (unhide B5).trans (below_le hb6 (unhide B5).size)⟩
theorem back_walk (a : Option Addr) (cap : Nat) (l : List Rng) (hl : l.length ≤ 281474976710656) (b : ByteArray) (hb : b.size ≤ 140737488355328) (w : World) (hT : Tz w) (hrow : RowAt w a l) :
    Calls Tryd.prog 5 #[.slice a l.length cap, .string b] w fun e w' => e = .returned (.bool true) ∧ Below w.heap.size w w' := by
  by_cases hc : checkV l = 0
  · have hz := checkV_zero hc
    have hup := getD_up hz.1
    have hir := up_isR hup (Int.le_refl _)
    have hle := textTo_le l l.length (Nat.le_refl _)
    have htl : (textL l).length = (textTo l l.length).length + 1 := by unfold textL; simp
    have hC := check_any a cap l hl w hrow
    rw [hc] at hC
    have hsz : (⟨(textL l).toArray⟩ : ByteArray).size = (textL l).length := by simp [ByteArray.size]
    have hcat : (⟨(textL l).toArray⟩ ++ b : ByteArray) = ⟨(textL l ++ b.data.toList).toArray⟩ := by
      apply ByteArray.ext
      rw [ByteArray.data_append]
      simp
    have hbl : b.data.toList.length = b.size := Array.length_toList
    refine back_set a cap l hz.2 ⟨(textL l).toArray⟩ b ((textL l).length - 1) (by rw [hsz]; omega) (by rw [hsz]; omega) w hrow (hide (text_yes a cap l hz.2 w hrow (fun x hx => ?_) (hide hC))) ?_ ?_
    · have h := hir x hx
      simp [isR] at h
      exact ⟨appR_any x.1 (by omega) (by omega) w hT, appR_any x.2 (by omega) (by omega) w hT⟩
    · have := set_back l hup hir hz.2 [] (by simp; omega)
      rwa [List.append_nil] at this
    · rw [hcat]
      exact set_back l hup hir hz.2 b.data.toList (by rw [List.length_append, hbl]; omega)
  · exact back_no a cap l hl b w hrow hc
end Go.Proofs.YtkbhdojgdgiggabDoor

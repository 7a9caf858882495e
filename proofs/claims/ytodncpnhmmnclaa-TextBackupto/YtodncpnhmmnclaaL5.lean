/- The law TextBack, walked out of the contracts, for texts and rows of a million places and less. -/
import Derived.Test.YtodncpnhmmnclaaL2
import Derived.Test.YtodncpnhmmnclaaW10
namespace Go.Proofs.Ytodncpnhmmnclaa
open Go.RowKit

theorem isRunes_join {w : World} {v : Value} {zs : List Int} (h : IsRunes w v zs) (hsz : zs.length * 4 ≤ 140737488351232) :
    Calls Try.prog 18 #[v] w fun e w' => e = .returned (.tuple #[(joinVals zs).1, .agg #[.int .i64 (joinVals zs).2.1, .int .i64 (joinVals zs).2.2]]) ∧ Below w.heap.size w w' := by
  obtain ⟨a, cap, rfl, h⟩ := h
  exact join_any a cap zs w hsz h

theorem joinVals_runes (s : ByteArray) (h : badB s = none) : joinVals (runesL s) = (.string s, 0, 0) := by
  have hj : joinB (runesL s) = s.data.toList.drop 0 ∧ ∀ r ∈ runesL s, Utf8.valid r = true := join_runes s s.size 0 (by omega) h
  rw [joinVals_good _ (badAt_valid _ hj.2), hj.1]
  rfl
theorem runesOr_join (l : List Int) (h : badAt l = none) : badB ⟨(joinB l).toArray⟩ = none ∧ runesL ⟨(joinB l).toArray⟩ = l := by
  have hv := badAt_none_valid l h
  have := runes_join ⟨(joinB l).toArray⟩ l (⟨(joinB l).toArray⟩ : ByteArray).size 0 (by omega) (by simp) hv
  exact ⟨this.2, this.1⟩

set_option maxHeartbeats 2000000 in
set_option maxRecDepth 100000 in
theorem back_bb (s : ByteArray) (hs : s.size ≤ 1048576) (k : Nat) (hbad : badB s = some k) (a : Option Addr) (cap : Nat) (l : List Int) (hl : l.length ≤ 1048576) (k2 : Nat) (hb2 : badAt l = some k2) (w : World) (hrow : RunesAt w a l) :
    Calls Try.prog 7 #[.string s, .slice a l.length cap] w fun e w' => e = .returned (.bool true) ∧ Below w.heap.size w w' := by
  have HA := hide (fun w => alive_any w)
  have H1 := hide (runes_any s (by omega))
  have HJ := hide (fun (w' : World) (hb : Below w.heap.size w w') => join_any a cap l w' (by omega) (runesAt_below hrow hb))
  rw [joinVals_bad l k2 hb2] at HJ
  clear hrow hb2
  rw [(validVals_bad s k hbad).1, (validVals_bad s k hbad).2] at H1
  clear hbad
  go_enter Try.func7, Try.ntmps7
  go_wp2_with fail
  refine (unhide H1 _).mono ?_
  rintro e w1 ⟨v, rfl, hv, hb1⟩
  obtain ⟨a1, c1, rfl, _⟩ := hv
  have HB := hide (hb1.alloc hb1.size (.cells #[.int .i64 10, .int .i64 k] 27))
  clear hb1
  go_wp2_with fail
  refine (unhide HJ _ (unhide HB)).mono ?_
  rintro e w3 ⟨rfl, hb4⟩
  have HB2 := hide ((unhide HB).trans (hb4.mono (unhide HB).size))
  clear hb4 HB HJ H1
  go_wp2_with fail
  refine (unhide HA _).mono ?_
  rintro e w4 ⟨rfl, hb5⟩
  have hz := (unhide HB2).size
  have hb6 := ((unhide HB2).alloc hz (.cells #[.int .i64 11, .int .i64 k2] 27)).trans (hb5.mono (by simp; omega))
  clear hb5
  go_wp2
  go_ret
  exact ⟨rfl, hb6⟩

set_option maxHeartbeats 2000000 in
set_option maxRecDepth 100000 in
theorem back_bg (s : ByteArray) (hs : s.size ≤ 1048576) (k : Nat) (hbad : badB s = some k) (a : Option Addr) (cap : Nat) (l : List Int) (hl : l.length ≤ 1048576) (hb2 : badAt l = none) (w : World) (hrow : RunesAt w a l) :
    Calls Try.prog 7 #[.string s, .slice a l.length cap] w fun e w' => e = .returned (.bool true) ∧ Below w.heap.size w w' := by
  have HA := hide (fun w => alive_any w)
  have H1 := hide (runes_any s (by omega))
  have HJ := hide (fun (w' : World) (hb : Below w.heap.size w w') => join_any a cap l w' (by omega) (runesAt_below hrow hb))
  rw [joinVals_good l hb2] at HJ
  have hjl := joinB_le l
  have hts : (⟨(joinB l).toArray⟩ : ByteArray).size = (joinB l).length := by simp [ByteArray.size]
  have H4 := hide (runes_any ⟨(joinB l).toArray⟩ (by omega))
  have H5 := hide (valid_any ⟨(joinB l).toArray⟩)
  have hr := runesOr_join l hb2
  rw [(validVals_good _ hr.1).1, (validVals_good _ hr.1).2, hr.2] at H4
  rw [(validVals_good _ hr.1).1] at H5
  have HP := hide (fun (w' : World) (hb : Below w.heap.size w w') => (show IsRunes w' (.slice a l.length cap) l from ⟨a, cap, rfl, runesAt_below hrow hb⟩))
  have H6 := hide (fun (v u : Value) (w : World) (h1 : IsRunes w v l) (h2 : IsRunes w u l) => same_any v u l l w h1 h2 (by omega))
  rw [decide_eq_true rfl] at H6
  generalize (⟨(joinB l).toArray⟩ : ByteArray) = t at *
  clear hrow hb2 hr hts hjl
  rw [(validVals_bad s k hbad).1, (validVals_bad s k hbad).2] at H1
  clear hbad
  go_enter Try.func7, Try.ntmps7
  go_wp2_with fail
  refine (unhide H1 _).mono ?_
  rintro e w1 ⟨v, rfl, hv, hb1⟩
  obtain ⟨a1, c1, rfl, _⟩ := hv
  have HB := hide (hb1.alloc hb1.size (.cells #[.int .i64 10, .int .i64 k] 27))
  clear hb1
  go_wp2_with fail
  refine (unhide HJ _ (unhide HB)).mono ?_
  rintro e w3 ⟨rfl, hb4⟩
  have HB2 := hide ((unhide HB).trans (hb4.mono (unhide HB).size))
  clear hb4 HB HJ H1
  have hz := (unhide HB2).size
  have HB3 := hide ((unhide HB2).alloc hz (.cells #[.int .i64 0, .int .i64 0] 27))
  go_wp2_with fail
  refine (unhide H4 _).mono ?_
  rintro e w4 ⟨u, rfl, hu, hb5⟩
  have hb6 := (unhide HB3).trans (hb5.mono (unhide HB3).size)
  have HB7 := hide (hb6.alloc hb6.size (.cells #[.int .i64 0, .int .i64 0] 27))
  have HU := hide (isRunes_below hu ((Below.refl w4.heap.size w4).alloc (Nat.le_refl _) (.cells #[.int .i64 0, .int .i64 0] 27)))
  have HL := hide (unhide HP _ (unhide HB7))
  clear hu hb5 hb6 HB3 HB2
  go_wp2_with fail
  refine (unhide H6 _ _ _ (unhide HL) (unhide HU)).mono ?_
  rintro e w5 ⟨rfl, hb8⟩
  have HB9 := hide ((unhide HB7).trans (hb8.mono (unhide HB7).size))
  clear hb8 HB7 HL HU H6 H4 HP
  go_wp2_with fail
  refine (unhide H5 _).mono ?_
  rintro e w6 ⟨rfl, hb10⟩
  have HB11 := hide ((unhide HB9).trans (hb10.mono (unhide HB9).size))
  clear hb10 HB9
  go_wp2_with fail
  refine (unhide HA _).mono ?_
  rintro e w7 ⟨rfl, hb12⟩
  go_wp2
  go_ret
  exact ⟨rfl, (unhide HB11).trans (hb12.mono (unhide HB11).size)⟩

set_option maxHeartbeats 2000000 in
set_option maxRecDepth 100000 in
theorem back_gb (s : ByteArray) (hs : s.size ≤ 1048576) (hbad : badB s = none) (a : Option Addr) (cap : Nat) (l : List Int) (hl : l.length ≤ 1048576) (k2 : Nat) (hb2 : badAt l = some k2) (w : World) (hrow : RunesAt w a l) :
    Calls Try.prog 7 #[.string s, .slice a l.length cap] w fun e w' => e = .returned (.bool true) ∧ Below w.heap.size w w' := by
  have HA := hide (fun w => alive_any w)
  have H1 := hide (runes_any s (by omega))
  have HJ := hide (fun (w' : World) (hb : Below w.heap.size w w') => join_any a cap l w' (by omega) (runesAt_below hrow hb))
  rw [joinVals_bad l k2 hb2] at HJ
  clear hrow hb2
  have HM := hide (fun (w : World) (v : Value) (h : IsRunes w v (runesL s)) => isRunes_join h (by have := runesF_le s s.size 0; unfold runesL; omega))
  rw [joinVals_runes s hbad] at HM
  rw [(validVals_good s hbad).1, (validVals_good s hbad).2] at H1
  clear hbad
  go_enter Try.func7, Try.ntmps7
  go_wp2_with fail
  refine (unhide H1 _).mono ?_
  rintro e w1 ⟨v, rfl, hv, hb1⟩
  have HV := hide (isRunes_below hv ((Below.refl w1.heap.size w1).alloc (Nat.le_refl _) (.cells #[.int .i64 0, .int .i64 0] 27)))
  have HB0 := hide (hb1.alloc hb1.size (.cells #[.int .i64 0, .int .i64 0] 27))
  clear hb1 hv
  go_wp2_with fail
  refine (unhide HM _ _ (unhide HV)).mono ?_
  rintro e w2 ⟨rfl, hb2⟩
  have hb3 := (unhide HB0).trans (hb2.mono (unhide HB0).size)
  have HB := hide (hb3.alloc hb3.size (.cells #[.int .i64 0, .int .i64 0] 27))
  clear hb2 hb3 HB0 HV HM
  go_wp2_with fail
  refine (unhide HJ _ (unhide HB)).mono ?_
  rintro e w3 ⟨rfl, hb4⟩
  have HB2 := hide ((unhide HB).trans (hb4.mono (unhide HB).size))
  clear hb4 HB HJ H1
  go_wp2_with fail
  refine (unhide HA _).mono ?_
  rintro e w4 ⟨rfl, hb5⟩
  have hz := (unhide HB2).size
  have hb6 := ((unhide HB2).alloc hz (.cells #[.int .i64 11, .int .i64 k2] 27)).trans (hb5.mono (by simp; omega))
  clear hb5
  go_wp2
  go_ret
  exact ⟨rfl, hb6⟩

set_option maxHeartbeats 2000000 in
set_option maxRecDepth 100000 in
theorem back_gg (s : ByteArray) (hs : s.size ≤ 1048576) (hbad : badB s = none) (a : Option Addr) (cap : Nat) (l : List Int) (hl : l.length ≤ 1048576) (hb2 : badAt l = none) (w : World) (hrow : RunesAt w a l) :
    Calls Try.prog 7 #[.string s, .slice a l.length cap] w fun e w' => e = .returned (.bool true) ∧ Below w.heap.size w w' := by
  have HA := hide (fun w => alive_any w)
  have H1 := hide (runes_any s (by omega))
  have HJ := hide (fun (w' : World) (hb : Below w.heap.size w w') => join_any a cap l w' (by omega) (runesAt_below hrow hb))
  rw [joinVals_good l hb2] at HJ
  have hjl := joinB_le l
  have hts : (⟨(joinB l).toArray⟩ : ByteArray).size = (joinB l).length := by simp [ByteArray.size]
  have H4 := hide (runes_any ⟨(joinB l).toArray⟩ (by omega))
  have H5 := hide (valid_any ⟨(joinB l).toArray⟩)
  have hr := runesOr_join l hb2
  rw [(validVals_good _ hr.1).1, (validVals_good _ hr.1).2, hr.2] at H4
  rw [(validVals_good _ hr.1).1] at H5
  have HP := hide (fun (w' : World) (hb : Below w.heap.size w w') => (show IsRunes w' (.slice a l.length cap) l from ⟨a, cap, rfl, runesAt_below hrow hb⟩))
  have H6 := hide (fun (v u : Value) (w : World) (h1 : IsRunes w v l) (h2 : IsRunes w u l) => same_any v u l l w h1 h2 (by omega))
  rw [decide_eq_true rfl] at H6
  generalize (⟨(joinB l).toArray⟩ : ByteArray) = t at *
  clear hrow hb2 hr hts hjl
  have HM := hide (fun (w : World) (v : Value) (h : IsRunes w v (runesL s)) => isRunes_join h (by have := runesF_le s s.size 0; unfold runesL; omega))
  rw [joinVals_runes s hbad] at HM
  rw [(validVals_good s hbad).1, (validVals_good s hbad).2] at H1
  clear hbad
  go_enter Try.func7, Try.ntmps7
  go_wp2_with fail
  refine (unhide H1 _).mono ?_
  rintro e w1 ⟨v, rfl, hv, hb1⟩
  have HV := hide (isRunes_below hv ((Below.refl w1.heap.size w1).alloc (Nat.le_refl _) (.cells #[.int .i64 0, .int .i64 0] 27)))
  have HB0 := hide (hb1.alloc hb1.size (.cells #[.int .i64 0, .int .i64 0] 27))
  clear hb1 hv
  go_wp2_with fail
  refine (unhide HM _ _ (unhide HV)).mono ?_
  rintro e w2 ⟨rfl, hb2⟩
  have hb3 := (unhide HB0).trans (hb2.mono (unhide HB0).size)
  have HB := hide (hb3.alloc hb3.size (.cells #[.int .i64 0, .int .i64 0] 27))
  clear hb2 hb3 HB0 HV HM
  go_wp2_with fail
  refine (unhide HJ _ (unhide HB)).mono ?_
  rintro e w3 ⟨rfl, hb4⟩
  have HB2 := hide ((unhide HB).trans (hb4.mono (unhide HB).size))
  clear hb4 HB HJ H1
  have hz := (unhide HB2).size
  have HB3 := hide ((unhide HB2).alloc hz (.cells #[.int .i64 0, .int .i64 0] 27))
  go_wp2_with fail
  refine (unhide H4 _).mono ?_
  rintro e w4 ⟨u, rfl, hu, hb5⟩
  have hb6 := (unhide HB3).trans (hb5.mono (unhide HB3).size)
  have HB7 := hide (hb6.alloc hb6.size (.cells #[.int .i64 0, .int .i64 0] 27))
  have HU := hide (isRunes_below hu ((Below.refl w4.heap.size w4).alloc (Nat.le_refl _) (.cells #[.int .i64 0, .int .i64 0] 27)))
  have HL := hide (unhide HP _ (unhide HB7))
  clear hu hb5 hb6 HB3 HB2
  go_wp2_with fail
  refine (unhide H6 _ _ _ (unhide HL) (unhide HU)).mono ?_
  rintro e w5 ⟨rfl, hb8⟩
  have HB9 := hide ((unhide HB7).trans (hb8.mono (unhide HB7).size))
  clear hb8 HB7 HL HU H6 H4 HP
  go_wp2_with fail
  refine (unhide H5 _).mono ?_
  rintro e w6 ⟨rfl, hb10⟩
  have HB11 := hide ((unhide HB9).trans (hb10.mono (unhide HB9).size))
  clear hb10 HB9
  go_wp2_with fail
  refine (unhide HA _).mono ?_
  rintro e w7 ⟨rfl, hb12⟩
  go_wp2
  go_ret
  exact ⟨rfl, (unhide HB11).trans (hb12.mono (unhide HB11).size)⟩

theorem textBack_walk (s : ByteArray) (hs : s.size ≤ 1048576) (a : Option Addr) (cap : Nat) (l : List Int) (hl : l.length ≤ 1048576) (w : World) (hrow : RunesAt w a l) :
    Calls Try.prog 7 #[.string s, .slice a l.length cap] w fun e w' => e = .returned (.bool true) ∧ Below w.heap.size w w' := by
  cases h1 : badB s with
  | some k => cases h2 : badAt l with
    | some k2 => exact back_bb s hs k h1 a cap l hl k2 h2 w hrow
    | none => exact back_bg s hs k h1 a cap l hl h2 w hrow
  | none => cases h2 : badAt l with
    | some k2 => exact back_gb s hs h1 a cap l hl k2 h2 w hrow
    | none => exact back_gg s hs h1 a cap l hl h2 w hrow
end Go.Proofs.Ytodncpnhmmnclaa

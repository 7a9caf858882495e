/- The law TextPieces, walked out of the contracts, for texts of a million bytes and less. -/
import Derived.Test.YtodncpnhmmnclaaW7
import Derived.Test.YtodncpnhmmnclaaW10
namespace Go.Proofs.Ytodncpnhmmnclaa
open Go.RowKit

theorem runesOr_le (s : ByteArray) : (runesOr s).length ≤ s.size := by
  unfold runesOr
  split
  · simp
  · have := runesF_le s s.size 0; unfold runesL; omega

set_option maxHeartbeats 2000000 in
set_option maxRecDepth 100000 in
theorem textPieces_walk (s : ByteArray) (a : Int) (hs : s.size ≤ 1048576) (w : World) :
    Calls Try.prog 3 #[.string s, .int .i64 a] w fun e w' => e = .returned (.bool true) ∧ Below w.heap.size w w' := by
  have HA := hide (fun w => alive_any w)
  have H1 := hide (next_any s a)
  have H2 := hide (rNext_any s a (by omega))
  unfold nextV at H1 H2
  generalize nextT s a = t at H1 H2
  obtain ⟨t1, t2, t3⟩ := t
  have H3 := hide (runes_any s (by omega))
  have H4 := hide (rRunes_any s (by omega))
  have H5 := hide (valid_any s)
  have hlen := runesOr_le s
  have H6 := hide (fun (v u : Value) (w : World) (h1 : IsRunes w v (runesOr s)) (h2 : IsRunes w u (runesOr s)) => same_any v u (runesOr s) (runesOr s) w h1 h2 (by omega))
  rw [decide_eq_true rfl] at H6
  generalize runesOr s = zs at *
  generalize validVals s = y at H3 H4 H5
  obtain ⟨y1, y2⟩ := y
  go_enter Try.func3, Try.ntmps3
  go_wp2_with fail
  refine (unhide H1 _).mono ?_
  rintro e w1 ⟨rfl, hb1⟩
  go_wp2_with fail
  refine (unhide H2 _).mono ?_
  rintro e w2 ⟨rfl, hb2⟩
  have hb := hb1.trans (hb2.mono hb1.size)
  clear hb1 hb2
  go_wp2_with fail
  refine (unhide H3 _).mono ?_
  rintro e w3 ⟨v, rfl, hv, hb3⟩
  have hbb := hb.trans (hb3.mono hb.size)
  have HB := hide hbb
  have hsz3 := hbb.size
  have HV := hide hv
  clear hb hb3 hbb hv
  go_wp2_with fail
  refine (unhide H4 _).mono ?_
  rintro e w4 ⟨u, rfl, hu, hb4⟩
  have q0 : w4.cell? ⟨w3.heap.size, 0, none⟩ = some (.int .i64 y1) := by rw [hb4.cell (by simp), World.cell?_alloc_at _ _ _ _ rfl]; rfl
  have q1 : w4.cell? ⟨w3.heap.size, 1, none⟩ = some (.int .i64 y2) := by rw [hb4.cell (by simp), World.cell?_alloc_at _ _ _ _ rfl]; rfl
  have hv4 := isRunes_below (isRunes_below (unhide HV) ((Below.refl _ _).alloc (Nat.le_refl _) _)) hb4
  have hb5 := ((unhide HB).alloc hsz3 (.cells #[.int .i64 y1, .int .i64 y2] 27)).trans (hb4.mono (by simp; omega))
  have hs4 := hb4.size
  simp at hs4
  have HV4 := hide hv4; have HU := hide hu; have HB5 := hide hb5
  clear hv4 hu hb5 hb4 HB HV H1 H2 H3 H4
  go_wp2_with fail
  refine (unhide H5 _).mono ?_
  rintro e w5 ⟨rfl, hb5⟩
  have r0 : (w5.alloc (.cells #[.int .i64 y1, .int .i64 y2] 27)).cell? ⟨w3.heap.size, 0, none⟩ = some (.int .i64 y1) := by
    rw [World.cell?_alloc_past _ _ _ (by have := hb5.size; show w3.heap.size < _; omega), hb5.cell (by show w3.heap.size < _; omega)]; exact q0
  have r1 : (w5.alloc (.cells #[.int .i64 y1, .int .i64 y2] 27)).cell? ⟨w3.heap.size, 1, none⟩ = some (.int .i64 y2) := by
    rw [World.cell?_alloc_past _ _ _ (by have := hb5.size; show w3.heap.size < _; omega), hb5.cell (by show w3.heap.size < _; omega)]; exact q1
  have hal : Below w5.heap.size w5 (w5.alloc (.cells #[.int .i64 y1, .int .i64 y2] 27)) := (Below.refl _ _).alloc (Nat.le_refl _) _
  have hv5 := isRunes_below (isRunes_below (unhide HV4) hb5) hal
  have hu5 := isRunes_below (isRunes_below (unhide HU) hb5) hal
  have hb6 := ((unhide HB5).trans (hb5.mono (unhide HB5).size)).trans (hal.mono (by have := (unhide HB5).size; have := hb5.size; omega))
  have HV5 := hide hv5; have HU5 := hide hu5; have HB6 := hide hb6
  clear hv5 hu5 hb6 hal hb5 HV4 HU HB5 H5 q0 q1
  have g0 : (w5.alloc (.cells #[.int .i64 y1, .int .i64 y2] 27)).cell? ⟨w5.heap.size, 0, none⟩ = some (.int .i64 y1) := by rw [World.cell?_alloc_at _ _ _ _ rfl]; rfl
  have g1 : (w5.alloc (.cells #[.int .i64 y1, .int .i64 y2] 27)).cell? ⟨w5.heap.size, 1, none⟩ = some (.int .i64 y2) := by rw [World.cell?_alloc_at _ _ _ _ rfl]; rfl
  have R0 := hide r0; have R1 := hide r1; have G0 := hide g0; have G1 := hide g1
  clear r0 r1 g0 g1
  go_wp2_with fail
  refine (unhide H6 v u _ (unhide HV5) (unhide HU5)).mono ?_
  rintro e w6 ⟨rfl, hb7⟩
  have hsz := hb7.size
  have r0 := cell_later hb7 (unhide R0); have r1 := cell_later hb7 (unhide R1)
  have g0 := cell_later hb7 (unhide G0); have g1 := cell_later hb7 (unhide G1)
  have HB8 := hide ((unhide HB6).trans (hb7.mono (unhide HB6).size))
  clear hb7 HB6 R0 R1 G0 G1 H6 HV5 HU5 hsz
  go_wp2_with fail
  refine (unhide HA _).mono ?_
  rintro e w7 ⟨rfl, hb9⟩
  go_wp2
  go_ret
  exact ⟨rfl, (unhide HB8).trans (hb9.mono (unhide HB8).size)⟩
end Go.Proofs.Ytodncpnhmmnclaa

/- The law RunesTexts, walked. -/
import Derived.Test.YtkbhdojgdgiggaaDoorXK
import Derived.Test.YtkbhdojgdgiggaaDoorXJ
import Derived.Test.YtkbhdojgdgiggaaDoorV10
namespace Go.Proofs.YtkbhdojgdgiggaaDoor
open Go.RowKit Go.Lib Go.Sort

theorem same_self (a a2 : Option Addr) (cap cap2 : Nat) (l : List Rng) (hl : l.length ≤ 281474976710656) (w : World) (hrow : RowAt w a l) (hrow2 : RowAt w a2 l) :
    Calls Tryd.prog 16 #[.slice a l.length cap, .slice a2 l.length cap2] w fun e w' => e = .returned (.bool true) ∧ Below w.heap.size w w' :=
  (same_any a a2 cap cap2 l l hl hl w hrow hrow2).mono fun _ _ ⟨h1, h2⟩ => ⟨by rw [h1]; simp, h2⟩
theorem limit_le (s : ByteArray) (a : Int) : (parseM s).l.length ≤ 2048 ∧ (fromM s a).l.length ≤ 2048 := by
  constructor
  · unfold parseM
    repeat' split
    all_goals first | (dsimp only; omega) | simp
  · unfold fromM
    repeat' split
    all_goals first | (dsimp only; omega) | simp
set_option maxHeartbeats 4000000 in
set_option maxRecDepth 100000 in
theorem texts_walk (a : Option Addr) (cap : Nat) (l : List Rng) (hl : l.length ≤ 281474976710656) (s : ByteArray) (hs : s.size ≤ 1048576) (at_ : Int) (w : World) (hT : Tz w) (hU : UT w) (hrow : RowAt w a l) :
    Calls Tryd.prog 8 #[.slice a l.length cap, .string s, .int .i64 at_] w fun e w' => e = .returned (.bool true) ∧ Below w.heap.size w w' := by
  have H1 := hide (text_any a cap l hl w hT hrow)
  have hlim := limit_le s at_
  have HP := hide (fun w hU => parse_any s hs w hU)
  have HPr := hide (fun w => rParse_any s hs w)
  have HF := hide (fun w hU => from_any s hs at_ w hU)
  have HFr := hide (fun w => rFrom_any s hs at_ w)
  generalize parseM s = P at *
  generalize fromM s at_ = F at *
  obtain ⟨PL, Pn, Pwhy, Ppos⟩ := P
  obtain ⟨FL, Fn, Fwhy, Fpos⟩ := F
  simp only at hlim
  have HT := hide hT; have HU := hide hU; have Hrow := hide hrow
  have hU2 := hU.2
  have e0 : (checkV l == checkV l) = true := by simp
  have H2 := hide (fun w1 (hb : Below w.heap.size w w1) => rText_any a cap l hl w1 ((unhide HT).below hb (unhide HT).2) (rowAt_below (unhide Hrow) (Nat.le_refl _) hb))
  generalize checkV l = c at *
  generalize txtL l = t at *
  clear hT hU hrow
  go_enter Tryd.func8, Tryd.ntmps8
  go_wp2_with fail
  refine (unhide H1).mono ?_
  rintro q w1 ⟨rfl, hb1⟩
  have B1 := hide hb1
  clear hb1 H1
  have H2' := hide (unhide H2 w1 (unhide B1))
  clear H2
  go_wp2_with fail
  refine (unhide H2').mono ?_
  rintro q w2 ⟨rfl, hb2⟩
  have B2 := hide ((unhide B1).trans (below_le hb2 (unhide B1).size))
  clear hb2 H2' B1
  go_wp2_with fail
  refine (unhide HP w2 ((unhide HU).below (unhide B2) hU2)).mono ?_
  rintro q w3 ⟨va, rfl, howna, hb3⟩
  obtain ⟨aa, ac, rfl⟩ := ownsRow_slice howna
  have B3 := hide ((unhide B2).trans (below_le hb3 (unhide B2).size))
  have hx := FX.start w3 Pwhy Ppos
  have HA := hide (howna.alloc (.cells #[.int .i64 Pwhy, .int .i64 Ppos] 48))
  have HX := hide hx
  have B3' := hide ((unhide B3).alloc (unhide B3).size (.cells #[.int .i64 Pwhy, .int .i64 Ppos] 48))
  clear hb3 howna hx HP B2
  go_wp2_with fail
  generalize hW3 : w3.alloc (.cells #[.int .i64 Pwhy, .int .i64 Ppos] 48) = W3 at *
  refine (unhide HPr W3).mono ?_
  rintro q w4 ⟨vb, rfl, hownb, hb4⟩
  obtain ⟨ba, bc, rfl⟩ := ownsRow_slice hownb
  have B4 := hide ((unhide B3').trans (below_le hb4 (unhide B3').size))
  have HA4 := hide ((ownsRow_below (unhide HA) hb4 (Nat.le_refl _)).alloc (.cells #[.int .i64 Pwhy, .int .i64 Ppos] 48))
  have HX4 := hide (((unhide HX).below hb4 (unhide HX).lt).alloc (.cells #[.int .i64 Pwhy, .int .i64 Ppos] 48))
  have HB4 := hide (hownb.alloc (.cells #[.int .i64 Pwhy, .int .i64 Ppos] 48))
  have HY4 := hide (FX.start w4 Pwhy Ppos)
  have B4' := hide ((unhide B4).alloc (unhide B4).size (.cells #[.int .i64 Pwhy, .int .i64 Ppos] 48))
  clear hb4 hownb HPr B3 B3' HA HX B4 hW3
  go_wp2_with fail
  generalize hW4 : w4.alloc (.cells #[.int .i64 Pwhy, .int .i64 Ppos] 48) = W4 at *
  refine (unhide HF W4 ((unhide HU).below (unhide B4') hU2)).mono ?_
  rintro q w5 ⟨vd, rfl, hownc, hb5⟩
  obtain ⟨ca, cc, rfl⟩ := ownsRow_slice hownc
  have B5 := hide ((unhide B4').trans (below_le hb5 (unhide B4').size))
  have HA5 := hide ((ownsRow_below (unhide HA4) hb5 (Nat.le_refl _)).alloc (.cells #[.int .i64 Fwhy, .int .i64 Fpos] 48))
  have HB5 := hide ((ownsRow_below (unhide HB4) hb5 (Nat.le_refl _)).alloc (.cells #[.int .i64 Fwhy, .int .i64 Fpos] 48))
  have HX5 := hide (((unhide HX4).below hb5 (unhide HX4).lt).alloc (.cells #[.int .i64 Fwhy, .int .i64 Fpos] 48))
  have HY5 := hide (((unhide HY4).below hb5 (unhide HY4).lt).alloc (.cells #[.int .i64 Fwhy, .int .i64 Fpos] 48))
  have HC5 := hide (hownc.alloc (.cells #[.int .i64 Fwhy, .int .i64 Fpos] 48))
  have HV5 := hide (FX.start w5 Fwhy Fpos)
  have B5' := hide ((unhide B5).alloc (unhide B5).size (.cells #[.int .i64 Fwhy, .int .i64 Fpos] 48))
  clear hb5 hownc HF B4' HA4 HX4 HB4 HY4 B5 hW4
  go_wp2_with fail
  generalize hW5 : w5.alloc (.cells #[.int .i64 Fwhy, .int .i64 Fpos] 48) = W5 at *
  refine (unhide HFr W5).mono ?_
  rintro q w6 ⟨ve, rfl, hownd, hb6⟩
  obtain ⟨da, dc, rfl⟩ := ownsRow_slice hownd
  have B6 := hide ((unhide B5').trans (below_le hb6 (unhide B5').size))
  have HA6 := hide ((ownsRow_below (unhide HA5) hb6 (Nat.le_refl _)).alloc (.cells #[.int .i64 Fwhy, .int .i64 Fpos] 48))
  have HB6 := hide ((ownsRow_below (unhide HB5) hb6 (Nat.le_refl _)).alloc (.cells #[.int .i64 Fwhy, .int .i64 Fpos] 48))
  have HC6 := hide ((ownsRow_below (unhide HC5) hb6 (Nat.le_refl _)).alloc (.cells #[.int .i64 Fwhy, .int .i64 Fpos] 48))
  have HX6 := hide (((unhide HX5).below hb6 (unhide HX5).lt).alloc (.cells #[.int .i64 Fwhy, .int .i64 Fpos] 48))
  have HY6 := hide (((unhide HY5).below hb6 (unhide HY5).lt).alloc (.cells #[.int .i64 Fwhy, .int .i64 Fpos] 48))
  have HV6 := hide (((unhide HV5).below hb6 (unhide HV5).lt).alloc (.cells #[.int .i64 Fwhy, .int .i64 Fpos] 48))
  have HD6 := hide (hownd.alloc (.cells #[.int .i64 Fwhy, .int .i64 Fpos] 48))
  have HW6 := hide (FX.start w6 Fwhy Fpos)
  have B6' := hide ((unhide B6).alloc (unhide B6).size (.cells #[.int .i64 Fwhy, .int .i64 Fpos] 48))
  clear hb6 hownd HFr B5' HA5 HX5 HB5 HY5 HC5 HV5 B6 hW5
  have HS1 := hide (same_self aa ba ac bc PL (by omega) _ (rowAt_own (unhide HA6)) (rowAt_own (unhide HB6)))
  go_wp2_with fail
  generalize hW6 : w6.alloc (.cells #[.int .i64 Fwhy, .int .i64 Fpos] 48) = W6 at *
  refine (unhide HS1).mono ?_
  rintro q w7 ⟨rfl, hb7⟩
  have hx := (unhide HX6).below hb7 (unhide HX6).lt
  have hy := (unhide HY6).below hb7 (unhide HY6).lt
  have x0 := hx.cell0; have x1 := hx.cell1; have y0 := hy.cell0; have y1 := hy.cell1
  have e1 : (Pwhy == Pwhy) = true := by simp
  have e2 : ((Ppos : Int) == (Ppos : Int)) = true := by simp
  have HS2 := hide (same_self ca da cc dc FL (by omega) w7 (rowAt_below (rowAt_own (unhide HC6)) (Nat.le_refl _) hb7) (rowAt_below (rowAt_own (unhide HD6)) (Nat.le_refl _) hb7))
  have B7 := hide ((unhide B6').trans (below_le hb7 (unhide B6').size))
  have HV7 := hide ((unhide HV6).below hb7 (unhide HV6).lt)
  have HW7 := hide ((unhide HW6).below hb7 (unhide HW6).lt)
  clear hb7 HS1 HX6 HY6 HA6 HB6 HC6 HD6 HV6 HW6 hx hy B6' hW6
  go_wp2_with fail
  refine (unhide HS2).mono ?_
  rintro q w8 ⟨rfl, hb8⟩
  clear x0 x1 y0 y1
  have hv := (unhide HV7).below hb8 (unhide HV7).lt
  have hw := (unhide HW7).below hb8 (unhide HW7).lt
  have x0 := hv.cell0; have x1 := hv.cell1; have y0 := hw.cell0; have y1 := hw.cell1
  have e3 : (Fwhy == Fwhy) = true := by simp
  have e4 : ((Fpos : Int) == (Fpos : Int)) = true := by simp
  have e5 : ((Fn : Int) == (Fn : Int)) = true := by simp
  have B8 := hide ((unhide B7).trans (below_le hb8 (unhide B7).size))
  have HAw := hide (awake_any w8)
  clear hb8 HS2 hv hw HV7 HW7 B7
  go_wp2_with fail
  refine (unhide HAw).mono ?_
  rintro q w9 ⟨rfl, hb9⟩
  go_wp2
  go_ret
  exact ⟨rfl, (unhide B8).trans (below_le hb9 (unhide B8).size)⟩
end Go.Proofs.YtkbhdojgdgiggaaDoor

/- The ways through RunesAlgebra: a rune of both, one or none. -/
import Derived.Test.YtkbhdojgdgiggabDoorA1
namespace Go.Proofs.YtkbhdojgdgiggabDoor
open Go.RowKit

set_option maxHeartbeats 4000000 in
set_option maxRecDepth 100000 in
theorem alg_in_yyyyyn (a a2 : Option Addr) (cap cap2 : Nat) (n1 : a = none → cap = 0) (n2 : a2 = none → cap2 = 0) (l m : List Rng) (hl : l.length ≤ 281474976710656) (hm : m.length ≤ 281474976710656) (r : Int) (w : World) (hrow : RowAt w a l) (hrow2 : RowAt w a2 m) (h1 : checkV l = 0) (h2 : checkV m = 0) (hr : 0 ≤ r ∧ r ≤ 1114111) (hu : uniC [l, m] = 0) (hmm : meetC [l, m] = 0) (hd : minusC l m = 0) (hn : notC l = 0) (hi : hasB l r = true) (hj : hasB m r = false) :
    Calls Tryd.prog 3 #[.slice a l.length cap, .slice a2 m.length cap2, .int .i32 r] w fun e w' => e = .returned (.bool true) ∧ Below w.heap.size w w' := by
  have hr1 : ∀ w', Below w.heap.size w w' → RowAt w' a l := fun w' hb => rowAt_below hrow (Nat.le_refl _) hb
  have hr2 : ∀ w', Below w.heap.size w w' → RowAt w' a2 m := fun w' hb => rowAt_below hrow2 (Nat.le_refl _) hb
  have H1 := hide (union_two a a2 cap cap2 n1 n2 l m hl hm w hrow hrow2)
  have H2 := hide (fun w' (hb : Below w.heap.size w w') => meet_two a a2 cap cap2 l m hl hm w' (hr1 w' hb) (hr2 w' hb))
  have H3 := hide (fun w' (hb : Below w.heap.size w w') => minus_any a a2 cap cap2 n2 l m hl hm w' (hr1 w' hb) (hr2 w' hb))
  have H4 := hide (fun w' (hb : Below w.heap.size w w') => not_any a cap l hl w' (hr1 w' hb))
  have H5 := hide (fun (a4 : Option Addr) (c4 : Nat) w' (ho : RowAt w' a4 (notL l)) => not_any a4 c4 (notL l) (by have := notL_le l; omega) w' ho)
  have HC1 := hide (fun w' (hb : Below w.heap.size w w') => rCheck_any a cap l hl w' (hr1 w' hb))
  have HC2 := hide (fun w' (hb : Below w.heap.size w w') => rCheck_any a2 cap2 m hm w' (hr2 w' hb))
  have HH1 := hide (fun w' (hb : Below w.heap.size w w') => has_any a cap l hl r w' (hr1 w' hb))
  have HH2 := hide (fun w' (hb : Below w.heap.size w w') => has_any a2 cap2 m hm r w' (hr2 w' hb))
  have HSa := hide (fun w' (hb : Below w.heap.size w w') => size_any a cap l hl w' (hr1 w' hb))
  have HU := hide (fun (x : Option Addr) (c : Nat) w' (ho : RowAt w' x (uniL [l, m])) => has_any x c (uniL [l, m]) (by have := uniL_le [l, m]; omega) r w' ho)
  have HM := hide (fun (x : Option Addr) (c : Nat) w' (ho : RowAt w' x (meetL [l, m])) => has_any x c (meetL [l, m]) (by have := meetL_le [l, m]; omega) r w' ho)
  have HD := hide (fun (x : Option Addr) (c : Nat) w' (ho : RowAt w' x (minusL l m)) => has_any x c (minusL l m) (by have := minusL_le l m; omega) r w' ho)
  have HN := hide (fun (x : Option Addr) (c : Nat) w' (ho : RowAt w' x (notL l)) => has_any x c (notL l) (by have := notL_le l; omega) r w' ho)
  have HSn := hide (fun (x : Option Addr) (c : Nat) w' (ho : RowAt w' x (notL l)) => size_any x c (notL l) (by have := notL_le l; omega) w' ho)
  have HE := hide (fun (x : Option Addr) (c : Nat) w' (ho : RowAt w' x (notL (notL l))) (hb : Below w.heap.size w w') => same_any x a c cap (notL (notL l)) l (by have := notL_le (notL l); omega) hl w' ho (hr1 w' hb))
  have HA := hide (fun w' (_ : Below w.heap.size w w') => awake_any w')
  have eU : hasB (uniL [l, m]) r = true := by rw [uni_has h1 h2 hu r, hi, hj]; rfl
  rw [eU] at HU
  rw [hu] at H1
  clear eU hu
  have eM : hasB (meetL [l, m]) r = false := by rw [meet_has h1 h2 hmm r hr, hi, hj]; rfl
  rw [eM] at HM
  rw [hmm] at H2
  clear eM hmm
  have eD : hasB (minusL l m) r = true := by rw [minus_has h1 h2 hd r hr, hi, hj]; rfl
  rw [eD] at HD
  rw [hd] at H3
  clear eD hd
  have eN : hasB (notL l) r = false := by rw [not_has h1 hn r hr, hi]; rfl
  have eS := not_size h1 hn
  have eK := not_not h1 hn
  have s1 : 0 ≤ sizeV l := by rw [size_sum h1, ← List.take_length (l := l), ← sizeTo_take l l.length (Nat.le_refl _)]; exact (sizeTo_bd (checkV_zero h1).1 l.length (Nat.le_refl _)).1
  have s2 : 0 ≤ sizeV (notL l) := by rw [size_sum (not_set h1 hn), ← List.take_length (l := notL l), ← sizeTo_take (notL l) (notL l).length (Nat.le_refl _)]; exact (sizeTo_bd (checkV_zero (not_set h1 hn)).1 (notL l).length (Nat.le_refl _)).1
  rw [eN] at HN
  rw [decide_eq_true eK.1] at HE
  rw [eK.2] at H5
  rw [hn] at H4
  have hs : (sizeV l + sizeV (notL l) != 1114112) = false := by simp [eS]
  generalize sizeV (notL l) = S2 at *
  generalize sizeV l = S1 at *
  clear eN eK hn
  rw [hi] at HH1
  rw [hj] at HH2
  rw [h1] at HC1
  rw [h2] at HC2
  have hr0 : ¬ r < 0 := by omega
  have hr3 : ¬ r > 1114111 := by omega
  clear h1 h2 hi hj hr
  generalize notL (notL l) = KL at *
  generalize notC (notL l) = KC at *
  generalize notL l = NL at *
  generalize uniL [l, m] = UL at *
  generalize meetL [l, m] = ML at *
  generalize minusL l m = DL at *
  clear hr1 hr2 hrow hrow2
  go_enter Tryd.func3, Tryd.ntmps3
  go_wp2_with fail
  refine (unhide H1).mono ?_
  rintro e w1 ⟨v1, rfl, hown1, hb1⟩
  have Hb1 := hide hb1; have Ho1 := hide hown1
  clear hb1 hown1
  go_wp2_with fail
  refine (unhide H2 _ (unhide Hb1)).mono ?_
  rintro e w2 ⟨v2, rfl, hown2, hb2⟩
  have Hr1 := hide (ownsRow_below (unhide Ho1) hb2 (Nat.le_refl _))
  have Hb2 := hide ((unhide Hb1).trans (below_le hb2 (unhide Hb1).size)); have Ho2 := hide hown2
  clear hb2 hown2 Ho1
  go_wp2_with fail
  refine (unhide H3 _ (unhide Hb2)).mono ?_
  rintro e w3 ⟨v3, rfl, hown3, hb3⟩
  have Hr1b := hide (ownsRow_below (unhide Hr1) hb3 (Nat.le_refl _))
  have Hr2b := hide (ownsRow_below (unhide Ho2) hb3 (Nat.le_refl _))
  have Hb3 := hide ((unhide Hb2).trans (below_le hb3 (unhide Hb2).size)); have Ho3 := hide hown3
  clear hb3 hown3 Hr1 Ho2
  go_wp2_with fail
  refine (unhide H4 _ (unhide Hb3)).mono ?_
  rintro e w4 ⟨v4, rfl, hown4, hb4⟩
  have Hr1c := hide (ownsRow_below (unhide Hr1b) hb4 (Nat.le_refl _))
  have Hr2c := hide (ownsRow_below (unhide Hr2b) hb4 (Nat.le_refl _))
  have Hr3c := hide (ownsRow_below (unhide Ho3) hb4 (Nat.le_refl _))
  have Hb4 := hide ((unhide Hb3).trans (below_le hb4 (unhide Hb3).size))
  clear hb4 Hr1b Hr2b Ho3
  obtain ⟨a4, c4, rfl⟩ := ownsRow_slice hown4
  have H5b := hide (unhide H5 a4 c4 w4 (rowAt_own hown4))
  have Ho4 := hide hown4
  clear hown4 H5
  go_wp2_with fail
  refine (unhide H5b).mono ?_
  rintro e w5 ⟨v5, rfl, o5, hb5⟩
  have o1 := ownsRow_below (unhide Hr1c) hb5 (Nat.le_refl _)
  have o2 := ownsRow_below (unhide Hr2c) hb5 (Nat.le_refl _)
  have o3 := ownsRow_below (unhide Hr3c) hb5 (Nat.le_refl _)
  have o4 := ownsRow_below (unhide Ho4) hb5 (Nat.le_refl _)
  have hb50 := (unhide Hb4).trans (below_le hb5 (unhide Hb4).size)
  clear hb5 Hr1c Hr2c Hr3c Ho4
  obtain ⟨a1, c1, rfl⟩ := ownsRow_slice o1
  obtain ⟨a2', c2, rfl⟩ := ownsRow_slice o2
  obtain ⟨a3, c3, rfl⟩ := ownsRow_slice o3
  obtain ⟨a5, c5, rfl⟩ := ownsRow_slice o5
  have up : ∀ w', Below w5.heap.size w5 w' → Below w.heap.size w w' := fun w' hb => hb50.trans (below_le hb hb50.size)
  have Hup := hide up
  have KC1 := hide (fun w' (hb : Below w5.heap.size w5 w') => unhide HC1 w' (up w' hb))
  have KC2 := hide (fun w' (hb : Below w5.heap.size w5 w') => unhide HC2 w' (up w' hb))
  have KH1 := hide (fun w' (hb : Below w5.heap.size w5 w') => unhide HH1 w' (up w' hb))
  have KH2 := hide (fun w' (hb : Below w5.heap.size w5 w') => unhide HH2 w' (up w' hb))
  have KSa := hide (fun w' (hb : Below w5.heap.size w5 w') => unhide HSa w' (up w' hb))
  have KA := hide (fun w' (hb : Below w5.heap.size w5 w') => unhide HA w' (up w' hb))
  have KU := hide (fun w' (hb : Below w5.heap.size w5 w') => unhide HU a1 c1 w' (rowAt_below (rowAt_own o1) (Nat.le_refl _) hb))
  have KM := hide (fun w' (hb : Below w5.heap.size w5 w') => unhide HM a2' c2 w' (rowAt_below (rowAt_own o2) (Nat.le_refl _) hb))
  have KD := hide (fun w' (hb : Below w5.heap.size w5 w') => unhide HD a3 c3 w' (rowAt_below (rowAt_own o3) (Nat.le_refl _) hb))
  have KN := hide (fun w' (hb : Below w5.heap.size w5 w') => unhide HN a4 c4 w' (rowAt_below (rowAt_own o4) (Nat.le_refl _) hb))
  have KSn := hide (fun w' (hb : Below w5.heap.size w5 w') => unhide HSn a4 c4 w' (rowAt_below (rowAt_own o4) (Nat.le_refl _) hb))
  have KE := hide (fun w' (hb : Below w5.heap.size w5 w') => unhide HE a5 c5 w' (rowAt_below (rowAt_own o5) (Nat.le_refl _) hb) (up w' hb))
  have Hc5 := hide (Below.refl w5.heap.size w5)
  clear o1 o2 o3 o4 o5 up hb50 HC1 HC2 HH1 HH2 HSa HA HU HM HD HN HSn HE H1 H2 H3 H4 H5b Hb1 Hb2 Hb3 Hb4
  go_wp2_with fail
  refine (unhide KC1 _ (unhide Hc5)).mono ?_
  rintro e w6 ⟨rfl, hb6⟩
  have Hc6 := hide ((unhide Hc5).trans (below_le hb6 (unhide Hc5).size))
  clear hb6
  go_wp2_with fail
  refine (unhide KC2 _ (unhide Hc6)).mono ?_
  rintro e w7 ⟨rfl, hb7⟩
  have Hc7 := hide ((unhide Hc6).trans (below_le hb7 (unhide Hc6).size))
  clear hb7
  go_wp2_with fail
  refine (unhide KH1 _ (unhide Hc7)).mono ?_
  rintro e w8 ⟨rfl, hb8⟩
  have Hc8 := hide ((unhide Hc7).trans (below_le hb8 (unhide Hc7).size))
  clear hb8
  go_wp2_with fail
  refine (unhide KH2 _ (unhide Hc8)).mono ?_
  rintro e w9 ⟨rfl, hb9⟩
  have Hc9 := hide ((unhide Hc8).trans (below_le hb9 (unhide Hc8).size))
  clear hb9
  go_wp2_with fail
  refine (unhide KU _ (unhide Hc9)).mono ?_
  rintro e w10 ⟨rfl, hb10⟩
  have Hc10 := hide ((unhide Hc9).trans (below_le hb10 (unhide Hc9).size))
  clear hb10
  go_wp2_with fail
  refine (unhide KM _ (unhide Hc10)).mono ?_
  rintro e w11 ⟨rfl, hb11⟩
  have Hc11 := hide ((unhide Hc10).trans (below_le hb11 (unhide Hc10).size))
  clear hb11
  go_wp2_with fail
  refine (unhide KD _ (unhide Hc11)).mono ?_
  rintro e w12 ⟨rfl, hb12⟩
  have Hc12 := hide ((unhide Hc11).trans (below_le hb12 (unhide Hc11).size))
  clear hb12
  go_wp2_with fail
  refine (unhide KN _ (unhide Hc12)).mono ?_
  rintro e w13 ⟨rfl, hb13⟩
  have Hc13 := hide ((unhide Hc12).trans (below_le hb13 (unhide Hc12).size))
  clear hb13
  go_wp2_with fail
  refine (unhide KSa _ (unhide Hc13)).mono ?_
  rintro e w14 ⟨rfl, hb14⟩
  have Hc14 := hide ((unhide Hc13).trans (below_le hb14 (unhide Hc13).size))
  clear hb14
  go_wp2_with fail
  refine (unhide KSn _ (unhide Hc14)).mono ?_
  rintro e w15 ⟨rfl, hb15⟩
  have Hc15 := hide ((unhide Hc14).trans (below_le hb15 (unhide Hc14).size))
  clear hb15
  go_wp2_with fail
  refine (unhide KE _ (unhide Hc15)).mono ?_
  rintro e w16 ⟨rfl, hb16⟩
  have Hc16 := hide ((unhide Hc15).trans (below_le hb16 (unhide Hc15).size))
  clear hb16
  go_wp2_with fail
  refine (unhide KA _ (unhide Hc16)).mono ?_
  rintro e w17 ⟨rfl, hb17⟩
  have Hc17 := hide ((unhide Hc16).trans (below_le hb17 (unhide Hc16).size))
  clear hb17
  go_wp2
  go_ret
  exact ⟨rfl, unhide Hup _ (unhide Hc17)⟩

set_option maxHeartbeats 4000000 in
set_option maxRecDepth 100000 in
theorem alg_in_yyynyn (a a2 : Option Addr) (cap cap2 : Nat) (n1 : a = none → cap = 0) (n2 : a2 = none → cap2 = 0) (l m : List Rng) (hl : l.length ≤ 281474976710656) (hm : m.length ≤ 281474976710656) (r : Int) (w : World) (hrow : RowAt w a l) (hrow2 : RowAt w a2 m) (h1 : checkV l = 0) (h2 : checkV m = 0) (hr : 0 ≤ r ∧ r ≤ 1114111) (hu : uniC [l, m] = 0) (hmm : meetC [l, m] = 0) (hd : minusC l m = 0) (hn : notC l ≠ 0) (hi : hasB l r = true) (hj : hasB m r = false) :
    Calls Tryd.prog 3 #[.slice a l.length cap, .slice a2 m.length cap2, .int .i32 r] w fun e w' => e = .returned (.bool true) ∧ Below w.heap.size w w' := by
  have hr1 : ∀ w', Below w.heap.size w w' → RowAt w' a l := fun w' hb => rowAt_below hrow (Nat.le_refl _) hb
  have hr2 : ∀ w', Below w.heap.size w w' → RowAt w' a2 m := fun w' hb => rowAt_below hrow2 (Nat.le_refl _) hb
  have H1 := hide (union_two a a2 cap cap2 n1 n2 l m hl hm w hrow hrow2)
  have H2 := hide (fun w' (hb : Below w.heap.size w w') => meet_two a a2 cap cap2 l m hl hm w' (hr1 w' hb) (hr2 w' hb))
  have H3 := hide (fun w' (hb : Below w.heap.size w w') => minus_any a a2 cap cap2 n2 l m hl hm w' (hr1 w' hb) (hr2 w' hb))
  have H4 := hide (fun w' (hb : Below w.heap.size w w') => not_any a cap l hl w' (hr1 w' hb))
  have H5 := hide (fun (a4 : Option Addr) (c4 : Nat) w' (ho : RowAt w' a4 (notL l)) => not_any a4 c4 (notL l) (by have := notL_le l; omega) w' ho)
  have HC1 := hide (fun w' (hb : Below w.heap.size w w') => rCheck_any a cap l hl w' (hr1 w' hb))
  have HC2 := hide (fun w' (hb : Below w.heap.size w w') => rCheck_any a2 cap2 m hm w' (hr2 w' hb))
  have HH1 := hide (fun w' (hb : Below w.heap.size w w') => has_any a cap l hl r w' (hr1 w' hb))
  have HH2 := hide (fun w' (hb : Below w.heap.size w w') => has_any a2 cap2 m hm r w' (hr2 w' hb))
  have HSa := hide (fun w' (hb : Below w.heap.size w w') => size_any a cap l hl w' (hr1 w' hb))
  have HU := hide (fun (x : Option Addr) (c : Nat) w' (ho : RowAt w' x (uniL [l, m])) => has_any x c (uniL [l, m]) (by have := uniL_le [l, m]; omega) r w' ho)
  have HM := hide (fun (x : Option Addr) (c : Nat) w' (ho : RowAt w' x (meetL [l, m])) => has_any x c (meetL [l, m]) (by have := meetL_le [l, m]; omega) r w' ho)
  have HD := hide (fun (x : Option Addr) (c : Nat) w' (ho : RowAt w' x (minusL l m)) => has_any x c (minusL l m) (by have := minusL_le l m; omega) r w' ho)
  have HN := hide (fun (x : Option Addr) (c : Nat) w' (ho : RowAt w' x (notL l)) => has_any x c (notL l) (by have := notL_le l; omega) r w' ho)
  have HSn := hide (fun (x : Option Addr) (c : Nat) w' (ho : RowAt w' x (notL l)) => size_any x c (notL l) (by have := notL_le l; omega) w' ho)
  have HE := hide (fun (x : Option Addr) (c : Nat) w' (ho : RowAt w' x (notL (notL l))) (hb : Below w.heap.size w w') => same_any x a c cap (notL (notL l)) l (by have := notL_le (notL l); omega) hl w' ho (hr1 w' hb))
  have HA := hide (fun w' (_ : Below w.heap.size w w') => awake_any w')
  have eU : hasB (uniL [l, m]) r = true := by rw [uni_has h1 h2 hu r, hi, hj]; rfl
  rw [eU] at HU
  rw [hu] at H1
  clear eU hu
  have eM : hasB (meetL [l, m]) r = false := by rw [meet_has h1 h2 hmm r hr, hi, hj]; rfl
  rw [eM] at HM
  rw [hmm] at H2
  clear eM hmm
  have eD : hasB (minusL l m) r = true := by rw [minus_has h1 h2 hd r hr, hi, hj]; rfl
  rw [eD] at HD
  rw [hd] at H3
  clear eD hd
  have hn1 : (notC l != 0) = true := by simpa using hn
  have hn2 : (notC l == 0) = false := by simpa using hn
  rw [hi] at HH1
  rw [hj] at HH2
  rw [h1] at HC1
  rw [h2] at HC2
  have hr0 : ¬ r < 0 := by omega
  have hr3 : ¬ r > 1114111 := by omega
  clear h1 h2 hi hj hr
  generalize notL (notL l) = KL at *
  generalize notC (notL l) = KC at *
  generalize notL l = NL at *
  generalize uniL [l, m] = UL at *
  generalize meetL [l, m] = ML at *
  generalize minusL l m = DL at *
  generalize notC l = NC at *
  clear hr1 hr2 hrow hrow2
  go_enter Tryd.func3, Tryd.ntmps3
  go_wp2_with fail
  refine (unhide H1).mono ?_
  rintro e w1 ⟨v1, rfl, hown1, hb1⟩
  have Hb1 := hide hb1; have Ho1 := hide hown1
  clear hb1 hown1
  go_wp2_with fail
  refine (unhide H2 _ (unhide Hb1)).mono ?_
  rintro e w2 ⟨v2, rfl, hown2, hb2⟩
  have Hr1 := hide (ownsRow_below (unhide Ho1) hb2 (Nat.le_refl _))
  have Hb2 := hide ((unhide Hb1).trans (below_le hb2 (unhide Hb1).size)); have Ho2 := hide hown2
  clear hb2 hown2 Ho1
  go_wp2_with fail
  refine (unhide H3 _ (unhide Hb2)).mono ?_
  rintro e w3 ⟨v3, rfl, hown3, hb3⟩
  have Hr1b := hide (ownsRow_below (unhide Hr1) hb3 (Nat.le_refl _))
  have Hr2b := hide (ownsRow_below (unhide Ho2) hb3 (Nat.le_refl _))
  have Hb3 := hide ((unhide Hb2).trans (below_le hb3 (unhide Hb2).size)); have Ho3 := hide hown3
  clear hb3 hown3 Hr1 Ho2
  go_wp2_with fail
  refine (unhide H4 _ (unhide Hb3)).mono ?_
  rintro e w4 ⟨v4, rfl, hown4, hb4⟩
  have Hr1c := hide (ownsRow_below (unhide Hr1b) hb4 (Nat.le_refl _))
  have Hr2c := hide (ownsRow_below (unhide Hr2b) hb4 (Nat.le_refl _))
  have Hr3c := hide (ownsRow_below (unhide Ho3) hb4 (Nat.le_refl _))
  have Hb4 := hide ((unhide Hb3).trans (below_le hb4 (unhide Hb3).size))
  clear hb4 Hr1b Hr2b Ho3
  obtain ⟨a4, c4, rfl⟩ := ownsRow_slice hown4
  have H5b := hide (unhide H5 a4 c4 w4 (rowAt_own hown4))
  have Ho4 := hide hown4
  clear hown4 H5
  go_wp2_with fail
  refine (unhide H5b).mono ?_
  rintro e w5 ⟨v5, rfl, o5, hb5⟩
  have o1 := ownsRow_below (unhide Hr1c) hb5 (Nat.le_refl _)
  have o2 := ownsRow_below (unhide Hr2c) hb5 (Nat.le_refl _)
  have o3 := ownsRow_below (unhide Hr3c) hb5 (Nat.le_refl _)
  have o4 := ownsRow_below (unhide Ho4) hb5 (Nat.le_refl _)
  have hb50 := (unhide Hb4).trans (below_le hb5 (unhide Hb4).size)
  clear hb5 Hr1c Hr2c Hr3c Ho4
  obtain ⟨a1, c1, rfl⟩ := ownsRow_slice o1
  obtain ⟨a2', c2, rfl⟩ := ownsRow_slice o2
  obtain ⟨a3, c3, rfl⟩ := ownsRow_slice o3
  obtain ⟨a5, c5, rfl⟩ := ownsRow_slice o5
  have up : ∀ w', Below w5.heap.size w5 w' → Below w.heap.size w w' := fun w' hb => hb50.trans (below_le hb hb50.size)
  have Hup := hide up
  have KC1 := hide (fun w' (hb : Below w5.heap.size w5 w') => unhide HC1 w' (up w' hb))
  have KC2 := hide (fun w' (hb : Below w5.heap.size w5 w') => unhide HC2 w' (up w' hb))
  have KH1 := hide (fun w' (hb : Below w5.heap.size w5 w') => unhide HH1 w' (up w' hb))
  have KH2 := hide (fun w' (hb : Below w5.heap.size w5 w') => unhide HH2 w' (up w' hb))
  have KSa := hide (fun w' (hb : Below w5.heap.size w5 w') => unhide HSa w' (up w' hb))
  have KA := hide (fun w' (hb : Below w5.heap.size w5 w') => unhide HA w' (up w' hb))
  have KU := hide (fun w' (hb : Below w5.heap.size w5 w') => unhide HU a1 c1 w' (rowAt_below (rowAt_own o1) (Nat.le_refl _) hb))
  have KM := hide (fun w' (hb : Below w5.heap.size w5 w') => unhide HM a2' c2 w' (rowAt_below (rowAt_own o2) (Nat.le_refl _) hb))
  have KD := hide (fun w' (hb : Below w5.heap.size w5 w') => unhide HD a3 c3 w' (rowAt_below (rowAt_own o3) (Nat.le_refl _) hb))
  have KN := hide (fun w' (hb : Below w5.heap.size w5 w') => unhide HN a4 c4 w' (rowAt_below (rowAt_own o4) (Nat.le_refl _) hb))
  have KSn := hide (fun w' (hb : Below w5.heap.size w5 w') => unhide HSn a4 c4 w' (rowAt_below (rowAt_own o4) (Nat.le_refl _) hb))
  have KE := hide (fun w' (hb : Below w5.heap.size w5 w') => unhide HE a5 c5 w' (rowAt_below (rowAt_own o5) (Nat.le_refl _) hb) (up w' hb))
  have Hc5 := hide (Below.refl w5.heap.size w5)
  clear o1 o2 o3 o4 o5 up hb50 HC1 HC2 HH1 HH2 HSa HA HU HM HD HN HSn HE H1 H2 H3 H4 H5b Hb1 Hb2 Hb3 Hb4
  go_wp2_with fail
  refine (unhide KC1 _ (unhide Hc5)).mono ?_
  rintro e w6 ⟨rfl, hb6⟩
  have Hc6 := hide ((unhide Hc5).trans (below_le hb6 (unhide Hc5).size))
  clear hb6
  go_wp2_with fail
  refine (unhide KC2 _ (unhide Hc6)).mono ?_
  rintro e w7 ⟨rfl, hb7⟩
  have Hc7 := hide ((unhide Hc6).trans (below_le hb7 (unhide Hc6).size))
  clear hb7
  go_wp2_with fail
  refine (unhide KH1 _ (unhide Hc7)).mono ?_
  rintro e w8 ⟨rfl, hb8⟩
  have Hc8 := hide ((unhide Hc7).trans (below_le hb8 (unhide Hc7).size))
  clear hb8
  go_wp2_with fail
  refine (unhide KH2 _ (unhide Hc8)).mono ?_
  rintro e w9 ⟨rfl, hb9⟩
  have Hc9 := hide ((unhide Hc8).trans (below_le hb9 (unhide Hc8).size))
  clear hb9
  go_wp2_with fail
  refine (unhide KU _ (unhide Hc9)).mono ?_
  rintro e w10 ⟨rfl, hb10⟩
  have Hc10 := hide ((unhide Hc9).trans (below_le hb10 (unhide Hc9).size))
  clear hb10
  go_wp2_with fail
  refine (unhide KM _ (unhide Hc10)).mono ?_
  rintro e w11 ⟨rfl, hb11⟩
  have Hc11 := hide ((unhide Hc10).trans (below_le hb11 (unhide Hc10).size))
  clear hb11
  go_wp2_with fail
  refine (unhide KD _ (unhide Hc11)).mono ?_
  rintro e w12 ⟨rfl, hb12⟩
  have Hc12 := hide ((unhide Hc11).trans (below_le hb12 (unhide Hc11).size))
  clear hb12
  go_wp2_with fail
  refine (unhide KA _ (unhide Hc12)).mono ?_
  rintro e w13 ⟨rfl, hb13⟩
  have Hc13 := hide ((unhide Hc12).trans (below_le hb13 (unhide Hc12).size))
  clear hb13
  go_wp2
  go_ret
  exact ⟨rfl, unhide Hup _ (unhide Hc13)⟩

set_option maxHeartbeats 4000000 in
set_option maxRecDepth 100000 in
theorem alg_in_yynyyn (a a2 : Option Addr) (cap cap2 : Nat) (n1 : a = none → cap = 0) (n2 : a2 = none → cap2 = 0) (l m : List Rng) (hl : l.length ≤ 281474976710656) (hm : m.length ≤ 281474976710656) (r : Int) (w : World) (hrow : RowAt w a l) (hrow2 : RowAt w a2 m) (h1 : checkV l = 0) (h2 : checkV m = 0) (hr : 0 ≤ r ∧ r ≤ 1114111) (hu : uniC [l, m] = 0) (hmm : meetC [l, m] = 0) (hd : minusC l m ≠ 0) (hn : notC l = 0) (hi : hasB l r = true) (hj : hasB m r = false) :
    Calls Tryd.prog 3 #[.slice a l.length cap, .slice a2 m.length cap2, .int .i32 r] w fun e w' => e = .returned (.bool true) ∧ Below w.heap.size w w' := by
  have hr1 : ∀ w', Below w.heap.size w w' → RowAt w' a l := fun w' hb => rowAt_below hrow (Nat.le_refl _) hb
  have hr2 : ∀ w', Below w.heap.size w w' → RowAt w' a2 m := fun w' hb => rowAt_below hrow2 (Nat.le_refl _) hb
  have H1 := hide (union_two a a2 cap cap2 n1 n2 l m hl hm w hrow hrow2)
  have H2 := hide (fun w' (hb : Below w.heap.size w w') => meet_two a a2 cap cap2 l m hl hm w' (hr1 w' hb) (hr2 w' hb))
  have H3 := hide (fun w' (hb : Below w.heap.size w w') => minus_any a a2 cap cap2 n2 l m hl hm w' (hr1 w' hb) (hr2 w' hb))
  have H4 := hide (fun w' (hb : Below w.heap.size w w') => not_any a cap l hl w' (hr1 w' hb))
  have H5 := hide (fun (a4 : Option Addr) (c4 : Nat) w' (ho : RowAt w' a4 (notL l)) => not_any a4 c4 (notL l) (by have := notL_le l; omega) w' ho)
  have HC1 := hide (fun w' (hb : Below w.heap.size w w') => rCheck_any a cap l hl w' (hr1 w' hb))
  have HC2 := hide (fun w' (hb : Below w.heap.size w w') => rCheck_any a2 cap2 m hm w' (hr2 w' hb))
  have HH1 := hide (fun w' (hb : Below w.heap.size w w') => has_any a cap l hl r w' (hr1 w' hb))
  have HH2 := hide (fun w' (hb : Below w.heap.size w w') => has_any a2 cap2 m hm r w' (hr2 w' hb))
  have HSa := hide (fun w' (hb : Below w.heap.size w w') => size_any a cap l hl w' (hr1 w' hb))
  have HU := hide (fun (x : Option Addr) (c : Nat) w' (ho : RowAt w' x (uniL [l, m])) => has_any x c (uniL [l, m]) (by have := uniL_le [l, m]; omega) r w' ho)
  have HM := hide (fun (x : Option Addr) (c : Nat) w' (ho : RowAt w' x (meetL [l, m])) => has_any x c (meetL [l, m]) (by have := meetL_le [l, m]; omega) r w' ho)
  have HD := hide (fun (x : Option Addr) (c : Nat) w' (ho : RowAt w' x (minusL l m)) => has_any x c (minusL l m) (by have := minusL_le l m; omega) r w' ho)
  have HN := hide (fun (x : Option Addr) (c : Nat) w' (ho : RowAt w' x (notL l)) => has_any x c (notL l) (by have := notL_le l; omega) r w' ho)
  have HSn := hide (fun (x : Option Addr) (c : Nat) w' (ho : RowAt w' x (notL l)) => size_any x c (notL l) (by have := notL_le l; omega) w' ho)
  have HE := hide (fun (x : Option Addr) (c : Nat) w' (ho : RowAt w' x (notL (notL l))) (hb : Below w.heap.size w w') => same_any x a c cap (notL (notL l)) l (by have := notL_le (notL l); omega) hl w' ho (hr1 w' hb))
  have HA := hide (fun w' (_ : Below w.heap.size w w') => awake_any w')
  have eU : hasB (uniL [l, m]) r = true := by rw [uni_has h1 h2 hu r, hi, hj]; rfl
  rw [eU] at HU
  rw [hu] at H1
  clear eU hu
  have eM : hasB (meetL [l, m]) r = false := by rw [meet_has h1 h2 hmm r hr, hi, hj]; rfl
  rw [eM] at HM
  rw [hmm] at H2
  clear eM hmm
  have hd1 : (minusC l m != 0) = true := by simpa using hd
  have hd2 : (minusC l m == 0) = false := by simpa using hd
  have eN : hasB (notL l) r = false := by rw [not_has h1 hn r hr, hi]; rfl
  have eS := not_size h1 hn
  have eK := not_not h1 hn
  have s1 : 0 ≤ sizeV l := by rw [size_sum h1, ← List.take_length (l := l), ← sizeTo_take l l.length (Nat.le_refl _)]; exact (sizeTo_bd (checkV_zero h1).1 l.length (Nat.le_refl _)).1
  have s2 : 0 ≤ sizeV (notL l) := by rw [size_sum (not_set h1 hn), ← List.take_length (l := notL l), ← sizeTo_take (notL l) (notL l).length (Nat.le_refl _)]; exact (sizeTo_bd (checkV_zero (not_set h1 hn)).1 (notL l).length (Nat.le_refl _)).1
  rw [eN] at HN
  rw [decide_eq_true eK.1] at HE
  rw [eK.2] at H5
  rw [hn] at H4
  have hs : (sizeV l + sizeV (notL l) != 1114112) = false := by simp [eS]
  generalize sizeV (notL l) = S2 at *
  generalize sizeV l = S1 at *
  clear eN eK hn
  rw [hi] at HH1
  rw [hj] at HH2
  rw [h1] at HC1
  rw [h2] at HC2
  have hr0 : ¬ r < 0 := by omega
  have hr3 : ¬ r > 1114111 := by omega
  clear h1 h2 hi hj hr
  generalize notL (notL l) = KL at *
  generalize notC (notL l) = KC at *
  generalize notL l = NL at *
  generalize uniL [l, m] = UL at *
  generalize meetL [l, m] = ML at *
  generalize minusL l m = DL at *
  generalize minusC l m = DC at *
  clear hr1 hr2 hrow hrow2
  go_enter Tryd.func3, Tryd.ntmps3
  go_wp2_with fail
  refine (unhide H1).mono ?_
  rintro e w1 ⟨v1, rfl, hown1, hb1⟩
  have Hb1 := hide hb1; have Ho1 := hide hown1
  clear hb1 hown1
  go_wp2_with fail
  refine (unhide H2 _ (unhide Hb1)).mono ?_
  rintro e w2 ⟨v2, rfl, hown2, hb2⟩
  have Hr1 := hide (ownsRow_below (unhide Ho1) hb2 (Nat.le_refl _))
  have Hb2 := hide ((unhide Hb1).trans (below_le hb2 (unhide Hb1).size)); have Ho2 := hide hown2
  clear hb2 hown2 Ho1
  go_wp2_with fail
  refine (unhide H3 _ (unhide Hb2)).mono ?_
  rintro e w3 ⟨v3, rfl, hown3, hb3⟩
  have Hr1b := hide (ownsRow_below (unhide Hr1) hb3 (Nat.le_refl _))
  have Hr2b := hide (ownsRow_below (unhide Ho2) hb3 (Nat.le_refl _))
  have Hb3 := hide ((unhide Hb2).trans (below_le hb3 (unhide Hb2).size)); have Ho3 := hide hown3
  clear hb3 hown3 Hr1 Ho2
  go_wp2_with fail
  refine (unhide H4 _ (unhide Hb3)).mono ?_
  rintro e w4 ⟨v4, rfl, hown4, hb4⟩
  have Hr1c := hide (ownsRow_below (unhide Hr1b) hb4 (Nat.le_refl _))
  have Hr2c := hide (ownsRow_below (unhide Hr2b) hb4 (Nat.le_refl _))
  have Hr3c := hide (ownsRow_below (unhide Ho3) hb4 (Nat.le_refl _))
  have Hb4 := hide ((unhide Hb3).trans (below_le hb4 (unhide Hb3).size))
  clear hb4 Hr1b Hr2b Ho3
  obtain ⟨a4, c4, rfl⟩ := ownsRow_slice hown4
  have H5b := hide (unhide H5 a4 c4 w4 (rowAt_own hown4))
  have Ho4 := hide hown4
  clear hown4 H5
  go_wp2_with fail
  refine (unhide H5b).mono ?_
  rintro e w5 ⟨v5, rfl, o5, hb5⟩
  have o1 := ownsRow_below (unhide Hr1c) hb5 (Nat.le_refl _)
  have o2 := ownsRow_below (unhide Hr2c) hb5 (Nat.le_refl _)
  have o3 := ownsRow_below (unhide Hr3c) hb5 (Nat.le_refl _)
  have o4 := ownsRow_below (unhide Ho4) hb5 (Nat.le_refl _)
  have hb50 := (unhide Hb4).trans (below_le hb5 (unhide Hb4).size)
  clear hb5 Hr1c Hr2c Hr3c Ho4
  obtain ⟨a1, c1, rfl⟩ := ownsRow_slice o1
  obtain ⟨a2', c2, rfl⟩ := ownsRow_slice o2
  obtain ⟨a3, c3, rfl⟩ := ownsRow_slice o3
  obtain ⟨a5, c5, rfl⟩ := ownsRow_slice o5
  have up : ∀ w', Below w5.heap.size w5 w' → Below w.heap.size w w' := fun w' hb => hb50.trans (below_le hb hb50.size)
  have Hup := hide up
  have KC1 := hide (fun w' (hb : Below w5.heap.size w5 w') => unhide HC1 w' (up w' hb))
  have KC2 := hide (fun w' (hb : Below w5.heap.size w5 w') => unhide HC2 w' (up w' hb))
  have KH1 := hide (fun w' (hb : Below w5.heap.size w5 w') => unhide HH1 w' (up w' hb))
  have KH2 := hide (fun w' (hb : Below w5.heap.size w5 w') => unhide HH2 w' (up w' hb))
  have KSa := hide (fun w' (hb : Below w5.heap.size w5 w') => unhide HSa w' (up w' hb))
  have KA := hide (fun w' (hb : Below w5.heap.size w5 w') => unhide HA w' (up w' hb))
  have KU := hide (fun w' (hb : Below w5.heap.size w5 w') => unhide HU a1 c1 w' (rowAt_below (rowAt_own o1) (Nat.le_refl _) hb))
  have KM := hide (fun w' (hb : Below w5.heap.size w5 w') => unhide HM a2' c2 w' (rowAt_below (rowAt_own o2) (Nat.le_refl _) hb))
  have KD := hide (fun w' (hb : Below w5.heap.size w5 w') => unhide HD a3 c3 w' (rowAt_below (rowAt_own o3) (Nat.le_refl _) hb))
  have KN := hide (fun w' (hb : Below w5.heap.size w5 w') => unhide HN a4 c4 w' (rowAt_below (rowAt_own o4) (Nat.le_refl _) hb))
  have KSn := hide (fun w' (hb : Below w5.heap.size w5 w') => unhide HSn a4 c4 w' (rowAt_below (rowAt_own o4) (Nat.le_refl _) hb))
  have KE := hide (fun w' (hb : Below w5.heap.size w5 w') => unhide HE a5 c5 w' (rowAt_below (rowAt_own o5) (Nat.le_refl _) hb) (up w' hb))
  have Hc5 := hide (Below.refl w5.heap.size w5)
  clear o1 o2 o3 o4 o5 up hb50 HC1 HC2 HH1 HH2 HSa HA HU HM HD HN HSn HE H1 H2 H3 H4 H5b Hb1 Hb2 Hb3 Hb4
  go_wp2_with fail
  refine (unhide KC1 _ (unhide Hc5)).mono ?_
  rintro e w6 ⟨rfl, hb6⟩
  have Hc6 := hide ((unhide Hc5).trans (below_le hb6 (unhide Hc5).size))
  clear hb6
  go_wp2_with fail
  refine (unhide KC2 _ (unhide Hc6)).mono ?_
  rintro e w7 ⟨rfl, hb7⟩
  have Hc7 := hide ((unhide Hc6).trans (below_le hb7 (unhide Hc6).size))
  clear hb7
  go_wp2_with fail
  refine (unhide KH1 _ (unhide Hc7)).mono ?_
  rintro e w8 ⟨rfl, hb8⟩
  have Hc8 := hide ((unhide Hc7).trans (below_le hb8 (unhide Hc7).size))
  clear hb8
  go_wp2_with fail
  refine (unhide KH2 _ (unhide Hc8)).mono ?_
  rintro e w9 ⟨rfl, hb9⟩
  have Hc9 := hide ((unhide Hc8).trans (below_le hb9 (unhide Hc8).size))
  clear hb9
  go_wp2_with fail
  refine (unhide KU _ (unhide Hc9)).mono ?_
  rintro e w10 ⟨rfl, hb10⟩
  have Hc10 := hide ((unhide Hc9).trans (below_le hb10 (unhide Hc9).size))
  clear hb10
  go_wp2_with fail
  refine (unhide KM _ (unhide Hc10)).mono ?_
  rintro e w11 ⟨rfl, hb11⟩
  have Hc11 := hide ((unhide Hc10).trans (below_le hb11 (unhide Hc10).size))
  clear hb11
  go_wp2_with fail
  refine (unhide KN _ (unhide Hc11)).mono ?_
  rintro e w12 ⟨rfl, hb12⟩
  have Hc12 := hide ((unhide Hc11).trans (below_le hb12 (unhide Hc11).size))
  clear hb12
  go_wp2_with fail
  refine (unhide KSa _ (unhide Hc12)).mono ?_
  rintro e w13 ⟨rfl, hb13⟩
  have Hc13 := hide ((unhide Hc12).trans (below_le hb13 (unhide Hc12).size))
  clear hb13
  go_wp2_with fail
  refine (unhide KSn _ (unhide Hc13)).mono ?_
  rintro e w14 ⟨rfl, hb14⟩
  have Hc14 := hide ((unhide Hc13).trans (below_le hb14 (unhide Hc13).size))
  clear hb14
  go_wp2_with fail
  refine (unhide KE _ (unhide Hc14)).mono ?_
  rintro e w15 ⟨rfl, hb15⟩
  have Hc15 := hide ((unhide Hc14).trans (below_le hb15 (unhide Hc14).size))
  clear hb15
  go_wp2_with fail
  refine (unhide KA _ (unhide Hc15)).mono ?_
  rintro e w16 ⟨rfl, hb16⟩
  have Hc16 := hide ((unhide Hc15).trans (below_le hb16 (unhide Hc15).size))
  clear hb16
  go_wp2
  go_ret
  exact ⟨rfl, unhide Hup _ (unhide Hc16)⟩

set_option maxHeartbeats 4000000 in
set_option maxRecDepth 100000 in
theorem alg_in_yynnyn (a a2 : Option Addr) (cap cap2 : Nat) (n1 : a = none → cap = 0) (n2 : a2 = none → cap2 = 0) (l m : List Rng) (hl : l.length ≤ 281474976710656) (hm : m.length ≤ 281474976710656) (r : Int) (w : World) (hrow : RowAt w a l) (hrow2 : RowAt w a2 m) (h1 : checkV l = 0) (h2 : checkV m = 0) (hr : 0 ≤ r ∧ r ≤ 1114111) (hu : uniC [l, m] = 0) (hmm : meetC [l, m] = 0) (hd : minusC l m ≠ 0) (hn : notC l ≠ 0) (hi : hasB l r = true) (hj : hasB m r = false) :
    Calls Tryd.prog 3 #[.slice a l.length cap, .slice a2 m.length cap2, .int .i32 r] w fun e w' => e = .returned (.bool true) ∧ Below w.heap.size w w' := by
  have hr1 : ∀ w', Below w.heap.size w w' → RowAt w' a l := fun w' hb => rowAt_below hrow (Nat.le_refl _) hb
  have hr2 : ∀ w', Below w.heap.size w w' → RowAt w' a2 m := fun w' hb => rowAt_below hrow2 (Nat.le_refl _) hb
  have H1 := hide (union_two a a2 cap cap2 n1 n2 l m hl hm w hrow hrow2)
  have H2 := hide (fun w' (hb : Below w.heap.size w w') => meet_two a a2 cap cap2 l m hl hm w' (hr1 w' hb) (hr2 w' hb))
  have H3 := hide (fun w' (hb : Below w.heap.size w w') => minus_any a a2 cap cap2 n2 l m hl hm w' (hr1 w' hb) (hr2 w' hb))
  have H4 := hide (fun w' (hb : Below w.heap.size w w') => not_any a cap l hl w' (hr1 w' hb))
  have H5 := hide (fun (a4 : Option Addr) (c4 : Nat) w' (ho : RowAt w' a4 (notL l)) => not_any a4 c4 (notL l) (by have := notL_le l; omega) w' ho)
  have HC1 := hide (fun w' (hb : Below w.heap.size w w') => rCheck_any a cap l hl w' (hr1 w' hb))
  have HC2 := hide (fun w' (hb : Below w.heap.size w w') => rCheck_any a2 cap2 m hm w' (hr2 w' hb))
  have HH1 := hide (fun w' (hb : Below w.heap.size w w') => has_any a cap l hl r w' (hr1 w' hb))
  have HH2 := hide (fun w' (hb : Below w.heap.size w w') => has_any a2 cap2 m hm r w' (hr2 w' hb))
  have HSa := hide (fun w' (hb : Below w.heap.size w w') => size_any a cap l hl w' (hr1 w' hb))
  have HU := hide (fun (x : Option Addr) (c : Nat) w' (ho : RowAt w' x (uniL [l, m])) => has_any x c (uniL [l, m]) (by have := uniL_le [l, m]; omega) r w' ho)
  have HM := hide (fun (x : Option Addr) (c : Nat) w' (ho : RowAt w' x (meetL [l, m])) => has_any x c (meetL [l, m]) (by have := meetL_le [l, m]; omega) r w' ho)
  have HD := hide (fun (x : Option Addr) (c : Nat) w' (ho : RowAt w' x (minusL l m)) => has_any x c (minusL l m) (by have := minusL_le l m; omega) r w' ho)
  have HN := hide (fun (x : Option Addr) (c : Nat) w' (ho : RowAt w' x (notL l)) => has_any x c (notL l) (by have := notL_le l; omega) r w' ho)
  have HSn := hide (fun (x : Option Addr) (c : Nat) w' (ho : RowAt w' x (notL l)) => size_any x c (notL l) (by have := notL_le l; omega) w' ho)
  have HE := hide (fun (x : Option Addr) (c : Nat) w' (ho : RowAt w' x (notL (notL l))) (hb : Below w.heap.size w w') => same_any x a c cap (notL (notL l)) l (by have := notL_le (notL l); omega) hl w' ho (hr1 w' hb))
  have HA := hide (fun w' (_ : Below w.heap.size w w') => awake_any w')
  have eU : hasB (uniL [l, m]) r = true := by rw [uni_has h1 h2 hu r, hi, hj]; rfl
  rw [eU] at HU
  rw [hu] at H1
  clear eU hu
  have eM : hasB (meetL [l, m]) r = false := by rw [meet_has h1 h2 hmm r hr, hi, hj]; rfl
  rw [eM] at HM
  rw [hmm] at H2
  clear eM hmm
  have hd1 : (minusC l m != 0) = true := by simpa using hd
  have hd2 : (minusC l m == 0) = false := by simpa using hd
  have hn1 : (notC l != 0) = true := by simpa using hn
  have hn2 : (notC l == 0) = false := by simpa using hn
  rw [hi] at HH1
  rw [hj] at HH2
  rw [h1] at HC1
  rw [h2] at HC2
  have hr0 : ¬ r < 0 := by omega
  have hr3 : ¬ r > 1114111 := by omega
  clear h1 h2 hi hj hr
  generalize notL (notL l) = KL at *
  generalize notC (notL l) = KC at *
  generalize notL l = NL at *
  generalize uniL [l, m] = UL at *
  generalize meetL [l, m] = ML at *
  generalize minusL l m = DL at *
  generalize minusC l m = DC at *
  generalize notC l = NC at *
  clear hr1 hr2 hrow hrow2
  go_enter Tryd.func3, Tryd.ntmps3
  go_wp2_with fail
  refine (unhide H1).mono ?_
  rintro e w1 ⟨v1, rfl, hown1, hb1⟩
  have Hb1 := hide hb1; have Ho1 := hide hown1
  clear hb1 hown1
  go_wp2_with fail
  refine (unhide H2 _ (unhide Hb1)).mono ?_
  rintro e w2 ⟨v2, rfl, hown2, hb2⟩
  have Hr1 := hide (ownsRow_below (unhide Ho1) hb2 (Nat.le_refl _))
  have Hb2 := hide ((unhide Hb1).trans (below_le hb2 (unhide Hb1).size)); have Ho2 := hide hown2
  clear hb2 hown2 Ho1
  go_wp2_with fail
  refine (unhide H3 _ (unhide Hb2)).mono ?_
  rintro e w3 ⟨v3, rfl, hown3, hb3⟩
  have Hr1b := hide (ownsRow_below (unhide Hr1) hb3 (Nat.le_refl _))
  have Hr2b := hide (ownsRow_below (unhide Ho2) hb3 (Nat.le_refl _))
  have Hb3 := hide ((unhide Hb2).trans (below_le hb3 (unhide Hb2).size)); have Ho3 := hide hown3
  clear hb3 hown3 Hr1 Ho2
  go_wp2_with fail
  refine (unhide H4 _ (unhide Hb3)).mono ?_
  rintro e w4 ⟨v4, rfl, hown4, hb4⟩
  have Hr1c := hide (ownsRow_below (unhide Hr1b) hb4 (Nat.le_refl _))
  have Hr2c := hide (ownsRow_below (unhide Hr2b) hb4 (Nat.le_refl _))
  have Hr3c := hide (ownsRow_below (unhide Ho3) hb4 (Nat.le_refl _))
  have Hb4 := hide ((unhide Hb3).trans (below_le hb4 (unhide Hb3).size))
  clear hb4 Hr1b Hr2b Ho3
  obtain ⟨a4, c4, rfl⟩ := ownsRow_slice hown4
  have H5b := hide (unhide H5 a4 c4 w4 (rowAt_own hown4))
  have Ho4 := hide hown4
  clear hown4 H5
  go_wp2_with fail
  refine (unhide H5b).mono ?_
  rintro e w5 ⟨v5, rfl, o5, hb5⟩
  have o1 := ownsRow_below (unhide Hr1c) hb5 (Nat.le_refl _)
  have o2 := ownsRow_below (unhide Hr2c) hb5 (Nat.le_refl _)
  have o3 := ownsRow_below (unhide Hr3c) hb5 (Nat.le_refl _)
  have o4 := ownsRow_below (unhide Ho4) hb5 (Nat.le_refl _)
  have hb50 := (unhide Hb4).trans (below_le hb5 (unhide Hb4).size)
  clear hb5 Hr1c Hr2c Hr3c Ho4
  obtain ⟨a1, c1, rfl⟩ := ownsRow_slice o1
  obtain ⟨a2', c2, rfl⟩ := ownsRow_slice o2
  obtain ⟨a3, c3, rfl⟩ := ownsRow_slice o3
  obtain ⟨a5, c5, rfl⟩ := ownsRow_slice o5
  have up : ∀ w', Below w5.heap.size w5 w' → Below w.heap.size w w' := fun w' hb => hb50.trans (below_le hb hb50.size)
  have Hup := hide up
  have KC1 := hide (fun w' (hb : Below w5.heap.size w5 w') => unhide HC1 w' (up w' hb))
  have KC2 := hide (fun w' (hb : Below w5.heap.size w5 w') => unhide HC2 w' (up w' hb))
  have KH1 := hide (fun w' (hb : Below w5.heap.size w5 w') => unhide HH1 w' (up w' hb))
  have KH2 := hide (fun w' (hb : Below w5.heap.size w5 w') => unhide HH2 w' (up w' hb))
  have KSa := hide (fun w' (hb : Below w5.heap.size w5 w') => unhide HSa w' (up w' hb))
  have KA := hide (fun w' (hb : Below w5.heap.size w5 w') => unhide HA w' (up w' hb))
  have KU := hide (fun w' (hb : Below w5.heap.size w5 w') => unhide HU a1 c1 w' (rowAt_below (rowAt_own o1) (Nat.le_refl _) hb))
  have KM := hide (fun w' (hb : Below w5.heap.size w5 w') => unhide HM a2' c2 w' (rowAt_below (rowAt_own o2) (Nat.le_refl _) hb))
  have KD := hide (fun w' (hb : Below w5.heap.size w5 w') => unhide HD a3 c3 w' (rowAt_below (rowAt_own o3) (Nat.le_refl _) hb))
  have KN := hide (fun w' (hb : Below w5.heap.size w5 w') => unhide HN a4 c4 w' (rowAt_below (rowAt_own o4) (Nat.le_refl _) hb))
  have KSn := hide (fun w' (hb : Below w5.heap.size w5 w') => unhide HSn a4 c4 w' (rowAt_below (rowAt_own o4) (Nat.le_refl _) hb))
  have KE := hide (fun w' (hb : Below w5.heap.size w5 w') => unhide HE a5 c5 w' (rowAt_below (rowAt_own o5) (Nat.le_refl _) hb) (up w' hb))
  have Hc5 := hide (Below.refl w5.heap.size w5)
  clear o1 o2 o3 o4 o5 up hb50 HC1 HC2 HH1 HH2 HSa HA HU HM HD HN HSn HE H1 H2 H3 H4 H5b Hb1 Hb2 Hb3 Hb4
  go_wp2_with fail
  refine (unhide KC1 _ (unhide Hc5)).mono ?_
  rintro e w6 ⟨rfl, hb6⟩
  have Hc6 := hide ((unhide Hc5).trans (below_le hb6 (unhide Hc5).size))
  clear hb6
  go_wp2_with fail
  refine (unhide KC2 _ (unhide Hc6)).mono ?_
  rintro e w7 ⟨rfl, hb7⟩
  have Hc7 := hide ((unhide Hc6).trans (below_le hb7 (unhide Hc6).size))
  clear hb7
  go_wp2_with fail
  refine (unhide KH1 _ (unhide Hc7)).mono ?_
  rintro e w8 ⟨rfl, hb8⟩
  have Hc8 := hide ((unhide Hc7).trans (below_le hb8 (unhide Hc7).size))
  clear hb8
  go_wp2_with fail
  refine (unhide KH2 _ (unhide Hc8)).mono ?_
  rintro e w9 ⟨rfl, hb9⟩
  have Hc9 := hide ((unhide Hc8).trans (below_le hb9 (unhide Hc8).size))
  clear hb9
  go_wp2_with fail
  refine (unhide KU _ (unhide Hc9)).mono ?_
  rintro e w10 ⟨rfl, hb10⟩
  have Hc10 := hide ((unhide Hc9).trans (below_le hb10 (unhide Hc9).size))
  clear hb10
  go_wp2_with fail
  refine (unhide KM _ (unhide Hc10)).mono ?_
  rintro e w11 ⟨rfl, hb11⟩
  have Hc11 := hide ((unhide Hc10).trans (below_le hb11 (unhide Hc10).size))
  clear hb11
  go_wp2_with fail
  refine (unhide KA _ (unhide Hc11)).mono ?_
  rintro e w12 ⟨rfl, hb12⟩
  have Hc12 := hide ((unhide Hc11).trans (below_le hb12 (unhide Hc11).size))
  clear hb12
  go_wp2
  go_ret
  exact ⟨rfl, unhide Hup _ (unhide Hc12)⟩

set_option maxHeartbeats 4000000 in
set_option maxRecDepth 100000 in
theorem alg_in_ynyyyn (a a2 : Option Addr) (cap cap2 : Nat) (n1 : a = none → cap = 0) (n2 : a2 = none → cap2 = 0) (l m : List Rng) (hl : l.length ≤ 281474976710656) (hm : m.length ≤ 281474976710656) (r : Int) (w : World) (hrow : RowAt w a l) (hrow2 : RowAt w a2 m) (h1 : checkV l = 0) (h2 : checkV m = 0) (hr : 0 ≤ r ∧ r ≤ 1114111) (hu : uniC [l, m] = 0) (hmm : meetC [l, m] ≠ 0) (hd : minusC l m = 0) (hn : notC l = 0) (hi : hasB l r = true) (hj : hasB m r = false) :
    Calls Tryd.prog 3 #[.slice a l.length cap, .slice a2 m.length cap2, .int .i32 r] w fun e w' => e = .returned (.bool true) ∧ Below w.heap.size w w' := by
  have hr1 : ∀ w', Below w.heap.size w w' → RowAt w' a l := fun w' hb => rowAt_below hrow (Nat.le_refl _) hb
  have hr2 : ∀ w', Below w.heap.size w w' → RowAt w' a2 m := fun w' hb => rowAt_below hrow2 (Nat.le_refl _) hb
  have H1 := hide (union_two a a2 cap cap2 n1 n2 l m hl hm w hrow hrow2)
  have H2 := hide (fun w' (hb : Below w.heap.size w w') => meet_two a a2 cap cap2 l m hl hm w' (hr1 w' hb) (hr2 w' hb))
  have H3 := hide (fun w' (hb : Below w.heap.size w w') => minus_any a a2 cap cap2 n2 l m hl hm w' (hr1 w' hb) (hr2 w' hb))
  have H4 := hide (fun w' (hb : Below w.heap.size w w') => not_any a cap l hl w' (hr1 w' hb))
  have H5 := hide (fun (a4 : Option Addr) (c4 : Nat) w' (ho : RowAt w' a4 (notL l)) => not_any a4 c4 (notL l) (by have := notL_le l; omega) w' ho)
  have HC1 := hide (fun w' (hb : Below w.heap.size w w') => rCheck_any a cap l hl w' (hr1 w' hb))
  have HC2 := hide (fun w' (hb : Below w.heap.size w w') => rCheck_any a2 cap2 m hm w' (hr2 w' hb))
  have HH1 := hide (fun w' (hb : Below w.heap.size w w') => has_any a cap l hl r w' (hr1 w' hb))
  have HH2 := hide (fun w' (hb : Below w.heap.size w w') => has_any a2 cap2 m hm r w' (hr2 w' hb))
  have HSa := hide (fun w' (hb : Below w.heap.size w w') => size_any a cap l hl w' (hr1 w' hb))
  have HU := hide (fun (x : Option Addr) (c : Nat) w' (ho : RowAt w' x (uniL [l, m])) => has_any x c (uniL [l, m]) (by have := uniL_le [l, m]; omega) r w' ho)
  have HM := hide (fun (x : Option Addr) (c : Nat) w' (ho : RowAt w' x (meetL [l, m])) => has_any x c (meetL [l, m]) (by have := meetL_le [l, m]; omega) r w' ho)
  have HD := hide (fun (x : Option Addr) (c : Nat) w' (ho : RowAt w' x (minusL l m)) => has_any x c (minusL l m) (by have := minusL_le l m; omega) r w' ho)
  have HN := hide (fun (x : Option Addr) (c : Nat) w' (ho : RowAt w' x (notL l)) => has_any x c (notL l) (by have := notL_le l; omega) r w' ho)
  have HSn := hide (fun (x : Option Addr) (c : Nat) w' (ho : RowAt w' x (notL l)) => size_any x c (notL l) (by have := notL_le l; omega) w' ho)
  have HE := hide (fun (x : Option Addr) (c : Nat) w' (ho : RowAt w' x (notL (notL l))) (hb : Below w.heap.size w w') => same_any x a c cap (notL (notL l)) l (by have := notL_le (notL l); omega) hl w' ho (hr1 w' hb))
  have HA := hide (fun w' (_ : Below w.heap.size w w') => awake_any w')
  have eU : hasB (uniL [l, m]) r = true := by rw [uni_has h1 h2 hu r, hi, hj]; rfl
  rw [eU] at HU
  rw [hu] at H1
  clear eU hu
  have hmm1 : (meetC [l, m] != 0) = true := by simpa using hmm
  have hmm2 : (meetC [l, m] == 0) = false := by simpa using hmm
  have eD : hasB (minusL l m) r = true := by rw [minus_has h1 h2 hd r hr, hi, hj]; rfl
  rw [eD] at HD
  rw [hd] at H3
  clear eD hd
  have eN : hasB (notL l) r = false := by rw [not_has h1 hn r hr, hi]; rfl
  have eS := not_size h1 hn
  have eK := not_not h1 hn
  have s1 : 0 ≤ sizeV l := by rw [size_sum h1, ← List.take_length (l := l), ← sizeTo_take l l.length (Nat.le_refl _)]; exact (sizeTo_bd (checkV_zero h1).1 l.length (Nat.le_refl _)).1
  have s2 : 0 ≤ sizeV (notL l) := by rw [size_sum (not_set h1 hn), ← List.take_length (l := notL l), ← sizeTo_take (notL l) (notL l).length (Nat.le_refl _)]; exact (sizeTo_bd (checkV_zero (not_set h1 hn)).1 (notL l).length (Nat.le_refl _)).1
  rw [eN] at HN
  rw [decide_eq_true eK.1] at HE
  rw [eK.2] at H5
  rw [hn] at H4
  have hs : (sizeV l + sizeV (notL l) != 1114112) = false := by simp [eS]
  generalize sizeV (notL l) = S2 at *
  generalize sizeV l = S1 at *
  clear eN eK hn
  rw [hi] at HH1
  rw [hj] at HH2
  rw [h1] at HC1
  rw [h2] at HC2
  have hr0 : ¬ r < 0 := by omega
  have hr3 : ¬ r > 1114111 := by omega
  clear h1 h2 hi hj hr
  generalize notL (notL l) = KL at *
  generalize notC (notL l) = KC at *
  generalize notL l = NL at *
  generalize uniL [l, m] = UL at *
  generalize meetL [l, m] = ML at *
  generalize minusL l m = DL at *
  generalize meetC [l, m] = MC at *
  clear hr1 hr2 hrow hrow2
  go_enter Tryd.func3, Tryd.ntmps3
  go_wp2_with fail
  refine (unhide H1).mono ?_
  rintro e w1 ⟨v1, rfl, hown1, hb1⟩
  have Hb1 := hide hb1; have Ho1 := hide hown1
  clear hb1 hown1
  go_wp2_with fail
  refine (unhide H2 _ (unhide Hb1)).mono ?_
  rintro e w2 ⟨v2, rfl, hown2, hb2⟩
  have Hr1 := hide (ownsRow_below (unhide Ho1) hb2 (Nat.le_refl _))
  have Hb2 := hide ((unhide Hb1).trans (below_le hb2 (unhide Hb1).size)); have Ho2 := hide hown2
  clear hb2 hown2 Ho1
  go_wp2_with fail
  refine (unhide H3 _ (unhide Hb2)).mono ?_
  rintro e w3 ⟨v3, rfl, hown3, hb3⟩
  have Hr1b := hide (ownsRow_below (unhide Hr1) hb3 (Nat.le_refl _))
  have Hr2b := hide (ownsRow_below (unhide Ho2) hb3 (Nat.le_refl _))
  have Hb3 := hide ((unhide Hb2).trans (below_le hb3 (unhide Hb2).size)); have Ho3 := hide hown3
  clear hb3 hown3 Hr1 Ho2
  go_wp2_with fail
  refine (unhide H4 _ (unhide Hb3)).mono ?_
  rintro e w4 ⟨v4, rfl, hown4, hb4⟩
  have Hr1c := hide (ownsRow_below (unhide Hr1b) hb4 (Nat.le_refl _))
  have Hr2c := hide (ownsRow_below (unhide Hr2b) hb4 (Nat.le_refl _))
  have Hr3c := hide (ownsRow_below (unhide Ho3) hb4 (Nat.le_refl _))
  have Hb4 := hide ((unhide Hb3).trans (below_le hb4 (unhide Hb3).size))
  clear hb4 Hr1b Hr2b Ho3
  obtain ⟨a4, c4, rfl⟩ := ownsRow_slice hown4
  have H5b := hide (unhide H5 a4 c4 w4 (rowAt_own hown4))
  have Ho4 := hide hown4
  clear hown4 H5
  go_wp2_with fail
  refine (unhide H5b).mono ?_
  rintro e w5 ⟨v5, rfl, o5, hb5⟩
  have o1 := ownsRow_below (unhide Hr1c) hb5 (Nat.le_refl _)
  have o2 := ownsRow_below (unhide Hr2c) hb5 (Nat.le_refl _)
  have o3 := ownsRow_below (unhide Hr3c) hb5 (Nat.le_refl _)
  have o4 := ownsRow_below (unhide Ho4) hb5 (Nat.le_refl _)
  have hb50 := (unhide Hb4).trans (below_le hb5 (unhide Hb4).size)
  clear hb5 Hr1c Hr2c Hr3c Ho4
  obtain ⟨a1, c1, rfl⟩ := ownsRow_slice o1
  obtain ⟨a2', c2, rfl⟩ := ownsRow_slice o2
  obtain ⟨a3, c3, rfl⟩ := ownsRow_slice o3
  obtain ⟨a5, c5, rfl⟩ := ownsRow_slice o5
  have up : ∀ w', Below w5.heap.size w5 w' → Below w.heap.size w w' := fun w' hb => hb50.trans (below_le hb hb50.size)
  have Hup := hide up
  have KC1 := hide (fun w' (hb : Below w5.heap.size w5 w') => unhide HC1 w' (up w' hb))
  have KC2 := hide (fun w' (hb : Below w5.heap.size w5 w') => unhide HC2 w' (up w' hb))
  have KH1 := hide (fun w' (hb : Below w5.heap.size w5 w') => unhide HH1 w' (up w' hb))
  have KH2 := hide (fun w' (hb : Below w5.heap.size w5 w') => unhide HH2 w' (up w' hb))
  have KSa := hide (fun w' (hb : Below w5.heap.size w5 w') => unhide HSa w' (up w' hb))
  have KA := hide (fun w' (hb : Below w5.heap.size w5 w') => unhide HA w' (up w' hb))
  have KU := hide (fun w' (hb : Below w5.heap.size w5 w') => unhide HU a1 c1 w' (rowAt_below (rowAt_own o1) (Nat.le_refl _) hb))
  have KM := hide (fun w' (hb : Below w5.heap.size w5 w') => unhide HM a2' c2 w' (rowAt_below (rowAt_own o2) (Nat.le_refl _) hb))
  have KD := hide (fun w' (hb : Below w5.heap.size w5 w') => unhide HD a3 c3 w' (rowAt_below (rowAt_own o3) (Nat.le_refl _) hb))
  have KN := hide (fun w' (hb : Below w5.heap.size w5 w') => unhide HN a4 c4 w' (rowAt_below (rowAt_own o4) (Nat.le_refl _) hb))
  have KSn := hide (fun w' (hb : Below w5.heap.size w5 w') => unhide HSn a4 c4 w' (rowAt_below (rowAt_own o4) (Nat.le_refl _) hb))
  have KE := hide (fun w' (hb : Below w5.heap.size w5 w') => unhide HE a5 c5 w' (rowAt_below (rowAt_own o5) (Nat.le_refl _) hb) (up w' hb))
  have Hc5 := hide (Below.refl w5.heap.size w5)
  clear o1 o2 o3 o4 o5 up hb50 HC1 HC2 HH1 HH2 HSa HA HU HM HD HN HSn HE H1 H2 H3 H4 H5b Hb1 Hb2 Hb3 Hb4
  go_wp2_with fail
  refine (unhide KC1 _ (unhide Hc5)).mono ?_
  rintro e w6 ⟨rfl, hb6⟩
  have Hc6 := hide ((unhide Hc5).trans (below_le hb6 (unhide Hc5).size))
  clear hb6
  go_wp2_with fail
  refine (unhide KC2 _ (unhide Hc6)).mono ?_
  rintro e w7 ⟨rfl, hb7⟩
  have Hc7 := hide ((unhide Hc6).trans (below_le hb7 (unhide Hc6).size))
  clear hb7
  go_wp2_with fail
  refine (unhide KH1 _ (unhide Hc7)).mono ?_
  rintro e w8 ⟨rfl, hb8⟩
  have Hc8 := hide ((unhide Hc7).trans (below_le hb8 (unhide Hc7).size))
  clear hb8
  go_wp2_with fail
  refine (unhide KH2 _ (unhide Hc8)).mono ?_
  rintro e w9 ⟨rfl, hb9⟩
  have Hc9 := hide ((unhide Hc8).trans (below_le hb9 (unhide Hc8).size))
  clear hb9
  go_wp2_with fail
  refine (unhide KU _ (unhide Hc9)).mono ?_
  rintro e w10 ⟨rfl, hb10⟩
  have Hc10 := hide ((unhide Hc9).trans (below_le hb10 (unhide Hc9).size))
  clear hb10
  go_wp2_with fail
  refine (unhide KD _ (unhide Hc10)).mono ?_
  rintro e w11 ⟨rfl, hb11⟩
  have Hc11 := hide ((unhide Hc10).trans (below_le hb11 (unhide Hc10).size))
  clear hb11
  go_wp2_with fail
  refine (unhide KN _ (unhide Hc11)).mono ?_
  rintro e w12 ⟨rfl, hb12⟩
  have Hc12 := hide ((unhide Hc11).trans (below_le hb12 (unhide Hc11).size))
  clear hb12
  go_wp2_with fail
  refine (unhide KSa _ (unhide Hc12)).mono ?_
  rintro e w13 ⟨rfl, hb13⟩
  have Hc13 := hide ((unhide Hc12).trans (below_le hb13 (unhide Hc12).size))
  clear hb13
  go_wp2_with fail
  refine (unhide KSn _ (unhide Hc13)).mono ?_
  rintro e w14 ⟨rfl, hb14⟩
  have Hc14 := hide ((unhide Hc13).trans (below_le hb14 (unhide Hc13).size))
  clear hb14
  go_wp2_with fail
  refine (unhide KE _ (unhide Hc14)).mono ?_
  rintro e w15 ⟨rfl, hb15⟩
  have Hc15 := hide ((unhide Hc14).trans (below_le hb15 (unhide Hc14).size))
  clear hb15
  go_wp2_with fail
  refine (unhide KA _ (unhide Hc15)).mono ?_
  rintro e w16 ⟨rfl, hb16⟩
  have Hc16 := hide ((unhide Hc15).trans (below_le hb16 (unhide Hc15).size))
  clear hb16
  go_wp2
  go_ret
  exact ⟨rfl, unhide Hup _ (unhide Hc16)⟩

set_option maxHeartbeats 4000000 in
set_option maxRecDepth 100000 in
theorem alg_in_ynynyn (a a2 : Option Addr) (cap cap2 : Nat) (n1 : a = none → cap = 0) (n2 : a2 = none → cap2 = 0) (l m : List Rng) (hl : l.length ≤ 281474976710656) (hm : m.length ≤ 281474976710656) (r : Int) (w : World) (hrow : RowAt w a l) (hrow2 : RowAt w a2 m) (h1 : checkV l = 0) (h2 : checkV m = 0) (hr : 0 ≤ r ∧ r ≤ 1114111) (hu : uniC [l, m] = 0) (hmm : meetC [l, m] ≠ 0) (hd : minusC l m = 0) (hn : notC l ≠ 0) (hi : hasB l r = true) (hj : hasB m r = false) :
    Calls Tryd.prog 3 #[.slice a l.length cap, .slice a2 m.length cap2, .int .i32 r] w fun e w' => e = .returned (.bool true) ∧ Below w.heap.size w w' := by
  have hr1 : ∀ w', Below w.heap.size w w' → RowAt w' a l := fun w' hb => rowAt_below hrow (Nat.le_refl _) hb
  have hr2 : ∀ w', Below w.heap.size w w' → RowAt w' a2 m := fun w' hb => rowAt_below hrow2 (Nat.le_refl _) hb
  have H1 := hide (union_two a a2 cap cap2 n1 n2 l m hl hm w hrow hrow2)
  have H2 := hide (fun w' (hb : Below w.heap.size w w') => meet_two a a2 cap cap2 l m hl hm w' (hr1 w' hb) (hr2 w' hb))
  have H3 := hide (fun w' (hb : Below w.heap.size w w') => minus_any a a2 cap cap2 n2 l m hl hm w' (hr1 w' hb) (hr2 w' hb))
  have H4 := hide (fun w' (hb : Below w.heap.size w w') => not_any a cap l hl w' (hr1 w' hb))
  have H5 := hide (fun (a4 : Option Addr) (c4 : Nat) w' (ho : RowAt w' a4 (notL l)) => not_any a4 c4 (notL l) (by have := notL_le l; omega) w' ho)
  have HC1 := hide (fun w' (hb : Below w.heap.size w w') => rCheck_any a cap l hl w' (hr1 w' hb))
  have HC2 := hide (fun w' (hb : Below w.heap.size w w') => rCheck_any a2 cap2 m hm w' (hr2 w' hb))
  have HH1 := hide (fun w' (hb : Below w.heap.size w w') => has_any a cap l hl r w' (hr1 w' hb))
  have HH2 := hide (fun w' (hb : Below w.heap.size w w') => has_any a2 cap2 m hm r w' (hr2 w' hb))
  have HSa := hide (fun w' (hb : Below w.heap.size w w') => size_any a cap l hl w' (hr1 w' hb))
  have HU := hide (fun (x : Option Addr) (c : Nat) w' (ho : RowAt w' x (uniL [l, m])) => has_any x c (uniL [l, m]) (by have := uniL_le [l, m]; omega) r w' ho)
  have HM := hide (fun (x : Option Addr) (c : Nat) w' (ho : RowAt w' x (meetL [l, m])) => has_any x c (meetL [l, m]) (by have := meetL_le [l, m]; omega) r w' ho)
  have HD := hide (fun (x : Option Addr) (c : Nat) w' (ho : RowAt w' x (minusL l m)) => has_any x c (minusL l m) (by have := minusL_le l m; omega) r w' ho)
  have HN := hide (fun (x : Option Addr) (c : Nat) w' (ho : RowAt w' x (notL l)) => has_any x c (notL l) (by have := notL_le l; omega) r w' ho)
  have HSn := hide (fun (x : Option Addr) (c : Nat) w' (ho : RowAt w' x (notL l)) => size_any x c (notL l) (by have := notL_le l; omega) w' ho)
  have HE := hide (fun (x : Option Addr) (c : Nat) w' (ho : RowAt w' x (notL (notL l))) (hb : Below w.heap.size w w') => same_any x a c cap (notL (notL l)) l (by have := notL_le (notL l); omega) hl w' ho (hr1 w' hb))
  have HA := hide (fun w' (_ : Below w.heap.size w w') => awake_any w')
  have eU : hasB (uniL [l, m]) r = true := by rw [uni_has h1 h2 hu r, hi, hj]; rfl
  rw [eU] at HU
  rw [hu] at H1
  clear eU hu
  have hmm1 : (meetC [l, m] != 0) = true := by simpa using hmm
  have hmm2 : (meetC [l, m] == 0) = false := by simpa using hmm
  have eD : hasB (minusL l m) r = true := by rw [minus_has h1 h2 hd r hr, hi, hj]; rfl
  rw [eD] at HD
  rw [hd] at H3
  clear eD hd
  have hn1 : (notC l != 0) = true := by simpa using hn
  have hn2 : (notC l == 0) = false := by simpa using hn
  rw [hi] at HH1
  rw [hj] at HH2
  rw [h1] at HC1
  rw [h2] at HC2
  have hr0 : ¬ r < 0 := by omega
  have hr3 : ¬ r > 1114111 := by omega
  clear h1 h2 hi hj hr
  generalize notL (notL l) = KL at *
  generalize notC (notL l) = KC at *
  generalize notL l = NL at *
  generalize uniL [l, m] = UL at *
  generalize meetL [l, m] = ML at *
  generalize minusL l m = DL at *
  generalize meetC [l, m] = MC at *
  generalize notC l = NC at *
  clear hr1 hr2 hrow hrow2
  go_enter Tryd.func3, Tryd.ntmps3
  go_wp2_with fail
  refine (unhide H1).mono ?_
  rintro e w1 ⟨v1, rfl, hown1, hb1⟩
  have Hb1 := hide hb1; have Ho1 := hide hown1
  clear hb1 hown1
  go_wp2_with fail
  refine (unhide H2 _ (unhide Hb1)).mono ?_
  rintro e w2 ⟨v2, rfl, hown2, hb2⟩
  have Hr1 := hide (ownsRow_below (unhide Ho1) hb2 (Nat.le_refl _))
  have Hb2 := hide ((unhide Hb1).trans (below_le hb2 (unhide Hb1).size)); have Ho2 := hide hown2
  clear hb2 hown2 Ho1
  go_wp2_with fail
  refine (unhide H3 _ (unhide Hb2)).mono ?_
  rintro e w3 ⟨v3, rfl, hown3, hb3⟩
  have Hr1b := hide (ownsRow_below (unhide Hr1) hb3 (Nat.le_refl _))
  have Hr2b := hide (ownsRow_below (unhide Ho2) hb3 (Nat.le_refl _))
  have Hb3 := hide ((unhide Hb2).trans (below_le hb3 (unhide Hb2).size)); have Ho3 := hide hown3
  clear hb3 hown3 Hr1 Ho2
  go_wp2_with fail
  refine (unhide H4 _ (unhide Hb3)).mono ?_
  rintro e w4 ⟨v4, rfl, hown4, hb4⟩
  have Hr1c := hide (ownsRow_below (unhide Hr1b) hb4 (Nat.le_refl _))
  have Hr2c := hide (ownsRow_below (unhide Hr2b) hb4 (Nat.le_refl _))
  have Hr3c := hide (ownsRow_below (unhide Ho3) hb4 (Nat.le_refl _))
  have Hb4 := hide ((unhide Hb3).trans (below_le hb4 (unhide Hb3).size))
  clear hb4 Hr1b Hr2b Ho3
  obtain ⟨a4, c4, rfl⟩ := ownsRow_slice hown4
  have H5b := hide (unhide H5 a4 c4 w4 (rowAt_own hown4))
  have Ho4 := hide hown4
  clear hown4 H5
  go_wp2_with fail
  refine (unhide H5b).mono ?_
  rintro e w5 ⟨v5, rfl, o5, hb5⟩
  have o1 := ownsRow_below (unhide Hr1c) hb5 (Nat.le_refl _)
  have o2 := ownsRow_below (unhide Hr2c) hb5 (Nat.le_refl _)
  have o3 := ownsRow_below (unhide Hr3c) hb5 (Nat.le_refl _)
  have o4 := ownsRow_below (unhide Ho4) hb5 (Nat.le_refl _)
  have hb50 := (unhide Hb4).trans (below_le hb5 (unhide Hb4).size)
  clear hb5 Hr1c Hr2c Hr3c Ho4
  obtain ⟨a1, c1, rfl⟩ := ownsRow_slice o1
  obtain ⟨a2', c2, rfl⟩ := ownsRow_slice o2
  obtain ⟨a3, c3, rfl⟩ := ownsRow_slice o3
  obtain ⟨a5, c5, rfl⟩ := ownsRow_slice o5
  have up : ∀ w', Below w5.heap.size w5 w' → Below w.heap.size w w' := fun w' hb => hb50.trans (below_le hb hb50.size)
  have Hup := hide up
  have KC1 := hide (fun w' (hb : Below w5.heap.size w5 w') => unhide HC1 w' (up w' hb))
  have KC2 := hide (fun w' (hb : Below w5.heap.size w5 w') => unhide HC2 w' (up w' hb))
  have KH1 := hide (fun w' (hb : Below w5.heap.size w5 w') => unhide HH1 w' (up w' hb))
  have KH2 := hide (fun w' (hb : Below w5.heap.size w5 w') => unhide HH2 w' (up w' hb))
  have KSa := hide (fun w' (hb : Below w5.heap.size w5 w') => unhide HSa w' (up w' hb))
  have KA := hide (fun w' (hb : Below w5.heap.size w5 w') => unhide HA w' (up w' hb))
  have KU := hide (fun w' (hb : Below w5.heap.size w5 w') => unhide HU a1 c1 w' (rowAt_below (rowAt_own o1) (Nat.le_refl _) hb))
  have KM := hide (fun w' (hb : Below w5.heap.size w5 w') => unhide HM a2' c2 w' (rowAt_below (rowAt_own o2) (Nat.le_refl _) hb))
  have KD := hide (fun w' (hb : Below w5.heap.size w5 w') => unhide HD a3 c3 w' (rowAt_below (rowAt_own o3) (Nat.le_refl _) hb))
  have KN := hide (fun w' (hb : Below w5.heap.size w5 w') => unhide HN a4 c4 w' (rowAt_below (rowAt_own o4) (Nat.le_refl _) hb))
  have KSn := hide (fun w' (hb : Below w5.heap.size w5 w') => unhide HSn a4 c4 w' (rowAt_below (rowAt_own o4) (Nat.le_refl _) hb))
  have KE := hide (fun w' (hb : Below w5.heap.size w5 w') => unhide HE a5 c5 w' (rowAt_below (rowAt_own o5) (Nat.le_refl _) hb) (up w' hb))
  have Hc5 := hide (Below.refl w5.heap.size w5)
  clear o1 o2 o3 o4 o5 up hb50 HC1 HC2 HH1 HH2 HSa HA HU HM HD HN HSn HE H1 H2 H3 H4 H5b Hb1 Hb2 Hb3 Hb4
  go_wp2_with fail
  refine (unhide KC1 _ (unhide Hc5)).mono ?_
  rintro e w6 ⟨rfl, hb6⟩
  have Hc6 := hide ((unhide Hc5).trans (below_le hb6 (unhide Hc5).size))
  clear hb6
  go_wp2_with fail
  refine (unhide KC2 _ (unhide Hc6)).mono ?_
  rintro e w7 ⟨rfl, hb7⟩
  have Hc7 := hide ((unhide Hc6).trans (below_le hb7 (unhide Hc6).size))
  clear hb7
  go_wp2_with fail
  refine (unhide KH1 _ (unhide Hc7)).mono ?_
  rintro e w8 ⟨rfl, hb8⟩
  have Hc8 := hide ((unhide Hc7).trans (below_le hb8 (unhide Hc7).size))
  clear hb8
  go_wp2_with fail
  refine (unhide KH2 _ (unhide Hc8)).mono ?_
  rintro e w9 ⟨rfl, hb9⟩
  have Hc9 := hide ((unhide Hc8).trans (below_le hb9 (unhide Hc8).size))
  clear hb9
  go_wp2_with fail
  refine (unhide KU _ (unhide Hc9)).mono ?_
  rintro e w10 ⟨rfl, hb10⟩
  have Hc10 := hide ((unhide Hc9).trans (below_le hb10 (unhide Hc9).size))
  clear hb10
  go_wp2_with fail
  refine (unhide KD _ (unhide Hc10)).mono ?_
  rintro e w11 ⟨rfl, hb11⟩
  have Hc11 := hide ((unhide Hc10).trans (below_le hb11 (unhide Hc10).size))
  clear hb11
  go_wp2_with fail
  refine (unhide KA _ (unhide Hc11)).mono ?_
  rintro e w12 ⟨rfl, hb12⟩
  have Hc12 := hide ((unhide Hc11).trans (below_le hb12 (unhide Hc11).size))
  clear hb12
  go_wp2
  go_ret
  exact ⟨rfl, unhide Hup _ (unhide Hc12)⟩

set_option maxHeartbeats 4000000 in
set_option maxRecDepth 100000 in
theorem alg_in_ynnyyn (a a2 : Option Addr) (cap cap2 : Nat) (n1 : a = none → cap = 0) (n2 : a2 = none → cap2 = 0) (l m : List Rng) (hl : l.length ≤ 281474976710656) (hm : m.length ≤ 281474976710656) (r : Int) (w : World) (hrow : RowAt w a l) (hrow2 : RowAt w a2 m) (h1 : checkV l = 0) (h2 : checkV m = 0) (hr : 0 ≤ r ∧ r ≤ 1114111) (hu : uniC [l, m] = 0) (hmm : meetC [l, m] ≠ 0) (hd : minusC l m ≠ 0) (hn : notC l = 0) (hi : hasB l r = true) (hj : hasB m r = false) :
    Calls Tryd.prog 3 #[.slice a l.length cap, .slice a2 m.length cap2, .int .i32 r] w fun e w' => e = .returned (.bool true) ∧ Below w.heap.size w w' := by
  have hr1 : ∀ w', Below w.heap.size w w' → RowAt w' a l := fun w' hb => rowAt_below hrow (Nat.le_refl _) hb
  have hr2 : ∀ w', Below w.heap.size w w' → RowAt w' a2 m := fun w' hb => rowAt_below hrow2 (Nat.le_refl _) hb
  have H1 := hide (union_two a a2 cap cap2 n1 n2 l m hl hm w hrow hrow2)
  have H2 := hide (fun w' (hb : Below w.heap.size w w') => meet_two a a2 cap cap2 l m hl hm w' (hr1 w' hb) (hr2 w' hb))
  have H3 := hide (fun w' (hb : Below w.heap.size w w') => minus_any a a2 cap cap2 n2 l m hl hm w' (hr1 w' hb) (hr2 w' hb))
  have H4 := hide (fun w' (hb : Below w.heap.size w w') => not_any a cap l hl w' (hr1 w' hb))
  have H5 := hide (fun (a4 : Option Addr) (c4 : Nat) w' (ho : RowAt w' a4 (notL l)) => not_any a4 c4 (notL l) (by have := notL_le l; omega) w' ho)
  have HC1 := hide (fun w' (hb : Below w.heap.size w w') => rCheck_any a cap l hl w' (hr1 w' hb))
  have HC2 := hide (fun w' (hb : Below w.heap.size w w') => rCheck_any a2 cap2 m hm w' (hr2 w' hb))
  have HH1 := hide (fun w' (hb : Below w.heap.size w w') => has_any a cap l hl r w' (hr1 w' hb))
  have HH2 := hide (fun w' (hb : Below w.heap.size w w') => has_any a2 cap2 m hm r w' (hr2 w' hb))
  have HSa := hide (fun w' (hb : Below w.heap.size w w') => size_any a cap l hl w' (hr1 w' hb))
  have HU := hide (fun (x : Option Addr) (c : Nat) w' (ho : RowAt w' x (uniL [l, m])) => has_any x c (uniL [l, m]) (by have := uniL_le [l, m]; omega) r w' ho)
  have HM := hide (fun (x : Option Addr) (c : Nat) w' (ho : RowAt w' x (meetL [l, m])) => has_any x c (meetL [l, m]) (by have := meetL_le [l, m]; omega) r w' ho)
  have HD := hide (fun (x : Option Addr) (c : Nat) w' (ho : RowAt w' x (minusL l m)) => has_any x c (minusL l m) (by have := minusL_le l m; omega) r w' ho)
  have HN := hide (fun (x : Option Addr) (c : Nat) w' (ho : RowAt w' x (notL l)) => has_any x c (notL l) (by have := notL_le l; omega) r w' ho)
  have HSn := hide (fun (x : Option Addr) (c : Nat) w' (ho : RowAt w' x (notL l)) => size_any x c (notL l) (by have := notL_le l; omega) w' ho)
  have HE := hide (fun (x : Option Addr) (c : Nat) w' (ho : RowAt w' x (notL (notL l))) (hb : Below w.heap.size w w') => same_any x a c cap (notL (notL l)) l (by have := notL_le (notL l); omega) hl w' ho (hr1 w' hb))
  have HA := hide (fun w' (_ : Below w.heap.size w w') => awake_any w')
  have eU : hasB (uniL [l, m]) r = true := by rw [uni_has h1 h2 hu r, hi, hj]; rfl
  rw [eU] at HU
  rw [hu] at H1
  clear eU hu
  have hmm1 : (meetC [l, m] != 0) = true := by simpa using hmm
  have hmm2 : (meetC [l, m] == 0) = false := by simpa using hmm
  have hd1 : (minusC l m != 0) = true := by simpa using hd
  have hd2 : (minusC l m == 0) = false := by simpa using hd
  have eN : hasB (notL l) r = false := by rw [not_has h1 hn r hr, hi]; rfl
  have eS := not_size h1 hn
  have eK := not_not h1 hn
  have s1 : 0 ≤ sizeV l := by rw [size_sum h1, ← List.take_length (l := l), ← sizeTo_take l l.length (Nat.le_refl _)]; exact (sizeTo_bd (checkV_zero h1).1 l.length (Nat.le_refl _)).1
  have s2 : 0 ≤ sizeV (notL l) := by rw [size_sum (not_set h1 hn), ← List.take_length (l := notL l), ← sizeTo_take (notL l) (notL l).length (Nat.le_refl _)]; exact (sizeTo_bd (checkV_zero (not_set h1 hn)).1 (notL l).length (Nat.le_refl _)).1
  rw [eN] at HN
  rw [decide_eq_true eK.1] at HE
  rw [eK.2] at H5
  rw [hn] at H4
  have hs : (sizeV l + sizeV (notL l) != 1114112) = false := by simp [eS]
  generalize sizeV (notL l) = S2 at *
  generalize sizeV l = S1 at *
  clear eN eK hn
  rw [hi] at HH1
  rw [hj] at HH2
  rw [h1] at HC1
  rw [h2] at HC2
  have hr0 : ¬ r < 0 := by omega
  have hr3 : ¬ r > 1114111 := by omega
  clear h1 h2 hi hj hr
  generalize notL (notL l) = KL at *
  generalize notC (notL l) = KC at *
  generalize notL l = NL at *
  generalize uniL [l, m] = UL at *
  generalize meetL [l, m] = ML at *
  generalize minusL l m = DL at *
  generalize meetC [l, m] = MC at *
  generalize minusC l m = DC at *
  clear hr1 hr2 hrow hrow2
  go_enter Tryd.func3, Tryd.ntmps3
  go_wp2_with fail
  refine (unhide H1).mono ?_
  rintro e w1 ⟨v1, rfl, hown1, hb1⟩
  have Hb1 := hide hb1; have Ho1 := hide hown1
  clear hb1 hown1
  go_wp2_with fail
  refine (unhide H2 _ (unhide Hb1)).mono ?_
  rintro e w2 ⟨v2, rfl, hown2, hb2⟩
  have Hr1 := hide (ownsRow_below (unhide Ho1) hb2 (Nat.le_refl _))
  have Hb2 := hide ((unhide Hb1).trans (below_le hb2 (unhide Hb1).size)); have Ho2 := hide hown2
  clear hb2 hown2 Ho1
  go_wp2_with fail
  refine (unhide H3 _ (unhide Hb2)).mono ?_
  rintro e w3 ⟨v3, rfl, hown3, hb3⟩
  have Hr1b := hide (ownsRow_below (unhide Hr1) hb3 (Nat.le_refl _))
  have Hr2b := hide (ownsRow_below (unhide Ho2) hb3 (Nat.le_refl _))
  have Hb3 := hide ((unhide Hb2).trans (below_le hb3 (unhide Hb2).size)); have Ho3 := hide hown3
  clear hb3 hown3 Hr1 Ho2
  go_wp2_with fail
  refine (unhide H4 _ (unhide Hb3)).mono ?_
  rintro e w4 ⟨v4, rfl, hown4, hb4⟩
  have Hr1c := hide (ownsRow_below (unhide Hr1b) hb4 (Nat.le_refl _))
  have Hr2c := hide (ownsRow_below (unhide Hr2b) hb4 (Nat.le_refl _))
  have Hr3c := hide (ownsRow_below (unhide Ho3) hb4 (Nat.le_refl _))
  have Hb4 := hide ((unhide Hb3).trans (below_le hb4 (unhide Hb3).size))
  clear hb4 Hr1b Hr2b Ho3
  obtain ⟨a4, c4, rfl⟩ := ownsRow_slice hown4
  have H5b := hide (unhide H5 a4 c4 w4 (rowAt_own hown4))
  have Ho4 := hide hown4
  clear hown4 H5
  go_wp2_with fail
  refine (unhide H5b).mono ?_
  rintro e w5 ⟨v5, rfl, o5, hb5⟩
  have o1 := ownsRow_below (unhide Hr1c) hb5 (Nat.le_refl _)
  have o2 := ownsRow_below (unhide Hr2c) hb5 (Nat.le_refl _)
  have o3 := ownsRow_below (unhide Hr3c) hb5 (Nat.le_refl _)
  have o4 := ownsRow_below (unhide Ho4) hb5 (Nat.le_refl _)
  have hb50 := (unhide Hb4).trans (below_le hb5 (unhide Hb4).size)
  clear hb5 Hr1c Hr2c Hr3c Ho4
  obtain ⟨a1, c1, rfl⟩ := ownsRow_slice o1
  obtain ⟨a2', c2, rfl⟩ := ownsRow_slice o2
  obtain ⟨a3, c3, rfl⟩ := ownsRow_slice o3
  obtain ⟨a5, c5, rfl⟩ := ownsRow_slice o5
  have up : ∀ w', Below w5.heap.size w5 w' → Below w.heap.size w w' := fun w' hb => hb50.trans (below_le hb hb50.size)
  have Hup := hide up
  have KC1 := hide (fun w' (hb : Below w5.heap.size w5 w') => unhide HC1 w' (up w' hb))
  have KC2 := hide (fun w' (hb : Below w5.heap.size w5 w') => unhide HC2 w' (up w' hb))
  have KH1 := hide (fun w' (hb : Below w5.heap.size w5 w') => unhide HH1 w' (up w' hb))
  have KH2 := hide (fun w' (hb : Below w5.heap.size w5 w') => unhide HH2 w' (up w' hb))
  have KSa := hide (fun w' (hb : Below w5.heap.size w5 w') => unhide HSa w' (up w' hb))
  have KA := hide (fun w' (hb : Below w5.heap.size w5 w') => unhide HA w' (up w' hb))
  have KU := hide (fun w' (hb : Below w5.heap.size w5 w') => unhide HU a1 c1 w' (rowAt_below (rowAt_own o1) (Nat.le_refl _) hb))
  have KM := hide (fun w' (hb : Below w5.heap.size w5 w') => unhide HM a2' c2 w' (rowAt_below (rowAt_own o2) (Nat.le_refl _) hb))
  have KD := hide (fun w' (hb : Below w5.heap.size w5 w') => unhide HD a3 c3 w' (rowAt_below (rowAt_own o3) (Nat.le_refl _) hb))
  have KN := hide (fun w' (hb : Below w5.heap.size w5 w') => unhide HN a4 c4 w' (rowAt_below (rowAt_own o4) (Nat.le_refl _) hb))
  have KSn := hide (fun w' (hb : Below w5.heap.size w5 w') => unhide HSn a4 c4 w' (rowAt_below (rowAt_own o4) (Nat.le_refl _) hb))
  have KE := hide (fun w' (hb : Below w5.heap.size w5 w') => unhide HE a5 c5 w' (rowAt_below (rowAt_own o5) (Nat.le_refl _) hb) (up w' hb))
  have Hc5 := hide (Below.refl w5.heap.size w5)
  clear o1 o2 o3 o4 o5 up hb50 HC1 HC2 HH1 HH2 HSa HA HU HM HD HN HSn HE H1 H2 H3 H4 H5b Hb1 Hb2 Hb3 Hb4
  go_wp2_with fail
  refine (unhide KC1 _ (unhide Hc5)).mono ?_
  rintro e w6 ⟨rfl, hb6⟩
  have Hc6 := hide ((unhide Hc5).trans (below_le hb6 (unhide Hc5).size))
  clear hb6
  go_wp2_with fail
  refine (unhide KC2 _ (unhide Hc6)).mono ?_
  rintro e w7 ⟨rfl, hb7⟩
  have Hc7 := hide ((unhide Hc6).trans (below_le hb7 (unhide Hc6).size))
  clear hb7
  go_wp2_with fail
  refine (unhide KH1 _ (unhide Hc7)).mono ?_
  rintro e w8 ⟨rfl, hb8⟩
  have Hc8 := hide ((unhide Hc7).trans (below_le hb8 (unhide Hc7).size))
  clear hb8
  go_wp2_with fail
  refine (unhide KH2 _ (unhide Hc8)).mono ?_
  rintro e w9 ⟨rfl, hb9⟩
  have Hc9 := hide ((unhide Hc8).trans (below_le hb9 (unhide Hc8).size))
  clear hb9
  go_wp2_with fail
  refine (unhide KU _ (unhide Hc9)).mono ?_
  rintro e w10 ⟨rfl, hb10⟩
  have Hc10 := hide ((unhide Hc9).trans (below_le hb10 (unhide Hc9).size))
  clear hb10
  go_wp2_with fail
  refine (unhide KN _ (unhide Hc10)).mono ?_
  rintro e w11 ⟨rfl, hb11⟩
  have Hc11 := hide ((unhide Hc10).trans (below_le hb11 (unhide Hc10).size))
  clear hb11
  go_wp2_with fail
  refine (unhide KSa _ (unhide Hc11)).mono ?_
  rintro e w12 ⟨rfl, hb12⟩
  have Hc12 := hide ((unhide Hc11).trans (below_le hb12 (unhide Hc11).size))
  clear hb12
  go_wp2_with fail
  refine (unhide KSn _ (unhide Hc12)).mono ?_
  rintro e w13 ⟨rfl, hb13⟩
  have Hc13 := hide ((unhide Hc12).trans (below_le hb13 (unhide Hc12).size))
  clear hb13
  go_wp2_with fail
  refine (unhide KE _ (unhide Hc13)).mono ?_
  rintro e w14 ⟨rfl, hb14⟩
  have Hc14 := hide ((unhide Hc13).trans (below_le hb14 (unhide Hc13).size))
  clear hb14
  go_wp2_with fail
  refine (unhide KA _ (unhide Hc14)).mono ?_
  rintro e w15 ⟨rfl, hb15⟩
  have Hc15 := hide ((unhide Hc14).trans (below_le hb15 (unhide Hc14).size))
  clear hb15
  go_wp2
  go_ret
  exact ⟨rfl, unhide Hup _ (unhide Hc15)⟩

set_option maxHeartbeats 4000000 in
set_option maxRecDepth 100000 in
theorem alg_in_ynnnyn (a a2 : Option Addr) (cap cap2 : Nat) (n1 : a = none → cap = 0) (n2 : a2 = none → cap2 = 0) (l m : List Rng) (hl : l.length ≤ 281474976710656) (hm : m.length ≤ 281474976710656) (r : Int) (w : World) (hrow : RowAt w a l) (hrow2 : RowAt w a2 m) (h1 : checkV l = 0) (h2 : checkV m = 0) (hr : 0 ≤ r ∧ r ≤ 1114111) (hu : uniC [l, m] = 0) (hmm : meetC [l, m] ≠ 0) (hd : minusC l m ≠ 0) (hn : notC l ≠ 0) (hi : hasB l r = true) (hj : hasB m r = false) :
    Calls Tryd.prog 3 #[.slice a l.length cap, .slice a2 m.length cap2, .int .i32 r] w fun e w' => e = .returned (.bool true) ∧ Below w.heap.size w w' := by
  have hr1 : ∀ w', Below w.heap.size w w' → RowAt w' a l := fun w' hb => rowAt_below hrow (Nat.le_refl _) hb
  have hr2 : ∀ w', Below w.heap.size w w' → RowAt w' a2 m := fun w' hb => rowAt_below hrow2 (Nat.le_refl _) hb
  have H1 := hide (union_two a a2 cap cap2 n1 n2 l m hl hm w hrow hrow2)
  have H2 := hide (fun w' (hb : Below w.heap.size w w') => meet_two a a2 cap cap2 l m hl hm w' (hr1 w' hb) (hr2 w' hb))
  have H3 := hide (fun w' (hb : Below w.heap.size w w') => minus_any a a2 cap cap2 n2 l m hl hm w' (hr1 w' hb) (hr2 w' hb))
  have H4 := hide (fun w' (hb : Below w.heap.size w w') => not_any a cap l hl w' (hr1 w' hb))
  have H5 := hide (fun (a4 : Option Addr) (c4 : Nat) w' (ho : RowAt w' a4 (notL l)) => not_any a4 c4 (notL l) (by have := notL_le l; omega) w' ho)
  have HC1 := hide (fun w' (hb : Below w.heap.size w w') => rCheck_any a cap l hl w' (hr1 w' hb))
  have HC2 := hide (fun w' (hb : Below w.heap.size w w') => rCheck_any a2 cap2 m hm w' (hr2 w' hb))
  have HH1 := hide (fun w' (hb : Below w.heap.size w w') => has_any a cap l hl r w' (hr1 w' hb))
  have HH2 := hide (fun w' (hb : Below w.heap.size w w') => has_any a2 cap2 m hm r w' (hr2 w' hb))
  have HSa := hide (fun w' (hb : Below w.heap.size w w') => size_any a cap l hl w' (hr1 w' hb))
  have HU := hide (fun (x : Option Addr) (c : Nat) w' (ho : RowAt w' x (uniL [l, m])) => has_any x c (uniL [l, m]) (by have := uniL_le [l, m]; omega) r w' ho)
  have HM := hide (fun (x : Option Addr) (c : Nat) w' (ho : RowAt w' x (meetL [l, m])) => has_any x c (meetL [l, m]) (by have := meetL_le [l, m]; omega) r w' ho)
  have HD := hide (fun (x : Option Addr) (c : Nat) w' (ho : RowAt w' x (minusL l m)) => has_any x c (minusL l m) (by have := minusL_le l m; omega) r w' ho)
  have HN := hide (fun (x : Option Addr) (c : Nat) w' (ho : RowAt w' x (notL l)) => has_any x c (notL l) (by have := notL_le l; omega) r w' ho)
  have HSn := hide (fun (x : Option Addr) (c : Nat) w' (ho : RowAt w' x (notL l)) => size_any x c (notL l) (by have := notL_le l; omega) w' ho)
  have HE := hide (fun (x : Option Addr) (c : Nat) w' (ho : RowAt w' x (notL (notL l))) (hb : Below w.heap.size w w') => same_any x a c cap (notL (notL l)) l (by have := notL_le (notL l); omega) hl w' ho (hr1 w' hb))
  have HA := hide (fun w' (_ : Below w.heap.size w w') => awake_any w')
  have eU : hasB (uniL [l, m]) r = true := by rw [uni_has h1 h2 hu r, hi, hj]; rfl
  rw [eU] at HU
  rw [hu] at H1
  clear eU hu
  have hmm1 : (meetC [l, m] != 0) = true := by simpa using hmm
  have hmm2 : (meetC [l, m] == 0) = false := by simpa using hmm
  have hd1 : (minusC l m != 0) = true := by simpa using hd
  have hd2 : (minusC l m == 0) = false := by simpa using hd
  have hn1 : (notC l != 0) = true := by simpa using hn
  have hn2 : (notC l == 0) = false := by simpa using hn
  rw [hi] at HH1
  rw [hj] at HH2
  rw [h1] at HC1
  rw [h2] at HC2
  have hr0 : ¬ r < 0 := by omega
  have hr3 : ¬ r > 1114111 := by omega
  clear h1 h2 hi hj hr
  generalize notL (notL l) = KL at *
  generalize notC (notL l) = KC at *
  generalize notL l = NL at *
  generalize uniL [l, m] = UL at *
  generalize meetL [l, m] = ML at *
  generalize minusL l m = DL at *
  generalize meetC [l, m] = MC at *
  generalize minusC l m = DC at *
  generalize notC l = NC at *
  clear hr1 hr2 hrow hrow2
  go_enter Tryd.func3, Tryd.ntmps3
  go_wp2_with fail
  refine (unhide H1).mono ?_
  rintro e w1 ⟨v1, rfl, hown1, hb1⟩
  have Hb1 := hide hb1; have Ho1 := hide hown1
  clear hb1 hown1
  go_wp2_with fail
  refine (unhide H2 _ (unhide Hb1)).mono ?_
  rintro e w2 ⟨v2, rfl, hown2, hb2⟩
  have Hr1 := hide (ownsRow_below (unhide Ho1) hb2 (Nat.le_refl _))
  have Hb2 := hide ((unhide Hb1).trans (below_le hb2 (unhide Hb1).size)); have Ho2 := hide hown2
  clear hb2 hown2 Ho1
  go_wp2_with fail
  refine (unhide H3 _ (unhide Hb2)).mono ?_
  rintro e w3 ⟨v3, rfl, hown3, hb3⟩
  have Hr1b := hide (ownsRow_below (unhide Hr1) hb3 (Nat.le_refl _))
  have Hr2b := hide (ownsRow_below (unhide Ho2) hb3 (Nat.le_refl _))
  have Hb3 := hide ((unhide Hb2).trans (below_le hb3 (unhide Hb2).size)); have Ho3 := hide hown3
  clear hb3 hown3 Hr1 Ho2
  go_wp2_with fail
  refine (unhide H4 _ (unhide Hb3)).mono ?_
  rintro e w4 ⟨v4, rfl, hown4, hb4⟩
  have Hr1c := hide (ownsRow_below (unhide Hr1b) hb4 (Nat.le_refl _))
  have Hr2c := hide (ownsRow_below (unhide Hr2b) hb4 (Nat.le_refl _))
  have Hr3c := hide (ownsRow_below (unhide Ho3) hb4 (Nat.le_refl _))
  have Hb4 := hide ((unhide Hb3).trans (below_le hb4 (unhide Hb3).size))
  clear hb4 Hr1b Hr2b Ho3
  obtain ⟨a4, c4, rfl⟩ := ownsRow_slice hown4
  have H5b := hide (unhide H5 a4 c4 w4 (rowAt_own hown4))
  have Ho4 := hide hown4
  clear hown4 H5
  go_wp2_with fail
  refine (unhide H5b).mono ?_
  rintro e w5 ⟨v5, rfl, o5, hb5⟩
  have o1 := ownsRow_below (unhide Hr1c) hb5 (Nat.le_refl _)
  have o2 := ownsRow_below (unhide Hr2c) hb5 (Nat.le_refl _)
  have o3 := ownsRow_below (unhide Hr3c) hb5 (Nat.le_refl _)
  have o4 := ownsRow_below (unhide Ho4) hb5 (Nat.le_refl _)
  have hb50 := (unhide Hb4).trans (below_le hb5 (unhide Hb4).size)
  clear hb5 Hr1c Hr2c Hr3c Ho4
  obtain ⟨a1, c1, rfl⟩ := ownsRow_slice o1
  obtain ⟨a2', c2, rfl⟩ := ownsRow_slice o2
  obtain ⟨a3, c3, rfl⟩ := ownsRow_slice o3
  obtain ⟨a5, c5, rfl⟩ := ownsRow_slice o5
  have up : ∀ w', Below w5.heap.size w5 w' → Below w.heap.size w w' := fun w' hb => hb50.trans (below_le hb hb50.size)
  have Hup := hide up
  have KC1 := hide (fun w' (hb : Below w5.heap.size w5 w') => unhide HC1 w' (up w' hb))
  have KC2 := hide (fun w' (hb : Below w5.heap.size w5 w') => unhide HC2 w' (up w' hb))
  have KH1 := hide (fun w' (hb : Below w5.heap.size w5 w') => unhide HH1 w' (up w' hb))
  have KH2 := hide (fun w' (hb : Below w5.heap.size w5 w') => unhide HH2 w' (up w' hb))
  have KSa := hide (fun w' (hb : Below w5.heap.size w5 w') => unhide HSa w' (up w' hb))
  have KA := hide (fun w' (hb : Below w5.heap.size w5 w') => unhide HA w' (up w' hb))
  have KU := hide (fun w' (hb : Below w5.heap.size w5 w') => unhide HU a1 c1 w' (rowAt_below (rowAt_own o1) (Nat.le_refl _) hb))
  have KM := hide (fun w' (hb : Below w5.heap.size w5 w') => unhide HM a2' c2 w' (rowAt_below (rowAt_own o2) (Nat.le_refl _) hb))
  have KD := hide (fun w' (hb : Below w5.heap.size w5 w') => unhide HD a3 c3 w' (rowAt_below (rowAt_own o3) (Nat.le_refl _) hb))
  have KN := hide (fun w' (hb : Below w5.heap.size w5 w') => unhide HN a4 c4 w' (rowAt_below (rowAt_own o4) (Nat.le_refl _) hb))
  have KSn := hide (fun w' (hb : Below w5.heap.size w5 w') => unhide HSn a4 c4 w' (rowAt_below (rowAt_own o4) (Nat.le_refl _) hb))
  have KE := hide (fun w' (hb : Below w5.heap.size w5 w') => unhide HE a5 c5 w' (rowAt_below (rowAt_own o5) (Nat.le_refl _) hb) (up w' hb))
  have Hc5 := hide (Below.refl w5.heap.size w5)
  clear o1 o2 o3 o4 o5 up hb50 HC1 HC2 HH1 HH2 HSa HA HU HM HD HN HSn HE H1 H2 H3 H4 H5b Hb1 Hb2 Hb3 Hb4
  go_wp2_with fail
  refine (unhide KC1 _ (unhide Hc5)).mono ?_
  rintro e w6 ⟨rfl, hb6⟩
  have Hc6 := hide ((unhide Hc5).trans (below_le hb6 (unhide Hc5).size))
  clear hb6
  go_wp2_with fail
  refine (unhide KC2 _ (unhide Hc6)).mono ?_
  rintro e w7 ⟨rfl, hb7⟩
  have Hc7 := hide ((unhide Hc6).trans (below_le hb7 (unhide Hc6).size))
  clear hb7
  go_wp2_with fail
  refine (unhide KH1 _ (unhide Hc7)).mono ?_
  rintro e w8 ⟨rfl, hb8⟩
  have Hc8 := hide ((unhide Hc7).trans (below_le hb8 (unhide Hc7).size))
  clear hb8
  go_wp2_with fail
  refine (unhide KH2 _ (unhide Hc8)).mono ?_
  rintro e w9 ⟨rfl, hb9⟩
  have Hc9 := hide ((unhide Hc8).trans (below_le hb9 (unhide Hc8).size))
  clear hb9
  go_wp2_with fail
  refine (unhide KU _ (unhide Hc9)).mono ?_
  rintro e w10 ⟨rfl, hb10⟩
  have Hc10 := hide ((unhide Hc9).trans (below_le hb10 (unhide Hc9).size))
  clear hb10
  go_wp2_with fail
  refine (unhide KA _ (unhide Hc10)).mono ?_
  rintro e w11 ⟨rfl, hb11⟩
  have Hc11 := hide ((unhide Hc10).trans (below_le hb11 (unhide Hc10).size))
  clear hb11
  go_wp2
  go_ret
  exact ⟨rfl, unhide Hup _ (unhide Hc11)⟩
end Go.Proofs.YtkbhdojgdgiggabDoor

/- The ways through RunesAlgebra: what is no set, and what is no rune. -/
import Derived.Test.YtkbhdojgdgiggabDoorA1
namespace Go.Proofs.YtkbhdojgdgiggabDoor
open Go.RowKit

set_option maxHeartbeats 4000000 in
set_option maxRecDepth 100000 in
theorem alg_bad1 (a a2 : Option Addr) (cap cap2 : Nat) (n1 : a = none → cap = 0) (n2 : a2 = none → cap2 = 0) (l m : List Rng) (hl : l.length ≤ 281474976710656) (hm : m.length ≤ 281474976710656) (r : Int) (w : World) (hrow : RowAt w a l) (hrow2 : RowAt w a2 m) (h1 : checkV l ≠ 0) :
    Calls Tryd.prog 3 #[.slice a l.length cap, .slice a2 m.length cap2, .int .i32 r] w fun e w' => e = .returned (.bool true) ∧ Below w.heap.size w w' := by
  have hr1 : ∀ w', Below w.heap.size w w' → RowAt w' a l := fun w' hb => rowAt_below hrow (Nat.le_refl _) hb
  have hr2 : ∀ w', Below w.heap.size w w' → RowAt w' a2 m := fun w' hb => rowAt_below hrow2 (Nat.le_refl _) hb
  have H1 := hide (union_two a a2 cap cap2 n1 n2 l m hl hm w hrow hrow2)
  have H2 := hide (fun w' (hb : Below w.heap.size w w') => meet_two a a2 cap cap2 l m hl hm w' (hr1 w' hb) (hr2 w' hb))
  have H3 := hide (fun w' (hb : Below w.heap.size w w') => minus_any a a2 cap cap2 n2 l m hl hm w' (hr1 w' hb) (hr2 w' hb))
  have H4 := hide (fun w' (hb : Below w.heap.size w w') => not_any a cap l hl w' (hr1 w' hb))
  have H5 := hide (fun (a4 : Option Addr) (c4 : Nat) w' (ho : RowAt w' a4 (notL l)) => not_any a4 c4 (notL l) (by have := notL_le l; omega) w' ho)
  have HC1 := hide (fun w' (hb : Below w.heap.size w w') => rCheck_any a cap l hl w' (hr1 w' hb))
  have HC2 := hide (fun w' (hb : Below w.heap.size w w') => rCheck_any a2 cap2 m hm w' (hr2 w' hb))
  have HH1 := hide (fun w' (hb : Below w.heap.size w w') => has_any a cap l hl r w' (hr1 w' hb))
  have HH2 := hide (fun w' (hb : Below w.heap.size w w') => has_any a2 cap2 m hm r w' (hr2 w' hb))
  have HSa := hide (fun w' (hb : Below w.heap.size w w') => size_any a cap l hl w' (hr1 w' hb))
  have HU := hide (fun (x : Option Addr) (c : Nat) w' (ho : RowAt w' x (uniL [l, m])) => has_any x c (uniL [l, m]) (by have := uniL_le [l, m]; omega) r w' ho)
  have HM := hide (fun (x : Option Addr) (c : Nat) w' (ho : RowAt w' x (meetL [l, m])) => has_any x c (meetL [l, m]) (by have := meetL_le [l, m]; omega) r w' ho)
  have HD := hide (fun (x : Option Addr) (c : Nat) w' (ho : RowAt w' x (minusL l m)) => has_any x c (minusL l m) (by have := minusL_le l m; omega) r w' ho)
  have HN := hide (fun (x : Option Addr) (c : Nat) w' (ho : RowAt w' x (notL l)) => has_any x c (notL l) (by have := notL_le l; omega) r w' ho)
  have HSn := hide (fun (x : Option Addr) (c : Nat) w' (ho : RowAt w' x (notL l)) => size_any x c (notL l) (by have := notL_le l; omega) w' ho)
  have HE := hide (fun (x : Option Addr) (c : Nat) w' (ho : RowAt w' x (notL (notL l))) (hb : Below w.heap.size w w') => same_any x a c cap (notL (notL l)) l (by have := notL_le (notL l); omega) hl w' ho (hr1 w' hb))
  have HA := hide (fun w' (_ : Below w.heap.size w w') => awake_any w')
  have hck : chkAll [l, m] ≠ 0 := chk_bad1 h1
  have hu := uni_bad hck
  have hmm := meet_bad hck
  have hd := minus_bad hck
  have hu1 : (uniC [l, m] != 0) = true := by simpa using hu
  have hu2 : (uniC [l, m] == 0) = false := by simpa using hu
  have hmm1 : (meetC [l, m] != 0) = true := by simpa using hmm
  have hmm2 : (meetC [l, m] == 0) = false := by simpa using hmm
  have hd1 : (minusC l m != 0) = true := by simpa using hd
  have hd2 : (minusC l m == 0) = false := by simpa using hd
  clear hck
  have h11 : (checkV l != 0) = true := by simpa using h1
  have h12 : (checkV l == 0) = false := by simpa using h1
  generalize notL (notL l) = KL at *
  generalize notC (notL l) = KC at *
  generalize notL l = NL at *
  generalize uniL [l, m] = UL at *
  generalize meetL [l, m] = ML at *
  generalize minusL l m = DL at *
  generalize uniC [l, m] = UC at *
  generalize meetC [l, m] = MC at *
  generalize minusC l m = DC at *
  generalize notC l = NC at *
  generalize checkV l = C1 at *
  clear hr1 hr2 hrow hrow2
  go_enter Tryd.func3, Tryd.ntmps3
  go_wp2_with fail
  refine (unhide H1).mono ?_
  rintro e w1 ⟨v1, rfl, hown1, hb1⟩
  have Hb1 := hide hb1; have Ho1 := hide hown1
  clear hb1 hown1
  go_wp2_with fail
  refine (unhide H2 _ (unhide Hb1)).mono ?_
  rintro e w2 ⟨v2, rfl, hown2, hb2⟩
  have Hr1 := hide (ownsRow_below (unhide Ho1) hb2 (Nat.le_refl _))
  have Hb2 := hide ((unhide Hb1).trans (below_le hb2 (unhide Hb1).size)); have Ho2 := hide hown2
  clear hb2 hown2 Ho1
  go_wp2_with fail
  refine (unhide H3 _ (unhide Hb2)).mono ?_
  rintro e w3 ⟨v3, rfl, hown3, hb3⟩
  have Hr1b := hide (ownsRow_below (unhide Hr1) hb3 (Nat.le_refl _))
  have Hr2b := hide (ownsRow_below (unhide Ho2) hb3 (Nat.le_refl _))
  have Hb3 := hide ((unhide Hb2).trans (below_le hb3 (unhide Hb2).size)); have Ho3 := hide hown3
  clear hb3 hown3 Hr1 Ho2
  go_wp2_with fail
  refine (unhide H4 _ (unhide Hb3)).mono ?_
  rintro e w4 ⟨v4, rfl, hown4, hb4⟩
  have Hr1c := hide (ownsRow_below (unhide Hr1b) hb4 (Nat.le_refl _))
  have Hr2c := hide (ownsRow_below (unhide Hr2b) hb4 (Nat.le_refl _))
  have Hr3c := hide (ownsRow_below (unhide Ho3) hb4 (Nat.le_refl _))
  have Hb4 := hide ((unhide Hb3).trans (below_le hb4 (unhide Hb3).size))
  clear hb4 Hr1b Hr2b Ho3
  obtain ⟨a4, c4, rfl⟩ := ownsRow_slice hown4
  have H5b := hide (unhide H5 a4 c4 w4 (rowAt_own hown4))
  have Ho4 := hide hown4
  clear hown4 H5
  go_wp2_with fail
  refine (unhide H5b).mono ?_
  rintro e w5 ⟨v5, rfl, o5, hb5⟩
  have o1 := ownsRow_below (unhide Hr1c) hb5 (Nat.le_refl _)
  have o2 := ownsRow_below (unhide Hr2c) hb5 (Nat.le_refl _)
  have o3 := ownsRow_below (unhide Hr3c) hb5 (Nat.le_refl _)
  have o4 := ownsRow_below (unhide Ho4) hb5 (Nat.le_refl _)
  have hb50 := (unhide Hb4).trans (below_le hb5 (unhide Hb4).size)
  clear hb5 Hr1c Hr2c Hr3c Ho4
  obtain ⟨a1, c1, rfl⟩ := ownsRow_slice o1
  obtain ⟨a2', c2, rfl⟩ := ownsRow_slice o2
  obtain ⟨a3, c3, rfl⟩ := ownsRow_slice o3
  obtain ⟨a5, c5, rfl⟩ := ownsRow_slice o5
  have up : ∀ w', Below w5.heap.size w5 w' → Below w.heap.size w w' := fun w' hb => hb50.trans (below_le hb hb50.size)
  have Hup := hide up
  have KC1 := hide (fun w' (hb : Below w5.heap.size w5 w') => unhide HC1 w' (up w' hb))
  have KC2 := hide (fun w' (hb : Below w5.heap.size w5 w') => unhide HC2 w' (up w' hb))
  have KH1 := hide (fun w' (hb : Below w5.heap.size w5 w') => unhide HH1 w' (up w' hb))
  have KH2 := hide (fun w' (hb : Below w5.heap.size w5 w') => unhide HH2 w' (up w' hb))
  have KSa := hide (fun w' (hb : Below w5.heap.size w5 w') => unhide HSa w' (up w' hb))
  have KA := hide (fun w' (hb : Below w5.heap.size w5 w') => unhide HA w' (up w' hb))
  have KU := hide (fun w' (hb : Below w5.heap.size w5 w') => unhide HU a1 c1 w' (rowAt_below (rowAt_own o1) (Nat.le_refl _) hb))
  have KM := hide (fun w' (hb : Below w5.heap.size w5 w') => unhide HM a2' c2 w' (rowAt_below (rowAt_own o2) (Nat.le_refl _) hb))
  have KD := hide (fun w' (hb : Below w5.heap.size w5 w') => unhide HD a3 c3 w' (rowAt_below (rowAt_own o3) (Nat.le_refl _) hb))
  have KN := hide (fun w' (hb : Below w5.heap.size w5 w') => unhide HN a4 c4 w' (rowAt_below (rowAt_own o4) (Nat.le_refl _) hb))
  have KSn := hide (fun w' (hb : Below w5.heap.size w5 w') => unhide HSn a4 c4 w' (rowAt_below (rowAt_own o4) (Nat.le_refl _) hb))
  have KE := hide (fun w' (hb : Below w5.heap.size w5 w') => unhide HE a5 c5 w' (rowAt_below (rowAt_own o5) (Nat.le_refl _) hb) (up w' hb))
  have Hc5 := hide (Below.refl w5.heap.size w5)
  clear o1 o2 o3 o4 o5 up hb50 HC1 HC2 HH1 HH2 HSa HA HU HM HD HN HSn HE H1 H2 H3 H4 H5b Hb1 Hb2 Hb3 Hb4
  go_wp2_with fail
  refine (unhide KC1 _ (unhide Hc5)).mono ?_
  rintro e w6 ⟨rfl, hb6⟩
  have Hc6 := hide ((unhide Hc5).trans (below_le hb6 (unhide Hc5).size))
  clear hb6
  go_wp2_with fail
  refine (unhide KA _ (unhide Hc6)).mono ?_
  rintro e w7 ⟨rfl, hb7⟩
  have Hc7 := hide ((unhide Hc6).trans (below_le hb7 (unhide Hc6).size))
  clear hb7
  go_wp2
  go_ret
  exact ⟨rfl, unhide Hup _ (unhide Hc7)⟩

set_option maxHeartbeats 4000000 in
set_option maxRecDepth 100000 in
theorem alg_bad2 (a a2 : Option Addr) (cap cap2 : Nat) (n1 : a = none → cap = 0) (n2 : a2 = none → cap2 = 0) (l m : List Rng) (hl : l.length ≤ 281474976710656) (hm : m.length ≤ 281474976710656) (r : Int) (w : World) (hrow : RowAt w a l) (hrow2 : RowAt w a2 m) (h1 : checkV l = 0) (h2 : checkV m ≠ 0) :
    Calls Tryd.prog 3 #[.slice a l.length cap, .slice a2 m.length cap2, .int .i32 r] w fun e w' => e = .returned (.bool true) ∧ Below w.heap.size w w' := by
  have hr1 : ∀ w', Below w.heap.size w w' → RowAt w' a l := fun w' hb => rowAt_below hrow (Nat.le_refl _) hb
  have hr2 : ∀ w', Below w.heap.size w w' → RowAt w' a2 m := fun w' hb => rowAt_below hrow2 (Nat.le_refl _) hb
  have H1 := hide (union_two a a2 cap cap2 n1 n2 l m hl hm w hrow hrow2)
  have H2 := hide (fun w' (hb : Below w.heap.size w w') => meet_two a a2 cap cap2 l m hl hm w' (hr1 w' hb) (hr2 w' hb))
  have H3 := hide (fun w' (hb : Below w.heap.size w w') => minus_any a a2 cap cap2 n2 l m hl hm w' (hr1 w' hb) (hr2 w' hb))
  have H4 := hide (fun w' (hb : Below w.heap.size w w') => not_any a cap l hl w' (hr1 w' hb))
  have H5 := hide (fun (a4 : Option Addr) (c4 : Nat) w' (ho : RowAt w' a4 (notL l)) => not_any a4 c4 (notL l) (by have := notL_le l; omega) w' ho)
  have HC1 := hide (fun w' (hb : Below w.heap.size w w') => rCheck_any a cap l hl w' (hr1 w' hb))
  have HC2 := hide (fun w' (hb : Below w.heap.size w w') => rCheck_any a2 cap2 m hm w' (hr2 w' hb))
  have HH1 := hide (fun w' (hb : Below w.heap.size w w') => has_any a cap l hl r w' (hr1 w' hb))
  have HH2 := hide (fun w' (hb : Below w.heap.size w w') => has_any a2 cap2 m hm r w' (hr2 w' hb))
  have HSa := hide (fun w' (hb : Below w.heap.size w w') => size_any a cap l hl w' (hr1 w' hb))
  have HU := hide (fun (x : Option Addr) (c : Nat) w' (ho : RowAt w' x (uniL [l, m])) => has_any x c (uniL [l, m]) (by have := uniL_le [l, m]; omega) r w' ho)
  have HM := hide (fun (x : Option Addr) (c : Nat) w' (ho : RowAt w' x (meetL [l, m])) => has_any x c (meetL [l, m]) (by have := meetL_le [l, m]; omega) r w' ho)
  have HD := hide (fun (x : Option Addr) (c : Nat) w' (ho : RowAt w' x (minusL l m)) => has_any x c (minusL l m) (by have := minusL_le l m; omega) r w' ho)
  have HN := hide (fun (x : Option Addr) (c : Nat) w' (ho : RowAt w' x (notL l)) => has_any x c (notL l) (by have := notL_le l; omega) r w' ho)
  have HSn := hide (fun (x : Option Addr) (c : Nat) w' (ho : RowAt w' x (notL l)) => size_any x c (notL l) (by have := notL_le l; omega) w' ho)
  have HE := hide (fun (x : Option Addr) (c : Nat) w' (ho : RowAt w' x (notL (notL l))) (hb : Below w.heap.size w w') => same_any x a c cap (notL (notL l)) l (by have := notL_le (notL l); omega) hl w' ho (hr1 w' hb))
  have HA := hide (fun w' (_ : Below w.heap.size w w') => awake_any w')
  have hck : chkAll [l, m] ≠ 0 := chk_bad2 h2
  have hu := uni_bad hck
  have hmm := meet_bad hck
  have hd := minus_bad hck
  have hu1 : (uniC [l, m] != 0) = true := by simpa using hu
  have hu2 : (uniC [l, m] == 0) = false := by simpa using hu
  have hmm1 : (meetC [l, m] != 0) = true := by simpa using hmm
  have hmm2 : (meetC [l, m] == 0) = false := by simpa using hmm
  have hd1 : (minusC l m != 0) = true := by simpa using hd
  have hd2 : (minusC l m == 0) = false := by simpa using hd
  clear hck
  rw [h1] at HC1
  have h21 : (checkV m != 0) = true := by simpa using h2
  have h22 : (checkV m == 0) = false := by simpa using h2
  generalize notL (notL l) = KL at *
  generalize notC (notL l) = KC at *
  generalize notL l = NL at *
  generalize uniL [l, m] = UL at *
  generalize meetL [l, m] = ML at *
  generalize minusL l m = DL at *
  generalize uniC [l, m] = UC at *
  generalize meetC [l, m] = MC at *
  generalize minusC l m = DC at *
  generalize notC l = NC at *
  generalize checkV m = C2 at *
  clear hr1 hr2 hrow hrow2
  go_enter Tryd.func3, Tryd.ntmps3
  go_wp2_with fail
  refine (unhide H1).mono ?_
  rintro e w1 ⟨v1, rfl, hown1, hb1⟩
  have Hb1 := hide hb1; have Ho1 := hide hown1
  clear hb1 hown1
  go_wp2_with fail
  refine (unhide H2 _ (unhide Hb1)).mono ?_
  rintro e w2 ⟨v2, rfl, hown2, hb2⟩
  have Hr1 := hide (ownsRow_below (unhide Ho1) hb2 (Nat.le_refl _))
  have Hb2 := hide ((unhide Hb1).trans (below_le hb2 (unhide Hb1).size)); have Ho2 := hide hown2
  clear hb2 hown2 Ho1
  go_wp2_with fail
  refine (unhide H3 _ (unhide Hb2)).mono ?_
  rintro e w3 ⟨v3, rfl, hown3, hb3⟩
  have Hr1b := hide (ownsRow_below (unhide Hr1) hb3 (Nat.le_refl _))
  have Hr2b := hide (ownsRow_below (unhide Ho2) hb3 (Nat.le_refl _))
  have Hb3 := hide ((unhide Hb2).trans (below_le hb3 (unhide Hb2).size)); have Ho3 := hide hown3
  clear hb3 hown3 Hr1 Ho2
  go_wp2_with fail
  refine (unhide H4 _ (unhide Hb3)).mono ?_
  rintro e w4 ⟨v4, rfl, hown4, hb4⟩
  have Hr1c := hide (ownsRow_below (unhide Hr1b) hb4 (Nat.le_refl _))
  have Hr2c := hide (ownsRow_below (unhide Hr2b) hb4 (Nat.le_refl _))
  have Hr3c := hide (ownsRow_below (unhide Ho3) hb4 (Nat.le_refl _))
  have Hb4 := hide ((unhide Hb3).trans (below_le hb4 (unhide Hb3).size))
  clear hb4 Hr1b Hr2b Ho3
  obtain ⟨a4, c4, rfl⟩ := ownsRow_slice hown4
  have H5b := hide (unhide H5 a4 c4 w4 (rowAt_own hown4))
  have Ho4 := hide hown4
  clear hown4 H5
  go_wp2_with fail
  refine (unhide H5b).mono ?_
  rintro e w5 ⟨v5, rfl, o5, hb5⟩
  have o1 := ownsRow_below (unhide Hr1c) hb5 (Nat.le_refl _)
  have o2 := ownsRow_below (unhide Hr2c) hb5 (Nat.le_refl _)
  have o3 := ownsRow_below (unhide Hr3c) hb5 (Nat.le_refl _)
  have o4 := ownsRow_below (unhide Ho4) hb5 (Nat.le_refl _)
  have hb50 := (unhide Hb4).trans (below_le hb5 (unhide Hb4).size)
  clear hb5 Hr1c Hr2c Hr3c Ho4
  obtain ⟨a1, c1, rfl⟩ := ownsRow_slice o1
  obtain ⟨a2', c2, rfl⟩ := ownsRow_slice o2
  obtain ⟨a3, c3, rfl⟩ := ownsRow_slice o3
  obtain ⟨a5, c5, rfl⟩ := ownsRow_slice o5
  have up : ∀ w', Below w5.heap.size w5 w' → Below w.heap.size w w' := fun w' hb => hb50.trans (below_le hb hb50.size)
  have Hup := hide up
  have KC1 := hide (fun w' (hb : Below w5.heap.size w5 w') => unhide HC1 w' (up w' hb))
  have KC2 := hide (fun w' (hb : Below w5.heap.size w5 w') => unhide HC2 w' (up w' hb))
  have KH1 := hide (fun w' (hb : Below w5.heap.size w5 w') => unhide HH1 w' (up w' hb))
  have KH2 := hide (fun w' (hb : Below w5.heap.size w5 w') => unhide HH2 w' (up w' hb))
  have KSa := hide (fun w' (hb : Below w5.heap.size w5 w') => unhide HSa w' (up w' hb))
  have KA := hide (fun w' (hb : Below w5.heap.size w5 w') => unhide HA w' (up w' hb))
  have KU := hide (fun w' (hb : Below w5.heap.size w5 w') => unhide HU a1 c1 w' (rowAt_below (rowAt_own o1) (Nat.le_refl _) hb))
  have KM := hide (fun w' (hb : Below w5.heap.size w5 w') => unhide HM a2' c2 w' (rowAt_below (rowAt_own o2) (Nat.le_refl _) hb))
  have KD := hide (fun w' (hb : Below w5.heap.size w5 w') => unhide HD a3 c3 w' (rowAt_below (rowAt_own o3) (Nat.le_refl _) hb))
  have KN := hide (fun w' (hb : Below w5.heap.size w5 w') => unhide HN a4 c4 w' (rowAt_below (rowAt_own o4) (Nat.le_refl _) hb))
  have KSn := hide (fun w' (hb : Below w5.heap.size w5 w') => unhide HSn a4 c4 w' (rowAt_below (rowAt_own o4) (Nat.le_refl _) hb))
  have KE := hide (fun w' (hb : Below w5.heap.size w5 w') => unhide HE a5 c5 w' (rowAt_below (rowAt_own o5) (Nat.le_refl _) hb) (up w' hb))
  have Hc5 := hide (Below.refl w5.heap.size w5)
  clear o1 o2 o3 o4 o5 up hb50 HC1 HC2 HH1 HH2 HSa HA HU HM HD HN HSn HE H1 H2 H3 H4 H5b Hb1 Hb2 Hb3 Hb4
  go_wp2_with fail
  refine (unhide KC1 _ (unhide Hc5)).mono ?_
  rintro e w6 ⟨rfl, hb6⟩
  have Hc6 := hide ((unhide Hc5).trans (below_le hb6 (unhide Hc5).size))
  clear hb6
  go_wp2_with fail
  refine (unhide KC2 _ (unhide Hc6)).mono ?_
  rintro e w7 ⟨rfl, hb7⟩
  have Hc7 := hide ((unhide Hc6).trans (below_le hb7 (unhide Hc6).size))
  clear hb7
  go_wp2_with fail
  refine (unhide KA _ (unhide Hc7)).mono ?_
  rintro e w8 ⟨rfl, hb8⟩
  have Hc8 := hide ((unhide Hc7).trans (below_le hb8 (unhide Hc7).size))
  clear hb8
  go_wp2
  go_ret
  exact ⟨rfl, unhide Hup _ (unhide Hc8)⟩

set_option maxHeartbeats 4000000 in
set_option maxRecDepth 100000 in
theorem alg_out1 (a a2 : Option Addr) (cap cap2 : Nat) (n1 : a = none → cap = 0) (n2 : a2 = none → cap2 = 0) (l m : List Rng) (hl : l.length ≤ 281474976710656) (hm : m.length ≤ 281474976710656) (r : Int) (w : World) (hrow : RowAt w a l) (hrow2 : RowAt w a2 m) (h1 : checkV l = 0) (h2 : checkV m = 0) (hr : r < 0) :
    Calls Tryd.prog 3 #[.slice a l.length cap, .slice a2 m.length cap2, .int .i32 r] w fun e w' => e = .returned (.bool true) ∧ Below w.heap.size w w' := by
  have hr1 : ∀ w', Below w.heap.size w w' → RowAt w' a l := fun w' hb => rowAt_below hrow (Nat.le_refl _) hb
  have hr2 : ∀ w', Below w.heap.size w w' → RowAt w' a2 m := fun w' hb => rowAt_below hrow2 (Nat.le_refl _) hb
  have H1 := hide (union_two a a2 cap cap2 n1 n2 l m hl hm w hrow hrow2)
  have H2 := hide (fun w' (hb : Below w.heap.size w w') => meet_two a a2 cap cap2 l m hl hm w' (hr1 w' hb) (hr2 w' hb))
  have H3 := hide (fun w' (hb : Below w.heap.size w w') => minus_any a a2 cap cap2 n2 l m hl hm w' (hr1 w' hb) (hr2 w' hb))
  have H4 := hide (fun w' (hb : Below w.heap.size w w') => not_any a cap l hl w' (hr1 w' hb))
  have H5 := hide (fun (a4 : Option Addr) (c4 : Nat) w' (ho : RowAt w' a4 (notL l)) => not_any a4 c4 (notL l) (by have := notL_le l; omega) w' ho)
  have HC1 := hide (fun w' (hb : Below w.heap.size w w') => rCheck_any a cap l hl w' (hr1 w' hb))
  have HC2 := hide (fun w' (hb : Below w.heap.size w w') => rCheck_any a2 cap2 m hm w' (hr2 w' hb))
  have HH1 := hide (fun w' (hb : Below w.heap.size w w') => has_any a cap l hl r w' (hr1 w' hb))
  have HH2 := hide (fun w' (hb : Below w.heap.size w w') => has_any a2 cap2 m hm r w' (hr2 w' hb))
  have HSa := hide (fun w' (hb : Below w.heap.size w w') => size_any a cap l hl w' (hr1 w' hb))
  have HU := hide (fun (x : Option Addr) (c : Nat) w' (ho : RowAt w' x (uniL [l, m])) => has_any x c (uniL [l, m]) (by have := uniL_le [l, m]; omega) r w' ho)
  have HM := hide (fun (x : Option Addr) (c : Nat) w' (ho : RowAt w' x (meetL [l, m])) => has_any x c (meetL [l, m]) (by have := meetL_le [l, m]; omega) r w' ho)
  have HD := hide (fun (x : Option Addr) (c : Nat) w' (ho : RowAt w' x (minusL l m)) => has_any x c (minusL l m) (by have := minusL_le l m; omega) r w' ho)
  have HN := hide (fun (x : Option Addr) (c : Nat) w' (ho : RowAt w' x (notL l)) => has_any x c (notL l) (by have := notL_le l; omega) r w' ho)
  have HSn := hide (fun (x : Option Addr) (c : Nat) w' (ho : RowAt w' x (notL l)) => size_any x c (notL l) (by have := notL_le l; omega) w' ho)
  have HE := hide (fun (x : Option Addr) (c : Nat) w' (ho : RowAt w' x (notL (notL l))) (hb : Below w.heap.size w w') => same_any x a c cap (notL (notL l)) l (by have := notL_le (notL l); omega) hl w' ho (hr1 w' hb))
  have HA := hide (fun w' (_ : Below w.heap.size w w') => awake_any w')
  have e1 : hasB l r = false := has_out h1 (by omega)
  have e2 : hasB m r = false := has_out h2 (by omega)
  rw [e1] at HH1
  rw [e2] at HH2
  rw [h1] at HC1
  rw [h2] at HC2
  clear h1 h2 e1 e2
  generalize notL (notL l) = KL at *
  generalize notC (notL l) = KC at *
  generalize notL l = NL at *
  generalize uniL [l, m] = UL at *
  generalize meetL [l, m] = ML at *
  generalize minusL l m = DL at *
  generalize uniC [l, m] = UC at *
  generalize meetC [l, m] = MC at *
  generalize minusC l m = DC at *
  generalize notC l = NC at *
  clear hr1 hr2 hrow hrow2
  go_enter Tryd.func3, Tryd.ntmps3
  go_wp2_with fail
  refine (unhide H1).mono ?_
  rintro e w1 ⟨v1, rfl, hown1, hb1⟩
  have Hb1 := hide hb1; have Ho1 := hide hown1
  clear hb1 hown1
  go_wp2_with fail
  refine (unhide H2 _ (unhide Hb1)).mono ?_
  rintro e w2 ⟨v2, rfl, hown2, hb2⟩
  have Hr1 := hide (ownsRow_below (unhide Ho1) hb2 (Nat.le_refl _))
  have Hb2 := hide ((unhide Hb1).trans (below_le hb2 (unhide Hb1).size)); have Ho2 := hide hown2
  clear hb2 hown2 Ho1
  go_wp2_with fail
  refine (unhide H3 _ (unhide Hb2)).mono ?_
  rintro e w3 ⟨v3, rfl, hown3, hb3⟩
  have Hr1b := hide (ownsRow_below (unhide Hr1) hb3 (Nat.le_refl _))
  have Hr2b := hide (ownsRow_below (unhide Ho2) hb3 (Nat.le_refl _))
  have Hb3 := hide ((unhide Hb2).trans (below_le hb3 (unhide Hb2).size)); have Ho3 := hide hown3
  clear hb3 hown3 Hr1 Ho2
  go_wp2_with fail
  refine (unhide H4 _ (unhide Hb3)).mono ?_
  rintro e w4 ⟨v4, rfl, hown4, hb4⟩
  have Hr1c := hide (ownsRow_below (unhide Hr1b) hb4 (Nat.le_refl _))
  have Hr2c := hide (ownsRow_below (unhide Hr2b) hb4 (Nat.le_refl _))
  have Hr3c := hide (ownsRow_below (unhide Ho3) hb4 (Nat.le_refl _))
  have Hb4 := hide ((unhide Hb3).trans (below_le hb4 (unhide Hb3).size))
  clear hb4 Hr1b Hr2b Ho3
  obtain ⟨a4, c4, rfl⟩ := ownsRow_slice hown4
  have H5b := hide (unhide H5 a4 c4 w4 (rowAt_own hown4))
  have Ho4 := hide hown4
  clear hown4 H5
  go_wp2_with fail
  refine (unhide H5b).mono ?_
  rintro e w5 ⟨v5, rfl, o5, hb5⟩
  have o1 := ownsRow_below (unhide Hr1c) hb5 (Nat.le_refl _)
  have o2 := ownsRow_below (unhide Hr2c) hb5 (Nat.le_refl _)
  have o3 := ownsRow_below (unhide Hr3c) hb5 (Nat.le_refl _)
  have o4 := ownsRow_below (unhide Ho4) hb5 (Nat.le_refl _)
  have hb50 := (unhide Hb4).trans (below_le hb5 (unhide Hb4).size)
  clear hb5 Hr1c Hr2c Hr3c Ho4
  obtain ⟨a1, c1, rfl⟩ := ownsRow_slice o1
  obtain ⟨a2', c2, rfl⟩ := ownsRow_slice o2
  obtain ⟨a3, c3, rfl⟩ := ownsRow_slice o3
  obtain ⟨a5, c5, rfl⟩ := ownsRow_slice o5
  have up : ∀ w', Below w5.heap.size w5 w' → Below w.heap.size w w' := fun w' hb => hb50.trans (below_le hb hb50.size)
  have Hup := hide up
  have KC1 := hide (fun w' (hb : Below w5.heap.size w5 w') => unhide HC1 w' (up w' hb))
  have KC2 := hide (fun w' (hb : Below w5.heap.size w5 w') => unhide HC2 w' (up w' hb))
  have KH1 := hide (fun w' (hb : Below w5.heap.size w5 w') => unhide HH1 w' (up w' hb))
  have KH2 := hide (fun w' (hb : Below w5.heap.size w5 w') => unhide HH2 w' (up w' hb))
  have KSa := hide (fun w' (hb : Below w5.heap.size w5 w') => unhide HSa w' (up w' hb))
  have KA := hide (fun w' (hb : Below w5.heap.size w5 w') => unhide HA w' (up w' hb))
  have KU := hide (fun w' (hb : Below w5.heap.size w5 w') => unhide HU a1 c1 w' (rowAt_below (rowAt_own o1) (Nat.le_refl _) hb))
  have KM := hide (fun w' (hb : Below w5.heap.size w5 w') => unhide HM a2' c2 w' (rowAt_below (rowAt_own o2) (Nat.le_refl _) hb))
  have KD := hide (fun w' (hb : Below w5.heap.size w5 w') => unhide HD a3 c3 w' (rowAt_below (rowAt_own o3) (Nat.le_refl _) hb))
  have KN := hide (fun w' (hb : Below w5.heap.size w5 w') => unhide HN a4 c4 w' (rowAt_below (rowAt_own o4) (Nat.le_refl _) hb))
  have KSn := hide (fun w' (hb : Below w5.heap.size w5 w') => unhide HSn a4 c4 w' (rowAt_below (rowAt_own o4) (Nat.le_refl _) hb))
  have KE := hide (fun w' (hb : Below w5.heap.size w5 w') => unhide HE a5 c5 w' (rowAt_below (rowAt_own o5) (Nat.le_refl _) hb) (up w' hb))
  have Hc5 := hide (Below.refl w5.heap.size w5)
  clear o1 o2 o3 o4 o5 up hb50 HC1 HC2 HH1 HH2 HSa HA HU HM HD HN HSn HE H1 H2 H3 H4 H5b Hb1 Hb2 Hb3 Hb4
  go_wp2_with fail
  refine (unhide KC1 _ (unhide Hc5)).mono ?_
  rintro e w6 ⟨rfl, hb6⟩
  have Hc6 := hide ((unhide Hc5).trans (below_le hb6 (unhide Hc5).size))
  clear hb6
  go_wp2_with fail
  refine (unhide KC2 _ (unhide Hc6)).mono ?_
  rintro e w7 ⟨rfl, hb7⟩
  have Hc7 := hide ((unhide Hc6).trans (below_le hb7 (unhide Hc6).size))
  clear hb7
  go_wp2_with fail
  refine (unhide KH1 _ (unhide Hc7)).mono ?_
  rintro e w8 ⟨rfl, hb8⟩
  have Hc8 := hide ((unhide Hc7).trans (below_le hb8 (unhide Hc7).size))
  clear hb8
  go_wp2_with fail
  refine (unhide KH2 _ (unhide Hc8)).mono ?_
  rintro e w9 ⟨rfl, hb9⟩
  have Hc9 := hide ((unhide Hc8).trans (below_le hb9 (unhide Hc8).size))
  clear hb9
  go_wp2_with fail
  refine (unhide KA _ (unhide Hc9)).mono ?_
  rintro e w10 ⟨rfl, hb10⟩
  have Hc10 := hide ((unhide Hc9).trans (below_le hb10 (unhide Hc9).size))
  clear hb10
  go_wp2
  go_ret
  exact ⟨rfl, unhide Hup _ (unhide Hc10)⟩

set_option maxHeartbeats 4000000 in
set_option maxRecDepth 100000 in
theorem alg_out2 (a a2 : Option Addr) (cap cap2 : Nat) (n1 : a = none → cap = 0) (n2 : a2 = none → cap2 = 0) (l m : List Rng) (hl : l.length ≤ 281474976710656) (hm : m.length ≤ 281474976710656) (r : Int) (w : World) (hrow : RowAt w a l) (hrow2 : RowAt w a2 m) (h1 : checkV l = 0) (h2 : checkV m = 0) (hr : ¬ r < 0) (hr3 : r > 1114111) :
    Calls Tryd.prog 3 #[.slice a l.length cap, .slice a2 m.length cap2, .int .i32 r] w fun e w' => e = .returned (.bool true) ∧ Below w.heap.size w w' := by
  have hr1 : ∀ w', Below w.heap.size w w' → RowAt w' a l := fun w' hb => rowAt_below hrow (Nat.le_refl _) hb
  have hr2 : ∀ w', Below w.heap.size w w' → RowAt w' a2 m := fun w' hb => rowAt_below hrow2 (Nat.le_refl _) hb
  have H1 := hide (union_two a a2 cap cap2 n1 n2 l m hl hm w hrow hrow2)
  have H2 := hide (fun w' (hb : Below w.heap.size w w') => meet_two a a2 cap cap2 l m hl hm w' (hr1 w' hb) (hr2 w' hb))
  have H3 := hide (fun w' (hb : Below w.heap.size w w') => minus_any a a2 cap cap2 n2 l m hl hm w' (hr1 w' hb) (hr2 w' hb))
  have H4 := hide (fun w' (hb : Below w.heap.size w w') => not_any a cap l hl w' (hr1 w' hb))
  have H5 := hide (fun (a4 : Option Addr) (c4 : Nat) w' (ho : RowAt w' a4 (notL l)) => not_any a4 c4 (notL l) (by have := notL_le l; omega) w' ho)
  have HC1 := hide (fun w' (hb : Below w.heap.size w w') => rCheck_any a cap l hl w' (hr1 w' hb))
  have HC2 := hide (fun w' (hb : Below w.heap.size w w') => rCheck_any a2 cap2 m hm w' (hr2 w' hb))
  have HH1 := hide (fun w' (hb : Below w.heap.size w w') => has_any a cap l hl r w' (hr1 w' hb))
  have HH2 := hide (fun w' (hb : Below w.heap.size w w') => has_any a2 cap2 m hm r w' (hr2 w' hb))
  have HSa := hide (fun w' (hb : Below w.heap.size w w') => size_any a cap l hl w' (hr1 w' hb))
  have HU := hide (fun (x : Option Addr) (c : Nat) w' (ho : RowAt w' x (uniL [l, m])) => has_any x c (uniL [l, m]) (by have := uniL_le [l, m]; omega) r w' ho)
  have HM := hide (fun (x : Option Addr) (c : Nat) w' (ho : RowAt w' x (meetL [l, m])) => has_any x c (meetL [l, m]) (by have := meetL_le [l, m]; omega) r w' ho)
  have HD := hide (fun (x : Option Addr) (c : Nat) w' (ho : RowAt w' x (minusL l m)) => has_any x c (minusL l m) (by have := minusL_le l m; omega) r w' ho)
  have HN := hide (fun (x : Option Addr) (c : Nat) w' (ho : RowAt w' x (notL l)) => has_any x c (notL l) (by have := notL_le l; omega) r w' ho)
  have HSn := hide (fun (x : Option Addr) (c : Nat) w' (ho : RowAt w' x (notL l)) => size_any x c (notL l) (by have := notL_le l; omega) w' ho)
  have HE := hide (fun (x : Option Addr) (c : Nat) w' (ho : RowAt w' x (notL (notL l))) (hb : Below w.heap.size w w') => same_any x a c cap (notL (notL l)) l (by have := notL_le (notL l); omega) hl w' ho (hr1 w' hb))
  have HA := hide (fun w' (_ : Below w.heap.size w w') => awake_any w')
  have e1 : hasB l r = false := has_out h1 (by omega)
  have e2 : hasB m r = false := has_out h2 (by omega)
  rw [e1] at HH1
  rw [e2] at HH2
  rw [h1] at HC1
  rw [h2] at HC2
  clear h1 h2 e1 e2
  generalize notL (notL l) = KL at *
  generalize notC (notL l) = KC at *
  generalize notL l = NL at *
  generalize uniL [l, m] = UL at *
  generalize meetL [l, m] = ML at *
  generalize minusL l m = DL at *
  generalize uniC [l, m] = UC at *
  generalize meetC [l, m] = MC at *
  generalize minusC l m = DC at *
  generalize notC l = NC at *
  clear hr1 hr2 hrow hrow2
  go_enter Tryd.func3, Tryd.ntmps3
  go_wp2_with fail
  refine (unhide H1).mono ?_
  rintro e w1 ⟨v1, rfl, hown1, hb1⟩
  have Hb1 := hide hb1; have Ho1 := hide hown1
  clear hb1 hown1
  go_wp2_with fail
  refine (unhide H2 _ (unhide Hb1)).mono ?_
  rintro e w2 ⟨v2, rfl, hown2, hb2⟩
  have Hr1 := hide (ownsRow_below (unhide Ho1) hb2 (Nat.le_refl _))
  have Hb2 := hide ((unhide Hb1).trans (below_le hb2 (unhide Hb1).size)); have Ho2 := hide hown2
  clear hb2 hown2 Ho1
  go_wp2_with fail
  refine (unhide H3 _ (unhide Hb2)).mono ?_
  rintro e w3 ⟨v3, rfl, hown3, hb3⟩
  have Hr1b := hide (ownsRow_below (unhide Hr1) hb3 (Nat.le_refl _))
  have Hr2b := hide (ownsRow_below (unhide Ho2) hb3 (Nat.le_refl _))
  have Hb3 := hide ((unhide Hb2).trans (below_le hb3 (unhide Hb2).size)); have Ho3 := hide hown3
  clear hb3 hown3 Hr1 Ho2
  go_wp2_with fail
  refine (unhide H4 _ (unhide Hb3)).mono ?_
  rintro e w4 ⟨v4, rfl, hown4, hb4⟩
  have Hr1c := hide (ownsRow_below (unhide Hr1b) hb4 (Nat.le_refl _))
  have Hr2c := hide (ownsRow_below (unhide Hr2b) hb4 (Nat.le_refl _))
  have Hr3c := hide (ownsRow_below (unhide Ho3) hb4 (Nat.le_refl _))
  have Hb4 := hide ((unhide Hb3).trans (below_le hb4 (unhide Hb3).size))
  clear hb4 Hr1b Hr2b Ho3
  obtain ⟨a4, c4, rfl⟩ := ownsRow_slice hown4
  have H5b := hide (unhide H5 a4 c4 w4 (rowAt_own hown4))
  have Ho4 := hide hown4
  clear hown4 H5
  go_wp2_with fail
  refine (unhide H5b).mono ?_
  rintro e w5 ⟨v5, rfl, o5, hb5⟩
  have o1 := ownsRow_below (unhide Hr1c) hb5 (Nat.le_refl _)
  have o2 := ownsRow_below (unhide Hr2c) hb5 (Nat.le_refl _)
  have o3 := ownsRow_below (unhide Hr3c) hb5 (Nat.le_refl _)
  have o4 := ownsRow_below (unhide Ho4) hb5 (Nat.le_refl _)
  have hb50 := (unhide Hb4).trans (below_le hb5 (unhide Hb4).size)
  clear hb5 Hr1c Hr2c Hr3c Ho4
  obtain ⟨a1, c1, rfl⟩ := ownsRow_slice o1
  obtain ⟨a2', c2, rfl⟩ := ownsRow_slice o2
  obtain ⟨a3, c3, rfl⟩ := ownsRow_slice o3
  obtain ⟨a5, c5, rfl⟩ := ownsRow_slice o5
  have up : ∀ w', Below w5.heap.size w5 w' → Below w.heap.size w w' := fun w' hb => hb50.trans (below_le hb hb50.size)
  have Hup := hide up
  have KC1 := hide (fun w' (hb : Below w5.heap.size w5 w') => unhide HC1 w' (up w' hb))
  have KC2 := hide (fun w' (hb : Below w5.heap.size w5 w') => unhide HC2 w' (up w' hb))
  have KH1 := hide (fun w' (hb : Below w5.heap.size w5 w') => unhide HH1 w' (up w' hb))
  have KH2 := hide (fun w' (hb : Below w5.heap.size w5 w') => unhide HH2 w' (up w' hb))
  have KSa := hide (fun w' (hb : Below w5.heap.size w5 w') => unhide HSa w' (up w' hb))
  have KA := hide (fun w' (hb : Below w5.heap.size w5 w') => unhide HA w' (up w' hb))
  have KU := hide (fun w' (hb : Below w5.heap.size w5 w') => unhide HU a1 c1 w' (rowAt_below (rowAt_own o1) (Nat.le_refl _) hb))
  have KM := hide (fun w' (hb : Below w5.heap.size w5 w') => unhide HM a2' c2 w' (rowAt_below (rowAt_own o2) (Nat.le_refl _) hb))
  have KD := hide (fun w' (hb : Below w5.heap.size w5 w') => unhide HD a3 c3 w' (rowAt_below (rowAt_own o3) (Nat.le_refl _) hb))
  have KN := hide (fun w' (hb : Below w5.heap.size w5 w') => unhide HN a4 c4 w' (rowAt_below (rowAt_own o4) (Nat.le_refl _) hb))
  have KSn := hide (fun w' (hb : Below w5.heap.size w5 w') => unhide HSn a4 c4 w' (rowAt_below (rowAt_own o4) (Nat.le_refl _) hb))
  have KE := hide (fun w' (hb : Below w5.heap.size w5 w') => unhide HE a5 c5 w' (rowAt_below (rowAt_own o5) (Nat.le_refl _) hb) (up w' hb))
  have Hc5 := hide (Below.refl w5.heap.size w5)
  clear o1 o2 o3 o4 o5 up hb50 HC1 HC2 HH1 HH2 HSa HA HU HM HD HN HSn HE H1 H2 H3 H4 H5b Hb1 Hb2 Hb3 Hb4
  go_wp2_with fail
  refine (unhide KC1 _ (unhide Hc5)).mono ?_
  rintro e w6 ⟨rfl, hb6⟩
  have Hc6 := hide ((unhide Hc5).trans (below_le hb6 (unhide Hc5).size))
  clear hb6
  go_wp2_with fail
  refine (unhide KC2 _ (unhide Hc6)).mono ?_
  rintro e w7 ⟨rfl, hb7⟩
  have Hc7 := hide ((unhide Hc6).trans (below_le hb7 (unhide Hc6).size))
  clear hb7
  go_wp2_with fail
  refine (unhide KH1 _ (unhide Hc7)).mono ?_
  rintro e w8 ⟨rfl, hb8⟩
  have Hc8 := hide ((unhide Hc7).trans (below_le hb8 (unhide Hc7).size))
  clear hb8
  go_wp2_with fail
  refine (unhide KH2 _ (unhide Hc8)).mono ?_
  rintro e w9 ⟨rfl, hb9⟩
  have Hc9 := hide ((unhide Hc8).trans (below_le hb9 (unhide Hc8).size))
  clear hb9
  go_wp2_with fail
  refine (unhide KA _ (unhide Hc9)).mono ?_
  rintro e w10 ⟨rfl, hb10⟩
  have Hc10 := hide ((unhide Hc9).trans (below_le hb10 (unhide Hc9).size))
  clear hb10
  go_wp2
  go_ret
  exact ⟨rfl, unhide Hup _ (unhide Hc10)⟩
end Go.Proofs.YtkbhdojgdgiggabDoor

/- The law WorkAlgebra, walked. -/
import Derived.Test.YtdpphjedjhjdgaaDoorC4
import Derived.Lib.Strings
import Derived.WideShapes
namespace Go.Proofs.YtdpphjedjhjdgaaDoor
open Go.RowKit Go.Maps

theorem tab_below {w W : World} (h : Tab w) (hb : Below w.heap.size w W) (h0 : 0 < w.heap.size) : Tab W := fun j hj => (hb.cell (p := ⟨0, j, none⟩) h0).trans (h j hj)
theorem str_eq (a b : ByteArray) : decide (a = b) = (a.toList == b.toList) := by
  by_cases e : a = b
  · subst e; simp
  · rw [decide_eq_false e]
    symm
    rw [beq_eq_false_iff_ne]
    intro h
    rw [Lib.toList_data, Lib.toList_data] at h
    exact e (Go.WideShapes.bytes_inj h)
theorem any_take (f : Int → Bool) (l : List Int) (k : Nat) (hk : k < l.length) : (l.take (k + 1)).any f = ((l.take k).any f || f (l.getD k 0)) := by
  rw [List.take_add_one, List.getElem?_eq_getElem hk, List.any_append, List.getD_eq_getElem?_getD, List.getElem?_eq_getElem hk]
  simp

theorem own_nrow2 {w : World} {B n c : Nat} {a : Option Addr} {L : List Int} (h : w.ownsRow B 3 1 (.slice a n c) n (intV L)) (hn : n = L.length) : NRow w a L := by
  subst hn
  by_cases h0 : L = []
  · exact .inl h0
  · obtain ⟨g, c', e, -⟩ := own_pos h (List.length_pos_iff.2 h0)
    simp only [Value.slice.injEq] at e
    obtain ⟨rfl, -, rfl⟩ := e
    exact own_nrow h

set_option maxHeartbeats 8000000 in
set_option maxRecDepth 100000 in
theorem alg_yes (aa ab : Option Addr) (ca cb : Nat) (l m : List Int) (n : Int) (hl : l.length ≤ 281474976710656) (hm : m.length ≤ 281474976710656) (hnl : numsB l = true) (hnm : numsB m = true) (w : World) (hra : NRow w aa l) (hrb : NRow w ab m) (ht : Tab w) (h0 : 0 < w.heap.size) :
    Calls Tryd.prog 4 #[.slice aa l.length ca, .slice ab m.length cb, .int .i64 n] w fun e w' => e = .returned (.bool true) ∧ Below w.heap.size w w' := by
  have HN1 := hide (new_nums 1048576 rfl aa ca l hl hnl w hra)
  have Hrb := hide hrb; have Ht := hide ht; have Hnm := hide hnm
  clear hra hrb ht hnl hnm
  go_enter Tryd.func4, Tryd.ntmps4
  go_wp2_with fail
  refine (unhide HN1).mono ?_
  rintro e W1 ⟨rfl, hb1, bl, O1, hok1, hO1, -⟩
  have HN2 := hide (new_nums 1048576 rfl ab cb m hm (unhide Hnm) W1 (nrow_below (unhide Hrb) hb1 (Nat.le_refl _)))
  obtain ⟨s1, hs1⟩ : ∃ s1 : Int, s1 = (cnt 1048576 (hasB bl) : Int) := ⟨_, rfl⟩
  rw [← hs1] at hok1
  have hs1b : 0 ≤ s1 ∧ s1 ≤ 1048576 := by have := cnt_le 1048576 (hasB bl); omega
  have Hb1 := hide hb1; have Hok1 := hide hok1; have HO1 := hide hO1; have Hs1 := hide hs1
  have hz1 := hb1.size
  clear hb1 hok1 hO1 hs1 HN1
  go_wp2_with fail
  refine (unhide HN2).mono ?_
  rintro e W2 ⟨rfl, hb2, cl, O2, hok2, hO2, -⟩
  obtain ⟨s2, hs2⟩ : ∃ s2 : Int, s2 = (cnt 1048576 (hasB cl) : Int) := ⟨_, rfl⟩
  rw [← hs2] at hok2
  have hx2 := ok_below (unhide Hok1) hb2
  have HCp := hide (copy_any w.heap.size O1 bl s1 W2 hx2)
  have Hb2 := hide ((unhide Hb1).trans (hb2.mono hz1)); have Hok2 := hide hok2; have HO2 := hide hO2; have Hs2 := hide hs2; have Hx2 := hide hx2
  have hz2 := hb2.size
  obtain ⟨bx, hbx⟩ : ∃ bx, bx = w.heap.size := ⟨_, rfl⟩
  obtain ⟨by', hby⟩ : ∃ by', by' = W1.heap.size := ⟨_, rfl⟩
  rw [← hbx] at HCp
  rw [← hby] at Hok2
  rw [← hbx] at Hx2
  have Hbx := hide hbx; have Hby := hide hby
  clear hb2 hok2 hO2 hs2 hx2 HN2 Hb1 Hok1 
  rw [← hbx, ← hby]
  clear hbx hby
  go_wp2_with fail
  refine (unhide HCp).mono ?_
  rintro e W3 ⟨Z, rfl, hb3, O3, hok3, hO3⟩
  have hy3 := ok_below (unhide Hok2) hb3
  have hx3 := ok_below (unhide Hx2) hb3
  have hd23 : ∀ k, O2 k → ¬ O3 k := fun k h2 h3 => by have := hO3 k h3; have := (unhide Hok2).is.lt k h2; omega
  have hd13 : ∀ k, O1 k → ¬ O3 k := fun k h2 h3 => by have := hO3 k h3; have := (unhide Hx2).is.lt k h2; omega
  have HJ := hide (join_any Z by' O3 O2 bl cl s1 s2 (by omega) W3 hok3 hy3 hd23)
  have Hb3 := hide ((unhide Hb2).trans (hb3.mono (unhide Hb2).size))
  have HX : Hid (∀ W, Off O3 W3 W → SetOk W bx O1 bl s1 ∧ SetOk W by' O2 cl s2 ∧ Below w.heap.size w W) := hide (fun W ho => ⟨ok_off hx3 ho hd13, ok_off hy3 ho hd23, (unhide Hb3).trans (off_to ho (fun k hk => by have := hO3 k hk; have := (unhide Hb2).size; omega) (unhide Hb3).size)⟩)
  clear hb3 hok3 hO3 hy3 hx3 hd23 hd13 HCp Hb2 Hx2 Hok2
  go_wp2_with fail
  refine (unhide HJ).mono ?_
  rintro e W4 ⟨rfl, ho4, zl, O4, hok4, hO4, hh4⟩
  obtain ⟨hx4, hy4, hb4⟩ := unhide HX W4 ho4
  obtain ⟨j, hj⟩ : ∃ j : Int, j = (joinS (hasB bl) cl).2 := ⟨_, rfl⟩
  have hf := alg_facts (ok_good hx4) (ok_good hy4) (ok_good hok4) (unhide Hs1) (unhide Hs2) hj hh4
  rw [← hj] at hok4
  have hjb : 0 ≤ j ∧ j ≤ 1048576 := by
    have h1 := joinS_le (hasB bl) cl cl.length (Nat.le_refl _)
    rw [List.take_length] at h1
    have := fit_short hy4.is.up hy4.fit
    omega
  have hpos4 : 0 < W4.heap.size := Nat.lt_of_lt_of_le h0 hb4.size
  have HAll := hide (all_any bx O1 bl s1 hs1b W4 hx4 (tab_below (unhide Ht) hb4 h0) hpos4)
  have hln : (allL bl).length ≤ 1048576 := by
    have h1 := allL_len bl
    have h2 := fit_short hx4.is.up hx4.fit
    omega
  have Hx4 := hide hx4; have Hy4 := hide hy4; have Hz4 := hide hok4; have Hb4 := hide hb4; have Hf := hide hf
  rw [← hj]
  clear ho4 hok4 hO4 hh4 hx4 hy4 hb4 hf hj HX HJ hpos4 Hb3
  go_wp2_with fail
  refine (unhide HAll).mono ?_
  rintro e W5 ⟨v5, rfl, hown5, hb5⟩
  obtain ⟨va5, vc5, rfl⟩ := own_form hown5
  have hrow5 := own_nrow2 hown5 rfl
  have Hx5 := hide (ok_below (unhide Hx4) hb5); have Hy5 := hide (ok_below (unhide Hy4) hb5); have Hz5 := hide (ok_below (unhide Hz4) hb5)
  have Hb5 := hide ((unhide Hb4).trans (hb5.mono (unhide Hb4).size))
  have Hrow5 := hide hrow5
  clear hown5 hb5 hrow5 HAll Hx4 Hy4 Hz4 Hb4
  generalize hLL : allL bl = L at *
  have HLL := hide hLL
  clear hLL
  go_wp2
  go_loopw [59, 13] (fun x b W => ∃ i : Nat, x = .int .i64 i ∧ i ≤ L.length ∧ b = .bool ((L.take i).any (hasB cl)) ∧ Below W5.heap.size W5 W) (fun x _ _ => L.length - (intOf x).toNat)
  case atStart => exact ⟨0, rfl, Nat.zero_le _, rfl, Below.refl _ _⟩
  case round =>
    obtain ⟨i, rfl, hi, rfl, hbw⟩ := hrel
    by_cases hlt : i < L.length
    · have hlt' : (i : Int) < L.length := by omega
      rcases unhide Hrow5 with h | ⟨g, off, rfl, hgl, hc⟩
      · subst h; simp at hlt
      have ck : wr.cell? ⟨g, off + i, none⟩ = some (.int .i64 (L.getD i 0)) := (hbw.cell (p := ⟨g, off + i, none⟩) hgl).trans (hc i hlt)
      have HT := hide (any_take (hasB cl) L i hlt)
      have HH := hide (has_any by' O2 cl s2 (L.getD i 0) wr (set_below (unhide Hy5).is hbw))
      have Hbw := hide hbw
      clear hc hbw
      generalize L.getD i 0 = v at *
      generalize hasB cl v = hv at *
      cases hmt : (L.take i).any (hasB cl)
      · rw [hmt] at HT
        clear hmt
        go_wp2_with (go_at_call 15; refine (unhide HH).mono ?_; rintro e W6 ⟨rfl, hb6⟩; have Hb6 := hide hb6; clear hb6)
        go_roundw
        case rel => exact ⟨i + 1, by go_num, by omega, by rw [unhide HT]; rfl, (unhide Hbw).trans ((unhide Hb6).mono (unhide Hbw).size)⟩
        case measure => simp [intOf]; omega
      · rw [hmt] at HT
        clear hmt HH
        go_wp2
        go_roundw
        case rel => exact ⟨i + 1, by go_num, by omega, by rw [unhide HT]; rfl, unhide Hbw⟩
        case measure => simp [intOf]; omega
    · obtain rfl : i = L.length := by omega
      have hlt' : ¬ ((L.length : Int) < L.length) := by omega
      rw [List.take_length]
      have f := unhide Hf
      have HZ15 := hide (fun W (hb : Below W5.heap.size W5 W) => has_any Z O4 zl (s1 + j) n W (set_below (unhide Hz5).is hb))
      have HX15 := hide (fun W (hb : Below W5.heap.size W5 W) => has_any bx O1 bl s1 n W (set_below (unhide Hx5).is hb))
      have HY15 := hide (fun W (hb : Below W5.heap.size W5 W) => has_any by' O2 cl s2 n W (set_below (unhide Hy5).is hb))
      have HZ12 := hide (fun W (hb : Below W5.heap.size W5 W) => lenS_any Z O4 zl (s1 + j) W (set_below (unhide Hz5).is hb))
      have HX12 := hide (fun W (hb : Below W5.heap.size W5 W) => lenS_any bx O1 bl s1 W (set_below (unhide Hx5).is hb))
      have HXZ16 := hide (fun W (hb : Below W5.heap.size W5 W) => within_any bx Z O1 O4 bl zl s1 (s1 + j) W (ok_below (unhide Hx5) hb) (ok_below (unhide Hz5) hb))
      have HYZ16 := hide (fun W (hb : Below W5.heap.size W5 W) => within_any by' Z O2 O4 cl zl s2 (s1 + j) W (ok_below (unhide Hy5) hb) (ok_below (unhide Hz5) hb))
      have HXY16 := hide (fun W (hb : Below W5.heap.size W5 W) => within_any bx by' O1 O2 bl cl s1 s2 W (ok_below (unhide Hx5) hb) (ok_below (unhide Hy5) hb))
      have HYX16 := hide (fun W (hb : Below W5.heap.size W5 W) => within_any by' bx O2 O1 cl bl s2 s1 W (ok_below (unhide Hy5) hb) (ok_below (unhide Hx5) hb))
      have HXY17 := hide (fun W (hb : Below W5.heap.size W5 W) => meets_any bx by' O1 O2 bl cl s1 s2 W (ok_below (unhide Hx5) hb) (ok_below (unhide Hy5) hb))
      have HYX17 := hide (fun W (hb : Below W5.heap.size W5 W) => meets_any by' bx O2 O1 cl bl s2 s1 W (ok_below (unhide Hy5) hb) (ok_below (unhide Hx5) hb))
      have HXY18 := hide (fun W (hb : Below W5.heap.size W5 W) => same_any bx by' O1 O2 bl cl s1 s2 W (ok_below (unhide Hx5) hb) (ok_below (unhide Hy5) hb))
      have HXZ18 := hide (fun W (hb : Below W5.heap.size W5 W) => same_any bx Z O1 O4 bl zl s1 (s1 + j) W (ok_below (unhide Hx5) hb) (ok_below (unhide Hz5) hb))
      have HX19 := hide (fun W (hb : Below W5.heap.size W5 W) => key_any bx O1 bl s1 W (ok_below (unhide Hx5) hb))
      have HZ19 := hide (fun W (hb : Below W5.heap.size W5 W) => key_any Z O4 zl (s1 + j) W (ok_below (unhide Hz5) hb))
      have HA := hide alive_any
      rw [f.meet, unhide HLL] at HXY17
      rw [f.sym, unhide HLL] at HYX17
      rw [f.same] at HXY18
      rw [f.key, str_eq] at HXZ18
      rw [f.has] at HZ15
      rw [f.xz] at HXZ16
      rw [f.yz] at HYZ16
      have hsub : IntKind.i64.wrap (s1 + j - s1) = j := by rw [IntKind.wrap_i64]; omega
      have Hb := hide hbw
      have Hbb := hide (fun W (hb : Below W5.heap.size W5 W) => (unhide Hb5).trans (hb.mono (unhide Hb5).size))
      clear f hbw Hx5 Hy5 Hz5 Hrow5 Hf Hs1 Hs2 HLL HO1 HO2 Hb5
      generalize strOfNums (keyL bl) = kx at *
      generalize strOfNums (keyL zl) = kz at *
      generalize L.any (hasB cl) = mt at *
      generalize withinB cl bl = wyx at *
      generalize hasB cl n = hy at *
      cases hx : hasB bl n
      · rw [hx] at HX15 HZ15
        clear hx
        simp only [Bool.false_or] at HZ15
        cases wxy : withinB bl cl
        · rw [wxy] at HXY16 HXY18
          clear wxy
          simp only [Bool.false_and] at HXY18
          go_wp2_with fail
          refine (unhide HZ15 _ (unhide Hb)).mono ?_
          rintro e W ⟨rfl, hb⟩
          have Hb := hide ((unhide Hb).trans (hb.mono (unhide Hb).size))
          clear hb
          go_wp2_with fail
          refine (unhide HX15 _ (unhide Hb)).mono ?_
          rintro e W ⟨rfl, hb⟩
          have Hb := hide ((unhide Hb).trans (hb.mono (unhide Hb).size))
          clear hb
          go_wp2_with fail
          refine (unhide HY15 _ (unhide Hb)).mono ?_
          rintro e W ⟨rfl, hb⟩
          have Hb := hide ((unhide Hb).trans (hb.mono (unhide Hb).size))
          clear hb
          go_wp2_with fail
          refine (unhide HZ12 _ (unhide Hb)).mono ?_
          rintro e W ⟨rfl, hw⟩
          obtain rfl := hw.symm
          go_wp2_with fail
          refine (unhide HX12 _ (unhide Hb)).mono ?_
          rintro e W ⟨rfl, hw⟩
          obtain rfl := hw.symm
          go_wp2_with fail
          refine (unhide HXZ16 _ (unhide Hb)).mono ?_
          rintro e W ⟨rfl, hb⟩
          have Hb := hide ((unhide Hb).trans (hb.mono (unhide Hb).size))
          clear hb
          go_wp2_with fail
          refine (unhide HYZ16 _ (unhide Hb)).mono ?_
          rintro e W ⟨rfl, hb⟩
          have Hb := hide ((unhide Hb).trans (hb.mono (unhide Hb).size))
          clear hb
          go_wp2_with fail
          refine (unhide HXY17 _ (unhide Hb)).mono ?_
          rintro e W ⟨rfl, hb⟩
          have Hb := hide ((unhide Hb).trans (hb.mono (unhide Hb).size))
          clear hb
          go_wp2_with fail
          refine (unhide HXY17 _ (unhide Hb)).mono ?_
          rintro e W ⟨rfl, hb⟩
          have Hb := hide ((unhide Hb).trans (hb.mono (unhide Hb).size))
          clear hb
          go_wp2_with fail
          refine (unhide HYX17 _ (unhide Hb)).mono ?_
          rintro e W ⟨rfl, hb⟩
          have Hb := hide ((unhide Hb).trans (hb.mono (unhide Hb).size))
          clear hb
          go_wp2_with fail
          refine (unhide HXY18 _ (unhide Hb)).mono ?_
          rintro e W ⟨rfl, hb⟩
          have Hb := hide ((unhide Hb).trans (hb.mono (unhide Hb).size))
          clear hb
          go_wp2_with fail
          refine (unhide HXY16 _ (unhide Hb)).mono ?_
          rintro e W ⟨rfl, hb⟩
          have Hb := hide ((unhide Hb).trans (hb.mono (unhide Hb).size))
          clear hb
          go_wp2_with fail
          refine (unhide HX19 _ (unhide Hb)).mono ?_
          rintro e W ⟨rfl, hb⟩
          have Hb := hide ((unhide Hb).trans (hb.mono (unhide Hb).size))
          clear hb
          go_wp2_with fail
          refine (unhide HZ19 _ (unhide Hb)).mono ?_
          rintro e W ⟨rfl, hb⟩
          have Hb := hide ((unhide Hb).trans (hb.mono (unhide Hb).size))
          clear hb
          go_wp2_with fail
          refine (unhide HXZ18 _ (unhide Hb)).mono ?_
          rintro e W ⟨rfl, hb⟩
          have Hb := hide ((unhide Hb).trans (hb.mono (unhide Hb).size))
          clear hb
          go_wp2_with fail
          refine (unhide HA _).mono ?_
          rintro e W ⟨rfl, hb⟩
          have Hb := hide ((unhide Hb).trans (hb.mono (unhide Hb).size))
          clear hb
          go_wp2
          go_ret
          exact ⟨rfl, unhide Hbb _ (unhide Hb)⟩
        · rw [wxy] at HXY16 HXY18
          clear wxy
          simp only [Bool.true_and] at HXY18
          go_wp2_with fail
          refine (unhide HZ15 _ (unhide Hb)).mono ?_
          rintro e W ⟨rfl, hb⟩
          have Hb := hide ((unhide Hb).trans (hb.mono (unhide Hb).size))
          clear hb
          go_wp2_with fail
          refine (unhide HX15 _ (unhide Hb)).mono ?_
          rintro e W ⟨rfl, hb⟩
          have Hb := hide ((unhide Hb).trans (hb.mono (unhide Hb).size))
          clear hb
          go_wp2_with fail
          refine (unhide HY15 _ (unhide Hb)).mono ?_
          rintro e W ⟨rfl, hb⟩
          have Hb := hide ((unhide Hb).trans (hb.mono (unhide Hb).size))
          clear hb
          go_wp2_with fail
          refine (unhide HZ12 _ (unhide Hb)).mono ?_
          rintro e W ⟨rfl, hw⟩
          obtain rfl := hw.symm
          go_wp2_with fail
          refine (unhide HX12 _ (unhide Hb)).mono ?_
          rintro e W ⟨rfl, hw⟩
          obtain rfl := hw.symm
          go_wp2_with fail
          refine (unhide HXZ16 _ (unhide Hb)).mono ?_
          rintro e W ⟨rfl, hb⟩
          have Hb := hide ((unhide Hb).trans (hb.mono (unhide Hb).size))
          clear hb
          go_wp2_with fail
          refine (unhide HYZ16 _ (unhide Hb)).mono ?_
          rintro e W ⟨rfl, hb⟩
          have Hb := hide ((unhide Hb).trans (hb.mono (unhide Hb).size))
          clear hb
          go_wp2_with fail
          refine (unhide HXY17 _ (unhide Hb)).mono ?_
          rintro e W ⟨rfl, hb⟩
          have Hb := hide ((unhide Hb).trans (hb.mono (unhide Hb).size))
          clear hb
          go_wp2_with fail
          refine (unhide HXY17 _ (unhide Hb)).mono ?_
          rintro e W ⟨rfl, hb⟩
          have Hb := hide ((unhide Hb).trans (hb.mono (unhide Hb).size))
          clear hb
          go_wp2_with fail
          refine (unhide HYX17 _ (unhide Hb)).mono ?_
          rintro e W ⟨rfl, hb⟩
          have Hb := hide ((unhide Hb).trans (hb.mono (unhide Hb).size))
          clear hb
          go_wp2_with fail
          refine (unhide HXY18 _ (unhide Hb)).mono ?_
          rintro e W ⟨rfl, hb⟩
          have Hb := hide ((unhide Hb).trans (hb.mono (unhide Hb).size))
          clear hb
          go_wp2_with fail
          refine (unhide HXY16 _ (unhide Hb)).mono ?_
          rintro e W ⟨rfl, hb⟩
          have Hb := hide ((unhide Hb).trans (hb.mono (unhide Hb).size))
          clear hb
          go_wp2_with fail
          refine (unhide HYX16 _ (unhide Hb)).mono ?_
          rintro e W ⟨rfl, hb⟩
          have Hb := hide ((unhide Hb).trans (hb.mono (unhide Hb).size))
          clear hb
          go_wp2_with fail
          refine (unhide HX19 _ (unhide Hb)).mono ?_
          rintro e W ⟨rfl, hb⟩
          have Hb := hide ((unhide Hb).trans (hb.mono (unhide Hb).size))
          clear hb
          go_wp2_with fail
          refine (unhide HZ19 _ (unhide Hb)).mono ?_
          rintro e W ⟨rfl, hb⟩
          have Hb := hide ((unhide Hb).trans (hb.mono (unhide Hb).size))
          clear hb
          go_wp2_with fail
          refine (unhide HXZ18 _ (unhide Hb)).mono ?_
          rintro e W ⟨rfl, hb⟩
          have Hb := hide ((unhide Hb).trans (hb.mono (unhide Hb).size))
          clear hb
          go_wp2_with fail
          refine (unhide HA _).mono ?_
          rintro e W ⟨rfl, hb⟩
          have Hb := hide ((unhide Hb).trans (hb.mono (unhide Hb).size))
          clear hb
          go_wp2
          go_ret
          exact ⟨rfl, unhide Hbb _ (unhide Hb)⟩
      · rw [hx] at HX15 HZ15
        clear hx
        simp only [Bool.true_or] at HZ15
        cases wxy : withinB bl cl
        · rw [wxy] at HXY16 HXY18
          clear wxy
          simp only [Bool.false_and] at HXY18
          go_wp2_with fail
          refine (unhide HZ15 _ (unhide Hb)).mono ?_
          rintro e W ⟨rfl, hb⟩
          have Hb := hide ((unhide Hb).trans (hb.mono (unhide Hb).size))
          clear hb
          go_wp2_with fail
          refine (unhide HX15 _ (unhide Hb)).mono ?_
          rintro e W ⟨rfl, hb⟩
          have Hb := hide ((unhide Hb).trans (hb.mono (unhide Hb).size))
          clear hb
          go_wp2_with fail
          refine (unhide HZ12 _ (unhide Hb)).mono ?_
          rintro e W ⟨rfl, hw⟩
          obtain rfl := hw.symm
          go_wp2_with fail
          refine (unhide HX12 _ (unhide Hb)).mono ?_
          rintro e W ⟨rfl, hw⟩
          obtain rfl := hw.symm
          go_wp2_with fail
          refine (unhide HXZ16 _ (unhide Hb)).mono ?_
          rintro e W ⟨rfl, hb⟩
          have Hb := hide ((unhide Hb).trans (hb.mono (unhide Hb).size))
          clear hb
          go_wp2_with fail
          refine (unhide HYZ16 _ (unhide Hb)).mono ?_
          rintro e W ⟨rfl, hb⟩
          have Hb := hide ((unhide Hb).trans (hb.mono (unhide Hb).size))
          clear hb
          go_wp2_with fail
          refine (unhide HXY17 _ (unhide Hb)).mono ?_
          rintro e W ⟨rfl, hb⟩
          have Hb := hide ((unhide Hb).trans (hb.mono (unhide Hb).size))
          clear hb
          go_wp2_with fail
          refine (unhide HXY17 _ (unhide Hb)).mono ?_
          rintro e W ⟨rfl, hb⟩
          have Hb := hide ((unhide Hb).trans (hb.mono (unhide Hb).size))
          clear hb
          go_wp2_with fail
          refine (unhide HYX17 _ (unhide Hb)).mono ?_
          rintro e W ⟨rfl, hb⟩
          have Hb := hide ((unhide Hb).trans (hb.mono (unhide Hb).size))
          clear hb
          go_wp2_with fail
          refine (unhide HXY18 _ (unhide Hb)).mono ?_
          rintro e W ⟨rfl, hb⟩
          have Hb := hide ((unhide Hb).trans (hb.mono (unhide Hb).size))
          clear hb
          go_wp2_with fail
          refine (unhide HXY16 _ (unhide Hb)).mono ?_
          rintro e W ⟨rfl, hb⟩
          have Hb := hide ((unhide Hb).trans (hb.mono (unhide Hb).size))
          clear hb
          go_wp2_with fail
          refine (unhide HX19 _ (unhide Hb)).mono ?_
          rintro e W ⟨rfl, hb⟩
          have Hb := hide ((unhide Hb).trans (hb.mono (unhide Hb).size))
          clear hb
          go_wp2_with fail
          refine (unhide HZ19 _ (unhide Hb)).mono ?_
          rintro e W ⟨rfl, hb⟩
          have Hb := hide ((unhide Hb).trans (hb.mono (unhide Hb).size))
          clear hb
          go_wp2_with fail
          refine (unhide HXZ18 _ (unhide Hb)).mono ?_
          rintro e W ⟨rfl, hb⟩
          have Hb := hide ((unhide Hb).trans (hb.mono (unhide Hb).size))
          clear hb
          go_wp2_with fail
          refine (unhide HA _).mono ?_
          rintro e W ⟨rfl, hb⟩
          have Hb := hide ((unhide Hb).trans (hb.mono (unhide Hb).size))
          clear hb
          go_wp2
          go_ret
          exact ⟨rfl, unhide Hbb _ (unhide Hb)⟩
        · rw [wxy] at HXY16 HXY18
          clear wxy
          simp only [Bool.true_and] at HXY18
          go_wp2_with fail
          refine (unhide HZ15 _ (unhide Hb)).mono ?_
          rintro e W ⟨rfl, hb⟩
          have Hb := hide ((unhide Hb).trans (hb.mono (unhide Hb).size))
          clear hb
          go_wp2_with fail
          refine (unhide HX15 _ (unhide Hb)).mono ?_
          rintro e W ⟨rfl, hb⟩
          have Hb := hide ((unhide Hb).trans (hb.mono (unhide Hb).size))
          clear hb
          go_wp2_with fail
          refine (unhide HZ12 _ (unhide Hb)).mono ?_
          rintro e W ⟨rfl, hw⟩
          obtain rfl := hw.symm
          go_wp2_with fail
          refine (unhide HX12 _ (unhide Hb)).mono ?_
          rintro e W ⟨rfl, hw⟩
          obtain rfl := hw.symm
          go_wp2_with fail
          refine (unhide HXZ16 _ (unhide Hb)).mono ?_
          rintro e W ⟨rfl, hb⟩
          have Hb := hide ((unhide Hb).trans (hb.mono (unhide Hb).size))
          clear hb
          go_wp2_with fail
          refine (unhide HYZ16 _ (unhide Hb)).mono ?_
          rintro e W ⟨rfl, hb⟩
          have Hb := hide ((unhide Hb).trans (hb.mono (unhide Hb).size))
          clear hb
          go_wp2_with fail
          refine (unhide HXY17 _ (unhide Hb)).mono ?_
          rintro e W ⟨rfl, hb⟩
          have Hb := hide ((unhide Hb).trans (hb.mono (unhide Hb).size))
          clear hb
          go_wp2_with fail
          refine (unhide HXY17 _ (unhide Hb)).mono ?_
          rintro e W ⟨rfl, hb⟩
          have Hb := hide ((unhide Hb).trans (hb.mono (unhide Hb).size))
          clear hb
          go_wp2_with fail
          refine (unhide HYX17 _ (unhide Hb)).mono ?_
          rintro e W ⟨rfl, hb⟩
          have Hb := hide ((unhide Hb).trans (hb.mono (unhide Hb).size))
          clear hb
          go_wp2_with fail
          refine (unhide HXY18 _ (unhide Hb)).mono ?_
          rintro e W ⟨rfl, hb⟩
          have Hb := hide ((unhide Hb).trans (hb.mono (unhide Hb).size))
          clear hb
          go_wp2_with fail
          refine (unhide HXY16 _ (unhide Hb)).mono ?_
          rintro e W ⟨rfl, hb⟩
          have Hb := hide ((unhide Hb).trans (hb.mono (unhide Hb).size))
          clear hb
          go_wp2_with fail
          refine (unhide HYX16 _ (unhide Hb)).mono ?_
          rintro e W ⟨rfl, hb⟩
          have Hb := hide ((unhide Hb).trans (hb.mono (unhide Hb).size))
          clear hb
          go_wp2_with fail
          refine (unhide HX19 _ (unhide Hb)).mono ?_
          rintro e W ⟨rfl, hb⟩
          have Hb := hide ((unhide Hb).trans (hb.mono (unhide Hb).size))
          clear hb
          go_wp2_with fail
          refine (unhide HZ19 _ (unhide Hb)).mono ?_
          rintro e W ⟨rfl, hb⟩
          have Hb := hide ((unhide Hb).trans (hb.mono (unhide Hb).size))
          clear hb
          go_wp2_with fail
          refine (unhide HXZ18 _ (unhide Hb)).mono ?_
          rintro e W ⟨rfl, hb⟩
          have Hb := hide ((unhide Hb).trans (hb.mono (unhide Hb).size))
          clear hb
          go_wp2_with fail
          refine (unhide HA _).mono ?_
          rintro e W ⟨rfl, hb⟩
          have Hb := hide ((unhide Hb).trans (hb.mono (unhide Hb).size))
          clear hb
          go_wp2
          go_ret
          exact ⟨rfl, unhide Hbb _ (unhide Hb)⟩
end Go.Proofs.YtdpphjedjhjdgaaDoor

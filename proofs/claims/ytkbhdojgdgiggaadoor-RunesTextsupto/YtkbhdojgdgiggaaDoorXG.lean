/- The document's reader of ranges. -/
import Derived.Test.YtkbhdojgdgiggaaDoorXF
namespace Go.Proofs.YtkbhdojgdgiggaaDoor
open Go.RowKit Go.Lib Go.Sort

theorem FX.other {c d : Nat} {a b : Int} {W : World} (h : FX c a b W) (hd : d ≠ c) (j : Nat) (v : Value) : FX c a b (W.setCell ⟨d, j, none⟩ v) := by
  rw [Go.Sort.setCell_eq]
  show (W.heap.modify d _)[c]? = _
  rw [Array.getElem?_modify, if_neg hd]; exact h
/-- The document's Read tells this. -/
def ReadP (s : ByteArray) (i : Nat) (w : World) (neg : Bool) (R : Rs) : Prop := Calls Tryd.prog 57 #[.string s, .int .i64 i] w fun q w' => ∃ v, q = .returned (.tuple #[v, .bool (if R.why = 0 then neg else false), .int .i64 (if R.why = 0 then R.n + 1 else 0 : Nat), .agg #[.int .i64 R.why, .int .i64 R.pos]]) ∧ w'.ownsRow w.heap.size 55 2 v R.l.length (flat R.l) ∧ Below w.heap.size w w'
set_option maxHeartbeats 4000000 in
set_option maxRecDepth 100000 in
theorem rReads_false (s : ByteArray) (i : Nat) (hs : s.size ≤ 1048576) (h0 : gb s i = 91) (h1 : negB s i = false) (R : Rs) (hR : rdsF s (s.size + 1) (i + 1) [] = R) (w : World) : ReadP s i w false R := by
  obtain ⟨i0, hi0, hz0, hz1, hz2⟩ := info_parts hrange
  have hi : i < s.size := gb_pos (by rw [h0]; omega)
  have HI := hide (rAt_any s i)
  rw [atB_in hi, h0] at HI
  have HI1 := hide (rAt_any s (i + 1))
  have hng : (atB s (i + 1) == 94) = false := by rw [atB_eq s (i + 1) 94 (by omega)]; exact h1
  have HG := hide (fun j (hj : j ≤ s.size) w => rRead_any s j (by omega) hj w)
  have HR := hide hR
  clear h0 h1 hR
  generalize atB s (i + 1) = a1 at *
  unfold ReadP
  go_enter Tryd.func57, Tryd.ntmps57
  go_wp2_with fail
  refine (unhide HI _).mono ?_
  rintro e w' ⟨rfl, hw⟩
  obtain rfl := hw.symm
  go_wp2_with fail
  refine (unhide HI1 _).mono ?_
  rintro e w' ⟨rfl, hw⟩
  obtain rfl := hw.symm
  go_wp2
  go_loopw [1, 9] (fun x u wr => ∃ (j f : Nat) (acc : List Rng), x = .int .i64 j ∧ wr.ownsRow (w.heap.size + 1) 55 2 u acc.length (flat acc) ∧ Hid (rdsF s f j acc = R) ∧ s.size + 1 ≤ j + f ∧ j ≤ s.size ∧ acc.length ≤ j ∧ FX w.heap.size 0 0 wr ∧ Below w.heap.size w wr) (fun x _ _ => s.size + 1 - (intOf x).toNat)
  case atStart => exact ⟨i + 1, s.size + 1, [], by go_num, ⟨rfl, .inl ⟨rfl, rfl⟩⟩, unhide HR, by omega, by omega, by simp, FX.start w 0 0, (Below.refl _ _).alloc (Nat.le_refl _) _⟩
  case round =>
    obtain ⟨j, f, acc, rfl, hown, hrd, hf, hj, hacc, hfb, hbel⟩ := hrel
    obtain ⟨f, rfl⟩ : ∃ g, f = g + 1 := ⟨f - 1, by omega⟩
    have hrd' := unhide hrd
    rw [rdsF] at hrd'
    have hsz := hfb.lt
    obtain ⟨va, vcap, rfl⟩ := ownsRow_slice hown
    have HAj := hide (rAt_any s j)
    have e93 := atB_eq s j 93 (by omega)
    have e32 := atB_eq s j 32 (by omega)
    have Hown := hide hown; have Hfb := hide hfb; have Hbel := hide hbel; have Hrd := hide hrd'
    clear hown hfb hbel hrd hrd'
    by_cases h93 : gb s j = 93
    · have hRe : R = ⟨acc, j, 0, 0⟩ := by have := unhide Hrd; rw [if_pos h93] at this; exact this.symm
      clear Hrd
      subst hRe
      have a93 : atB s j = 93 := by rw [h93] at e93; simpa using e93
      rw [a93] at HAj
      clear e93 e32 a93
      have f0 := (unhide Hfb).cell0; have f1 := (unhide Hfb).cell1; have z0 := (unhide Hfb).fz 0; have z1 := (unhide Hfb).fz 1; have q0 := (unhide Hfb).same0; have q1 := (unhide Hfb).same1
      go_wp2_with fail
      refine (unhide HAj _).mono ?_
      rintro e w' ⟨rfl, hw⟩
      obtain rfl := hw.symm
      go_wp2
      refine bodyPost_ret (v := .tuple #[.slice va acc.length vcap, .bool false, .int .i64 (j + 1 : Nat), .agg #[.int .i64 0, .int .i64 0]]) (by simp [results, Tryd.results57, go_sem, f0, f1]) rfl ⟨_, rfl, ownsRow_le (unhide Hown) (Nat.le_succ _), unhide Hbel⟩
    · have n93 : (atB s j != 93) = true := by rw [bne, e93]; simpa using h93
      by_cases h32 : gb s j = 32
      · have hjl : j < s.size := gb_pos (by rw [h32]; omega)
        have Hrd2 : Hid (rdsF s f (j + 1) acc = R) := by have := unhide Hrd; rw [if_neg h93, if_pos h32] at this; exact hide this
        have a32 : atB s j = 32 := by rw [h32] at e32; simpa using e32
        rw [a32] at HAj
        clear Hrd e93 e32 n93 a32
        go_wp2_with fail
        refine (unhide HAj _).mono ?_
        rintro e w' ⟨rfl, hw⟩
        obtain rfl := hw.symm
        go_wp2_with fail
        refine (unhide HAj _).mono ?_
        rintro e w' ⟨rfl, hw⟩
        obtain rfl := hw.symm
        go_wp2
        go_roundw
        case rel => exact ⟨j + 1, f, acc, by go_num, unhide Hown, Hrd2, by omega, by omega, by omega, unhide Hfb, unhide Hbel⟩
        case measure => simp [intOf]; omega
      · have n32 : (atB s j == 32) = false := by rw [e32]; simpa using h32
        have hrd3 := unhide Hrd
        rw [if_neg h93, if_neg h32] at hrd3
        have hokA := runM_ok s j
        have HcA := hide (unhide HG j hj)
        have HcB := hide (fun h w => unhide HG ((runM s j).n + 1) h w)
        have HAn := hide (rAt_any s (runM s j).n)
        have e45 := atB_eq s (runM s j).n 45 (by omega)
        have hokB := runM_ok s ((runM s j).n + 1)
        unfold rngM at hrd3
        clear Hrd e93 e32
        generalize runM s ((runM s j).n + 1) = B at *
        generalize runM s j = A at *
        obtain ⟨x, n, why, pos⟩ := A
        simp only at hrd3 hokA HcB HAn e45 hokB
        by_cases hwhy : why ≠ 0
        · simp only [if_pos hwhy] at hrd3
          subst hrd3
          have hne : (why == 0) = false := by simpa using hwhy
          go_wp2_with fail
          refine (unhide HAj _).mono ?_
          rintro e w' ⟨rfl, hw⟩
          obtain rfl := hw.symm
          go_wp2_with fail
          refine (unhide HAj _).mono ?_
          rintro e w' ⟨rfl, hw⟩
          obtain rfl := hw.symm
          go_wp2_with fail
          refine (unhide HcA _).mono ?_
          rintro q w1 ⟨rfl, hb1⟩
          have hfb := ((unhide Hfb).below hb1 hsz)
          have hB1 := (unhide Hbel).trans (belowLe hb1 (unhide Hbel).size)
          have Hin := hide (FX.start w1 why pos)
          have Hout := hide (hfb.alloc (.cells #[.int .i64 why, .int .i64 pos] 48))
          have HB := hide (hB1.alloc hB1.size (.cells #[.int .i64 why, .int .i64 pos] 48))
          clear hb1 hfb hB1
          unfold Rd.val
          go_wp2
          generalize w1.alloc (.cells #[.int .i64 why, .int .i64 pos] 48) = W at *
          have a0 := (unhide Hin).cell0; have a1 := (unhide Hin).cell1
          have f0 := (unhide Hout).cell0; have f1 := (unhide Hout).cell1; have z0 := (unhide Hout).fz 0; have z1 := (unhide Hout).fz 1
          have g1 := (unhide Hout).set0 why; have y0 := g1.fz 1; have y1 := g1.cell1
          have g2 := g1.set1 (pos : Int); have x0 := g2.cell0; have x1 := g2.cell1
          clear g1 g2
          go_region
          go_wp2
          refine bodyPost_ret (v := .tuple #[.slice none 0 0, .bool false, .int .i64 0, .agg #[.int .i64 why, .int .i64 pos]]) (by simp [results, Tryd.results57, go_sem, x0, x1]) rfl ⟨.slice none 0 0, by simp, ⟨rfl, .inl ⟨rfl, rfl⟩⟩, ?_⟩
          exact (below_fault (unhide HB) (Nat.le_refl _) _ _).drew
        · have hw0 : why = 0 := by simpa using hwhy
          subst hw0
          obtain ⟨hlt, hns, _, _, rfl⟩ := hokA rfl
          simp only [if_neg hwhy] at hrd3
          clear hwhy hokA
          go_wp2_with fail
          refine (unhide HAj _).mono ?_
          rintro e w' ⟨rfl, hw⟩
          obtain rfl := hw.symm
          go_wp2_with fail
          refine (unhide HAj _).mono ?_
          rintro e w' ⟨rfl, hw⟩
          obtain rfl := hw.symm
          go_wp2_with fail
          refine (unhide HcA _).mono ?_
          rintro q w1 ⟨rfl, hb1⟩
          have hfb := (unhide Hfb).below hb1 hsz
          have hB1 := (unhide Hbel).trans (belowLe hb1 (unhide Hbel).size)
          have hown1 := ownsRow_below (unhide Hown) hb1 (Nat.le_refl _)
          have hsz1 := hfb.lt
          have hfi := FX.start w1 0 0
          have f0 := hfi.cell0; have f1 := hfi.cell1
          have Hfb1 := hide (hfb.alloc (.cells #[.int .i64 0, .int .i64 0] 48)); have HB1 := hide (hB1.alloc hB1.size (.cells #[.int .i64 0, .int .i64 0] 48)); have Hown1 := hide (hown1.alloc (.cells #[.int .i64 0, .int .i64 0] 48))
          have Hfi := hide hfi
          clear hfb hB1 hown1 hb1 hfi
          unfold Rd.val
          by_cases h45 : gb s n = 45
          · simp only [if_pos h45] at hrd3
            have hin : n < s.size := gb_pos (by rw [h45]; omega)
            have n45 : atB s n = 45 := by rw [atB_in hin, h45]
            rw [n45] at HAn
            have HcB' := hide (unhide HcB (by omega))
            obtain ⟨y, m, why2, pos2⟩ := B
            simp only at hrd3 hokB
            clear e45 n45 HcB
            by_cases hw2 : why2 ≠ 0
            · simp only [if_pos hw2] at hrd3
              subst hrd3
              have hne2 : (why2 == 0) = false := by simpa using hw2
              go_wp2_with fail
              refine (unhide HAn _).mono ?_
              rintro e w' ⟨rfl, hw⟩
              obtain rfl := hw.symm
              go_wp2_with fail
              refine (unhide HcB' _).mono ?_
              rintro q w2 ⟨rfl, hb2⟩
              have hfi := (unhide Hfi).below hb2 (unhide Hfi).lt
              have hfo := (unhide Hfb1).below hb2 (unhide Hfb1).lt
              have hB2 := (unhide HB1).trans (belowLe hb2 (unhide HB1).size)
              have c0 := hfi.cell0; have c1 := hfi.cell1; have d0 := hfi.fz 0; have d1 := hfi.fz 1
              have hi1 := hfi.set0 why2
              have d2 := hi1.fz 1; have c2 := hi1.cell1
              have hi2 := hi1.set1 (pos2 : Int)
              have c3 := hi2.cell0; have c4 := hi2.cell1
              have Hin := hide hi2
              have Hout := hide ((hfo.other (d := w1.heap.size) (by omega) 0 (.int .i64 why2)).other (d := w1.heap.size) (by omega) 1 (.int .i64 (pos2 : Int)))
              have HB := hide (below_fault hB2 (show w.heap.size ≤ w1.heap.size by omega) (.int .i64 why2) (.int .i64 (pos2 : Int)))
              clear hb2 hfi hfo hB2 hi1 hi2 f0 f1
              unfold Rd.val
              go_wp2
              clear c0 c1 c2 c3 c4 d0 d1 d2
              generalize (w2.setCell ⟨w1.heap.size, 0, none⟩ (.int .i64 why2)).setCell ⟨w1.heap.size, 1, none⟩ (.int .i64 (pos2 : Int)) = W at *
              have a0 := (unhide Hin).cell0; have a1 := (unhide Hin).cell1
              have f0 := (unhide Hout).cell0; have f1 := (unhide Hout).cell1; have z0 := (unhide Hout).fz 0; have z1 := (unhide Hout).fz 1
              have g1 := (unhide Hout).set0 why2; have y0 := g1.fz 1; have y1 := g1.cell1
              have g2 := g1.set1 (pos2 : Int); have x0 := g2.cell0; have x1 := g2.cell1
              clear g1 g2
              go_region
              go_wp2
              refine bodyPost_ret (v := .tuple #[.slice none 0 0, .bool false, .int .i64 0, .agg #[.int .i64 why2, .int .i64 pos2]]) (by simp [results, Tryd.results57, go_sem, x0, x1]) rfl ⟨.slice none 0 0, by simp, ⟨rfl, .inl ⟨rfl, rfl⟩⟩, ?_⟩
              exact (below_fault (unhide HB) (Nat.le_refl _) _ _).drew
            · have hw0 : why2 = 0 := by simpa using hw2
              subst hw0
              obtain ⟨hlt2, hns2, _, _, rfl⟩ := hokB rfl
              simp only [if_neg hw2] at hrd3
              clear hw2 hokB
              go_wp2_with fail
              refine (unhide HAn _).mono ?_
              rintro e w' ⟨rfl, hw⟩
              obtain rfl := hw.symm
              go_wp2_with fail
              refine (unhide HcB' _).mono ?_
              rintro q w2 ⟨rfl, hb2⟩
              have hfi := (unhide Hfi).below hb2 (unhide Hfi).lt
              have hfo := (unhide Hfb1).below hb2 (unhide Hfb1).lt
              have hB2 := (unhide HB1).trans (belowLe hb2 (unhide HB1).size)
              have c0 := hfi.cell0; have c1 := hfi.cell1; have d0 := hfi.fz 0; have d1 := hfi.fz 1; have q0 := hfi.same0; have q1 := hfi.same1
              have Hown2 := hide (ownsRow_below (unhide Hown1) hb2 (Nat.le_refl _))
              have Hfb2 := hide hfo; have HB2 := hide hB2
              have hsz2 := hfo.lt
              clear hb2 hfi hfo hB2 f0 f1
              unfold Rd.val
              by_cases hyx : y < x
              · simp only [if_pos hyx] at hrd3
                rw [if_pos (by simp)] at hrd3
                subst hrd3
                have f0 := (unhide Hfb2).cell0; have f1 := (unhide Hfb2).cell1; have z0 := (unhide Hfb2).fz 0; have z1 := (unhide Hfb2).fz 1
                have g1 := (unhide Hfb2).set0 1; have y0 := g1.fz 1; have y1 := g1.cell1
                have g2 := g1.set1 (j : Int); have x0 := g2.cell0; have x1 := g2.cell1
                have HB := hide (below_fault (unhide HB2) (Nat.le_refl _) (.int .i64 1) (.int .i64 (j : Int)))
                clear g1 g2
                go_wp2
                refine bodyPost_ret (v := .tuple #[.slice none 0 0, .bool false, .int .i64 0, .agg #[.int .i64 1, .int .i64 j]]) (by simp [results, Tryd.results57, go_sem, x0, x1]) rfl ⟨.slice none 0 0, by simp, ⟨rfl, .inl ⟨rfl, rfl⟩⟩, ?_⟩
                exact unhide HB
              · simp only [if_neg hyx] at hrd3
                rw [if_neg (by simp)] at hrd3
                have Hrd := hide hrd3
                clear hrd3
                go_wp2_with (at_builtin; refine wpList_append_own _ rfl _ _ 22 rfl (w.heap.size + 1) 55 i0 (.agg #[.int .i32 0, .int .i32 0]) 2 8 Tryd.underlying22 hi0 hz0 hz1 hz2 rfl (by decide) _ _ _ rfl ((unhide Hown2).alloc _) ⟨w2.heap.size, 0, none⟩ 1 1 [.int .i32 x, .int .i32 y] rfl rfl ?m1 ?m2 ?m3 ?m4 ?m5 ?_)
                case m1 => exact cell_new2 _ _ (by simp) _ _ _
                case m2 => intro u hu; simp at hu; rcases hu with rfl | rfl <;> rfl
                case m3 => unfold maxLen; omega
                case m4 => omega
                case m5 => have := (unhide Hown2).lt; have := (unhide HB2).size; simp; omega
                intro v' w3 hown' hgrow _
                have Hf3 := hide (((unhide Hfb2).alloc _).grown hgrow (fun h => by have := ((unhide Hown2).lt w.heap.size h.symm).1; omega))
                have Hb3 := hide (((unhide HB2).alloc (unhide HB2).size _).grown hgrow (by have := (unhide HB2).size; simp; omega) (fun x hx => by have := ((unhide Hown2).lt x hx).1; omega))
                have Hown3 := hide hown'
                clear hgrow hown'
                go_wp2
                go_roundw
                case rel =>
                  refine ⟨m, f, acc ++ [(x, y)], rfl, ?_, Hrd, by omega, by omega, by simp; omega, unhide Hf3, unhide Hb3⟩
                  have := unhide Hown3
                  simpa [flat_append, flat, encR] using this
                case measure => simp [intOf]; omega
          · simp only [if_neg h45] at hrd3
            rw [if_neg (by simp)] at hrd3
            have n45 : (atB s n == 45) = false := by rw [e45]; simpa using h45
            have hxx : ¬ x < x := by omega
            have Hrd := hide hrd3
            clear hrd3 e45 HcB hokB
            generalize atB s n = an at *
            go_wp2_with fail
            refine (unhide HAn _).mono ?_
            rintro e w' ⟨rfl, hw⟩
            obtain rfl := hw.symm
            go_wp2_with (at_builtin; refine wpList_append_own _ rfl _ _ 22 rfl (w.heap.size + 1) 55 i0 (.agg #[.int .i32 0, .int .i32 0]) 2 8 Tryd.underlying22 hi0 hz0 hz1 hz2 rfl (by decide) _ _ _ rfl ((unhide Hown1).alloc _) ⟨w1.heap.size + 1, 0, none⟩ 1 1 [.int .i32 x, .int .i32 x] rfl rfl ?k1 ?k2 ?k3 ?k4 ?k5 ?_)
            case k1 => exact cell_new2 _ _ (by simp) _ _ _
            case k2 => intro u hu; simp at hu; rcases hu with rfl | rfl <;> rfl
            case k3 => unfold maxLen; omega
            case k4 => omega
            case k5 => have := (unhide Hown1).lt; have := (unhide HB1).size; simp; omega
            intro v' w3 hown' hgrow _
            have Hf3 := hide (((unhide Hfb1).alloc _).grown hgrow (fun h => by have := ((unhide Hown1).lt w.heap.size h.symm).1; omega))
            have Hb3 := hide (((unhide HB1).alloc (unhide HB1).size _).grown hgrow (by have := (unhide HB1).size; simp; omega) (fun x hx => by have := ((unhide Hown1).lt x hx).1; omega))
            have Hown3 := hide hown'
            clear hgrow hown'
            go_wp2
            go_roundw
            case rel =>
              refine ⟨n, f, acc ++ [(x, x)], rfl, ?_, Hrd, by omega, by omega, by simp; omega, unhide Hf3, unhide Hb3⟩
              have := unhide Hown3
              simpa [flat_append, flat, encR] using this
            case measure => simp [intOf]; omega
set_option maxHeartbeats 4000000 in
set_option maxRecDepth 100000 in
theorem rReads_true (s : ByteArray) (i : Nat) (hs : s.size ≤ 1048576) (h0 : gb s i = 91) (h1 : negB s i = true) (R : Rs) (hR : rdsF s (s.size + 1) (i + 2) [] = R) (w : World) : ReadP s i w true R := by
  obtain ⟨i0, hi0, hz0, hz1, hz2⟩ := info_parts hrange
  have hi : i < s.size := gb_pos (by rw [h0]; omega)
  have hi2 : i + 1 < s.size := gb_pos (by have : gb s (i + 1) = 94 := by simpa [negB] using h1
                                          rw [this]; omega)
  have HI := hide (rAt_any s i)
  rw [atB_in hi, h0] at HI
  have HI1 := hide (rAt_any s (i + 1))
  have hng : (atB s (i + 1) == 94) = true := by rw [atB_eq s (i + 1) 94 (by omega)]; exact h1
  have HG := hide (fun j (hj : j ≤ s.size) w => rRead_any s j (by omega) hj w)
  have HR := hide hR
  clear h0 h1 hR
  generalize atB s (i + 1) = a1 at *
  unfold ReadP
  go_enter Tryd.func57, Tryd.ntmps57
  go_wp2_with fail
  refine (unhide HI _).mono ?_
  rintro e w' ⟨rfl, hw⟩
  obtain rfl := hw.symm
  go_wp2_with fail
  refine (unhide HI1 _).mono ?_
  rintro e w' ⟨rfl, hw⟩
  obtain rfl := hw.symm
  go_wp2
  go_loopw [1, 9] (fun x u wr => ∃ (j f : Nat) (acc : List Rng), x = .int .i64 j ∧ wr.ownsRow (w.heap.size + 1) 55 2 u acc.length (flat acc) ∧ Hid (rdsF s f j acc = R) ∧ s.size + 1 ≤ j + f ∧ j ≤ s.size ∧ acc.length ≤ j ∧ FX w.heap.size 0 0 wr ∧ Below w.heap.size w wr) (fun x _ _ => s.size + 1 - (intOf x).toNat)
  case atStart => exact ⟨i + 2, s.size + 1, [], by go_num, ⟨rfl, .inl ⟨rfl, rfl⟩⟩, unhide HR, by omega, by omega, by simp, FX.start w 0 0, (Below.refl _ _).alloc (Nat.le_refl _) _⟩
  case round =>
    obtain ⟨j, f, acc, rfl, hown, hrd, hf, hj, hacc, hfb, hbel⟩ := hrel
    obtain ⟨f, rfl⟩ : ∃ g, f = g + 1 := ⟨f - 1, by omega⟩
    have hrd' := unhide hrd
    rw [rdsF] at hrd'
    have hsz := hfb.lt
    obtain ⟨va, vcap, rfl⟩ := ownsRow_slice hown
    have HAj := hide (rAt_any s j)
    have e93 := atB_eq s j 93 (by omega)
    have e32 := atB_eq s j 32 (by omega)
    have Hown := hide hown; have Hfb := hide hfb; have Hbel := hide hbel; have Hrd := hide hrd'
    clear hown hfb hbel hrd hrd'
    by_cases h93 : gb s j = 93
    · have hRe : R = ⟨acc, j, 0, 0⟩ := by have := unhide Hrd; rw [if_pos h93] at this; exact this.symm
      clear Hrd
      subst hRe
      have a93 : atB s j = 93 := by rw [h93] at e93; simpa using e93
      rw [a93] at HAj
      clear e93 e32 a93
      have f0 := (unhide Hfb).cell0; have f1 := (unhide Hfb).cell1; have z0 := (unhide Hfb).fz 0; have z1 := (unhide Hfb).fz 1; have q0 := (unhide Hfb).same0; have q1 := (unhide Hfb).same1
      go_wp2_with fail
      refine (unhide HAj _).mono ?_
      rintro e w' ⟨rfl, hw⟩
      obtain rfl := hw.symm
      go_wp2
      refine bodyPost_ret (v := .tuple #[.slice va acc.length vcap, .bool true, .int .i64 (j + 1 : Nat), .agg #[.int .i64 0, .int .i64 0]]) (by simp [results, Tryd.results57, go_sem, f0, f1]) rfl ⟨_, rfl, ownsRow_le (unhide Hown) (Nat.le_succ _), unhide Hbel⟩
    · have n93 : (atB s j != 93) = true := by rw [bne, e93]; simpa using h93
      by_cases h32 : gb s j = 32
      · have hjl : j < s.size := gb_pos (by rw [h32]; omega)
        have Hrd2 : Hid (rdsF s f (j + 1) acc = R) := by have := unhide Hrd; rw [if_neg h93, if_pos h32] at this; exact hide this
        have a32 : atB s j = 32 := by rw [h32] at e32; simpa using e32
        rw [a32] at HAj
        clear Hrd e93 e32 n93 a32
        go_wp2_with fail
        refine (unhide HAj _).mono ?_
        rintro e w' ⟨rfl, hw⟩
        obtain rfl := hw.symm
        go_wp2_with fail
        refine (unhide HAj _).mono ?_
        rintro e w' ⟨rfl, hw⟩
        obtain rfl := hw.symm
        go_wp2
        go_roundw
        case rel => exact ⟨j + 1, f, acc, by go_num, unhide Hown, Hrd2, by omega, by omega, by omega, unhide Hfb, unhide Hbel⟩
        case measure => simp [intOf]; omega
      · have n32 : (atB s j == 32) = false := by rw [e32]; simpa using h32
        have hrd3 := unhide Hrd
        rw [if_neg h93, if_neg h32] at hrd3
        have hokA := runM_ok s j
        have HcA := hide (unhide HG j hj)
        have HcB := hide (fun h w => unhide HG ((runM s j).n + 1) h w)
        have HAn := hide (rAt_any s (runM s j).n)
        have e45 := atB_eq s (runM s j).n 45 (by omega)
        have hokB := runM_ok s ((runM s j).n + 1)
        unfold rngM at hrd3
        clear Hrd e93 e32
        generalize runM s ((runM s j).n + 1) = B at *
        generalize runM s j = A at *
        obtain ⟨x, n, why, pos⟩ := A
        simp only at hrd3 hokA HcB HAn e45 hokB
        by_cases hwhy : why ≠ 0
        · simp only [if_pos hwhy] at hrd3
          subst hrd3
          have hne : (why == 0) = false := by simpa using hwhy
          go_wp2_with fail
          refine (unhide HAj _).mono ?_
          rintro e w' ⟨rfl, hw⟩
          obtain rfl := hw.symm
          go_wp2_with fail
          refine (unhide HAj _).mono ?_
          rintro e w' ⟨rfl, hw⟩
          obtain rfl := hw.symm
          go_wp2_with fail
          refine (unhide HcA _).mono ?_
          rintro q w1 ⟨rfl, hb1⟩
          have hfb := ((unhide Hfb).below hb1 hsz)
          have hB1 := (unhide Hbel).trans (belowLe hb1 (unhide Hbel).size)
          have Hin := hide (FX.start w1 why pos)
          have Hout := hide (hfb.alloc (.cells #[.int .i64 why, .int .i64 pos] 48))
          have HB := hide (hB1.alloc hB1.size (.cells #[.int .i64 why, .int .i64 pos] 48))
          clear hb1 hfb hB1
          unfold Rd.val
          go_wp2
          generalize w1.alloc (.cells #[.int .i64 why, .int .i64 pos] 48) = W at *
          have a0 := (unhide Hin).cell0; have a1 := (unhide Hin).cell1
          have f0 := (unhide Hout).cell0; have f1 := (unhide Hout).cell1; have z0 := (unhide Hout).fz 0; have z1 := (unhide Hout).fz 1
          have g1 := (unhide Hout).set0 why; have y0 := g1.fz 1; have y1 := g1.cell1
          have g2 := g1.set1 (pos : Int); have x0 := g2.cell0; have x1 := g2.cell1
          clear g1 g2
          go_region
          go_wp2
          refine bodyPost_ret (v := .tuple #[.slice none 0 0, .bool false, .int .i64 0, .agg #[.int .i64 why, .int .i64 pos]]) (by simp [results, Tryd.results57, go_sem, x0, x1]) rfl ⟨.slice none 0 0, by simp, ⟨rfl, .inl ⟨rfl, rfl⟩⟩, ?_⟩
          exact (below_fault (unhide HB) (Nat.le_refl _) _ _).drew
        · have hw0 : why = 0 := by simpa using hwhy
          subst hw0
          obtain ⟨hlt, hns, _, _, rfl⟩ := hokA rfl
          simp only [if_neg hwhy] at hrd3
          clear hwhy hokA
          go_wp2_with fail
          refine (unhide HAj _).mono ?_
          rintro e w' ⟨rfl, hw⟩
          obtain rfl := hw.symm
          go_wp2_with fail
          refine (unhide HAj _).mono ?_
          rintro e w' ⟨rfl, hw⟩
          obtain rfl := hw.symm
          go_wp2_with fail
          refine (unhide HcA _).mono ?_
          rintro q w1 ⟨rfl, hb1⟩
          have hfb := (unhide Hfb).below hb1 hsz
          have hB1 := (unhide Hbel).trans (belowLe hb1 (unhide Hbel).size)
          have hown1 := ownsRow_below (unhide Hown) hb1 (Nat.le_refl _)
          have hsz1 := hfb.lt
          have hfi := FX.start w1 0 0
          have f0 := hfi.cell0; have f1 := hfi.cell1
          have Hfb1 := hide (hfb.alloc (.cells #[.int .i64 0, .int .i64 0] 48)); have HB1 := hide (hB1.alloc hB1.size (.cells #[.int .i64 0, .int .i64 0] 48)); have Hown1 := hide (hown1.alloc (.cells #[.int .i64 0, .int .i64 0] 48))
          have Hfi := hide hfi
          clear hfb hB1 hown1 hb1 hfi
          unfold Rd.val
          by_cases h45 : gb s n = 45
          · simp only [if_pos h45] at hrd3
            have hin : n < s.size := gb_pos (by rw [h45]; omega)
            have n45 : atB s n = 45 := by rw [atB_in hin, h45]
            rw [n45] at HAn
            have HcB' := hide (unhide HcB (by omega))
            obtain ⟨y, m, why2, pos2⟩ := B
            simp only at hrd3 hokB
            clear e45 n45 HcB
            by_cases hw2 : why2 ≠ 0
            · simp only [if_pos hw2] at hrd3
              subst hrd3
              have hne2 : (why2 == 0) = false := by simpa using hw2
              go_wp2_with fail
              refine (unhide HAn _).mono ?_
              rintro e w' ⟨rfl, hw⟩
              obtain rfl := hw.symm
              go_wp2_with fail
              refine (unhide HcB' _).mono ?_
              rintro q w2 ⟨rfl, hb2⟩
              have hfi := (unhide Hfi).below hb2 (unhide Hfi).lt
              have hfo := (unhide Hfb1).below hb2 (unhide Hfb1).lt
              have hB2 := (unhide HB1).trans (belowLe hb2 (unhide HB1).size)
              have c0 := hfi.cell0; have c1 := hfi.cell1; have d0 := hfi.fz 0; have d1 := hfi.fz 1
              have hi1 := hfi.set0 why2
              have d2 := hi1.fz 1; have c2 := hi1.cell1
              have hi2 := hi1.set1 (pos2 : Int)
              have c3 := hi2.cell0; have c4 := hi2.cell1
              have Hin := hide hi2
              have Hout := hide ((hfo.other (d := w1.heap.size) (by omega) 0 (.int .i64 why2)).other (d := w1.heap.size) (by omega) 1 (.int .i64 (pos2 : Int)))
              have HB := hide (below_fault hB2 (show w.heap.size ≤ w1.heap.size by omega) (.int .i64 why2) (.int .i64 (pos2 : Int)))
              clear hb2 hfi hfo hB2 hi1 hi2 f0 f1
              unfold Rd.val
              go_wp2
              clear c0 c1 c2 c3 c4 d0 d1 d2
              generalize (w2.setCell ⟨w1.heap.size, 0, none⟩ (.int .i64 why2)).setCell ⟨w1.heap.size, 1, none⟩ (.int .i64 (pos2 : Int)) = W at *
              have a0 := (unhide Hin).cell0; have a1 := (unhide Hin).cell1
              have f0 := (unhide Hout).cell0; have f1 := (unhide Hout).cell1; have z0 := (unhide Hout).fz 0; have z1 := (unhide Hout).fz 1
              have g1 := (unhide Hout).set0 why2; have y0 := g1.fz 1; have y1 := g1.cell1
              have g2 := g1.set1 (pos2 : Int); have x0 := g2.cell0; have x1 := g2.cell1
              clear g1 g2
              go_region
              go_wp2
              refine bodyPost_ret (v := .tuple #[.slice none 0 0, .bool false, .int .i64 0, .agg #[.int .i64 why2, .int .i64 pos2]]) (by simp [results, Tryd.results57, go_sem, x0, x1]) rfl ⟨.slice none 0 0, by simp, ⟨rfl, .inl ⟨rfl, rfl⟩⟩, ?_⟩
              exact (below_fault (unhide HB) (Nat.le_refl _) _ _).drew
            · have hw0 : why2 = 0 := by simpa using hw2
              subst hw0
              obtain ⟨hlt2, hns2, _, _, rfl⟩ := hokB rfl
              simp only [if_neg hw2] at hrd3
              clear hw2 hokB
              go_wp2_with fail
              refine (unhide HAn _).mono ?_
              rintro e w' ⟨rfl, hw⟩
              obtain rfl := hw.symm
              go_wp2_with fail
              refine (unhide HcB' _).mono ?_
              rintro q w2 ⟨rfl, hb2⟩
              have hfi := (unhide Hfi).below hb2 (unhide Hfi).lt
              have hfo := (unhide Hfb1).below hb2 (unhide Hfb1).lt
              have hB2 := (unhide HB1).trans (belowLe hb2 (unhide HB1).size)
              have c0 := hfi.cell0; have c1 := hfi.cell1; have d0 := hfi.fz 0; have d1 := hfi.fz 1; have q0 := hfi.same0; have q1 := hfi.same1
              have Hown2 := hide (ownsRow_below (unhide Hown1) hb2 (Nat.le_refl _))
              have Hfb2 := hide hfo; have HB2 := hide hB2
              have hsz2 := hfo.lt
              clear hb2 hfi hfo hB2 f0 f1
              unfold Rd.val
              by_cases hyx : y < x
              · simp only [if_pos hyx] at hrd3
                rw [if_pos (by simp)] at hrd3
                subst hrd3
                have f0 := (unhide Hfb2).cell0; have f1 := (unhide Hfb2).cell1; have z0 := (unhide Hfb2).fz 0; have z1 := (unhide Hfb2).fz 1
                have g1 := (unhide Hfb2).set0 1; have y0 := g1.fz 1; have y1 := g1.cell1
                have g2 := g1.set1 (j : Int); have x0 := g2.cell0; have x1 := g2.cell1
                have HB := hide (below_fault (unhide HB2) (Nat.le_refl _) (.int .i64 1) (.int .i64 (j : Int)))
                clear g1 g2
                go_wp2
                refine bodyPost_ret (v := .tuple #[.slice none 0 0, .bool false, .int .i64 0, .agg #[.int .i64 1, .int .i64 j]]) (by simp [results, Tryd.results57, go_sem, x0, x1]) rfl ⟨.slice none 0 0, by simp, ⟨rfl, .inl ⟨rfl, rfl⟩⟩, ?_⟩
                exact unhide HB
              · simp only [if_neg hyx] at hrd3
                rw [if_neg (by simp)] at hrd3
                have Hrd := hide hrd3
                clear hrd3
                go_wp2_with (at_builtin; refine wpList_append_own _ rfl _ _ 22 rfl (w.heap.size + 1) 55 i0 (.agg #[.int .i32 0, .int .i32 0]) 2 8 Tryd.underlying22 hi0 hz0 hz1 hz2 rfl (by decide) _ _ _ rfl ((unhide Hown2).alloc _) ⟨w2.heap.size, 0, none⟩ 1 1 [.int .i32 x, .int .i32 y] rfl rfl ?m1 ?m2 ?m3 ?m4 ?m5 ?_)
                case m1 => exact cell_new2 _ _ (by simp) _ _ _
                case m2 => intro u hu; simp at hu; rcases hu with rfl | rfl <;> rfl
                case m3 => unfold maxLen; omega
                case m4 => omega
                case m5 => have := (unhide Hown2).lt; have := (unhide HB2).size; simp; omega
                intro v' w3 hown' hgrow _
                have Hf3 := hide (((unhide Hfb2).alloc _).grown hgrow (fun h => by have := ((unhide Hown2).lt w.heap.size h.symm).1; omega))
                have Hb3 := hide (((unhide HB2).alloc (unhide HB2).size _).grown hgrow (by have := (unhide HB2).size; simp; omega) (fun x hx => by have := ((unhide Hown2).lt x hx).1; omega))
                have Hown3 := hide hown'
                clear hgrow hown'
                go_wp2
                go_roundw
                case rel =>
                  refine ⟨m, f, acc ++ [(x, y)], rfl, ?_, Hrd, by omega, by omega, by simp; omega, unhide Hf3, unhide Hb3⟩
                  have := unhide Hown3
                  simpa [flat_append, flat, encR] using this
                case measure => simp [intOf]; omega
          · simp only [if_neg h45] at hrd3
            rw [if_neg (by simp)] at hrd3
            have n45 : (atB s n == 45) = false := by rw [e45]; simpa using h45
            have hxx : ¬ x < x := by omega
            have Hrd := hide hrd3
            clear hrd3 e45 HcB hokB
            generalize atB s n = an at *
            go_wp2_with fail
            refine (unhide HAn _).mono ?_
            rintro e w' ⟨rfl, hw⟩
            obtain rfl := hw.symm
            go_wp2_with (at_builtin; refine wpList_append_own _ rfl _ _ 22 rfl (w.heap.size + 1) 55 i0 (.agg #[.int .i32 0, .int .i32 0]) 2 8 Tryd.underlying22 hi0 hz0 hz1 hz2 rfl (by decide) _ _ _ rfl ((unhide Hown1).alloc _) ⟨w1.heap.size + 1, 0, none⟩ 1 1 [.int .i32 x, .int .i32 x] rfl rfl ?k1 ?k2 ?k3 ?k4 ?k5 ?_)
            case k1 => exact cell_new2 _ _ (by simp) _ _ _
            case k2 => intro u hu; simp at hu; rcases hu with rfl | rfl <;> rfl
            case k3 => unfold maxLen; omega
            case k4 => omega
            case k5 => have := (unhide Hown1).lt; have := (unhide HB1).size; simp; omega
            intro v' w3 hown' hgrow _
            have Hf3 := hide (((unhide Hfb1).alloc _).grown hgrow (fun h => by have := ((unhide Hown1).lt w.heap.size h.symm).1; omega))
            have Hb3 := hide (((unhide HB1).alloc (unhide HB1).size _).grown hgrow (by have := (unhide HB1).size; simp; omega) (fun x hx => by have := ((unhide Hown1).lt x hx).1; omega))
            have Hown3 := hide hown'
            clear hgrow hown'
            go_wp2
            go_roundw
            case rel =>
              refine ⟨n, f, acc ++ [(x, x)], rfl, ?_, Hrd, by omega, by omega, by simp; omega, unhide Hf3, unhide Hb3⟩
              have := unhide Hown3
              simpa [flat_append, flat, encR] using this
            case measure => simp [intOf]; omega
set_option maxHeartbeats 2000000 in
set_option maxRecDepth 100000 in
theorem rReads_no (s : ByteArray) (i : Nat) (h0 : gb s i ≠ 91) (neg : Bool) (w : World) : ReadP s i w neg ⟨[], 0, 5, i⟩ := by
  have HI := hide (rAt_any s i)
  have hne : (atB s i != 91) = true := by rw [bne, atB_eq s i 91 (by omega)]; simpa using h0
  generalize atB s i = a at *
  unfold ReadP
  go_enter Tryd.func57, Tryd.ntmps57
  go_wp2_with fail
  refine (unhide HI _).mono ?_
  rintro e w' ⟨rfl, hw⟩
  obtain rfl := hw.symm
  go_wp2
  refine bodyPost_ret (v := .tuple #[.slice none 0 0, .bool false, .int .i64 0, .agg #[.int .i64 5, .int .i64 i]]) (by simp [results, Tryd.results57, go_sem]) rfl ⟨.slice none 0 0, by simp, ⟨rfl, .inl ⟨rfl, rfl⟩⟩, ?_⟩
  exact (Below.refl _ _).alloc (Nat.le_refl _) _
theorem rReads_any (s : ByteArray) (i : Nat) (hs : s.size ≤ 1048576) (w : World) : ReadP s i w (negB s i) (rdM s i) := by
  by_cases h : gb s i = 91
  · have e : rdM s i = rdsF s (s.size + 1) (if negB s i then i + 2 else i + 1) [] := by unfold rdM; rw [if_pos h]
    cases hn : negB s i with
    | true =>
      rw [hn, if_pos rfl] at e
      exact rReads_true s i hs h hn _ e.symm w
    | false =>
      rw [hn, if_neg (by simp)] at e
      exact rReads_false s i hs h hn _ e.symm w
  · have e : rdM s i = ⟨[], 0, 5, i⟩ := by unfold rdM; rw [if_neg h]
    rw [e]
    exact rReads_no s i h _ w
end Go.Proofs.YtkbhdojgdgiggaaDoor

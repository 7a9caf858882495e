/- The law TokenCursors, walked. -/
import Derived.Test.YtkckcnjamlpadaaDoorU3
import Derived.Deep.DeepCutAuto
namespace Go.Proofs.YtkckcnjamlpadaaDoor
open Go.RowKit Go.Maps

/-- A row of steps lies there. -/
def PRow (w : World) (a : Option Addr) (l : List (Int × Int)) : Prop :=
  l = [] ∨ ∃ b off, a = some ⟨b, off, none⟩ ∧ b < w.heap.size ∧ ∀ j, j < l.length → w.cell? ⟨b, off + j * 2, none⟩ = some (.int .i64 (l.getD j (0, 0)).1) ∧ w.cell? ⟨b, off + j * 2 + 1, none⟩ = some (.int .i64 (l.getD j (0, 0)).2)
theorem prow_below {w w' : World} {a : Option Addr} {l : List (Int × Int)} (h : PRow w a l) {B : Nat} (hB : w.heap.size ≤ B) (hb : Below B w w') : PRow w' a l := by
  rcases h with rfl | ⟨b, off, rfl, hlt, hc⟩
  · exact .inl rfl
  · refine .inr ⟨b, off, rfl, Nat.lt_of_lt_of_le hlt hb.size, fun j hj => ?_⟩
    rw [hb.cell (by show b < B; omega), hb.cell (by show b < B; omega)]
    exact hc j hj
theorem kind_four (kd : Int) : (wrap64 (kd.tmod 4 + 4)).tmod 4 = 0 ∨ (wrap64 (kd.tmod 4 + 4)).tmod 4 = 1 ∨ (wrap64 (kd.tmod 4 + 4)).tmod 4 = 2 ∨ (wrap64 (kd.tmod 4 + 4)).tmod 4 = 3 := by
  have h1 : -4 < kd.tmod 4 := by
    have := Int.lt_tmod_of_pos kd (show (0 : Int) < 4 by decide); omega
  have h2 : kd.tmod 4 < 4 := Int.tmod_lt_of_pos kd (by decide)
  have h3 : wrap64 (kd.tmod 4 + 4) = kd.tmod 4 + 4 := by unfold wrap64; omega
  rw [h3]
  have h4 : (kd.tmod 4 + 4).tmod 4 = (kd.tmod 4 + 4) % 4 := Int.tmod_eq_emod_of_nonneg (by omega)
  rw [h4]
  omega
theorem lastTo_pos {l : List T3} (h : l.length ≠ 0) : lastTo l = (l.getD (l.length - 1) (0, 0, 0)).2.2 := by simp [lastTo, h]

set_option maxHeartbeats 8000000 in
set_option maxRecDepth 100000 in
theorem cursors_walk (a b : Option Addr) (ca cb : Nat) (l : List T3) (st : List (Int × Int)) (hl : l.length * 24 ≤ 140737488351232) (hnil : a = none → l = [] ∧ ca = 0) (hst : st.length ≤ 140737488351232) (w : World) (h1 : TRow w a l) (h2 : PRow w b st) (hE : Env w) :
    Calls Tryd.prog 8 #[.slice a l.length ca, .slice b st.length cb] w fun e w' => e = .returned (.bool true) ∧ Below w.heap.size w w' := by
  have HC := hide (newCursor_any a ca l hl hnil w h1)
  have hl9 : l.length ≤ 281474976710656 := by omega
  have H1 := hide h1; have H2 := hide h2; have HE := hide hE
  have g55 := guard55
  clear h1 h2 hE
  go_enter Tryd.func8, Tryd.ntmps8
  go_wp2_with fail
  refine (unhide HC).mono ?_
  rintro e w1 ⟨c0, g, cap, rfl, hc0, hg0, hb1, hcur⟩
  have HA := hide (alive_any w1 (env_below (unhide HE) hb1))
  have Hb1 := hide hb1; have Hcur := hide hcur
  clear hb1 hcur HC
  go_wp2_with fail
  refine (unhide HA).mono ?_
  rintro e w2 ⟨rfl, hb2⟩
  have Hcur2 := hide ((unhide Hcur).below hb2)
  have HB2 := hide ((unhide Hb1).trans (hb2.mono (unhide Hb1).size))
  clear hb2 HA Hcur Hb1
  go_wp2
  go_loopw [5, 6, 22] (fun u x y wr => ∃ c k i : Nat, u = .pointer (some ⟨c, 0, none⟩) ∧ x = .int .i64 (k : Int) ∧ y = .int .i64 (i : Int) ∧ i ≤ st.length ∧ w.heap.size ≤ c ∧ CurAt wr c g cap l k ∧ Below w.heap.size w wr) (fun _ _ y _ => st.length - (intOf y).toNat)
  case atStart => exact ⟨c0, 0, 0, rfl, rfl, rfl, Nat.zero_le _, hc0, unhide Hcur2, unhide HB2⟩
  case round =>
    obtain ⟨c, k, i, rfl, rfl, rfl, hi, hcw, hcur, hbel⟩ := hrel
    have hsz := hbel.size
    have hle := hcur.le
    have hgl := hcur.gl
    have hcl := lt_of_some hcur.box
    have Hcur := hide hcur; have Hbel := hide hbel
    clear hcur hbel Hcur2 HB2
    by_cases hlt : i < st.length
    · have hlt' : (i : Int) < st.length := by omega
      obtain ⟨sb, so, rfl, hsb, hsc⟩ : ∃ sb so, b = some ⟨sb, so, none⟩ ∧ sb < wr.heap.size ∧ ∀ j, j < st.length → wr.cell? ⟨sb, so + j * 2, none⟩ = some (.int .i64 (st.getD j (0, 0)).1) ∧ wr.cell? ⟨sb, so + j * 2 + 1, none⟩ = some (.int .i64 (st.getD j (0, 0)).2) := by
        rcases prow_below (unhide H2) (Nat.le_refl _) (unhide Hbel) with rfl | h
        · simp at hlt
        · exact h
      obtain ⟨s0, s1⟩ := hsc i hlt
      clear hsc
      generalize st.getD i (0, 0) = s at *
      obtain ⟨kd, n⟩ := s
      simp only at s0 s1
      have Hfour := hide (kind_four kd)
      by_cases h0 : l.length = 0
      · have h0' : ¬ (0 : Int) < l.length := by omega
        have hkl : ¬ (k : Int) < l.length := by omega
        have Hwant := hide (show wantT l k = (0, 0, 0) by simp [wantT, lastTo, h0])
        clear h0
        go_upto_region 13 with fail
        have hS := (Below.heap_alloc (wr.alloc (.cells #[.int .i64 kd, .int .i64 n] 61)) (.cells #[.int .i64 0, .int .i64 0, .int .i64 0] 55) wr.heap.size (by simp)).trans (heap_new wr _)
        have hT := heap_new (wr.alloc (.cells #[.int .i64 kd, .int .i64 n] 61)) (.cells #[.int .i64 0, .int .i64 0, .int .i64 0] 55)
        rw [show (wr.alloc (.cells #[.int .i64 kd, .int .i64 n] 61)).heap.size = wr.heap.size + 1 by simp] at hT
        have hbq := ((Below.refl _ wr).alloc (Nat.le_refl _) (.cells #[.int .i64 kd, .int .i64 n] 61)).alloc (by simp) (.cells #[.int .i64 0, .int .i64 0, .int .i64 0] 55)
        have HS := hide hS; have HT := hide hT
        have Hc := hide ((unhide Hcur).below hbq)
        have HB := hide ((unhide Hbel).trans (hbq.mono hsz))
        clear hS hT hbq
        generalize ((wr.alloc (.cells #[.int .i64 kd, .int .i64 n] 61)).alloc (.cells #[.int .i64 0, .int .i64 0, .int .i64 0] 55)) = Wq at *
        have t0 := cell_block (unhide HT) 0 _ rfl
        have t1 := cell_block (unhide HT) 1 _ rfl
        have t2 := cell_block (unhide HT) 2 _ rfl
        have k0 := cell_block (unhide HS) 0 _ rfl
        rcases unhide Hfour with hk | hk | hk | hk
        · -- Peek
          have HP := hide (peek_any c g cap k l hl9 Wq.drew ((unhide Hc).below (Below.refl _ _).drew))
          rw [unhide Hwant] at HP
          unfold tokV at HP
          simp only at HP
          have qk := fun w => neq55 0 0 0 0 0 0 w
          rw [show (!decide (((0 : Int), (0 : Int), (0 : Int)) = ((0 : Int), (0 : Int), (0 : Int)))) = false by simp] at qk
          go_wp2
          go_region_held3 (fun w' : World => w'.cell? ⟨wr.heap.size + 1, 0, none⟩ = some (.int .i64 0) ∧ w'.cell? ⟨wr.heap.size + 1, 1, none⟩ = some (.int .i64 0) ∧ w'.cell? ⟨wr.heap.size + 1, 2, none⟩ = some (.int .i64 0))
            (first | exact ⟨u0, u1, u2⟩ | exact ⟨t0, t1, t2⟩ | fail)
            (first | (go_at_call 25; refine (unhide HP).mono ?_; rintro e w5 ⟨rfl, hb5⟩; have hT5 := (hb5.block (wr.heap.size + 1) (lt_of_some (unhide HT))).trans (unhide HT); have u0 := cell_block hT5 0 _ rfl; have u1 := cell_block hT5 1 _ rfl; have u2 := cell_block hT5 2 _ rfl; have Hc5 := hide (((unhide Hc).below (Below.refl _ _).drew).below hb5); have HB5 := hide ((unhide HB).drew.trans (hb5.mono (unhide HB).size)); clear hb5 hT5) | fail)
          have HAt := hide (at_any c g cap k l w5 (unhide Hc5))
          have HLf := hide (left_any c g cap k l hl9 w5 (unhide Hc5))
          have hle2 := (unhide Hc5).le
          go_wp2_with fail
          refine (unhide HAt).mono ?_
          rintro e w8 ⟨rfl, hw8⟩
          subst hw8
          go_wp2_with fail
          refine (unhide HLf).mono ?_
          rintro e w9 ⟨rfl, hb9⟩
          have Hc9 := hide ((unhide Hc5).below hb9)
          have Hb9 := hide ((unhide HB5).trans (hb9.mono (unhide HB5).size))
          clear hb9 HAt HLf
          go_wp2
          go_roundw
          case rel => first | exact ⟨c, k, i + 1, rfl, rfl, by go_num, by omega, hcw, unhide Hc9, unhide Hb9⟩ | ((repeat apply Exists.intro); exact ⟨⟨c, k, i + 1, rfl, rfl, by go_num, by omega, hcw, unhide Hc9, unhide Hb9⟩, rfl⟩)
          case measure => simp [intOf]; omega
        · -- Next
          have HP := hide (next_any c g cap k l hl9 Wq.drew ((unhide Hc).below (Below.refl _ _).drew))
          rw [unhide Hwant] at HP
          unfold tokV at HP
          simp only at HP
          have qk := fun w => neq55 0 0 0 0 0 0 w
          rw [show (!decide (((0 : Int), (0 : Int), (0 : Int)) = ((0 : Int), (0 : Int), (0 : Int)))) = false by simp] at qk
          have hmin : min ((k : Int) + 1) (l.length : Int) = ((nextK l k : Nat) : Int) := by unfold nextK; split <;> omega
          go_wp2
          go_region_held3 (fun w' : World => w'.cell? ⟨wr.heap.size + 1, 0, none⟩ = some (.int .i64 0) ∧ w'.cell? ⟨wr.heap.size + 1, 1, none⟩ = some (.int .i64 0) ∧ w'.cell? ⟨wr.heap.size + 1, 2, none⟩ = some (.int .i64 0))
            (first | exact ⟨u0, u1, u2⟩ | exact ⟨t0, t1, t2⟩ | fail)
            (first | (go_at_call 26; refine (unhide HP).mono ?_; rintro e w5 ⟨rfl, ho5, hc5⟩; have hT5 := (ho5.block (wr.heap.size + 1) (lt_of_some (unhide HT)) (by omega)).trans (unhide HT); have u0 := cell_block hT5 0 _ rfl; have u1 := cell_block hT5 1 _ rfl; have u2 := cell_block hT5 2 _ rfl; have Hc5 := hide hc5; have HB5 := hide (below_off (unhide HB).drew ho5 hcw (unhide HB).size); clear ho5 hc5 hT5) | fail)
          generalize hnk : nextK l k = k2 at *
          clear hnk
          have HAt := hide (at_any c g cap k2 l w5 (unhide Hc5))
          have HLf := hide (left_any c g cap k2 l hl9 w5 (unhide Hc5))
          have hle2 := (unhide Hc5).le
          go_wp2_with fail
          refine (unhide HAt).mono ?_
          rintro e w8 ⟨rfl, hw8⟩
          subst hw8
          go_wp2_with fail
          refine (unhide HLf).mono ?_
          rintro e w9 ⟨rfl, hb9⟩
          have Hc9 := hide ((unhide Hc5).below hb9)
          have Hb9 := hide ((unhide HB5).trans (hb9.mono (unhide HB5).size))
          clear hb9 HAt HLf
          go_wp2
          go_roundw
          case rel => first | exact ⟨c, k2, i + 1, rfl, rfl, by go_num, by omega, hcw, unhide Hc9, unhide Hb9⟩ | ((repeat apply Exists.intro); exact ⟨⟨c, k2, i + 1, rfl, rfl, by go_num, by omega, hcw, unhide Hc9, unhide Hb9⟩, rfl⟩)
          case measure => simp [intOf]; omega
        · -- Back
          have c1 := cell_block (unhide HS) 1 _ rfl
          by_cases hn : 0 ≤ n ∧ n ≤ (k : Int)
          · obtain ⟨m, rfl⟩ := Int.eq_ofNat_of_zero_le hn.1
            have hn2 := hn.2
            have HP := hide (back_yes c g cap k m l hl9 (by omega) Wq (unhide Hc))
            have d1 : (0 : Int) ≤ (m : Int) := by omega
            clear hn
            go_wp2_with fail
            refine (unhide HP).mono ?_
            rintro e w5 ⟨rfl, ho5, hc5⟩
            have hS5 := (ho5.block wr.heap.size (lt_of_some (unhide HS)) (by omega)).trans (unhide HS)
            have v1 := cell_block hS5 1 _ rfl
            have hkm : (k : Int) - (m : Int) = ((k - m : Nat) : Int) := by omega
            have Hc5 := hide hc5
            have HB5 := hide (below_off (unhide HB) ho5 hcw (unhide HB).size)
            have hc5le := hc5.le
            clear ho5 hc5 hS5 HP c1
            generalize hk2 : k - m = k2 at *
            clear hk2
            have HAt := hide (at_any c g cap k2 l w5 (unhide Hc5))
            have HLf := hide (left_any c g cap k2 l hl9 w5 (unhide Hc5))
            have hle2 := (unhide Hc5).le
            go_wp2_with fail
            refine (unhide HAt).mono ?_
            rintro e w8 ⟨rfl, hw8⟩
            subst hw8
            go_wp2_with fail
            refine (unhide HLf).mono ?_
            rintro e w9 ⟨rfl, hb9⟩
            have Hc9 := hide ((unhide Hc5).below hb9)
            have Hb9 := hide ((unhide HB5).trans (hb9.mono (unhide HB5).size))
            clear hb9 HAt HLf
            go_wp2
            go_roundw
            case rel => first | exact ⟨c, k2, i + 1, rfl, rfl, by go_num, by omega, hcw, unhide Hc9, unhide Hb9⟩ | ((repeat apply Exists.intro); exact ⟨⟨c, k2, i + 1, rfl, rfl, by go_num, by omega, hcw, unhide Hc9, unhide Hb9⟩, rfl⟩)
            case measure => simp [intOf]; omega
          · have HP := hide (back_no c g cap k l n hn Wq (unhide Hc))
            have hcase : n < 0 ∨ ((0 : Int) ≤ n ∧ (k : Int) < n) := by omega
            clear hn
            rcases hcase with hn | ⟨hn, hn2⟩
            · go_wp2_with fail
              refine (unhide HP).mono ?_
              rintro e w5 ⟨rfl, hw5⟩
              subst hw5
              have HAt := hide (at_any c g cap k l Wq (unhide Hc))
              have HLf := hide (left_any c g cap k l hl9 Wq (unhide Hc))
              have hle2 := (unhide Hc).le
              go_wp2_with fail
              refine (unhide HAt).mono ?_
              rintro e w8 ⟨rfl, hw8⟩
              subst hw8
              go_wp2_with fail
              refine (unhide HLf).mono ?_
              rintro e w9 ⟨rfl, hb9⟩
              have Hc9 := hide ((unhide Hc).below hb9)
              have Hb9 := hide ((unhide HB).trans (hb9.mono (unhide HB).size))
              clear hb9 HAt HLf
              go_wp2
              go_roundw
              case rel => first | exact ⟨c, k, i + 1, rfl, rfl, by go_num, by omega, hcw, unhide Hc9, unhide Hb9⟩ | ((repeat apply Exists.intro); exact ⟨⟨c, k, i + 1, rfl, rfl, by go_num, by omega, hcw, unhide Hc9, unhide Hb9⟩, rfl⟩)
              case measure => simp [intOf]; omega
            · go_wp2_with fail
              refine (unhide HP).mono ?_
              rintro e w5 ⟨rfl, hw5⟩
              subst hw5
              have HAt := hide (at_any c g cap k l Wq (unhide Hc))
              have HLf := hide (left_any c g cap k l hl9 Wq (unhide Hc))
              have hle2 := (unhide Hc).le
              go_wp2_with fail
              refine (unhide HAt).mono ?_
              rintro e w8 ⟨rfl, hw8⟩
              subst hw8
              go_wp2_with fail
              refine (unhide HLf).mono ?_
              rintro e w9 ⟨rfl, hb9⟩
              have Hc9 := hide ((unhide Hc).below hb9)
              have Hb9 := hide ((unhide HB).trans (hb9.mono (unhide HB).size))
              clear hb9 HAt HLf
              go_wp2
              go_roundw
              case rel => first | exact ⟨c, k, i + 1, rfl, rfl, by go_num, by omega, hcw, unhide Hc9, unhide Hb9⟩ | ((repeat apply Exists.intro); exact ⟨⟨c, k, i + 1, rfl, rfl, by go_num, by omega, hcw, unhide Hc9, unhide Hb9⟩, rfl⟩)
              case measure => simp [intOf]; omega
        · -- Mark
          have c1 := cell_block (unhide HS) 1 _ rfl
          have HP := hide (mark_any c g cap k l Wq (unhide Hc))
          go_wp2_with fail
          refine (unhide HP).mono ?_
          rintro e w5 ⟨rfl, hb5, hc5⟩
          have HAm := hide (at_any Wq.heap.size g cap k l w5 hc5)
          have HLm := hide (left_any Wq.heap.size g cap k l hl9 w5 hc5)
          have Hc5 := hide hc5; have Hb5 := hide hb5
          clear hb5 hc5 HP
          go_wp2_with fail
          refine (unhide HAm).mono ?_
          rintro e w6 ⟨rfl, hw6⟩
          subst hw6
          go_wp2_with fail
          refine (unhide HLm).mono ?_
          rintro e w6 ⟨rfl, hb6⟩
          have hb56 := (unhide Hb5).trans (hb6.mono (unhide Hb5).size)
          have hm6 := (unhide Hc5).below hb6
          have hc6 := (unhide Hc).below hb56
          have hB6 := (unhide HB).trans (hb56.mono (unhide HB).size)
          have v1 := cell_block ((hb56.block wr.heap.size (lt_of_some (unhide HS))).trans (unhide HS)) 1 _ rfl
          have hqc : c < Wq.heap.size := lt_of_some (unhide Hc).box
          have hqg : g < Wq.heap.size := (unhide Hc).gl
          have hws := (unhide HB).size
          have HN1 := hide (next_any c g cap k l hl9 w6 hc6)
          have HN2 := hide (next_any Wq.heap.size g cap k l hl9 w6 hm6)
          have Hm6 := hide hm6; have Hc6 := hide hc6; have HB6 := hide hB6
          clear hb6 hb56 hm6 hc6 hB6 HAm HLm Hc5 Hb5 c1
          by_cases hb : bits .and .i64 n 1 = 1
          · have hb' : (bits .and .i64 n 1 == 1) = true := by rw [beq_iff_eq]; exact hb
            clear hb
            go_wp2_with fail
            refine (unhide HN1).mono ?_
            rintro e w7 ⟨rfl, ho7, -⟩
            have Hm7 := hide ((unhide Hm6).off ho7 (by omega) (unhide Hc).ne)
            have HB7 := hide (below_off (unhide HB6) ho7 hcw (unhide HB6).size)
            clear ho7 HN1 HN2
            have HAt := hide (at_any Wq.heap.size g cap k l w7 (unhide Hm7))
            have HLf := hide (left_any Wq.heap.size g cap k l hl9 w7 (unhide Hm7))
            have hle2 := (unhide Hm7).le
            go_wp2_with fail
            refine (unhide HAt).mono ?_
            rintro e w8 ⟨rfl, hw8⟩
            subst hw8
            go_wp2_with fail
            refine (unhide HLf).mono ?_
            rintro e w9 ⟨rfl, hb9⟩
            have Hc9 := hide ((unhide Hm7).below hb9)
            have Hb9 := hide ((unhide HB7).trans (hb9.mono (unhide HB7).size))
            clear hb9 HAt HLf
            go_wp2
            go_roundw
            case rel => first | exact ⟨Wq.heap.size, k, i + 1, rfl, rfl, by go_num, by omega, hws, unhide Hc9, unhide Hb9⟩ | ((repeat apply Exists.intro); exact ⟨⟨Wq.heap.size, k, i + 1, rfl, rfl, by go_num, by omega, hws, unhide Hc9, unhide Hb9⟩, rfl⟩)
            case measure => simp [intOf]; omega
          · have hb' : (bits .and .i64 n 1 == 1) = false := by rw [beq_eq_false_iff_ne]; exact hb
            clear hb
            go_wp2_with fail
            refine (unhide HN2).mono ?_
            rintro e w7 ⟨rfl, ho7, -⟩
            have Hc7 := hide ((unhide Hc6).off ho7 (by omega) (by omega))
            have HB7 := hide (below_off (unhide HB6) ho7 hws (unhide HB6).size)
            clear ho7 HN1 HN2
            have HAt := hide (at_any c g cap k l w7 (unhide Hc7))
            have HLf := hide (left_any c g cap k l hl9 w7 (unhide Hc7))
            have hle2 := (unhide Hc7).le
            go_wp2_with fail
            refine (unhide HAt).mono ?_
            rintro e w8 ⟨rfl, hw8⟩
            subst hw8
            go_wp2_with fail
            refine (unhide HLf).mono ?_
            rintro e w9 ⟨rfl, hb9⟩
            have Hc9 := hide ((unhide Hc7).below hb9)
            have Hb9 := hide ((unhide HB7).trans (hb9.mono (unhide HB7).size))
            clear hb9 HAt HLf
            go_wp2
            go_roundw
            case rel => first | exact ⟨c, k, i + 1, rfl, rfl, by go_num, by omega, hcw, unhide Hc9, unhide Hb9⟩ | ((repeat apply Exists.intro); exact ⟨⟨c, k, i + 1, rfl, rfl, by go_num, by omega, hcw, unhide Hc9, unhide Hb9⟩, rfl⟩)
            case measure => simp [intOf]; omega
      · have h0' : (0 : Int) < l.length := by omega
        obtain ⟨tb, toff, rfl, htb, hc⟩ := trow_pos (trow_below (unhide H1) (Nat.le_refl _) (unhide Hbel)) (k := l.length - 1) (by omega)
        obtain ⟨-, -, z2⟩ := hc (l.length - 1) (by omega)
        rw [← lastTo_pos h0] at z2
        have hlm : ((l.length - 1 : Nat) : Int) = (l.length : Int) - 1 := by omega
        have hlw : IntKind.i64.wrap ((l.length : Int) - 1) = (l.length : Int) - 1 := by rw [IntKind.wrap_i64]; omega
        have hltn : ((l.length : Int) - 1).toNat = l.length - 1 := by omega
        have hln : (l.length : Int) - 1 < l.length := by omega
        have hl0 : (0 : Int) ≤ (l.length : Int) - 1 := by omega
        by_cases hkl : k < l.length
        · have hkl' : (k : Int) < l.length := by omega
          obtain ⟨x0, x1, x2⟩ := hc k hkl
          have Hwant := hide (show wantT l k = l.getD k (0, 0, 0) by simp [wantT, hkl])
          generalize l.getD k (0, 0, 0) = y at *
          obtain ⟨y0, y1, y2⟩ := y
          simp only at x0 x1 x2
          clear hc
          have hS := (Below.heap_alloc (wr.alloc (.cells #[.int .i64 kd, .int .i64 n] 61)) (.cells #[.int .i64 y0, .int .i64 y1, .int .i64 y2] 55) wr.heap.size (by simp)).trans (heap_new wr _)
          have hT := heap_new (wr.alloc (.cells #[.int .i64 kd, .int .i64 n] 61)) (.cells #[.int .i64 y0, .int .i64 y1, .int .i64 y2] 55)
          rw [show (wr.alloc (.cells #[.int .i64 kd, .int .i64 n] 61)).heap.size = wr.heap.size + 1 by simp] at hT
          have hbq := ((Below.refl _ wr).alloc (Nat.le_refl _) (.cells #[.int .i64 kd, .int .i64 n] 61)).alloc (by simp) (.cells #[.int .i64 y0, .int .i64 y1, .int .i64 y2] 55)
          have HS := hide hS; have HT := hide hT
          have Hc := hide ((unhide Hcur).below hbq)
          have HB := hide ((unhide Hbel).trans (hbq.mono hsz))
          clear hS hT hbq
          go_wp2_with fail
          go_region
          go_upto_region 13 with fail
          have HS2 := hide (show ((wr.alloc (.cells #[.int .i64 kd, .int .i64 n] 61)).alloc (.cells #[.int .i64 y0, .int .i64 y1, .int .i64 y2] 55)).drew.heap[wr.heap.size]? = _ from unhide HS)
          have HT2 := hide (show ((wr.alloc (.cells #[.int .i64 kd, .int .i64 n] 61)).alloc (.cells #[.int .i64 y0, .int .i64 y1, .int .i64 y2] 55)).drew.heap[wr.heap.size + 1]? = _ from unhide HT)
          have Hc2 := hide ((unhide Hc).below (Below.refl _ _).drew)
          have HB2' := hide (unhide HB).drew
          clear HS HT Hc HB
          have HS := HS2; have HT := HT2; have Hc := Hc2; have HB := HB2'
          clear HS2 HT2 Hc2 HB2'
          generalize ((wr.alloc (.cells #[.int .i64 kd, .int .i64 n] 61)).alloc (.cells #[.int .i64 y0, .int .i64 y1, .int .i64 y2] 55)).drew = Wq at *
          have t0 := cell_block (unhide HT) 0 _ rfl
          have t1 := cell_block (unhide HT) 1 _ rfl
          have t2 := cell_block (unhide HT) 2 _ rfl
          have k0 := cell_block (unhide HS) 0 _ rfl
          rcases unhide Hfour with hk | hk | hk | hk
          · -- Peek
            have HP := hide (peek_any c g cap k l hl9 Wq.drew ((unhide Hc).below (Below.refl _ _).drew))
            rw [unhide Hwant] at HP
            unfold tokV at HP
            simp only at HP
            have qk := fun w => neq55 y0 y1 y2 y0 y1 y2 w
            rw [show (!decide ((y0, y1, y2) = (y0, y1, y2))) = false by simp] at qk
            go_wp2
            go_region_held3 (fun w' : World => w'.cell? ⟨wr.heap.size + 1, 0, none⟩ = some (.int .i64 y0) ∧ w'.cell? ⟨wr.heap.size + 1, 1, none⟩ = some (.int .i64 y1) ∧ w'.cell? ⟨wr.heap.size + 1, 2, none⟩ = some (.int .i64 y2))
              (first | exact ⟨u0, u1, u2⟩ | exact ⟨t0, t1, t2⟩ | fail)
              (first | (go_at_call 25; refine (unhide HP).mono ?_; rintro e w5 ⟨rfl, hb5⟩; have hT5 := (hb5.block (wr.heap.size + 1) (lt_of_some (unhide HT))).trans (unhide HT); have u0 := cell_block hT5 0 _ rfl; have u1 := cell_block hT5 1 _ rfl; have u2 := cell_block hT5 2 _ rfl; have Hc5 := hide (((unhide Hc).below (Below.refl _ _).drew).below hb5); have HB5 := hide ((unhide HB).drew.trans (hb5.mono (unhide HB).size)); clear hb5 hT5) | fail)
            have HAt := hide (at_any c g cap k l w5 (unhide Hc5))
            have HLf := hide (left_any c g cap k l hl9 w5 (unhide Hc5))
            have hle2 := (unhide Hc5).le
            go_wp2_with fail
            refine (unhide HAt).mono ?_
            rintro e w8 ⟨rfl, hw8⟩
            subst hw8
            go_wp2_with fail
            refine (unhide HLf).mono ?_
            rintro e w9 ⟨rfl, hb9⟩
            have Hc9 := hide ((unhide Hc5).below hb9)
            have Hb9 := hide ((unhide HB5).trans (hb9.mono (unhide HB5).size))
            clear hb9 HAt HLf
            go_wp2
            go_roundw
            case rel => first | exact ⟨c, k, i + 1, rfl, rfl, by go_num, by omega, hcw, unhide Hc9, unhide Hb9⟩ | ((repeat apply Exists.intro); exact ⟨⟨c, k, i + 1, rfl, rfl, by go_num, by omega, hcw, unhide Hc9, unhide Hb9⟩, rfl⟩)
            case measure => simp [intOf]; omega
          · -- Next
            have HP := hide (next_any c g cap k l hl9 Wq.drew ((unhide Hc).below (Below.refl _ _).drew))
            rw [unhide Hwant] at HP
            unfold tokV at HP
            simp only at HP
            have qk := fun w => neq55 y0 y1 y2 y0 y1 y2 w
            rw [show (!decide ((y0, y1, y2) = (y0, y1, y2))) = false by simp] at qk
            have hmin : min ((k : Int) + 1) (l.length : Int) = ((nextK l k : Nat) : Int) := by unfold nextK; split <;> omega
            go_wp2
            go_region_held3 (fun w' : World => w'.cell? ⟨wr.heap.size + 1, 0, none⟩ = some (.int .i64 y0) ∧ w'.cell? ⟨wr.heap.size + 1, 1, none⟩ = some (.int .i64 y1) ∧ w'.cell? ⟨wr.heap.size + 1, 2, none⟩ = some (.int .i64 y2))
              (first | exact ⟨u0, u1, u2⟩ | exact ⟨t0, t1, t2⟩ | fail)
              (first | (go_at_call 26; refine (unhide HP).mono ?_; rintro e w5 ⟨rfl, ho5, hc5⟩; have hT5 := (ho5.block (wr.heap.size + 1) (lt_of_some (unhide HT)) (by omega)).trans (unhide HT); have u0 := cell_block hT5 0 _ rfl; have u1 := cell_block hT5 1 _ rfl; have u2 := cell_block hT5 2 _ rfl; have Hc5 := hide hc5; have HB5 := hide (below_off (unhide HB).drew ho5 hcw (unhide HB).size); clear ho5 hc5 hT5) | fail)
            generalize hnk : nextK l k = k2 at *
            clear hnk
            have HAt := hide (at_any c g cap k2 l w5 (unhide Hc5))
            have HLf := hide (left_any c g cap k2 l hl9 w5 (unhide Hc5))
            have hle2 := (unhide Hc5).le
            go_wp2_with fail
            refine (unhide HAt).mono ?_
            rintro e w8 ⟨rfl, hw8⟩
            subst hw8
            go_wp2_with fail
            refine (unhide HLf).mono ?_
            rintro e w9 ⟨rfl, hb9⟩
            have Hc9 := hide ((unhide Hc5).below hb9)
            have Hb9 := hide ((unhide HB5).trans (hb9.mono (unhide HB5).size))
            clear hb9 HAt HLf
            go_wp2
            go_roundw
            case rel => first | exact ⟨c, k2, i + 1, rfl, rfl, by go_num, by omega, hcw, unhide Hc9, unhide Hb9⟩ | ((repeat apply Exists.intro); exact ⟨⟨c, k2, i + 1, rfl, rfl, by go_num, by omega, hcw, unhide Hc9, unhide Hb9⟩, rfl⟩)
            case measure => simp [intOf]; omega
          · -- Back
            have c1 := cell_block (unhide HS) 1 _ rfl
            by_cases hn : 0 ≤ n ∧ n ≤ (k : Int)
            · obtain ⟨m, rfl⟩ := Int.eq_ofNat_of_zero_le hn.1
              have hn2 := hn.2
              have HP := hide (back_yes c g cap k m l hl9 (by omega) Wq (unhide Hc))
              have d1 : (0 : Int) ≤ (m : Int) := by omega
              clear hn
              go_wp2_with fail
              refine (unhide HP).mono ?_
              rintro e w5 ⟨rfl, ho5, hc5⟩
              have hS5 := (ho5.block wr.heap.size (lt_of_some (unhide HS)) (by omega)).trans (unhide HS)
              have v1 := cell_block hS5 1 _ rfl
              have hkm : (k : Int) - (m : Int) = ((k - m : Nat) : Int) := by omega
              have Hc5 := hide hc5
              have HB5 := hide (below_off (unhide HB) ho5 hcw (unhide HB).size)
              have hc5le := hc5.le
              clear ho5 hc5 hS5 HP c1
              generalize hk2 : k - m = k2 at *
              clear hk2
              have HAt := hide (at_any c g cap k2 l w5 (unhide Hc5))
              have HLf := hide (left_any c g cap k2 l hl9 w5 (unhide Hc5))
              have hle2 := (unhide Hc5).le
              go_wp2_with fail
              refine (unhide HAt).mono ?_
              rintro e w8 ⟨rfl, hw8⟩
              subst hw8
              go_wp2_with fail
              refine (unhide HLf).mono ?_
              rintro e w9 ⟨rfl, hb9⟩
              have Hc9 := hide ((unhide Hc5).below hb9)
              have Hb9 := hide ((unhide HB5).trans (hb9.mono (unhide HB5).size))
              clear hb9 HAt HLf
              go_wp2
              go_roundw
              case rel => first | exact ⟨c, k2, i + 1, rfl, rfl, by go_num, by omega, hcw, unhide Hc9, unhide Hb9⟩ | ((repeat apply Exists.intro); exact ⟨⟨c, k2, i + 1, rfl, rfl, by go_num, by omega, hcw, unhide Hc9, unhide Hb9⟩, rfl⟩)
              case measure => simp [intOf]; omega
            · have HP := hide (back_no c g cap k l n hn Wq (unhide Hc))
              have hcase : n < 0 ∨ ((0 : Int) ≤ n ∧ (k : Int) < n) := by omega
              clear hn
              rcases hcase with hn | ⟨hn, hn2⟩
              · go_wp2_with fail
                refine (unhide HP).mono ?_
                rintro e w5 ⟨rfl, hw5⟩
                subst hw5
                have HAt := hide (at_any c g cap k l Wq (unhide Hc))
                have HLf := hide (left_any c g cap k l hl9 Wq (unhide Hc))
                have hle2 := (unhide Hc).le
                go_wp2_with fail
                refine (unhide HAt).mono ?_
                rintro e w8 ⟨rfl, hw8⟩
                subst hw8
                go_wp2_with fail
                refine (unhide HLf).mono ?_
                rintro e w9 ⟨rfl, hb9⟩
                have Hc9 := hide ((unhide Hc).below hb9)
                have Hb9 := hide ((unhide HB).trans (hb9.mono (unhide HB).size))
                clear hb9 HAt HLf
                go_wp2
                go_roundw
                case rel => first | exact ⟨c, k, i + 1, rfl, rfl, by go_num, by omega, hcw, unhide Hc9, unhide Hb9⟩ | ((repeat apply Exists.intro); exact ⟨⟨c, k, i + 1, rfl, rfl, by go_num, by omega, hcw, unhide Hc9, unhide Hb9⟩, rfl⟩)
                case measure => simp [intOf]; omega
              · go_wp2_with fail
                refine (unhide HP).mono ?_
                rintro e w5 ⟨rfl, hw5⟩
                subst hw5
                have HAt := hide (at_any c g cap k l Wq (unhide Hc))
                have HLf := hide (left_any c g cap k l hl9 Wq (unhide Hc))
                have hle2 := (unhide Hc).le
                go_wp2_with fail
                refine (unhide HAt).mono ?_
                rintro e w8 ⟨rfl, hw8⟩
                subst hw8
                go_wp2_with fail
                refine (unhide HLf).mono ?_
                rintro e w9 ⟨rfl, hb9⟩
                have Hc9 := hide ((unhide Hc).below hb9)
                have Hb9 := hide ((unhide HB).trans (hb9.mono (unhide HB).size))
                clear hb9 HAt HLf
                go_wp2
                go_roundw
                case rel => first | exact ⟨c, k, i + 1, rfl, rfl, by go_num, by omega, hcw, unhide Hc9, unhide Hb9⟩ | ((repeat apply Exists.intro); exact ⟨⟨c, k, i + 1, rfl, rfl, by go_num, by omega, hcw, unhide Hc9, unhide Hb9⟩, rfl⟩)
                case measure => simp [intOf]; omega
          · -- Mark
            have c1 := cell_block (unhide HS) 1 _ rfl
            have HP := hide (mark_any c g cap k l Wq (unhide Hc))
            go_wp2_with fail
            refine (unhide HP).mono ?_
            rintro e w5 ⟨rfl, hb5, hc5⟩
            have HAm := hide (at_any Wq.heap.size g cap k l w5 hc5)
            have HLm := hide (left_any Wq.heap.size g cap k l hl9 w5 hc5)
            have Hc5 := hide hc5; have Hb5 := hide hb5
            clear hb5 hc5 HP
            go_wp2_with fail
            refine (unhide HAm).mono ?_
            rintro e w6 ⟨rfl, hw6⟩
            subst hw6
            go_wp2_with fail
            refine (unhide HLm).mono ?_
            rintro e w6 ⟨rfl, hb6⟩
            have hb56 := (unhide Hb5).trans (hb6.mono (unhide Hb5).size)
            have hm6 := (unhide Hc5).below hb6
            have hc6 := (unhide Hc).below hb56
            have hB6 := (unhide HB).trans (hb56.mono (unhide HB).size)
            have v1 := cell_block ((hb56.block wr.heap.size (lt_of_some (unhide HS))).trans (unhide HS)) 1 _ rfl
            have hqc : c < Wq.heap.size := lt_of_some (unhide Hc).box
            have hqg : g < Wq.heap.size := (unhide Hc).gl
            have hws := (unhide HB).size
            have HN1 := hide (next_any c g cap k l hl9 w6 hc6)
            have HN2 := hide (next_any Wq.heap.size g cap k l hl9 w6 hm6)
            have Hm6 := hide hm6; have Hc6 := hide hc6; have HB6 := hide hB6
            clear hb6 hb56 hm6 hc6 hB6 HAm HLm Hc5 Hb5 c1
            by_cases hb : bits .and .i64 n 1 = 1
            · have hb' : (bits .and .i64 n 1 == 1) = true := by rw [beq_iff_eq]; exact hb
              clear hb
              go_wp2_with fail
              refine (unhide HN1).mono ?_
              rintro e w7 ⟨rfl, ho7, -⟩
              have Hm7 := hide ((unhide Hm6).off ho7 (by omega) (unhide Hc).ne)
              have HB7 := hide (below_off (unhide HB6) ho7 hcw (unhide HB6).size)
              clear ho7 HN1 HN2
              have HAt := hide (at_any Wq.heap.size g cap k l w7 (unhide Hm7))
              have HLf := hide (left_any Wq.heap.size g cap k l hl9 w7 (unhide Hm7))
              have hle2 := (unhide Hm7).le
              go_wp2_with fail
              refine (unhide HAt).mono ?_
              rintro e w8 ⟨rfl, hw8⟩
              subst hw8
              go_wp2_with fail
              refine (unhide HLf).mono ?_
              rintro e w9 ⟨rfl, hb9⟩
              have Hc9 := hide ((unhide Hm7).below hb9)
              have Hb9 := hide ((unhide HB7).trans (hb9.mono (unhide HB7).size))
              clear hb9 HAt HLf
              go_wp2
              go_roundw
              case rel => first | exact ⟨Wq.heap.size, k, i + 1, rfl, rfl, by go_num, by omega, hws, unhide Hc9, unhide Hb9⟩ | ((repeat apply Exists.intro); exact ⟨⟨Wq.heap.size, k, i + 1, rfl, rfl, by go_num, by omega, hws, unhide Hc9, unhide Hb9⟩, rfl⟩)
              case measure => simp [intOf]; omega
            · have hb' : (bits .and .i64 n 1 == 1) = false := by rw [beq_eq_false_iff_ne]; exact hb
              clear hb
              go_wp2_with fail
              refine (unhide HN2).mono ?_
              rintro e w7 ⟨rfl, ho7, -⟩
              have Hc7 := hide ((unhide Hc6).off ho7 (by omega) (by omega))
              have HB7 := hide (below_off (unhide HB6) ho7 hws (unhide HB6).size)
              clear ho7 HN1 HN2
              have HAt := hide (at_any c g cap k l w7 (unhide Hc7))
              have HLf := hide (left_any c g cap k l hl9 w7 (unhide Hc7))
              have hle2 := (unhide Hc7).le
              go_wp2_with fail
              refine (unhide HAt).mono ?_
              rintro e w8 ⟨rfl, hw8⟩
              subst hw8
              go_wp2_with fail
              refine (unhide HLf).mono ?_
              rintro e w9 ⟨rfl, hb9⟩
              have Hc9 := hide ((unhide Hc7).below hb9)
              have Hb9 := hide ((unhide HB7).trans (hb9.mono (unhide HB7).size))
              clear hb9 HAt HLf
              go_wp2
              go_roundw
              case rel => first | exact ⟨c, k, i + 1, rfl, rfl, by go_num, by omega, hcw, unhide Hc9, unhide Hb9⟩ | ((repeat apply Exists.intro); exact ⟨⟨c, k, i + 1, rfl, rfl, by go_num, by omega, hcw, unhide Hc9, unhide Hb9⟩, rfl⟩)
              case measure => simp [intOf]; omega
        · have hkl' : ¬ (k : Int) < l.length := by omega
          have Hwant := hide (show wantT l k = (0, lastTo l, lastTo l) by simp [wantT, hkl])
          clear hc
          generalize lastTo l = y1 at *
          have hS := (Below.heap_alloc (wr.alloc (.cells #[.int .i64 kd, .int .i64 n] 61)) (.cells #[.int .i64 0, .int .i64 y1, .int .i64 y1] 55) wr.heap.size (by simp)).trans (heap_new wr _)
          have hT := heap_new (wr.alloc (.cells #[.int .i64 kd, .int .i64 n] 61)) (.cells #[.int .i64 0, .int .i64 y1, .int .i64 y1] 55)
          rw [show (wr.alloc (.cells #[.int .i64 kd, .int .i64 n] 61)).heap.size = wr.heap.size + 1 by simp] at hT
          have hbq := ((Below.refl _ wr).alloc (Nat.le_refl _) (.cells #[.int .i64 kd, .int .i64 n] 61)).alloc (by simp) (.cells #[.int .i64 0, .int .i64 y1, .int .i64 y1] 55)
          have HS := hide hS; have HT := hide hT
          have Hc := hide ((unhide Hcur).below hbq)
          have HB := hide ((unhide Hbel).trans (hbq.mono hsz))
          clear hS hT hbq
          go_wp2_with fail
          go_region
          go_upto_region 13 with fail
          have HS2 := hide (show ((wr.alloc (.cells #[.int .i64 kd, .int .i64 n] 61)).alloc (.cells #[.int .i64 0, .int .i64 y1, .int .i64 y1] 55)).drew.heap[wr.heap.size]? = _ from unhide HS)
          have HT2 := hide (show ((wr.alloc (.cells #[.int .i64 kd, .int .i64 n] 61)).alloc (.cells #[.int .i64 0, .int .i64 y1, .int .i64 y1] 55)).drew.heap[wr.heap.size + 1]? = _ from unhide HT)
          have Hc2 := hide ((unhide Hc).below (Below.refl _ _).drew)
          have HB2' := hide (unhide HB).drew
          clear HS HT Hc HB
          have HS := HS2; have HT := HT2; have Hc := Hc2; have HB := HB2'
          clear HS2 HT2 Hc2 HB2'
          generalize ((wr.alloc (.cells #[.int .i64 kd, .int .i64 n] 61)).alloc (.cells #[.int .i64 0, .int .i64 y1, .int .i64 y1] 55)).drew = Wq at *
          have t0 := cell_block (unhide HT) 0 _ rfl
          have t1 := cell_block (unhide HT) 1 _ rfl
          have t2 := cell_block (unhide HT) 2 _ rfl
          have k0 := cell_block (unhide HS) 0 _ rfl
          rcases unhide Hfour with hk | hk | hk | hk
          · -- Peek
            have HP := hide (peek_any c g cap k l hl9 Wq.drew ((unhide Hc).below (Below.refl _ _).drew))
            rw [unhide Hwant] at HP
            unfold tokV at HP
            simp only at HP
            have qk := fun w => neq55 0 y1 y1 0 y1 y1 w
            rw [show (!decide (((0 : Int), y1, y1) = ((0 : Int), y1, y1))) = false by simp] at qk
            go_wp2
            go_region_held3 (fun w' : World => w'.cell? ⟨wr.heap.size + 1, 0, none⟩ = some (.int .i64 0) ∧ w'.cell? ⟨wr.heap.size + 1, 1, none⟩ = some (.int .i64 y1) ∧ w'.cell? ⟨wr.heap.size + 1, 2, none⟩ = some (.int .i64 y1))
              (first | exact ⟨u0, u1, u2⟩ | exact ⟨t0, t1, t2⟩ | fail)
              (first | (go_at_call 25; refine (unhide HP).mono ?_; rintro e w5 ⟨rfl, hb5⟩; have hT5 := (hb5.block (wr.heap.size + 1) (lt_of_some (unhide HT))).trans (unhide HT); have u0 := cell_block hT5 0 _ rfl; have u1 := cell_block hT5 1 _ rfl; have u2 := cell_block hT5 2 _ rfl; have Hc5 := hide (((unhide Hc).below (Below.refl _ _).drew).below hb5); have HB5 := hide ((unhide HB).drew.trans (hb5.mono (unhide HB).size)); clear hb5 hT5) | fail)
            have HAt := hide (at_any c g cap k l w5 (unhide Hc5))
            have HLf := hide (left_any c g cap k l hl9 w5 (unhide Hc5))
            have hle2 := (unhide Hc5).le
            go_wp2_with fail
            refine (unhide HAt).mono ?_
            rintro e w8 ⟨rfl, hw8⟩
            subst hw8
            go_wp2_with fail
            refine (unhide HLf).mono ?_
            rintro e w9 ⟨rfl, hb9⟩
            have Hc9 := hide ((unhide Hc5).below hb9)
            have Hb9 := hide ((unhide HB5).trans (hb9.mono (unhide HB5).size))
            clear hb9 HAt HLf
            go_wp2
            go_roundw
            case rel => first | exact ⟨c, k, i + 1, rfl, rfl, by go_num, by omega, hcw, unhide Hc9, unhide Hb9⟩ | ((repeat apply Exists.intro); exact ⟨⟨c, k, i + 1, rfl, rfl, by go_num, by omega, hcw, unhide Hc9, unhide Hb9⟩, rfl⟩)
            case measure => simp [intOf]; omega
          · -- Next
            have HP := hide (next_any c g cap k l hl9 Wq.drew ((unhide Hc).below (Below.refl _ _).drew))
            rw [unhide Hwant] at HP
            unfold tokV at HP
            simp only at HP
            have qk := fun w => neq55 0 y1 y1 0 y1 y1 w
            rw [show (!decide (((0 : Int), y1, y1) = ((0 : Int), y1, y1))) = false by simp] at qk
            have hmin : min ((k : Int) + 1) (l.length : Int) = ((nextK l k : Nat) : Int) := by unfold nextK; split <;> omega
            go_wp2
            go_region_held3 (fun w' : World => w'.cell? ⟨wr.heap.size + 1, 0, none⟩ = some (.int .i64 0) ∧ w'.cell? ⟨wr.heap.size + 1, 1, none⟩ = some (.int .i64 y1) ∧ w'.cell? ⟨wr.heap.size + 1, 2, none⟩ = some (.int .i64 y1))
              (first | exact ⟨u0, u1, u2⟩ | exact ⟨t0, t1, t2⟩ | fail)
              (first | (go_at_call 26; refine (unhide HP).mono ?_; rintro e w5 ⟨rfl, ho5, hc5⟩; have hT5 := (ho5.block (wr.heap.size + 1) (lt_of_some (unhide HT)) (by omega)).trans (unhide HT); have u0 := cell_block hT5 0 _ rfl; have u1 := cell_block hT5 1 _ rfl; have u2 := cell_block hT5 2 _ rfl; have Hc5 := hide hc5; have HB5 := hide (below_off (unhide HB).drew ho5 hcw (unhide HB).size); clear ho5 hc5 hT5) | fail)
            generalize hnk : nextK l k = k2 at *
            clear hnk
            have HAt := hide (at_any c g cap k2 l w5 (unhide Hc5))
            have HLf := hide (left_any c g cap k2 l hl9 w5 (unhide Hc5))
            have hle2 := (unhide Hc5).le
            go_wp2_with fail
            refine (unhide HAt).mono ?_
            rintro e w8 ⟨rfl, hw8⟩
            subst hw8
            go_wp2_with fail
            refine (unhide HLf).mono ?_
            rintro e w9 ⟨rfl, hb9⟩
            have Hc9 := hide ((unhide Hc5).below hb9)
            have Hb9 := hide ((unhide HB5).trans (hb9.mono (unhide HB5).size))
            clear hb9 HAt HLf
            go_wp2
            go_roundw
            case rel => first | exact ⟨c, k2, i + 1, rfl, rfl, by go_num, by omega, hcw, unhide Hc9, unhide Hb9⟩ | ((repeat apply Exists.intro); exact ⟨⟨c, k2, i + 1, rfl, rfl, by go_num, by omega, hcw, unhide Hc9, unhide Hb9⟩, rfl⟩)
            case measure => simp [intOf]; omega
          · -- Back
            have c1 := cell_block (unhide HS) 1 _ rfl
            by_cases hn : 0 ≤ n ∧ n ≤ (k : Int)
            · obtain ⟨m, rfl⟩ := Int.eq_ofNat_of_zero_le hn.1
              have hn2 := hn.2
              have HP := hide (back_yes c g cap k m l hl9 (by omega) Wq (unhide Hc))
              have d1 : (0 : Int) ≤ (m : Int) := by omega
              clear hn
              go_wp2_with fail
              refine (unhide HP).mono ?_
              rintro e w5 ⟨rfl, ho5, hc5⟩
              have hS5 := (ho5.block wr.heap.size (lt_of_some (unhide HS)) (by omega)).trans (unhide HS)
              have v1 := cell_block hS5 1 _ rfl
              have hkm : (k : Int) - (m : Int) = ((k - m : Nat) : Int) := by omega
              have Hc5 := hide hc5
              have HB5 := hide (below_off (unhide HB) ho5 hcw (unhide HB).size)
              have hc5le := hc5.le
              clear ho5 hc5 hS5 HP c1
              generalize hk2 : k - m = k2 at *
              clear hk2
              have HAt := hide (at_any c g cap k2 l w5 (unhide Hc5))
              have HLf := hide (left_any c g cap k2 l hl9 w5 (unhide Hc5))
              have hle2 := (unhide Hc5).le
              go_wp2_with fail
              refine (unhide HAt).mono ?_
              rintro e w8 ⟨rfl, hw8⟩
              subst hw8
              go_wp2_with fail
              refine (unhide HLf).mono ?_
              rintro e w9 ⟨rfl, hb9⟩
              have Hc9 := hide ((unhide Hc5).below hb9)
              have Hb9 := hide ((unhide HB5).trans (hb9.mono (unhide HB5).size))
              clear hb9 HAt HLf
              go_wp2
              go_roundw
              case rel => first | exact ⟨c, k2, i + 1, rfl, rfl, by go_num, by omega, hcw, unhide Hc9, unhide Hb9⟩ | ((repeat apply Exists.intro); exact ⟨⟨c, k2, i + 1, rfl, rfl, by go_num, by omega, hcw, unhide Hc9, unhide Hb9⟩, rfl⟩)
              case measure => simp [intOf]; omega
            · have HP := hide (back_no c g cap k l n hn Wq (unhide Hc))
              have hcase : n < 0 ∨ ((0 : Int) ≤ n ∧ (k : Int) < n) := by omega
              clear hn
              rcases hcase with hn | ⟨hn, hn2⟩
              · go_wp2_with fail
                refine (unhide HP).mono ?_
                rintro e w5 ⟨rfl, hw5⟩
                subst hw5
                have HAt := hide (at_any c g cap k l Wq (unhide Hc))
                have HLf := hide (left_any c g cap k l hl9 Wq (unhide Hc))
                have hle2 := (unhide Hc).le
                go_wp2_with fail
                refine (unhide HAt).mono ?_
                rintro e w8 ⟨rfl, hw8⟩
                subst hw8
                go_wp2_with fail
                refine (unhide HLf).mono ?_
                rintro e w9 ⟨rfl, hb9⟩
                have Hc9 := hide ((unhide Hc).below hb9)
                have Hb9 := hide ((unhide HB).trans (hb9.mono (unhide HB).size))
                clear hb9 HAt HLf
                go_wp2
                go_roundw
                case rel => first | exact ⟨c, k, i + 1, rfl, rfl, by go_num, by omega, hcw, unhide Hc9, unhide Hb9⟩ | ((repeat apply Exists.intro); exact ⟨⟨c, k, i + 1, rfl, rfl, by go_num, by omega, hcw, unhide Hc9, unhide Hb9⟩, rfl⟩)
                case measure => simp [intOf]; omega
              · go_wp2_with fail
                refine (unhide HP).mono ?_
                rintro e w5 ⟨rfl, hw5⟩
                subst hw5
                have HAt := hide (at_any c g cap k l Wq (unhide Hc))
                have HLf := hide (left_any c g cap k l hl9 Wq (unhide Hc))
                have hle2 := (unhide Hc).le
                go_wp2_with fail
                refine (unhide HAt).mono ?_
                rintro e w8 ⟨rfl, hw8⟩
                subst hw8
                go_wp2_with fail
                refine (unhide HLf).mono ?_
                rintro e w9 ⟨rfl, hb9⟩
                have Hc9 := hide ((unhide Hc).below hb9)
                have Hb9 := hide ((unhide HB).trans (hb9.mono (unhide HB).size))
                clear hb9 HAt HLf
                go_wp2
                go_roundw
                case rel => first | exact ⟨c, k, i + 1, rfl, rfl, by go_num, by omega, hcw, unhide Hc9, unhide Hb9⟩ | ((repeat apply Exists.intro); exact ⟨⟨c, k, i + 1, rfl, rfl, by go_num, by omega, hcw, unhide Hc9, unhide Hb9⟩, rfl⟩)
                case measure => simp [intOf]; omega
          · -- Mark
            have c1 := cell_block (unhide HS) 1 _ rfl
            have HP := hide (mark_any c g cap k l Wq (unhide Hc))
            go_wp2_with fail
            refine (unhide HP).mono ?_
            rintro e w5 ⟨rfl, hb5, hc5⟩
            have HAm := hide (at_any Wq.heap.size g cap k l w5 hc5)
            have HLm := hide (left_any Wq.heap.size g cap k l hl9 w5 hc5)
            have Hc5 := hide hc5; have Hb5 := hide hb5
            clear hb5 hc5 HP
            go_wp2_with fail
            refine (unhide HAm).mono ?_
            rintro e w6 ⟨rfl, hw6⟩
            subst hw6
            go_wp2_with fail
            refine (unhide HLm).mono ?_
            rintro e w6 ⟨rfl, hb6⟩
            have hb56 := (unhide Hb5).trans (hb6.mono (unhide Hb5).size)
            have hm6 := (unhide Hc5).below hb6
            have hc6 := (unhide Hc).below hb56
            have hB6 := (unhide HB).trans (hb56.mono (unhide HB).size)
            have v1 := cell_block ((hb56.block wr.heap.size (lt_of_some (unhide HS))).trans (unhide HS)) 1 _ rfl
            have hqc : c < Wq.heap.size := lt_of_some (unhide Hc).box
            have hqg : g < Wq.heap.size := (unhide Hc).gl
            have hws := (unhide HB).size
            have HN1 := hide (next_any c g cap k l hl9 w6 hc6)
            have HN2 := hide (next_any Wq.heap.size g cap k l hl9 w6 hm6)
            have Hm6 := hide hm6; have Hc6 := hide hc6; have HB6 := hide hB6
            clear hb6 hb56 hm6 hc6 hB6 HAm HLm Hc5 Hb5 c1
            by_cases hb : bits .and .i64 n 1 = 1
            · have hb' : (bits .and .i64 n 1 == 1) = true := by rw [beq_iff_eq]; exact hb
              clear hb
              go_wp2_with fail
              refine (unhide HN1).mono ?_
              rintro e w7 ⟨rfl, ho7, -⟩
              have Hm7 := hide ((unhide Hm6).off ho7 (by omega) (unhide Hc).ne)
              have HB7 := hide (below_off (unhide HB6) ho7 hcw (unhide HB6).size)
              clear ho7 HN1 HN2
              have HAt := hide (at_any Wq.heap.size g cap k l w7 (unhide Hm7))
              have HLf := hide (left_any Wq.heap.size g cap k l hl9 w7 (unhide Hm7))
              have hle2 := (unhide Hm7).le
              go_wp2_with fail
              refine (unhide HAt).mono ?_
              rintro e w8 ⟨rfl, hw8⟩
              subst hw8
              go_wp2_with fail
              refine (unhide HLf).mono ?_
              rintro e w9 ⟨rfl, hb9⟩
              have Hc9 := hide ((unhide Hm7).below hb9)
              have Hb9 := hide ((unhide HB7).trans (hb9.mono (unhide HB7).size))
              clear hb9 HAt HLf
              go_wp2
              go_roundw
              case rel => first | exact ⟨Wq.heap.size, k, i + 1, rfl, rfl, by go_num, by omega, hws, unhide Hc9, unhide Hb9⟩ | ((repeat apply Exists.intro); exact ⟨⟨Wq.heap.size, k, i + 1, rfl, rfl, by go_num, by omega, hws, unhide Hc9, unhide Hb9⟩, rfl⟩)
              case measure => simp [intOf]; omega
            · have hb' : (bits .and .i64 n 1 == 1) = false := by rw [beq_eq_false_iff_ne]; exact hb
              clear hb
              go_wp2_with fail
              refine (unhide HN2).mono ?_
              rintro e w7 ⟨rfl, ho7, -⟩
              have Hc7 := hide ((unhide Hc6).off ho7 (by omega) (by omega))
              have HB7 := hide (below_off (unhide HB6) ho7 hws (unhide HB6).size)
              clear ho7 HN1 HN2
              have HAt := hide (at_any c g cap k l w7 (unhide Hc7))
              have HLf := hide (left_any c g cap k l hl9 w7 (unhide Hc7))
              have hle2 := (unhide Hc7).le
              go_wp2_with fail
              refine (unhide HAt).mono ?_
              rintro e w8 ⟨rfl, hw8⟩
              subst hw8
              go_wp2_with fail
              refine (unhide HLf).mono ?_
              rintro e w9 ⟨rfl, hb9⟩
              have Hc9 := hide ((unhide Hc7).below hb9)
              have Hb9 := hide ((unhide HB7).trans (hb9.mono (unhide HB7).size))
              clear hb9 HAt HLf
              go_wp2
              go_roundw
              case rel => first | exact ⟨c, k, i + 1, rfl, rfl, by go_num, by omega, hcw, unhide Hc9, unhide Hb9⟩ | ((repeat apply Exists.intro); exact ⟨⟨c, k, i + 1, rfl, rfl, by go_num, by omega, hcw, unhide Hc9, unhide Hb9⟩, rfl⟩)
              case measure => simp [intOf]; omega
    · obtain rfl : i = st.length := by omega
      have HAt := hide (at_any c g cap k l wr (unhide Hcur))
      have HLf := hide (left_any c g cap k l hl9 wr (unhide Hcur))
      go_wp2_with fail
      refine (unhide HAt).mono ?_
      rintro e w8 ⟨rfl, hw8⟩
      subst hw8
      go_wp2_with fail
      refine (unhide HLf).mono ?_
      rintro e w9 ⟨rfl, hb9⟩
      have Hb9 := hide ((unhide Hbel).trans (hb9.mono (unhide Hbel).size))
      clear hb9 HAt HLf
      go_wp2
      go_ret
      exact ⟨rfl, unhide Hb9⟩
end Go.Proofs.YtkckcnjamlpadaaDoor

/- slices.Sort at rune: pdqsortOrdered, Sort. -/
import Derived.Test.YtkbhdojgdgiggabDoorQ9
import Derived.Sort.LotD3
namespace Go.Proofs.YtkbhdojgdgiggabDoor
open Go.RowKit Go.Sort

abbrev Low (a c : Nat) (d : Array Int) : Prop := Go.Sort.Below ltInt a c d
theorem low_perm {a c : Nat} {d d' : Array Int} (h : Low a c d) (hb : c ≤ d.size) (hp : PermIn a c d d') : Low a c d' := Go.Sort.Below.perm h hb hp

set_option maxRecDepth 100000 in
set_option maxHeartbeats 16000000 in
theorem pdq_step (N : Nat) (ih : ∀ (b cap n a c lim : Nat) (d : Array Int), c - a < N → a ≤ c → c ≤ n → n ≤ 281474976710656 → lim ≤ 64 → Low a c d → ∀ w, RW w b cap n d → Calls Tryd.prog 50 #[.slice (some ⟨b, 0, none⟩) n cap, .int .i64 a, .int .i64 c, .int .i64 lim] w fun e w' => (∃ v, e = .returned v) ∧ ∃ R, RW w' b cap n R ∧ PermIn a c d R ∧ SortedIn ltInt a c R ∧ OfB b w w')
    (b cap n a c lim : Nat) (d : Array Int) (hN : c - a ≤ N) (hac : a ≤ c) (hc : c ≤ n) (hn : n ≤ 281474976710656) (hlim : lim ≤ 64) (hlow : Low a c d) (w : World) (h : RW w b cap n d) :
    Calls Tryd.prog 50 #[.slice (some ⟨b, 0, none⟩) n cap, .int .i64 a, .int .i64 c, .int .i64 lim] w fun e w' => (∃ v, e = .returned v) ∧ ∃ R, RW w' b cap n R ∧ PermIn a c d R ∧ SortedIn ltInt a c R ∧ OfB b w w' := by
  have HIH := hide ih
  have Hlow := hide hlow
  clear ih hlow
  go_enter Tryd.func50, Tryd.ntmps50
  go_wp2
  go_loopw [1, 2, 3, 8, 9] (fun x1 x2 x3 x8 x9 wr => ∃ (a1 c1 l1 : Nat) (wb wp : Bool) (d1 : Array Int), x1 = .int .i64 a1 ∧ x2 = .int .i64 c1 ∧ x3 = .int .i64 l1 ∧ x8 = .bool wb ∧ x9 = .bool wp ∧ a1 ≤ c1 ∧ c1 ≤ n ∧ c1 - a1 ≤ c - a ∧ l1 ≤ 64 ∧ Low a1 c1 d1 ∧ RW wr b cap n d1 ∧ OfB b w wr ∧ (∀ R, PermIn a1 c1 d1 R → SortedIn ltInt a1 c1 R → PermIn a c d R ∧ SortedIn ltInt a c R)) (fun x1 x2 _ _ _ _ => (intOf x2).toNat - (intOf x1).toNat)
  case atStart => exact ⟨a, c, lim, true, true, d, rfl, rfl, rfl, rfl, rfl, hac, hc, Nat.le_refl _, hlim, unhide Hlow, h, ofB_refl _ _, fun R h1 h2 => ⟨h1, h2⟩⟩
  case round =>
    obtain ⟨a1, c1, l1, wb, wp, d1, rfl, rfl, rfl, rfl, rfl, hac1, hc1, hsz, hl1, hlow1, hrw, hof, hfin⟩ := hrel
    clear h Hlow
    obtain ⟨L, hL⟩ : ∃ L, L = c1 - a1 := ⟨_, rfl⟩
    have eL : (c1 : Int) - (a1 : Int) = (L : Int) := by omega
    have hd1 := hrw.1
    by_cases h12 : L ≤ 12
    · have h12' : (L : Int) ≤ 12 := by omega
      have HS := hide (ins_any b cap n a1 c1 d1 hc1 hn (by omega) wr hrw)
      have hp := insertionSort_holds (lt := ltInt) swo_ltInt d1 a1 c1 hac1 (by omega)
      have HF := hide (hfin _ hp.1 hp.2)
      have Hof := hide hof
      clear hp hfin hlow1 hrw hof hL
      go_wp2_with fail
      refine (unhide HS).mono ?_
      rintro e w2 ⟨⟨v, rfl⟩, hrw2, hof2⟩
      go_wp2
      first | refine bodyPost_ret (results_none rfl _ _ _) rfl ?_ | go_end0
      exact ⟨⟨_, rfl⟩, _, hrw2, (unhide HF).1, (unhide HF).2, ofB_t (unhide Hof) hof2⟩
    · have h12' : ¬ (L : Int) ≤ 12 := by omega
      have hac12 : a1 + 12 < c1 := by omega
      by_cases hl0 : l1 = 0
      · have hl0' : ((l1 : Int) == 0) = true := by simp [hl0]
        have HS := hide (heap_any b cap n a1 c1 d1 (by omega) hc1 hn wr hrw)
        have hp := heapSort_holds (lt := ltInt) swo_ltInt d1 a1 c1 hac1 (by omega)
        have HF := hide (hfin _ hp.1 hp.2)
        have Hof := hide hof
        clear hp hfin hlow1 hrw hof hL
        go_wp2_with fail
        refine (unhide HS).mono ?_
        rintro e w2 ⟨⟨v, rfl⟩, hrw2, hof2⟩
        go_wp2
        first | refine bodyPost_ret (results_none rfl _ _ _) rfl ?_ | go_end0
        exact ⟨⟨_, rfl⟩, _, hrw2, (unhide HF).1, (unhide HF).2, ofB_t (unhide Hof) hof2⟩
      · have hl0' : ((l1 : Int) == 0) = false := by simp [hl0]
        have Hrw := hide hrw; have Hof := hide hof; have Hfin := hide hfin; have Hlow1 := hide hlow1
        clear hrw hof hfin hlow1 hL
        go_upto_if 35 with fail
        go_cut [3] from 19 to 133 (fun x wx => ∃ (l2 : Nat) (d2 : Array Int), x = .int .i64 l2 ∧ l2 ≤ 64 ∧ RW wx b cap n d2 ∧ PermIn a1 c1 d1 d2 ∧ OfB b w wx)
        case first =>
          cases wb with
          | true =>
            go_wp2_with fail
            go_meet
            case rel => exact ⟨l1, d1, rfl, hl1, unhide Hrw, permIn_refl _ _ _, unhide Hof⟩
          | false =>
            have HS := hide (brk_any b cap n a1 c1 d1 hac12 hc1 hn wr (unhide Hrw))
            have el : (l1 : Int) - 1 = ((l1 - 1 : Nat) : Int) := by omega
            go_wp2_with fail
            refine (unhide HS).mono ?_
            rintro e w2 ⟨⟨v, rfl⟩, d2, hrw2, hpm2, hof2⟩
            go_wp2_with fail
            go_meet
            case rel => exact ⟨l1 - 1, d2, by rw [← el], by omega, hrw2, hpm2, ofB_t (unhide Hof) hof2⟩
        case rest =>
          obtain ⟨l2, d2, rfl, hl2, hrw2, hpm2, hof2⟩ := hcut
          have hd2 := hrw2.1
          have HS := hide (pivot_any b cap n a1 c1 d2 hac12 hc1 hn wc hrw2)
          have Hpm2 := hide hpm2; have Hof2 := hide hof2
          clear hrw2 hpm2 hof2 Hrw Hof
          go_wp2_with fail
          refine (unhide HS).mono ?_
          rintro e w3 ⟨p, hh, rfl, hp, hh2, hrw3, hof3⟩
          have Hrw3 := hide hrw3; have Hof3 := hide (ofB_t (unhide Hof2) hof3)
          clear hrw3 hof3 HS Hof2
          go_upto_if 50 with fail
          go_cut [11, 12] from 19 to 133 (fun x y wx => ∃ (p h : Nat) (d3 : Array Int), x = .int .i64 p ∧ y = .int .i64 h ∧ (a1 ≤ p ∧ p < c1) ∧ RW wx b cap n d3 ∧ PermIn a1 c1 d1 d3 ∧ OfB b w wx)
          case first =>
            by_cases hdec : hh = 2
            · have hdec' : ((hh : Int) == 2) = true := by simp [hdec]
              have HS := hide (rev_any b cap n a1 c1 d2 (by omega) hc1 hn w3 (unhide Hrw3))
              obtain ⟨C, hC⟩ : ∃ C, C = c1 - 1 := ⟨_, rfl⟩
              obtain ⟨P, hP⟩ : ∃ P, P = p - a1 := ⟨_, rfl⟩
              obtain ⟨P2, hP2⟩ : ∃ P2, P2 = C - P := ⟨_, rfl⟩
              have eC : (c1 : Int) - 1 = (C : Int) := by omega
              have eP : (p : Int) - (a1 : Int) = (P : Int) := by omega
              have eP2 : (C : Int) - (P : Int) = (P2 : Int) := by omega
              have hP2r : a1 ≤ P2 ∧ P2 < c1 := by omega
              clear hC hP hP2
              go_wp2_with fail
              refine (unhide HS).mono ?_
              rintro e w4 ⟨⟨v, rfl⟩, hrw4, hof4⟩
              go_wp2_with fail
              go_meet
              case rel => exact ⟨P2, 1, _, rfl, rfl, hP2r, hrw4, permIn_trans _ _ _ a1 c1 (unhide Hpm2) (reverseRange_holds d2 a1 c1 hac1 (by omega)), ofB_t (unhide Hof3) hof4⟩
            · have hdec' : ((hh : Int) == 2) = false := by simp; omega
              go_wp2_with fail
              go_meet
              case rel => exact ⟨p, hh, d2, rfl, rfl, hp, unhide Hrw3, unhide Hpm2, unhide Hof3⟩
          case rest =>
            clear Hrw3 Hof3 Hpm2 hp hh2 hd2
            obtain ⟨p3, h3, d3, rfl, rfl, hp3, hrw3, hpm3, hof3⟩ := hcut
            have hd3 := hrw3.1
            have Hrw3 := hide hrw3; have Hpm3 := hide hpm3; have Hof3 := hide hof3
            clear hrw3 hpm3 hof3
            go_upto_region 15 with fail
            go_cut [68] from 19 to 133 (fun s wx => ∃ B : Bool, s = .bool B ∧ RW wx b cap n d3 ∧ OfB b w wx)
            case first =>
              cases wb
              · go_wp2_with fail
                go_meet
                case rel => exact ⟨_, rfl, unhide Hrw3, unhide Hof3⟩
              · cases wp
                · go_wp2_with fail
                  go_meet
                  case rel => exact ⟨_, rfl, unhide Hrw3, unhide Hof3⟩
                · go_wp2_with fail
                  go_meet
                  case rel => exact ⟨_, rfl, unhide Hrw3, unhide Hof3⟩
            case rest =>
              obtain ⟨B, rfl, hrw4, hof4⟩ := hcut
              clear Hrw3 Hof3
              have Hrw4 := hide hrw4; have Hof4 := hide hof4
              have Hlow3 : Hid (Low a1 c1 d3) := hide (low_perm (unhide Hlow1) (by omega) (unhide Hpm3))
              clear hrw4 hof4
              go_upto_if 68 with fail
              go_cut [] from 19 to 133 (fun wx => ∃ d4 : Array Int, RW wx b cap n d4 ∧ PermIn a1 c1 d1 d4 ∧ OfB b w wx)
              case first =>
                cases B with
                | false =>
                  go_wp2_with fail
                  go_meet
                  case rel => exact ⟨d3, unhide Hrw4, unhide Hpm3, unhide Hof4⟩
                | true =>
                  have hs := pins_any b cap n a1 c1 d3 (by omega) hc1 hn wc (unhide Hrw4)
                  have hq := partialInsertionSort_holds (lt := ltInt) swo_ltInt d3 a1 c1 (by omega) (by omega) (unhide Hlow3)
                  obtain ⟨PD, PB, hx⟩ : ∃ PD PB, partialInsertionSort ltInt d3 a1 c1 = (PD, PB) := ⟨_, _, rfl⟩
                  rw [hx] at hs hq
                  simp only at hs hq
                  have HS := hide hs; have HQ := hide hq
                  clear hs hq hx
                  cases PB with
                  | true =>
                    go_wp2_with fail
                    refine (unhide HS).mono ?_
                    rintro e w5 ⟨rfl, hrw5, hof5⟩
                    go_wp2
                    first | refine bodyPost_ret (results_none rfl _ _ _) rfl ?_ | go_end0
                    have hf := unhide Hfin PD (permIn_trans _ _ _ a1 c1 (unhide Hpm3) (unhide HQ).1) ((unhide HQ).2 (by trivial))
                    exact ⟨⟨_, rfl⟩, PD, hrw5, hf.1, hf.2, ofB_t (unhide Hof4) hof5⟩
                  | false =>
                    go_wp2_with fail
                    refine (unhide HS).mono ?_
                    rintro e w5 ⟨rfl, hrw5, hof5⟩
                    go_wp2_with fail
                    go_meet
                    case rel => exact ⟨PD, hrw5, permIn_trans _ _ _ a1 c1 (unhide Hpm3) (unhide HQ).1, ofB_t (unhide Hof4) hof5⟩
              case rest =>
                clear Hrw4 Hof4 Hlow3 Hpm3 hd3
                obtain ⟨d4, hrw4, hpm4, hof4⟩ := hcut
                have hd4 := hrw4.1
                have Hlow4 : Hid (Low a1 c1 d4) := hide (low_perm (unhide Hlow1) (by omega) hpm4)
                have Hrw4 := hide hrw4; have Hpm4 := hide hpm4; have Hof4 := hide hof4
                clear hrw4 hpm4 hof4
                obtain ⟨B2, hB2⟩ : ∃ B2, B2 = (decide (0 < a1) && !ltInt d4[a1 - 1]! d4[p3]!) := ⟨_, rfl⟩
                have HB2 := hide hB2
                clear hB2
                go_upto_region 17 with fail
                go_cut [87] from 19 to 133 (fun s wx => s = .bool B2 ∧ RW wx b cap n d4 ∧ OfB b w wx)
                case first =>
                  by_cases ha0 : 0 < a1
                  · have ha0' : decide ((0 : Int) < (a1 : Int)) = true := by simp; omega
                    obtain ⟨K, hK⟩ : ∃ K, K = a1 - 1 := ⟨_, rfl⟩
                    have eK : (a1 : Int) - 1 = (K : Int) := by omega
                    have bK : (K : Int) < n := by omega
                    have bp : (p3 : Int) < n := by omega
                    have cK := rw_cell (unhide Hrw4) K (by omega)
                    have cp := rw_cell (unhide Hrw4) p3 (by omega)
                    have HB3 : Hid (B2 = (true && !decide (d4[K]! < d4[p3]!))) := hide (by rw [unhide HB2, hK]; simp [ha0, ltInt])
                    clear hK
                    go_quiet ((go_at_call 67; exact Calls.quiet_of_same (less_same _ _ _)))
                    go_wp2_with fail
                    go_meet
                    case rel => exact ⟨by rw [unhide HB3]; simp, rw_drew _ (unhide Hrw4), ofB_drew _ (unhide Hof4)⟩
                  · have ha0' : decide ((0 : Int) < (a1 : Int)) = false := by simp; omega
                    go_quiet (fail)
                    go_wp2_with fail
                    go_meet
                    case rel => exact ⟨by rw [unhide HB2]; simp [ha0], rw_drew _ (unhide Hrw4), ofB_drew _ (unhide Hof4)⟩
                case rest =>
                  clear Hrw4 Hof4
                  obtain ⟨rfl, hrw5, hof5⟩ := hcut
                  cases B2 with
                  | true =>
                    have hb2 := unhide HB2
                    simp only [Bool.true_eq, Bool.and_eq_true, decide_eq_true_eq, Bool.not_eq_true'] at hb2
                    obtain ⟨mid, d5, hx⟩ : ∃ mid d5, partitionEqual ltInt d4 a1 c1 p3 = (mid, d5) := ⟨_, _, rfl⟩
                    obtain ⟨hr1, hr2, hr3, hr4, hr5⟩ := round_eq swo_ltInt (partitionEqual_holds ltInt) hb2.1 hp3.1 hp3.2 (by omega) (unhide Hlow4) hb2.2 hx
                    have hs := parteq_any b cap n a1 c1 p3 d4 hp3.1 hp3.2 hc1 hn wc hrw5
                    rw [hx] at hs
                    simp only at hs
                    have HS := hide hs; have Hof5 := hide hof5; have Hr4 := hide hr4; have Hr5 := hide hr5
                    clear hs hof5 hr4 hr5 hx hb2 HB2 hrw5 Hlow4
                    go_wp2_with fail
                    refine (unhide HS).mono ?_
                    rintro e w6 ⟨rfl, hrw6, hof6⟩
                    have Hrw6 := hide hrw6; have Hof6 := hide hof6
                    clear hrw6 hof6 HS
                    go_wp2
                    go_roundw
                    case rel => exact ⟨mid, c1, l2, wb, wp, d5, rfl, rfl, rfl, rfl, rfl, hr2, hc1, by omega, hl2, unhide Hr4, unhide Hrw6, ofB_t (unhide Hof5) (unhide Hof6), fun R q1 q2 => let q := unhide Hr5 R q1 q2; unhide Hfin R (permIn_trans _ _ _ a1 c1 (unhide Hpm4) q.1) q.2⟩
                    case measure => simp [intOf]; omega
                  | false =>
                    obtain ⟨mid, ap, d5, hx⟩ : ∃ mid ap d5, partition ltInt d4 a1 c1 p3 = (mid, ap, d5) := ⟨_, _, _, rfl⟩
                    obtain ⟨hr1, hr2, hr3, hr4, hr5, hr6, hr7⟩ := round_part swo_ltInt (partition_holds ltInt) hp3.1 hp3.2 (by omega) (unhide Hlow4) hx
                    have hs := part_any b cap n a1 c1 p3 d4 hp3.1 hp3.2 hc1 hn wc hrw5
                    rw [hx] at hs
                    simp only at hs
                    have HS := hide hs; have Hof5 := hide hof5; have Hr4 := hide hr4; have Hr5 := hide hr5; have Hr6 := hide hr6; have Hr7 := hide hr7
                    clear hs hof5 hr4 hr5 hr6 hr7 hx HB2 hrw5 Hlow4
                    obtain ⟨ML, hML⟩ : ∃ ML, ML = mid - a1 := ⟨_, rfl⟩
                    obtain ⟨MR, hMR⟩ : ∃ MR, MR = c1 - mid := ⟨_, rfl⟩
                    have eML : (mid : Int) - (a1 : Int) = (ML : Int) := by omega
                    have eMR : (c1 : Int) - (mid : Int) = (MR : Int) := by omega
                    clear hML hMR
                    go_wp2_with fail
                    refine (unhide HS).mono ?_
                    rintro e w6 ⟨rfl, hrw6, hof6⟩
                    have Hof6 := hide (ofB_t (unhide Hof5) hof6)
                    by_cases hlr : ML < MR
                    · have hlr' : (ML : Int) < (MR : Int) := by omega
                      have HI := hide (unhide HIH b cap n a1 mid l2 d5 (by omega) hr1 (by omega) hn hl2 (unhide Hr4) w6 hrw6)
                      clear hrw6 hof6 HS Hof5
                      go_wp2_with fail
                      refine (unhide HI).mono ?_
                      rintro e w7 ⟨⟨v, rfl⟩, R1, hrw7, hpm7, hso7, hof7⟩
                      obtain ⟨hlow7, hgo7⟩ := unhide Hr6 R1 hpm7 hso7
                      have Hrw7 := hide hrw7; have Hof7 := hide hof7; have Hlow7 := hide hlow7; have Hgo7 := hide hgo7
                      clear hrw7 hof7 hlow7 hgo7 hpm7 hso7 HI
                      go_wp2
                      go_roundw
                      case rel => exact ⟨mid + 1, c1, l2, _, ap, R1, by go_num, rfl, rfl, rfl, rfl, by omega, hc1, by omega, hl2, unhide Hlow7, unhide Hrw7, ofB_t (unhide Hof6) (unhide Hof7), fun R q1 q2 => let q := unhide Hgo7 R q1 q2; unhide Hfin R (permIn_trans _ _ _ a1 c1 (unhide Hpm4) q.1) q.2⟩
                      case measure => simp [intOf]; omega
                    · have hlr' : ¬ (ML : Int) < (MR : Int) := by omega
                      have HI := hide (unhide HIH b cap n (mid + 1) c1 l2 d5 (by omega) (by omega) hc1 hn hl2 (unhide Hr5) w6 hrw6)
                      clear hrw6 hof6 HS Hof5
                      go_wp2_with fail
                      refine (unhide HI).mono ?_
                      rintro e w7 ⟨⟨v, rfl⟩, R1, hrw7, hpm7, hso7, hof7⟩
                      obtain ⟨hlow7, hgo7⟩ := unhide Hr7 R1 hpm7 hso7
                      have Hrw7 := hide hrw7; have Hof7 := hide hof7; have Hlow7 := hide hlow7; have Hgo7 := hide hgo7
                      clear hrw7 hof7 hlow7 hgo7 hpm7 hso7 HI
                      go_wp2
                      go_roundw
                      case rel => exact ⟨a1, mid, l2, _, ap, R1, rfl, rfl, rfl, rfl, rfl, hr1, by omega, by omega, hl2, unhide Hlow7, unhide Hrw7, ofB_t (unhide Hof6) (unhide Hof7), fun R q1 q2 => let q := unhide Hgo7 R q1 q2; unhide Hfin R (permIn_trans _ _ _ a1 c1 (unhide Hpm4) q.1) q.2⟩
                      case measure => simp [intOf]; omega
end Go.Proofs.YtkbhdojgdgiggabDoor

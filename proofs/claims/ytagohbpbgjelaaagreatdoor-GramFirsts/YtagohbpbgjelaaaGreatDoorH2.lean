/- The document's spelled. -/
import Derived.Test.YtagohbpbgjelaaaGreatDoorM1
import Derived.Test.YtagohbpbgjelaaaGreatDoorA5
import Derived.Laws.AppendOwnNone
import Derived.Test.YtagohbpbgjelaaaGreatDoorY1
namespace Go.Proofs.YtagohbpbgjelaaaGreatDoor
open Go.RowKit

set_option maxRecDepth 100000 in
theorem vints_app (a b : List Int) : vints (a ++ b) = vints a ++ vints b := by simp [vints]
end Go.Proofs.YtagohbpbgjelaaaGreatDoor

/- The law GramFirsts, walked. -/
namespace Go.Proofs.YtagohbpbgjelaaaGreatDoor
open Go.RowKit

set_option maxHeartbeats 1000000 in
set_option maxRecDepth 100000 in
theorem rHas_any (a : Option Addr) (c : Nat) (l : List Int) (n : Int) (hl : l.length ≤ 281474976710656) (w : World) (h : NRow w.heap.size w a l) :
    Calls Tryz.prog 28 #[.slice a l.length c, .int .i64 n] w fun e w' => e = .returned (.bool (decide (n ∈ l))) ∧ ∃ q, w' = w.drewN q := by
  have H := hide h
  clear h
  obtain ⟨R, hR⟩ : ∃ R, Hid (decide (n ∈ l) = R) := ⟨_, hide rfl⟩
  rw [unhide hR]
  go_enter Tryz.func28, Tryz.ntmps28
  go_wp2
  go_loopw [5] (fun x wr => ∃ k : Nat, x = .int .i64 k ∧ k ≤ l.length ∧ ¬ n ∈ l.take k ∧ ∃ q, wr = w.drewN q) (fun x _ => l.length - (intOf x).toNat)
  case atStart => exact ⟨0, rfl, Nat.zero_le _, by simp, 0, rfl⟩
  case round =>
    obtain ⟨k, rfl, hk, hnm, q, rfl⟩ := hrel
    by_cases hlt : k < l.length
    · have hlt' : (k : Int) < l.length := by omega
      obtain ⟨b1, o1, rfl, hb1, c1⟩ := nrow_at (unhide H) hlt
      have d1 : (w.drewN q).cell? ⟨b1, o1 + k, none⟩ = some (.int .i64 (l.getD k 0)) := c1
      have hmem := mem_getD hlt
      have Hsn := hide (take_snoc l k 0 hlt)
      have Hnm := hide hnm; have Hmem := hide hmem
      clear c1 hnm hmem
      generalize l.getD k 0 = y at *
      generalize hW : w.drewN q = W at *
      by_cases hy : y = n
      · subst hy
        have Ht : Hid (R = true) := hide (by rw [← unhide hR, decide_eq_true_eq]; exact unhide Hmem)
        go_wp2
        all_goals first
          | (go_quiet (fail); go_wp2; go_ret; rw [unhide Ht]; exact ⟨rfl, q + nq, by rw [← hW, World.drewN_drewN]⟩)
          | (go_ret; rw [unhide Ht]; exact ⟨rfl, q, hW.symm⟩)
      · have hy' : (y == n) = false := by rw [beq_eq_false_iff_ne]; exact hy
        have Hn2 : Hid (¬ n ∈ l.take (k + 1)) := hide (by
          rw [unhide Hsn, List.mem_append]
          rintro (h | h)
          · exact unhide Hnm h
          · simp at h; exact hy h.symm)
        clear hy
        go_wp2
        all_goals first
          | (go_quiet (fail); go_wp2; go_roundw; (case rel => exact ⟨k + 1, by go_num, by omega, unhide Hn2, q + nq, by rw [← hW, World.drewN_drewN]⟩); (case measure => simp [intOf]; omega))
          | (go_roundw; (case rel => exact ⟨k + 1, by go_num, by omega, unhide Hn2, q, hW.symm⟩); (case measure => simp [intOf]; omega))
    · obtain rfl : k = l.length := by omega
      have Ht : Hid (R = false) := hide (by rw [← unhide hR, decide_eq_false_iff_not]; rw [List.take_length] at hnm; exact hnm)
      clear hnm
      go_wp2
      go_ret
      rw [unhide Ht]
      exact ⟨rfl, q, rfl⟩

set_option maxRecDepth 100000 in
theorem syms_cons {n : Nat} {x : Int} {row : List Int} : symsIn n (x :: row) ↔ symsIn n [x] ∧ symsIn n row := by
  unfold symsIn
  constructor
  · intro h
    exact ⟨fun y hy => h y (by simp at hy; simp [hy]), fun y hy => h y (List.mem_cons_of_mem _ hy)⟩
  · rintro ⟨h1, h2⟩ y hy
    rcases List.mem_cons.1 hy with rfl | hy
    · exact h1 y (by simp)
    · exact h2 y hy
set_option maxRecDepth 100000 in
theorem fsV_cons (G : Gm) (x : Int) (row : List Int) : fsV G (x :: row) = 0 ↔ fsV G [x] = 0 ∧ fsV G row = 0 := by
  unfold fsV
  cases hc : checkB G
  · simp
  · simp only [if_true]
    rw [syms_cons]
    by_cases h1 : symsIn (G.kinds.length + G.rules.length) [x] <;> by_cases h2 : symsIn (G.kinds.length + G.rules.length) row <;> simp [h1, h2]
set_option maxRecDepth 100000 in
theorem fs_ok {G : Gm} {row : List Int} (h : fsV G row = 0) : checkB G = true ∧ symsIn (G.kinds.length + G.rules.length) row := by
  unfold fsV at h
  cases hc : checkB G
  · rw [hc] at h; simp at h
  · rw [hc] at h
    simp only [if_true] at h
    by_cases h2 : symsIn (G.kinds.length + G.rules.length) row
    · exact ⟨rfl, h2⟩
    · rw [if_neg h2] at h; simp at h
set_option maxRecDepth 100000 in
theorem fs_cons {G : Gm} {x : Int} {row : List Int} (h : fsV G (x :: row) = 0) : (∀ y, y ∈ fsL G (x :: row) ↔ (y ∈ fsL G [x] ∨ (fsE G [x] = true ∧ y ∈ fsL G row))) ∧ fsE G (x :: row) = (fsE G [x] && fsE G row) := by
  obtain ⟨h1, h2⟩ := (fsV_cons G x row).1 h
  have k0 := fs_ok h; have k1 := fs_ok h1; have k2 := fs_ok h2
  unfold fsL fsE
  rw [if_pos k0, if_pos k1, if_pos k2, if_pos k0, if_pos k1, if_pos k2]
  refine ⟨fun y => ?_, emptyB_cons x row⟩
  unfold begL
  rw [mem_posL, mem_posL, mem_posL]
  constructor
  · rintro ⟨k, e1, e2, e3⟩
    rw [begB_cons, Bool.or_eq_true, Bool.and_eq_true] at e3
    rcases e3 with e3 | e3
    · exact .inl ⟨k, e1, e2, e3⟩
    · exact .inr ⟨e3.1, k, e1, e2, e3.2⟩
  · rintro (⟨k, e1, e2, e3⟩ | ⟨e0, k, e1, e2, e3⟩)
    · exact ⟨k, e1, e2, by rw [begB_cons, e3]; rfl⟩
    · exact ⟨k, e1, e2, by rw [begB_cons, e0, e3]; simp⟩
set_option maxRecDepth 100000 in
theorem nrow_one (w : World) (x : Int) : NRow (w.alloc (.cells #[.int .i64 x] 3)).heap.size (w.alloc (.cells #[.int .i64 x] 3)) (some ⟨w.heap.size, 0, none⟩) [x] := by
  refine .inr ⟨w.heap.size, 0, rfl, by simp, fun j hj => ?_⟩
  obtain rfl : j = 0 := by simp at hj; omega
  exact new1 _ _ _ 0 _ rfl

set_option maxHeartbeats 4000000 in
set_option maxRecDepth 100000 in
theorem firsts_walk (hF : FirstC 11) (hLY : LookYes 9) (hMY : LeastYes 24) (G : Gm) (ka pa ra qa : Option Addr) (kc pc rc qc : Nat) (x : Int) (ro : Option Addr) (rowc : Nat) (row : List Int) (hrl : row.length * 8 ≤ 140737488351232) (hro : (∃ ad, ro = some ad) ∨ (ro = none ∧ rowc = 0 ∧ row = [])) (w : World) (hin : GIn w.heap.size w G ka pa ra qa) (hsm : smG G) (hrow : NRow w.heap.size w ro row) :
    Calls Tryz.prog 8 #[.agg #[.slice ka G.kinds.length kc, .slice pa G.precs.length pc, .slice ra G.rules.length rc, .slice qa G.prods.length qc, .int .i64 G.start], .int .i64 x, .slice ro row.length rowc] w fun e w' => e = .returned (.bool true) ∧ Below w.heap.size w w' := by
  obtain ⟨i0, hi, hz0, hz1, hz2⟩ := info_parts info3
  have hst := gst_new (kc := kc) (pc := pc) (rc := rc) (qc := qc) (Nat.le_refl _) hin 26
  have hb1 := (Below.refl w.heap.size w).alloc (Nat.le_refl _) (.cells #[.slice ka G.kinds.length kc, .slice pa G.precs.length pc, .slice ra G.rules.length rc, .slice qa G.prods.length qc, .int .i64 G.start] 26)
  have hs1 : (w.alloc (.cells #[.slice ka G.kinds.length kc, .slice pa G.precs.length pc, .slice ra G.rules.length rc, .slice qa G.prods.length qc, .int .i64 G.start] 26)).heap.size = w.heap.size + 1 := by simp
  have HF := hide hF; have HAw := hide (fun (W : World) (hW : Below w.heap.size w W) => awake_any hLY hMY W (tb_up hin.tab (Nat.le_refl _) hW))
  have Hin := hide hin; have Hsm := hide hsm; have Hb1 := hide hb1; have Hst := hide hst
  have Hr1 := hide (nrow_up hrow hb1)
  have hnot := run_not
  clear hF hLY hMY hin hsm hb1 hst hrow
  go_enter Tryz.func8, Tryz.ntmps8
  go_upto_region 1 with fail
  generalize w.alloc (.cells #[.slice ka G.kinds.length kc, .slice pa G.precs.length pc, .slice ra G.rules.length rc, .slice qa G.prods.length qc, .int .i64 G.start] 26) = w1 at *
  go_cut [7] (fun v wx => ∃ wa wcap, v = .slice wa (x :: row).length wcap ∧ NRow wx.heap.size wx wa (x :: row) ∧ Below w1.heap.size w1 wx)
  case first =>
    clear hs1
    have Ho : Hid ((w1.alloc (.cells #[.int .i64 x] 3)).ownsRow w1.heap.size 3 1 (.slice (some ⟨w1.heap.size, 0, none⟩) 1 1) 1 [.int .i64 x]) := hide ⟨rfl, .inr ⟨w1.heap.size, 1, #[.int .i64 x], rfl, Nat.le_refl _, Go.Deep.blk_alloc_new _ _, Nat.le_refl _, by unfold maxLen; omega, rfl, rfl⟩⟩
    have hbA : Below w1.heap.size w1 (w1.alloc (.cells #[.int .i64 x] 3)) := (Below.refl _ _).alloc (Nat.le_refl _) _
    have HbA := hide hbA
    clear hbA
    rcases hro with ⟨ad, rfl⟩ | ⟨rfl, rfl, rfl⟩
    · have Hnw : Hid (∀ j u, (vints row)[j]? = some u → (w1.alloc (.cells #[.int .i64 x] 3)).cell? (ad.add j) = some u) := hide (fun j u hu => by
        have hj : j < row.length := by have := (List.getElem?_eq_some_iff.1 hu).1; rw [vints_len] at this; exact this
        obtain ⟨b, off, e, hlt, hc⟩ := nrow_at (nrow_up (unhide Hr1) (unhide HbA)) hj
        cases e
        unfold vints at hu
        rw [List.getElem?_map, List.getElem?_eq_getElem hj] at hu
        cases hu
        rw [show Addr.add ⟨b, off, none⟩ j = ⟨b, off + j, none⟩ by cases j <;> simp [Addr.add], hc, List.getD_eq_getElem?_getD, List.getElem?_eq_getElem hj]
        rfl)
      go_wp2_with (at_builtin; refine wpList_append_own _ rfl _ _ 27 rfl w1.heap.size 3 i0 (.int .i64 0) 1 8 Tryz.underlying27 hi hz0 hz1 hz2 rfl (by decide) _ _ _ rfl (unhide Ho) ad row.length rowc (vints row) rfl (by rw [vints_len, Nat.mul_one]) (unhide Hnw) (vints_one _) (by unfold maxLen; omega) (by omega) (by simp) ?_)
      intro v' W3 hown' hgrow _
      have hb3 := (unhide HbA).grown hgrow (by simp) (fun j hj => ((unhide Ho).lt j hj).1)
      have ho : W3.ownsRow w1.heap.size 3 1 v' (x :: row).length (vints (x :: row)) := by
        rw [List.length_cons, Nat.add_comm]; exact hown'
      obtain ⟨wa, wcap, rfl, hn⟩ := own_nrow ho
      clear hown' hgrow ho
      go_wp2_with fail
      go_meet
      exact ⟨wa, wcap, rfl, hn, hb3⟩
    · go_wp2_with (at_builtin; refine wpList_append_own_none rfl _ _ 27 rfl w1.heap.size 3 i0 1 Tryz.underlying27 hi _ _ _ rfl (unhide Ho) rfl ?_)
      go_wp2_with fail
      go_meet
      exact ⟨_, _, rfl, nrow_one w1 x, unhide HbA⟩
  case rest =>
    obtain ⟨wa, wcap, rfl, hnW, hbC⟩ := hcut
    have hsC := hbC.size
    have hstC := gst_kept (below_le hbC (by omega)) (Nat.le_refl _) (unhide Hst)
    have d0 := hstC.c0; have d1 := hstC.c1; have d2 := hstC.c2; have d3 := hstC.c3; have d4 := hstC.c4
    have hbwC := (unhide Hb1).trans (below_le hbC (by omega))
    have H1 := hide (unhide HF G ka pa ra qa kc pc rc qc wa wcap (x :: row) (by rw [List.length_cons]; omega) wc (gin_up (unhide Hin) hbwC) (unhide Hsm) hnW)
    have HstC := hide hstC; have HbwC := hide hbwC; have HrC := hide (nrow_up (unhide Hr1) hbC)
    clear hnW hbC hstC hbwC Hr1
    go_wp2_with fail
    clear d0 d1 d2 d3 d4
    refine (unhide H1).mono ?_
    rintro e w2 ⟨aa, ac, rfl, hra, hb2⟩
    have hs2 := hb2.size
    have hb3 : Below w2.heap.size w2 (w2.alloc (.cells #[.int .i64 x] 3)) := (Below.refl _ _).alloc (Nat.le_refl _) _
    have hst2 := gst_kept (below_le hb2 (by omega)) (Nat.le_refl _) (unhide HstC)
    have hst3 := gst_kept (below_le hb3 (by omega)) (Nat.le_refl _) hst2
    have d0 := hst2.c0; have d1 := hst2.c1; have d2 := hst2.c2; have d3 := hst2.c3; have d4 := hst2.c4
    have hbw3 := (unhide HbwC).trans (below_le (hb2.trans (below_le hb3 (by omega))) (by omega))
    have H2 := hide (unhide HF G ka pa ra qa kc pc rc qc (some ⟨w2.heap.size, 0, none⟩) 1 [x] (by simp) (w2.alloc (.cells #[.int .i64 x] 3)) (gin_up (unhide Hin) hbw3) (unhide Hsm) (nrow_one w2 x))
    have Hst3 := hide hst3; have Hbw3 := hide hbw3; have Hra := hide (nrow_up hra hb3); have Hr3 := hide (nrow_up (nrow_up (unhide HrC) hb2) hb3)
    have hs3 : (w2.alloc (.cells #[.int .i64 x] 3)).heap.size = w2.heap.size + 1 := by simp
    clear hra hb2 hb3 hst2 hst3 hbw3 H1 HrC HstC
    go_wp2_with fail
    clear d0 d1 d2 d3 d4
    generalize w2.alloc (.cells #[.int .i64 x] 3) = w3 at *
    refine (unhide H2).mono ?_
    rintro e w4 ⟨ba, bc, rfl, hrb, hb4⟩
    have hs4 := hb4.size
    have hst4 := gst_kept (below_le hb4 (by omega)) (Nat.le_refl _) (unhide Hst3)
    have d0 := hst4.c0; have d1 := hst4.c1; have d2 := hst4.c2; have d3 := hst4.c3; have d4 := hst4.c4
    have hbw4 := (unhide Hbw3).trans (below_le hb4 (by omega))
    have H3 := hide (unhide HF G ka pa ra qa kc pc rc qc ro rowc row (by omega) w4 (gin_up (unhide Hin) hbw4) (unhide Hsm) (nrow_up (unhide Hr3) hb4))
    have Hbw4 := hide hbw4; have Hra4 := hide (nrow_up (unhide Hra) hb4); have Hrb := hide hrb
    clear hrb hb4 hst4 hbw4 H2 Hra Hr3 Hst3
    go_wp2_with fail
    clear d0 d1 d2 d3 d4
    refine (unhide H3).mono ?_
    rintro e w5 ⟨ca, cc, rfl, hrc, hb5⟩
    have hs5 := hb5.size
    have HA := hide (nrow_up (unhide Hra4) hb5); have HB := hide (nrow_up (unhide Hrb) hb5); have HC := hide hrc
    have Hbw5 := hide ((unhide Hbw4).trans (below_le hb5 (by omega)))
    have Hv := hide (fsV_cons G x row)
    have Hcons := hide (fun h => fs_cons (G := G) (x := x) (row := row) h)
    have la := fsL_len (G := G) (row := x :: row); have lb := fsL_len (G := G) (row := [x]); have lc := fsL_len (G := G) (row := row)
    clear hrc hb5 H3 Hra4 Hrb HF
    generalize fsV G (x :: row) = VA at *
    generalize fsV G [x] = VB at *
    generalize fsV G row = VC at *
    generalize fsE G (x :: row) = EA at *
    generalize fsE G [x] = EB at *
    generalize fsE G row = EC at *
    generalize fsL G (x :: row) = LA at *
    generalize fsL G [x] = LB at *
    generalize fsL G row = LC at *
    by_cases hva : VA = 0
    · obtain ⟨hvb, hvc⟩ := (unhide Hv).1 hva
      obtain ⟨hmem, hemp⟩ := unhide Hcons hva
      subst hva hvb hvc
      have Hmem := hide hmem; have Hemp := hide hemp
      have HhA : Hid (∀ q y, Calls Tryz.prog 28 #[.slice aa LA.length ac, .int .i64 y] (w5.drewN q) fun e w' => e = .returned (.bool (decide (y ∈ LA))) ∧ ∃ q', w' = (w5.drewN q).drewN q') := hide (fun q y => rHas_any aa ac LA y (by omega) (w5.drewN q) (unhide HA))
      have HhB : Hid (∀ q y, Calls Tryz.prog 28 #[.slice ba LB.length bc, .int .i64 y] (w5.drewN q) fun e w' => e = .returned (.bool (decide (y ∈ LB))) ∧ ∃ q', w' = (w5.drewN q).drewN q') := hide (fun q y => rHas_any ba bc LB y (by omega) (w5.drewN q) (unhide HB))
      have HhC : Hid (∀ q y, Calls Tryz.prog 28 #[.slice ca LC.length cc, .int .i64 y] (w5.drewN q) fun e w' => e = .returned (.bool (decide (y ∈ LC))) ∧ ∃ q', w' = (w5.drewN q).drewN q') := hide (fun q y => rHas_any ca cc LC y (by omega) (w5.drewN q) (unhide HC))
      clear hmem hemp Hcons Hv
      go_wp2
      go_loopw [17] (fun z W => ∃ k : Nat, z = .int .i64 k ∧ k ≤ LA.length ∧ ∃ q, W = w5.drewN q) (fun z _ => LA.length - (intOf z).toNat)
      case atStart => exact ⟨0, rfl, Nat.zero_le _, 0, rfl⟩
      case round =>
        obtain ⟨k, rfl, hk, q, rfl⟩ := hrel
        by_cases hlt : k < LA.length
        · have hlt' : (k : Int) < LA.length := by omega
          obtain ⟨b1, o1, rfl, hb1, c1⟩ := nrow_at (unhide HA) hlt
          have hm := (unhide Hmem _).1 (mem_getD hlt)
          have d1 : (w5.drewN q).cell? ⟨b1, o1 + k, none⟩ = some (.int .i64 (LA.getD k 0)) := c1
          generalize LA.getD k 0 = y at *
          by_cases hyb : y ∈ LB
          · have hyb' : decide (y ∈ LB) = true := decide_eq_true hyb
            have HX := unhide HhB q y
            rw [hyb'] at HX
            have HX := hide HX
            clear hyb hyb' hm c1
            go_wp2_with fail
            refine (unhide HX).mono ?_
            rintro e W6 ⟨rfl, q6, rfl⟩
            rw [World.drewN_drewN]
            go_wp2
            go_roundw
            case rel => exact ⟨k + 1, by go_num, by omega, _, rfl⟩
            case measure => simp [intOf]; omega
          · obtain ⟨heb, hyc⟩ : EB = true ∧ y ∈ LC := by
              rcases hm with h | h
              · exact absurd h hyb
              · exact h
            subst heb
            have hyb' : decide (y ∈ LB) = false := decide_eq_false hyb
            have hyc' : decide (y ∈ LC) = true := decide_eq_true hyc
            have HX := unhide HhB q y
            rw [hyb'] at HX
            have HX := hide HX
            have HY : ∀ q', Calls Tryz.prog 28 #[.slice ca LC.length cc, .int .i64 y] (w5.drewN q') fun e w' => e = .returned (.bool true) ∧ ∃ q9, w' = (w5.drewN q').drewN q9 := fun q' => by have h := unhide HhC q' y; rw [hyc'] at h; exact h
            have HY := hide HY
            clear hyb hyb' hyc hyc' hm c1
            go_wp2_with fail
            refine (unhide HX).mono ?_
            rintro e W6 ⟨rfl, q6, rfl⟩
            rw [World.drewN_drewN]
            have d6 : (w5.drewN (q + q6)).cell? ⟨b1, o1 + k, none⟩ = _ := d1
            go_wp2_with fail
            refine (unhide HY _).mono ?_
            rintro e W7 ⟨rfl, q7, rfl⟩
            rw [World.drewN_drewN]
            go_wp2
            go_roundw
            case rel => exact ⟨k + 1, by go_num, by omega, _, rfl⟩
            case measure => simp [intOf]; omega
        · obtain rfl : k = LA.length := by omega
          go_wp2
          go_loopw [18] (fun z W => ∃ k : Nat, z = .int .i64 k ∧ k ≤ LB.length ∧ ∃ q, W = w5.drewN q) (fun z _ => LB.length - (intOf z).toNat)
          case atStart => exact ⟨0, rfl, Nat.zero_le _, q, rfl⟩
          case round =>
            clear hk
            obtain ⟨k, rfl, hk, q2, rfl⟩ := hrel
            by_cases hlt : k < LB.length
            · have hlt' : (k : Int) < LB.length := by omega
              obtain ⟨b1, o1, rfl, hb1, c1⟩ := nrow_at (unhide HB) hlt
              have hm := (unhide Hmem _).2 (.inl (mem_getD hlt))
              have d1 : (w5.drewN q2).cell? ⟨b1, o1 + k, none⟩ = some (.int .i64 (LB.getD k 0)) := c1
              generalize LB.getD k 0 = y at *
              have HX := unhide HhA q2 y
              rw [decide_eq_true hm] at HX
              have HX := hide HX
              clear hm c1
              go_wp2_with fail
              refine (unhide HX).mono ?_
              rintro e W6 ⟨rfl, q6, rfl⟩
              rw [World.drewN_drewN]
              go_wp2
              go_roundw
              case rel => exact ⟨k + 1, by go_num, by omega, _, rfl⟩
              case measure => simp [intOf]; omega
            · obtain rfl : k = LB.length := by omega
              go_wp2
              go_loopw [19] (fun z W => ∃ k : Nat, z = .int .i64 k ∧ k ≤ LC.length ∧ ∃ q, W = w5.drewN q) (fun z _ => LC.length - (intOf z).toNat)
              case atStart => exact ⟨0, rfl, Nat.zero_le _, q2, rfl⟩
              case round =>
                clear hk
                obtain ⟨k, rfl, hk, q3, rfl⟩ := hrel
                by_cases hlt : k < LC.length
                · have hlt' : (k : Int) < LC.length := by omega
                  obtain ⟨b1, o1, rfl, hb1, c1⟩ := nrow_at (unhide HC) hlt
                  have hm := fun h => (unhide Hmem (LC.getD k 0)).2 (.inr ⟨h, mem_getD hlt⟩)
                  have d1 : (w5.drewN q3).cell? ⟨b1, o1 + k, none⟩ = some (.int .i64 (LC.getD k 0)) := c1
                  generalize LC.getD k 0 = y at *
                  cases EB
                  · clear hm c1
                    go_wp2
                    go_roundw
                    case rel => exact ⟨k + 1, by go_num, by omega, _, rfl⟩
                    case measure => simp [intOf]; omega
                  · have hm := hm rfl
                    have HX := unhide HhA q3 y
                    rw [decide_eq_true hm] at HX
                    have HX := hide HX
                    clear hm c1
                    go_wp2_with fail
                    refine (unhide HX).mono ?_
                    rintro e W6 ⟨rfl, q6, rfl⟩
                    rw [World.drewN_drewN]
                    go_wp2
                    go_roundw
                    case rel => exact ⟨k + 1, by go_num, by omega, _, rfl⟩
                    case measure => simp [intOf]; omega
                · obtain rfl : k = LC.length := by omega
                  have hemp := unhide Hemp
                  subst hemp
                  have hs9 : w.heap.size ≤ (w5.drewN q3).heap.size := by show w.heap.size ≤ w5.heap.size; omega
                  cases EB <;> cases EC
                  all_goals
                    go_wp2_with fail
                    refine (unhide HAw _ (below_drewN (unhide Hbw5) q3)).mono ?_
                    rintro e w7 ⟨rfl, hb7⟩
                    have Hb7 := hide ((below_drewN (unhide Hbw5) q3).trans (below_le hb7 hs9))
                    clear hb7
                    go_wp2
                    go_ret
                    exact ⟨rfl, unhide Hb7⟩
    · have hno : ¬ (VB = 0 ∧ VC = 0) := fun h => hva ((unhide Hv).2 h)
      have hva' : (VA != 0) = true := by simpa using hva
      have hva2 : (VA == 0) = false := by simpa using hva
      by_cases hvb : VB = 0
      · have hvc : VC ≠ 0 := fun h => hno ⟨hvb, h⟩
        have hvc2 : (VC == 0) = false := by simpa using hvc
        have hvb2 : (VB == 0) = true := by simpa using hvb
        clear hva hno hvb hvc Hv Hcons
        go_wp2_with fail
        refine (unhide HAw _ (unhide Hbw5)).mono ?_
        rintro e w7 ⟨rfl, hb7⟩
        have Hb7 := hide ((unhide Hbw5).trans (below_le hb7 (by omega)))
        clear hb7
        go_wp2
        go_ret
        exact ⟨rfl, unhide Hb7⟩
      · have hvb2 : (VB == 0) = false := by simpa using hvb
        clear hva hno hvb Hv Hcons
        go_wp2_with fail
        refine (unhide HAw _ (unhide Hbw5)).mono ?_
        rintro e w7 ⟨rfl, hb7⟩
        have Hb7 := hide ((unhide Hbw5).trans (below_le hb7 (by omega)))
        clear hb7
        go_wp2
        go_ret
        exact ⟨rfl, unhide Hb7⟩
end Go.Proofs.YtagohbpbgjelaaaGreatDoor

/- Plain words for Trim; rows and boxes that lie side by side. -/
namespace Go.Proofs.YtagohbpbgjelaaaGreatDoor
open Go.RowKit

/-! ### Side by side -/
set_option maxRecDepth 100000 in
theorem bx_below {W W' : World} {b : Nat} {o : Obj} (h : W.heap[b]? = some o) (hb : Below W.heap.size W W') : W'.heap[b]? = some o := (hb.block _ (Array.getElem?_eq_some_iff.1 h).1).trans h
set_option maxRecDepth 100000 in
theorem one_new {W : World} {b t : Nat} {x : Value} (h : W.heap[b]? = some (.cells #[x] t)) {j : Nat} {u : Value} (hu : [x][j]? = some u) : W.cell? (Addr.add ⟨b, 0, none⟩ j) = some u := by
  rcases j with _ | j
  · cases hu
    rw [addr_add0]
    unfold World.cell?
    rw [h]
    rfl
  · simp at hu
set_option maxRecDepth 100000 in
theorem own_frN {W W' : World} {b e B s n : Nat} {v : Value} {xs : List Value} (h' : W.ownsRow B e s v n xs) (hf : Fr (· = b) W W') (hb : b < B) : W'.ownsRow B e s v n xs := by
  refine ⟨h'.1, ?_⟩
  rcases h'.2 with h0 | ⟨g, cap, cur, hv, h1, h2, rest⟩
  · exact .inl h0
  · exact .inr ⟨g, cap, cur, hv, h1, (hf.2.1 g (Array.getElem?_eq_some_iff.1 h2).1 (fun e => by have e : g = b := e; omega)).trans h2, rest⟩
/-! ### Productions that are being made -/
end Go.Proofs.YtagohbpbgjelaaaGreatDoor

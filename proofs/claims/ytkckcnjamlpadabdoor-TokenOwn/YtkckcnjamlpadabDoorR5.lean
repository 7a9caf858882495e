/- The reader's token, of four parts. -/
import Derived.Test.YtkckcnjamlpadabDoorR4
namespace Go.Proofs.YtkckcnjamlpadabDoor
open Go.RowKit Go.Maps

/-- What holds all through a call of token. -/
structure TB (w0 w : World) (R : Nat) (a : Option Addr) (cap : Nat) (ns : List (List UInt8)) (src : ByteArray) (r : Int) (mb : Nat) (P : List (List UInt8)) (W : World) : Prop where
  hA : W.heap[w.heap.size]? = some (.cells #[.int .i64 0, .int .i64 0, .int .i64 0] 27 (0, 0))
  hP : SRow W (some ⟨w.heap.size + 1, 0, none⟩) P
  hR : RdAt W R a ns.length cap src r mb
  bel : Below w0.heap.size w0 W
  off : OffR R w W
theorem TB.below {w0 w : World} {R : Nat} {a : Option Addr} {cap : Nat} {ns : List (List UInt8)} {src : ByteArray} {r : Int} {mb : Nat} {P : List (List UInt8)} {W W' : World} (h : TB w0 w R a cap ns src r mb P W) (hb : Below W.heap.size W W') : TB w0 w R a cap ns src r mb P W' :=
  ⟨(hb.block _ (lt_of_some h.hA)).trans h.hA, srow_below h.hP (Nat.le_refl _) hb, (hb.block _ (lt_of_some h.hR)).trans h.hR, h.bel.trans (hb.mono h.bel.size), offR_trans h.off (offR_below hb)⟩
theorem TB.drewN {w0 w : World} {R : Nat} {a : Option Addr} {cap : Nat} {ns : List (List UInt8)} {src : ByteArray} {r : Int} {mb : Nat} {P : List (List UInt8)} {W : World} (h : TB w0 w R a cap ns src r mb P W) (n : Nat) : TB w0 w R a cap ns src r mb P (W.drewN n) :=
  ⟨h.hA, h.hP, h.hR, below_drewN h.bel n, offR_drewN h.off n⟩
theorem TB.set {w0 w : World} {R : Nat} {a : Option Addr} {cap : Nat} {ns : List (List UInt8)} {src : ByteArray} {r : Int} {mb : Nat} {P : List (List UInt8)} {W : World} (h : TB w0 w R a cap ns src r mb P W) (hRl : R < w.heap.size) (hBR : w0.heap.size ≤ R) (t : Int) :
    TB w0 w R a cap ns src t mb P (W.setCell ⟨R, 2, none⟩ (.int .i64 t)) := by
  have hsz : (W.setCell ⟨R, 2, none⟩ (.int .i64 t)).heap.size = W.heap.size := by simp [World.setCell]
  refine ⟨(Below.heap_setCell _ _ _ _ (by show w.heap.size ≠ R; omega)).trans h.hA, ?_, block_set (i := 2) h.hR _, h.bel.setCell (p := ⟨R, 2, none⟩) hBR _, offR_set h.off (.inl rfl) _⟩
  rcases h.hP with e | ⟨b, off, e, hb, hc⟩
  · exact .inl e
  · refine .inr ⟨b, off, e, by rw [hsz]; exact hb, fun j hj => ?_⟩
    simp only [Option.some.injEq, Addr.mk.injEq] at e
    rw [World.cell?_of_block (Below.heap_setCell W ⟨R, 2, none⟩ _ b (by show b ≠ R; omega))]
    exact hc j hj
theorem TB.take {w0 w : World} {R : Nat} {a : Option Addr} {cap : Nat} {ns : List (List UInt8)} {src : ByteArray} {r : Int} {mb : Nat} {P : List (List UInt8)} {W W' : World} (h : TB w0 w R a cap ns src r mb P W) (hRl : R < w.heap.size) (hBR : w0.heap.size ≤ R) (t : Int)
    (hb : Below W.heap.size (W.setCell ⟨R, 2, none⟩ (.int .i64 t)) W') : TB w0 w R a cap ns src t mb P W' := by
  have hsz : (W.setCell ⟨R, 2, none⟩ (.int .i64 t)).heap.size = W.heap.size := by simp [World.setCell]
  exact (h.set hRl hBR t).below (by rw [hsz]; exact hb)

set_option maxHeartbeats 4000000 in
set_option maxRecDepth 100000 in
theorem token_four (w0 : World) (R : Nat) (a : Option Addr) (cap : Nat) (ns : List (List UInt8)) (src : ByteArray) (hsrc : src.size ≤ 9223372036854775807) (r : Int) (mb : Nat) (line : List UInt8) (hl : line.length ≤ 281474976710656) (hk : kindsB ns = true) (hr : 0 ≤ r) (w : World)
    (hR : RdAt w R a ns.length cap src r mb) (hm : NumMap w mb ns) (hrow : SRow w0 a ns) (hE : Env w0) (hbw : Below w0.heap.size w0 w) (hBR : w0.heap.size ≤ R) (p0 p1 p2 p3 : List UInt8) (hs : splitL 3 line = [p0, p1, p2, p3]) :
    Calls Tryd.prog 31 #[.pointer (some ⟨R, 0, none⟩), .string (bs line)] w fun e w' => TokPost w R a ns.length cap src mb (isTok ns src r line) e w' := by
  have s0 := splitL_short 3 line p0 (by rw [hs]; simp)
  have s1 := splitL_short 3 line p1 (by rw [hs]; simp)
  have s2 := splitL_short 3 line p2 (by rw [hs]; simp)
  have Htok := hide (fun x (hx : isTok ns src r line x) => tok_split hk hr hx)
  have HS := hide (splitN_any line hl)
  rw [hs] at HS Htok
  have hRl := lt_of_some hR
  have HR := hide hR; have Hm := hide hm; have Hrow := hide hrow; have HE := hide hE; have Hk := hide hk; have Hbw := hide hbw
  clear hR hm hrow hE hk hs hbw
  go_enter Tryd.func31, Tryd.ntmps31
  go_wp2_with fail
  refine (unhide HS _).mono ?_
  rintro e w1 ⟨c1, rfl, hrow1, hb1⟩
  simp only [List.length_cons, List.length_nil] at hrow1 ⊢
  have hb0 : Below w.heap.size w w1 := ((Below.refl _ _).alloc (Nat.le_refl _) _).trans (hb1.mono (by simp))
  have hA := (hb1.block w.heap.size (by simp)).trans (heap_new w _)
  obtain ⟨pb, po, hpe, hpl, hpc⟩ := srow_pos hrow1 (k := 0) (by simp)
  simp only [Option.some.injEq, Addr.mk.injEq] at hpe
  obtain ⟨rfl, rfl, -⟩ := hpe
  have d0 := hpc 0 (by simp)
  simp at d0
  have hm1 := num_below (unhide Hm) (Nat.le_refl _) hb0
  obtain ⟨kd, hlook, hkd⟩ := num_look hm1 p0 (by omega)
  have hR1 : RdAt w1 R a ns.length cap src r mb := (hb0.block R hRl).trans (unhide HR)
  have r3 := cell_block hR1 3 _ rfl
  have hl1 := fun n => hlook (w1.drewN n) rfl
  have hl2 := hlook w1.drew rfl
  have hl3 := hlook w1 rfl
  have HT : Hid (TB w0 w R a cap ns src r mb [p0, p1, p2, p3] w1) := hide ⟨hA, by simpa using hrow1, hR1, (unhide Hbw).trans (hb0.mono (unhide Hbw).size), offR_below hb0⟩
  have Hkd2 := hide hkd
  clear hlook hA hrow1 hR1 hb0 hb1 hpc hm1 hpl HS HR Hm hkd Hbw
  go_wp2
  go_quiet (fail)
  have hT := (unhide HT).drewN nq
  clear HT hl1 hl2 hl3 r3 d0
  generalize w1.drewN nq = W at *
  obtain ⟨pb, po, hpe, hpl, hpc⟩ := srow_pos hT.hP (k := 0) (by simp)
  simp only [Option.some.injEq, Addr.mk.injEq] at hpe
  obtain ⟨rfl, rfl, -⟩ := hpe
  have d1 := hpc 1 (by simp)
  simp at d1
  have HA1 := hide (atoi_any p1 (by omega) W (env_below (unhide HE) hT.bel))
  have HT := hide hT
  clear hpc hT
  go_wp2_with fail
  refine (unhide HA1).mono ?_
  rintro e W2 ⟨f, er1, rfl, hb2, hf⟩
  have hT := (unhide HT).below hb2
  obtain ⟨pb, po, hpe, hpl2, hpc⟩ := srow_pos hT.hP (k := 0) (by simp)
  simp only [Option.some.injEq, Addr.mk.injEq] at hpe
  obtain ⟨rfl, rfl, -⟩ := hpe
  have d2 := hpc 2 (by simp)
  simp at d2
  have HA2 := hide (atoi_any p2 (by omega) W2 (env_below (unhide HE) hT.bel))
  clear HT
  have HT := hide hT
  have Hf := hide hf
  clear hpc hT hb2 HA1 hf d1 hpl
  go_wp2_with fail
  refine (unhide HA2).mono ?_
  rintro e W3 ⟨t, er2, rfl, hb3, ht⟩
  have hT := (unhide HT).below hb3
  clear HT HA2 d2 hpl2
  have Ht := hide ht
  have hT4 := fun o => hT.below ((Below.refl _ _).alloc (Nat.le_refl _) o)
  have HT := hide hT4
  clear hT hb3 hT4 ht
  by_cases hin : p0 ∈ ns
  · rw [decide_eq_true hin]
    obtain ⟨j, hj, rfl⟩ := unhide Hkd2 hin
    rcases unhide Hf with ⟨hf1, rfl⟩ | ⟨hf1, q1, rfl⟩
    · rcases unhide Ht with ⟨ht1, rfl⟩ | ⟨ht1, q2, rfl⟩
      · have Heq : Hid (∀ x, isTok ns src r line x → x = ((j : Int), f, t)) := hide fun x hx => by
          obtain ⟨k, f', t', rfl, hkl, hts, hft, e⟩ := unhide Htok x hx
          simp only [List.cons.injEq] at e
          have hnd := (of_decide_eq_true (unhide Hk)).2.2.2.2.2
          have e0 := nodup_idx hnd hj hkl e.1.symm
          have e1 : f = (f' : Int) := by
            rw [e.2.1, atoi_dec f' (by omega)] at hf1
            exact (Lib.NumEnd.ok.inj hf1).symm
          have e2 : t = (t' : Int) := by
            rw [e.2.2.1, atoi_dec t' (by omega)] at ht1
            exact (Lib.NumEnd.ok.inj ht1).symm
          rw [e0, e1, e2]
        have hT0 := unhide HT (.cells #[.int .i64 (j : Int), .int .i64 f, .int .i64 t] 27)
        have g0 := cell_block hT0.hR 0 _ rfl
        have g1 := cell_block hT0.hR 1 _ rfl
        have g2 := cell_block hT0.hR 2 _ rfl
        have gf := frozen_block hT0.hR 2
        have hX := heap_new W3 (.cells #[.int .i64 (j : Int), .int .i64 f, .int .i64 t] 27)
        have b0 := cell_block hX 0 _ rfl
        have b1 := cell_block hX 1 _ rfl
        have b2 := cell_block hX 2 _ rfl
        have HX := hide hX
        have HTd := hide (hT0.drewN 1)
        cases htk : takeB ns.length src.size r ((j : Int), f, t)
        · have Hno : Hid (∀ x, ¬ isTok ns src r line x) := hide fun x hx => by
            have := unhide Heq x hx
            subst this
            rw [hx.1] at htk; cases htk
          have HK := hide (take_no R a ns.length cap src r (j : Int) f t ((W3.alloc (.cells #[.int .i64 (j : Int), .int .i64 f, .int .i64 t] 27)).drew) g0 g1 g2 htk)
          clear hin Hkd2 hf1 ht1 Hf Ht hj htk g0 g1 g2 gf Heq hT0 hX HT
          go_wp2
          go_region_held3 (fun w' : World => w'.cell? ⟨W3.heap.size, 0, none⟩ = some (.int .i64 (j : Int)) ∧ w'.cell? ⟨W3.heap.size, 1, none⟩ = some (.int .i64 f) ∧ w'.cell? ⟨W3.heap.size, 2, none⟩ = some (.int .i64 t))
            (first | exact ⟨c0, c1, c2⟩ | exact ⟨b0, b1, b2⟩ | fail)
            (first | (go_at_call 34; refine (unhide HK).mono ?_; rintro e W5 ⟨rfl, hb5⟩; have c0 := (hb5.cell (p := ⟨W3.heap.size, 0, none⟩) (lt_of_some (unhide HX))).trans b0; have c1 := (hb5.cell (p := ⟨W3.heap.size, 1, none⟩) (lt_of_some (unhide HX))).trans b1; have c2 := (hb5.cell (p := ⟨W3.heap.size, 2, none⟩) (lt_of_some (unhide HX))).trans b2; have HT5 := hide ((unhide HTd).below hb5); clear hb5) | fail)
          have hT := unhide HT5
          have a0 := cell_block hT.hA 0 _ rfl
          have a1 := cell_block hT.hA 1 _ rfl
          have a2 := cell_block hT.hA 2 _ rfl
          have f0 := frozen_block hT.hA 0
          have f1 := frozen_block hT.hA 1
          have f2 := frozen_block hT.hA 2
          have Hof := hide hT.off
          clear hT
          go_wp2
          refine bodyPost_ret (v := .tuple #[.agg #[.int .i64 0, .int .i64 0, .int .i64 0], .bool false]) (by simp [results, Tryd.results31, go_sem, a0, a1, a2]) rfl ?_
          exact ⟨offR_set (offR_set (offR_set (unhide Hof) (.inr (Nat.le_refl _)) _) (.inr (Nat.le_refl _)) _) (.inr (Nat.le_refl _)) _, .inr ⟨unhide Hno, rfl⟩⟩
        · obtain ⟨hk1, hk2, hk3, hk4, hk5⟩ := takeB_iff.1 htk
          simp only at hk1 hk2 hk3 hk4 hk5
          obtain ⟨fn, rfl⟩ := Int.eq_ofNat_of_zero_le (show 0 ≤ f by omega)
          obtain ⟨tn, rfl⟩ := Int.eq_ofNat_of_zero_le (show 0 ≤ t by omega)
          have HK := hide (take_yes R a ns.length cap src r (j : Int) fn tn ((W3.alloc (.cells #[.int .i64 (j : Int), .int .i64 (fn : Int), .int .i64 (tn : Int)] 27)).drew) g0 g1 g2 gf htk)
          have hkn : j < ns.length := by omega
          have hnk := kinds_name (unhide Hk) hkn
          have Hlo := hide (fun (W : World) (h : Below w0.heap.size w0 W) => lineOf_any a cap ns src hsrc j fn tn hkn hnk (by omega) (by omega) W (srow_below (unhide Hrow) (Nat.le_refl _) h) (env_below (unhide HE) h))
          have Htk := hide htk
          have hxl := lt_of_some hX
          have hxr : (W3.alloc (.cells #[.int .i64 (j : Int), .int .i64 (fn : Int), .int .i64 (tn : Int)] 27)).heap.size = W3.heap.size + 1 := by simp
          have hR3 : R ≠ W3.heap.size := by
            have := hT0.off.size
            have h2 := lt_of_some hT0.hA
            simp at this h2
            omega
          clear hin Hkd2 hf1 ht1 Hf Ht hj htk g0 g1 g2 gf hT0 HT
          go_wp2
          go_region_held3 (fun w' : World => w'.cell? ⟨W3.heap.size, 0, none⟩ = some (.int .i64 (j : Int)) ∧ w'.cell? ⟨W3.heap.size, 1, none⟩ = some (.int .i64 (fn : Int)) ∧ w'.cell? ⟨W3.heap.size, 2, none⟩ = some (.int .i64 (tn : Int)))
            (first | exact ⟨c0, c1, c2⟩ | exact ⟨b0, b1, b2⟩ | fail)
            (first | (go_at_call 34; refine (unhide HK).mono ?_; rintro e W5 ⟨rfl, hb5⟩; have hX5 := (hb5.block W3.heap.size hxl).trans ((Below.heap_setCell _ _ _ _ (fun e => hR3 e.symm)).trans (unhide HX)); have c0 := cell_block hX5 0 _ rfl; have c1 := cell_block hX5 1 _ rfl; have c2 := cell_block hX5 2 _ rfl; have HT5 := hide ((unhide HTd).take hRl hBR _ hb5); have HX5 := hide hX5; clear hb5 hX5) | fail)
          by_cases hq : tn - fn ≤ 4096
          · by_cases hln : lineL ns src j fn tn = line
            · rw [show lineV ns src j fn tn = (lineL ns src j fn tn, 0) by unfold lineV; rw [if_pos hq]] at Hlo
              have Hyes : Hid (isTok ns src r line ((j : Int), (fn : Int), (tn : Int))) := hide ⟨unhide Htk, by simp only; omega, hln⟩
              simp only [hln] at Hlo
              have e0 := cell_block (unhide HT5).hR 0 _ rfl
              have e1 := cell_block (unhide HT5).hR 1 _ rfl
              go_wp2
              go_region_held3 (fun w' : World => w'.cell? ⟨R, 0, none⟩ = some (.slice a ns.length cap) ∧ w'.cell? ⟨R, 1, none⟩ = some (.string src) ∧ w'.cell? ⟨W3.heap.size, 0, none⟩ = some (.int .i64 (j : Int)) ∧ w'.cell? ⟨W3.heap.size, 1, none⟩ = some (.int .i64 (fn : Int)) ∧ w'.cell? ⟨W3.heap.size, 2, none⟩ = some (.int .i64 (tn : Int)))
                (first | exact ⟨h0, h1, i0, i1, i2⟩ | exact ⟨e0, e1, c0, c1, c2⟩ | fail)
                (first | (go_at_call 25; refine (unhide Hlo _ (unhide HT5).bel.drew).mono ?_; rintro e W6 ⟨rfl, hb6⟩; have HT6 := hide (((unhide HT5).drewN 1).below hb6); have HX6 := hide ((hb6.block _ (lt_of_some (unhide HX5))).trans (unhide HX5)); have h0 := cell_block (unhide HT6).hR 0 _ rfl; have h1 := cell_block (unhide HT6).hR 1 _ rfl; have i0 := cell_block (unhide HX6) 0 _ rfl; have i1 := cell_block (unhide HX6) 1 _ rfl; have i2 := cell_block (unhide HX6) 2 _ rfl; clear hb6) | fail)
              have hT := unhide HT6
              have a0 := cell_block hT.hA 0 _ rfl
              have a1 := cell_block hT.hA 1 _ rfl
              have a2 := cell_block hT.hA 2 _ rfl
              have f0 := frozen_block hT.hA 0
              have f1 := frozen_block hT.hA 1
              have f2 := frozen_block hT.hA 2
              have Hof := hide hT.off
              clear hT
              go_wp2
              refine bodyPost_ret (v := .tuple #[.agg #[.int .i64 (j : Int), .int .i64 (fn : Int), .int .i64 (tn : Int)], .bool true]) (by simp [results, Tryd.results31, go_sem, a0, a1, a2]) rfl ?_
              refine ⟨offR_set (offR_set (offR_set (unhide Hof) (.inr (Nat.le_refl _)) _) (.inr (Nat.le_refl _)) _) (.inr (Nat.le_refl _)) _, .inl ⟨_, unhide Hyes, rfl, ?_⟩⟩
              unfold RdAt
              rw [Below.heap_setCell _ _ _ _ (by show R ≠ w.heap.size; omega), Below.heap_setCell _ _ _ _ (by show R ≠ w.heap.size; omega), Below.heap_setCell _ _ _ _ (by show R ≠ w.heap.size; omega)]
              exact (unhide HT6).hR
            · have Hno : Hid (∀ x, ¬ isTok ns src r line x) := hide fun x hx => by
                have := unhide Heq x hx
                subst this
                exact hln hx.2.2
              have hne := bs_ne hln
              rw [show lineV ns src j fn tn = (lineL ns src j fn tn, 0) by unfold lineV; rw [if_pos hq]] at Hlo
              clear hln
              generalize bs (lineL ns src j fn tn) = X at *
              have e0 := cell_block (unhide HT5).hR 0 _ rfl
              have e1 := cell_block (unhide HT5).hR 1 _ rfl
              go_wp2
              go_region_held3 (fun w' : World => w'.cell? ⟨R, 0, none⟩ = some (.slice a ns.length cap) ∧ w'.cell? ⟨R, 1, none⟩ = some (.string src) ∧ w'.cell? ⟨W3.heap.size, 0, none⟩ = some (.int .i64 (j : Int)) ∧ w'.cell? ⟨W3.heap.size, 1, none⟩ = some (.int .i64 (fn : Int)) ∧ w'.cell? ⟨W3.heap.size, 2, none⟩ = some (.int .i64 (tn : Int)))
                (first | exact ⟨h0, h1, i0, i1, i2⟩ | exact ⟨e0, e1, c0, c1, c2⟩ | fail)
                (first | (go_at_call 25; refine (unhide Hlo _ (unhide HT5).bel.drew).mono ?_; rintro e W6 ⟨rfl, hb6⟩; have HT6 := hide (((unhide HT5).drewN 1).below hb6); have HX6 := hide ((hb6.block _ (lt_of_some (unhide HX5))).trans (unhide HX5)); have h0 := cell_block (unhide HT6).hR 0 _ rfl; have h1 := cell_block (unhide HT6).hR 1 _ rfl; have i0 := cell_block (unhide HX6) 0 _ rfl; have i1 := cell_block (unhide HX6) 1 _ rfl; have i2 := cell_block (unhide HX6) 2 _ rfl; clear hb6) | fail)
              have hT := unhide HT6
              have a0 := cell_block hT.hA 0 _ rfl
              have a1 := cell_block hT.hA 1 _ rfl
              have a2 := cell_block hT.hA 2 _ rfl
              have f0 := frozen_block hT.hA 0
              have f1 := frozen_block hT.hA 1
              have f2 := frozen_block hT.hA 2
              have Hof := hide hT.off
              clear hT
              go_wp2
              refine bodyPost_ret (v := .tuple #[.agg #[.int .i64 0, .int .i64 0, .int .i64 0], .bool false]) (by simp [results, Tryd.results31, go_sem, a0, a1, a2]) rfl ?_
              exact ⟨offR_set (offR_set (offR_set (unhide Hof) (.inr (Nat.le_refl _)) _) (.inr (Nat.le_refl _)) _) (.inr (Nat.le_refl _)) _, .inr ⟨unhide Hno, rfl⟩⟩
          · have Hno : Hid (∀ x, ¬ isTok ns src r line x) := hide fun x hx => by
              have := unhide Heq x hx
              subst this
              have := hx.2.1
              simp only at this
              omega
            rw [show lineV ns src j fn tn = ([], 3) by unfold lineV; rw [if_neg hq]] at Hlo
            have e0 := cell_block (unhide HT5).hR 0 _ rfl
            have e1 := cell_block (unhide HT5).hR 1 _ rfl
            go_wp2
            go_region_held3 (fun w' : World => w'.cell? ⟨R, 0, none⟩ = some (.slice a ns.length cap) ∧ w'.cell? ⟨R, 1, none⟩ = some (.string src) ∧ w'.cell? ⟨W3.heap.size, 0, none⟩ = some (.int .i64 (j : Int)) ∧ w'.cell? ⟨W3.heap.size, 1, none⟩ = some (.int .i64 (fn : Int)) ∧ w'.cell? ⟨W3.heap.size, 2, none⟩ = some (.int .i64 (tn : Int)))
              (first | exact ⟨h0, h1, i0, i1, i2⟩ | exact ⟨e0, e1, c0, c1, c2⟩ | fail)
              (first | (go_at_call 25; refine (unhide Hlo _ (unhide HT5).bel.drew).mono ?_; rintro e W6 ⟨rfl, hb6⟩; have HT6 := hide (((unhide HT5).drewN 1).below hb6); have HX6 := hide ((hb6.block _ (lt_of_some (unhide HX5))).trans (unhide HX5)); have h0 := cell_block (unhide HT6).hR 0 _ rfl; have h1 := cell_block (unhide HT6).hR 1 _ rfl; have i0 := cell_block (unhide HX6) 0 _ rfl; have i1 := cell_block (unhide HX6) 1 _ rfl; have i2 := cell_block (unhide HX6) 2 _ rfl; clear hb6) | fail)
            have hT := unhide HT6
            have a0 := cell_block hT.hA 0 _ rfl
            have a1 := cell_block hT.hA 1 _ rfl
            have a2 := cell_block hT.hA 2 _ rfl
            have f0 := frozen_block hT.hA 0
            have f1 := frozen_block hT.hA 1
            have f2 := frozen_block hT.hA 2
            have Hof := hide hT.off
            clear hT
            go_wp2
            refine bodyPost_ret (v := .tuple #[.agg #[.int .i64 0, .int .i64 0, .int .i64 0], .bool false]) (by simp [results, Tryd.results31, go_sem, a0, a1, a2]) rfl ?_
            exact ⟨offR_set (offR_set (offR_set (unhide Hof) (.inr (Nat.le_refl _)) _) (.inr (Nat.le_refl _)) _) (.inr (Nat.le_refl _)) _, .inr ⟨unhide Hno, rfl⟩⟩
      · have Hno : Hid (∀ x, ¬ isTok ns src r line x) := hide fun x hx => by
          obtain ⟨k, f, t, _, hkl, hts, hft, e⟩ := unhide Htok x hx
          simp only [List.cons.injEq] at e
          exact ht1 t (by rw [e.2.2.1]; exact atoi_dec t (by omega))
        clear hin Hkd2 hf1 ht1 Hf Ht hj
        go_wp2
        go_quiet (fail)
        have hT := (unhide HT (.cells #[.int .i64 (j : Int), .int .i64 f, .int .i64 t] 27)).drewN nq
        clear HT
        generalize (W3.alloc (.cells #[.int .i64 (j : Int), .int .i64 f, .int .i64 t] 27)).drewN nq = W4 at *
        have a0 := cell_block hT.hA 0 _ rfl
        have a1 := cell_block hT.hA 1 _ rfl
        have a2 := cell_block hT.hA 2 _ rfl
        have f0 := frozen_block hT.hA 0
        have f1 := frozen_block hT.hA 1
        have f2 := frozen_block hT.hA 2
        have Hof := hide hT.off
        clear hT
        go_wp2
        refine bodyPost_ret (v := .tuple #[.agg #[.int .i64 0, .int .i64 0, .int .i64 0], .bool false]) (by simp [results, Tryd.results31, go_sem, a0, a1, a2]) rfl ?_
        exact ⟨offR_set (offR_set (offR_set (unhide Hof) (.inr (Nat.le_refl _)) _) (.inr (Nat.le_refl _)) _) (.inr (Nat.le_refl _)) _, .inr ⟨unhide Hno, rfl⟩⟩
    · have Hno : Hid (∀ x, ¬ isTok ns src r line x) := hide fun x hx => by
        obtain ⟨k, f, t, _, hkl, hts, hft, e⟩ := unhide Htok x hx
        simp only [List.cons.injEq] at e
        exact hf1 f (by rw [e.2.1]; exact atoi_dec f (by omega))
      clear hin Hkd2 hf1 Hf Ht hj
      go_wp2
      go_quiet (fail)
      have hT := (unhide HT (.cells #[.int .i64 (j : Int), .int .i64 f, .int .i64 t] 27)).drewN nq
      clear HT
      generalize (W3.alloc (.cells #[.int .i64 (j : Int), .int .i64 f, .int .i64 t] 27)).drewN nq = W4 at *
      have a0 := cell_block hT.hA 0 _ rfl
      have a1 := cell_block hT.hA 1 _ rfl
      have a2 := cell_block hT.hA 2 _ rfl
      have f0 := frozen_block hT.hA 0
      have f1 := frozen_block hT.hA 1
      have f2 := frozen_block hT.hA 2
      have Hof := hide hT.off
      clear hT
      go_wp2
      refine bodyPost_ret (v := .tuple #[.agg #[.int .i64 0, .int .i64 0, .int .i64 0], .bool false]) (by simp [results, Tryd.results31, go_sem, a0, a1, a2]) rfl ?_
      exact ⟨offR_set (offR_set (offR_set (unhide Hof) (.inr (Nat.le_refl _)) _) (.inr (Nat.le_refl _)) _) (.inr (Nat.le_refl _)) _, .inr ⟨unhide Hno, rfl⟩⟩
  · rw [decide_eq_false hin]
    have Hno : Hid (∀ x, ¬ isTok ns src r line x) := hide fun x hx => by
      obtain ⟨k, f, t, _, hkl, _, _, e⟩ := unhide Htok x hx
      simp only [List.cons.injEq] at e
      exact hin (by rw [e.1]; exact mem_getD hkl)
    clear hin Hkd2
    go_wp2
    go_quiet (fail)
    have hT := (unhide HT (.cells #[.int .i64 kd, .int .i64 f, .int .i64 t] 27)).drewN nq
    clear HT
    generalize (W3.alloc (.cells #[.int .i64 kd, .int .i64 f, .int .i64 t] 27)).drewN nq = W4 at *
    have a0 := cell_block hT.hA 0 _ rfl
    have a1 := cell_block hT.hA 1 _ rfl
    have a2 := cell_block hT.hA 2 _ rfl
    have f0 := frozen_block hT.hA 0
    have f1 := frozen_block hT.hA 1
    have f2 := frozen_block hT.hA 2
    have Hof := hide hT.off
    clear hT
    go_wp2
    refine bodyPost_ret (v := .tuple #[.agg #[.int .i64 0, .int .i64 0, .int .i64 0], .bool false]) (by simp [results, Tryd.results31, go_sem, a0, a1, a2]) rfl ?_
    exact ⟨offR_set (offR_set (offR_set (unhide Hof) (.inr (Nat.le_refl _)) _) (.inr (Nat.le_refl _)) _) (.inr (Nat.le_refl _)) _, .inr ⟨unhide Hno, rfl⟩⟩
end Go.Proofs.YtkckcnjamlpadabDoor

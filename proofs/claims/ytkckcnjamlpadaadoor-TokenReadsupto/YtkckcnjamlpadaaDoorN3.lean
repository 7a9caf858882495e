/- The document's one, walked. -/
import Derived.Test.YtkckcnjamlpadaaDoorN2
import Derived.Deep.RegionHeld3
namespace Go.Proofs.YtkckcnjamlpadaaDoor
open Go.RowKit Go.Maps

/-- 'wpAnyH_take' with the slot that is written told outright. -/
theorem take_dst9 {P : Program} {md : Region.Mode} {ops : Array Oper} {Q : Exit → Act → World → Prop} {S : World → Prop} {i : Nat} {oi : Oper} {v : Value} {dst : Option Nat} {fuel : Nat} {listed : Array Bool} {a : Act} {w : World} (hi : ops[i]? = some oi) (hd : oi.dst = dst)
    (hs : Region.noSelect ops = true) (hf : Region.free md ops listed i = true) (hr : (Region.ready md ops listed).contains i = true)
    (hQ : ∀ c a w, Q (.panic c) (a.put dst v) w → Q (.panic c) a w) (hy : YieldsIf P ops S oi v a) (hS : S w)
    (h : wpAnyH P md ops Q S fuel (listed.setIfInBounds i true) (a.put dst v) w) : wpAnyH P md ops Q S (fuel + 1) listed a w := by
  subst hd; exact wpAnyH_take hi hs hf hr hQ hy hS h
theorem set3_block {W : World} {B b : Nat} {o : Obj} (h : W.heap[b]? = some o) (hne : b ≠ B) (x y z : Value) : (((W.setCell ⟨B, 0, none⟩ x).setCell ⟨B, 1, none⟩ y).setCell ⟨B, 2, none⟩ z).heap[b]? = some o := by
  rw [Below.heap_setCell _ _ _ _ hne, Below.heap_setCell _ _ _ _ hne, Below.heap_setCell _ _ _ _ hne]; exact h

set_option maxHeartbeats 8000000 in
set_option maxRecDepth 100000 in
theorem one_any (a : Option Addr) (cap : Nat) (ns : List (List UInt8)) (src : ByteArray) (hsrc : src.size < 10995116277760) (s : List UInt8) (hs : s.length ≤ 281474976710656) (hk : kindsB ns = true) (w : World) (hrow : SRow w a ns) (hE : Env w) :
    Calls Tryd.prog 44 #[.slice a ns.length cap, .string src, .string (bs s)] w fun e w' => ∃ x ok, e = .returned (.tuple #[.agg #[.int .i64 x.1, .int .i64 x.2.1, .int .i64 x.2.2], .bool ok]) ∧ Below w.heap.size w w' ∧ OnePost ns src s x ok := by
  have hsz : (bs s).size = s.length := rfl
  have hnl : ns.length ≤ 281474976710656 := by have := (of_decide_eq_true hk).2.1; omega
  have HO := hide (OB.new (ns := ns) hrow hE)
  have Hk := hide hk
  clear hrow hE hk
  go_enter Tryd.func44, Tryd.ntmps44
  go_wp2
  go_loop [8] (fun x => ∃ j : Nat, x = .int .i64 (j : Int) ∧ j ≤ s.length ∧ noBl s j) (fun x => s.length - (intOf x).toNat)
  case atStart => exact ⟨0, rfl, Nat.zero_le _, fun q hq => absurd hq (Nat.not_lt_zero _)⟩
  case round =>
    obtain ⟨j, rfl, hj, hnb⟩ := hrel
    have hj' : (j : Int) ≤ s.length := by omega
    have Hnb := hide hnb
    clear hnb
    by_cases hgo : j < s.length ∧ bt (bs s) j ≠ 32
    · obtain ⟨hlt, hc⟩ := hgo
      have hlt' : (j : Int) < s.length := by omega
      have ik := index_bt (bs s) j hlt
      have Hn2 := hide (show noBl s (j + 1) from fun q hq => by
        by_cases e : q = j
        · subst e
          intro e2
          apply hc
          have := bt_drop s 0 q (by omega)
          rw [Nat.zero_add] at this
          rw [this]
          simp only [List.drop_zero]
          rw [e2]; rfl
        · exact unhide Hnb q (by omega))
      generalize bt (bs s) j = c at *
      have hc' : ((c : Int) == 32) = false := by rw [beq_eq_false_iff_ne]; omega
      clear hc
      go_wp2
      go_round
      case rel => exact ⟨j + 1, by go_num, by omega, unhide Hn2⟩
      case measure => simp [intOf]; omega
    · have hend : j = s.length ∨ s.getD j 0 = 32 := by
        by_cases e : j = s.length
        · exact .inl e
        · right
          have h2 : bt (bs s) j = 32 := by omega
          have := bt_drop s 0 j (by omega)
          rw [Nat.zero_add, h2] at this
          simp only [List.drop_zero] at this
          exact UInt8.toNat_inj.1 this.symm
      have Hch := hide (fun (k f t : Nat) h1 h2 h3 h5 => one_chain (ns := ns) (src := src) (s := s) (j := j) (k := k) (f := f) (t := t) (unhide Hk) hsrc h1 h2 h3 h5 (unhide Hnb) hend)
      have hext : (bs s).extract 0 j = bs (s.take j) := by rw [extract_bs s 0 j (Nat.zero_le _)]; rfl
      have HF := hide (rFind_any a cap ns hnl (s.take j) _ (unhide HO).row)
      rw [← hext] at HF
      clear hext
      have Hfy := hide (fun f1 (h : findT ns (s.take j) = (f1, true)) => findT_yes h)
      clear hend
      generalize hF : findT ns (s.take j) = F at *
      obtain ⟨f1, f2⟩ := F
      clear hF
      generalize (w.alloc (.cells #[.int .i64 0, .int .i64 0, .int .i64 0] 55)) = W0 at *
      by_cases hlt : j < s.length
      · have hc : bt (bs s) j = 32 := by omega
        have hlt' : (j : Int) < s.length := by omega
        have hge' : ¬ (s.length : Int) ≤ j := by omega
        have ik := index_bt (bs s) j hlt
        rw [hc] at ik
        clear hgo hc
        cases f2
        · go_wp2_with fail
          refine (unhide HF).mono ?_
          rintro e w1 ⟨rfl, rfl⟩
          have HP := hide (one_no (x := (0, 0, 0)) (ns := ns) (src := src) (s := s) (fun k f t h1 h2 h3 _ h5 => by have := (unhide Hch k f t h1 h2 h3 h5).2.1; simp at this))
          have a0 := cell_block (unhide HO).hA 0 _ rfl
          have a1 := cell_block (unhide HO).hA 1 _ rfl
          have a2 := cell_block (unhide HO).hA 2 _ rfl
          have f0 := frozen_block (unhide HO).hA 0
          have f1 := frozen_block (unhide HO).hA 1
          have f2 := frozen_block (unhide HO).hA 2
          clear Hch
          go_wp2
          refine bodyPost_ret (v := .tuple #[.agg #[.int .i64 0, .int .i64 0, .int .i64 0], .bool false]) (by simp [results, Tryd.results44, go_sem, a0, a1, a2]) rfl ?_
          exact ⟨(0, 0, 0), false, rfl, set3_below (unhide HO).bel _ _ _, unhide HP⟩
        · obtain ⟨i1, hi1⟩ : ∃ i1, i1 = j + 1 := ⟨_, rfl⟩
          have HN1 := hide (num_any s hs i1 (by omega) _ (unhide HO).env)
          obtain ⟨kn, rfl, hkn, hkg⟩ := unhide Hfy f1 rfl
          go_wp2_with fail
          refine (unhide HF).mono ?_
          rintro e w1 ⟨rfl, rfl⟩
          go_wp2_with fail
          rw [show (j : Int) + 1 = (i1 : Int) by omega]
          refine (unhide HN1).mono ?_
          rintro e w2 ⟨n1, m1, rfl, hb2, hp1⟩
          have HO2 := hide ((unhide HO).below hb2)
          have Hp1 := hide hp1
          rw [hi1] at Hp1
          have hp0 := hp1.1
          clear hp1 hb2 HF HN1 HO
          rcases hp0 with ⟨rfl, rfl⟩ | ⟨u, jn, rfl, rfl, hij, hjn, hu⟩
          · have hneg : (-1 : Int) < 0 := by omega
            have HP := hide (one_no (x := (0, 0, 0)) (ns := ns) (src := src) (s := s) (fun k f t h1 h2 h3 _ h5 => by have := ((unhide Hch k f t h1 h2 h3 h5).2.2 _ _ (unhide Hp1)).1; omega))
            have a0 := cell_block (unhide HO2).hA 0 _ rfl
            have a1 := cell_block (unhide HO2).hA 1 _ rfl
            have a2 := cell_block (unhide HO2).hA 2 _ rfl
            have f0 := frozen_block (unhide HO2).hA 0
            have f1 := frozen_block (unhide HO2).hA 1
            have f2 := frozen_block (unhide HO2).hA 2
            clear Hch
            go_wp2
            refine bodyPost_ret (v := .tuple #[.agg #[.int .i64 0, .int .i64 0, .int .i64 0], .bool false]) (by simp [results, Tryd.results44, go_sem, a0, a1, a2]) rfl ?_
            exact ⟨(0, 0, 0), false, rfl, set3_below (unhide HO2).bel _ _ _, unhide HP⟩
          · have hu0 : ¬ (u : Int) < 0 := by omega
            have Hc2 := hide (fun (k f t : Nat) h1 h2 h3 h5 => show kn = k ∧ u = f ∧ jn < s.length ∧ ∀ n2 m2, NumPost s (jn + 1) n2 m2 → n2 = (t : Int) from by
              obtain ⟨-, e0, e1⟩ := unhide Hch k f t h1 h2 h3 h5
              obtain ⟨e2, m, e3, e4, e5⟩ := e1 _ _ (unhide Hp1)
              have e0' := (Prod.mk.inj e0).1
              obtain rfl : jn = m := by omega
              exact ⟨by omega, by omega, e4, e5⟩)
            clear Hch Hp1
            have Hch := Hc2
            clear Hc2
            by_cases hjl : jn < s.length
            · have hjl' : ¬ (s.length : Int) ≤ jn := by omega
              have hjl2 : ¬ s.length ≤ jn := by omega
              obtain ⟨i2, hi2⟩ : ∃ i2, i2 = jn + 1 := ⟨_, rfl⟩
              have HN2 := hide (num_any s hs i2 (by omega) _ (unhide HO2).env)
              go_wp2_with fail
              rw [show (jn : Int) + 1 = (i2 : Int) by omega]
              refine (unhide HN2).mono ?_
              rintro e w3 ⟨n2, m2, rfl, hb3, hp2⟩
              have HO3 := hide ((unhide HO2).below hb3)
              have Hp2 := hide hp2
              rw [hi2] at Hp2
              have hp0 := hp2.1
              clear hp2 hb3 HN2 HO2
              rcases hp0 with ⟨rfl, rfl⟩ | ⟨v, jv, rfl, rfl, hij2, hjv, hv⟩
              · have hneg : (-1 : Int) < (u : Int) := by omega
                have HP := hide (one_no (x := (0, 0, 0)) (ns := ns) (src := src) (s := s) (fun k f t h1 h2 h3 _ h5 => by have := (unhide Hch k f t h1 h2 h3 h5).2.2.2 _ _ (unhide Hp2); omega))
                have a0 := cell_block (unhide HO3).hA 0 _ rfl
                have a1 := cell_block (unhide HO3).hA 1 _ rfl
                have a2 := cell_block (unhide HO3).hA 2 _ rfl
                have f0 := frozen_block (unhide HO3).hA 0
                have f1 := frozen_block (unhide HO3).hA 1
                have f2 := frozen_block (unhide HO3).hA 2
                clear Hch
                go_wp2
                refine bodyPost_ret (v := .tuple #[.agg #[.int .i64 0, .int .i64 0, .int .i64 0], .bool false]) (by simp [results, Tryd.results44, go_sem, a0, a1, a2]) rfl ?_
                exact ⟨(0, 0, 0), false, rfl, set3_below (unhide HO3).bel _ _ _, unhide HP⟩
              · have Hc3 := hide (fun (k f t : Nat) h1 h2 h3 h5 => show kn = k ∧ u = f ∧ v = t from by
                  obtain ⟨e0, e1, -, e2⟩ := unhide Hch k f t h1 h2 h3 h5
                  have := e2 _ _ (unhide Hp2)
                  omega)
                clear Hch Hp2
                have Hch := Hc3
                clear Hc3
                by_cases c1 : v < u
                · have c1' : (v : Int) < u := by omega
                  have HP := hide (one_no (x := (0, 0, 0)) (ns := ns) (src := src) (s := s) (fun k f t h1 h2 h3 _ h5 => by have := unhide Hch k f t h1 h2 h3 h5; omega))
                  have a0 := cell_block (unhide HO3).hA 0 _ rfl
                  have a1 := cell_block (unhide HO3).hA 1 _ rfl
                  have a2 := cell_block (unhide HO3).hA 2 _ rfl
                  have f0 := frozen_block (unhide HO3).hA 0
                  have f1 := frozen_block (unhide HO3).hA 1
                  have f2 := frozen_block (unhide HO3).hA 2
                  clear Hch
                  go_wp2
                  refine bodyPost_ret (v := .tuple #[.agg #[.int .i64 0, .int .i64 0, .int .i64 0], .bool false]) (by simp [results, Tryd.results44, go_sem, a0, a1, a2]) rfl ?_
                  exact ⟨(0, 0, 0), false, rfl, set3_below (unhide HO3).bel _ _ _, unhide HP⟩
                have c1' : ¬ (v : Int) < u := by omega
                by_cases c2 : src.size < v
                · have c2' : (src.size : Int) < v := by omega
                  have HP := hide (one_no (x := (0, 0, 0)) (ns := ns) (src := src) (s := s) (fun k f t h1 h2 h3 _ h5 => by have := unhide Hch k f t h1 h2 h3 h5; omega))
                  have a0 := cell_block (unhide HO3).hA 0 _ rfl
                  have a1 := cell_block (unhide HO3).hA 1 _ rfl
                  have a2 := cell_block (unhide HO3).hA 2 _ rfl
                  have f0 := frozen_block (unhide HO3).hA 0
                  have f1 := frozen_block (unhide HO3).hA 1
                  have f2 := frozen_block (unhide HO3).hA 2
                  clear Hch
                  go_wp2
                  refine bodyPost_ret (v := .tuple #[.agg #[.int .i64 0, .int .i64 0, .int .i64 0], .bool false]) (by simp [results, Tryd.results44, go_sem, a0, a1, a2]) rfl ?_
                  exact ⟨(0, 0, 0), false, rfl, set3_below (unhide HO3).bel _ _ _, unhide HP⟩
                have c2' : ¬ (src.size : Int) < v := by omega
                by_cases c3 : 4096 < v - u
                · have c3' : (4096 : Int) < (v : Int) - (u : Int) := by omega
                  have HP := hide (one_no (x := (0, 0, 0)) (ns := ns) (src := src) (s := s) (fun k f t h1 h2 h3 h4 h5 => by have := unhide Hch k f t h1 h2 h3 h5; omega))
                  have a0 := cell_block (unhide HO3).hA 0 _ rfl
                  have a1 := cell_block (unhide HO3).hA 1 _ rfl
                  have a2 := cell_block (unhide HO3).hA 2 _ rfl
                  have f0 := frozen_block (unhide HO3).hA 0
                  have f1 := frozen_block (unhide HO3).hA 1
                  have f2 := frozen_block (unhide HO3).hA 2
                  clear Hch
                  go_wp2
                  refine bodyPost_ret (v := .tuple #[.agg #[.int .i64 0, .int .i64 0, .int .i64 0], .bool false]) (by simp [results, Tryd.results44, go_sem, a0, a1, a2]) rfl ?_
                  exact ⟨(0, 0, 0), false, rfl, set3_below (unhide HO3).bel _ _ _, unhide HP⟩
                have c3' : ¬ (4096 : Int) < (v : Int) - (u : Int) := by omega
                have HL := hide (fun W (h : OB w a ns W) => rLine_any a cap ns src (by omega) kn u v hkn (kinds_name (unhide Hk) hkn) (by omega) (by omega) (by omega) W h.row h.env)
                have Hyes := hide (show s = lineL ns src kn u v ++ [10] → OnePost ns src s ((kn : Int), (u : Int), (v : Int)) true from fun e => ⟨fun _ => ⟨kn, u, v, rfl, hkn, by omega, by omega, by omega, e⟩, fun k f t h1 h2 h3 _ h5 => ⟨rfl, by obtain ⟨rfl, rfl, rfl⟩ := unhide Hch k f t h1 h2 h3 h5; rfl⟩⟩)
                have Hnos := hide (show s ≠ lineL ns src kn u v ++ [10] → OnePost ns src s ((kn : Int), (u : Int), (v : Int)) false from fun e => one_no (fun k f t h1 h2 h3 _ h5 => by obtain ⟨rfl, rfl, rfl⟩ := unhide Hch k f t h1 h2 h3 h5; exact e h5))
                have hwl := lt_of_some (unhide HO3).hA
                have Htb := hide (heap_new w3 (.cells #[.int .i64 (kn : Int), .int .i64 (u : Int), .int .i64 (v : Int)] 55))
                clear Hch
                generalize hX : lineL ns src kn u v ++ [10] = X at *
                clear hX
                go_wp2_with fail
                have HO := hide (((unhide HO3).below ((Below.refl _ _).alloc (Nat.le_refl _) (.cells #[.int .i64 (kn : Int), .int .i64 (u : Int), .int .i64 (v : Int)] 55))).below ((Below.refl _ _).drew))
                by_cases hX : s = X
                · have HP := hide (unhide Hyes hX)
                  have hcmp : ((bs X).toList == (bs s).toList) = true := by rw [hX]; simp
                  clear hX Hyes Hnos HO3
                  generalize bs X = XX at *
                  refine wp_region_held_drew (S := fun W : World => W.heap[w3.heap.size]? = some (.cells #[.int .i64 (kn : Int), .int .i64 (u : Int), .int .i64 (v : Int)] 55 (0, 0))) (by kernel_rfl) (unhide Htb) (fun hHeld => ?_)
                  refine take_dst9 (i := 0) (dst := some 87) (v := ?_) rfl rfl (by kernel_rfl) (by kernel_rfl) (by kernel_rfl) (fun _ _ _ h => h) (Or.inl ⟨by rfl, ?_⟩) hHeld ?_
                  rotate_left
                  · intro w hSw; have z0 := cell_block hSw 0 _ rfl; have z1 := cell_block hSw 1 _ rfl; have z2 := cell_block hSw 2 _ rfl; go_simp; try (with_reducible rfl)
                  simp only [Act.put, List.setIfInBounds_toArray, List.set_cons_zero, List.set_cons_succ]
                  refine take_dst9 (i := 1) (dst := some 88) (v := ?_) rfl rfl (by kernel_rfl) (by kernel_rfl) (by kernel_rfl) (fun _ _ _ h => h) (Or.inl ⟨by rfl, ?_⟩) hHeld ?_
                  rotate_left
                  · intro w hSw; have z0 := cell_block hSw 0 _ rfl; have z1 := cell_block hSw 1 _ rfl; have z2 := cell_block hSw 2 _ rfl; go_simp; try (with_reducible rfl)
                  simp only [Act.put, List.setIfInBounds_toArray, List.set_cons_zero, List.set_cons_succ]
                  refine take_dst9 (i := 2) (dst := some 89) (v := ?_) rfl rfl (by kernel_rfl) (by kernel_rfl) (by kernel_rfl) (fun _ _ _ h => h) (Or.inl ⟨by rfl, ?_⟩) hHeld ?_
                  rotate_left
                  · intro w hSw; have z0 := cell_block hSw 0 _ rfl; have z1 := cell_block hSw 1 _ rfl; have z2 := cell_block hSw 2 _ rfl; go_simp; try (with_reducible rfl)
                  simp only [Act.put, List.setIfInBounds_toArray, List.set_cons_zero, List.set_cons_succ]
                  refine take_dst9 (i := 3) (dst := some 90) (v := ?_) rfl rfl (by kernel_rfl) (by kernel_rfl) (by kernel_rfl) (fun _ _ _ h => h) (Or.inl ⟨by rfl, ?_⟩) hHeld ?_
                  rotate_left
                  · intro w hSw; have z0 := cell_block hSw 0 _ rfl; have z1 := cell_block hSw 1 _ rfl; have z2 := cell_block hSw 2 _ rfl; go_simp; try (with_reducible rfl)
                  simp only [Act.put, List.setIfInBounds_toArray, List.set_cons_zero, List.set_cons_succ]
                  refine take_dst9 (i := 5) (dst := some 92) (v := ?_) rfl rfl (by kernel_rfl) (by kernel_rfl) (by kernel_rfl) (fun _ _ _ h => h) (Or.inl ⟨by rfl, ?_⟩) hHeld ?_
                  rotate_left
                  · intro w hSw; have z0 := cell_block hSw 0 _ rfl; have z1 := cell_block hSw 1 _ rfl; have z2 := cell_block hSw 2 _ rfl; go_simp; try (with_reducible rfl)
                  simp only [Act.put, List.setIfInBounds_toArray, List.set_cons_zero, List.set_cons_succ]
                  refine wpAnyH_ready (rs := [4]) (by kernel_rfl) (by simp) ?_
                  refine AllReadyH.cons rfl (fun K hK => ?_) AllReadyH.nil
                  go_simp
                  go_at_call 41
                  refine (unhide HL _ (unhide HO)).mono ?_
                  rintro e W9 ⟨rfl, hb9⟩
                  have HO := hide ((unhide HO).below hb9)
                  have Htb := hide ((hb9.block _ (lt_of_some (unhide Htb))).trans (unhide Htb))
                  have a0 := cell_block (unhide HO).hA 0 _ rfl
                  have a1 := cell_block (unhide HO).hA 1 _ rfl
                  have a2 := cell_block (unhide HO).hA 2 _ rfl
                  have f0 := frozen_block (unhide HO).hA 0
                  have f1 := frozen_block (unhide HO).hA 1
                  have f2 := frozen_block (unhide HO).hA 2
                  clear hb9
                  go_wp2_with fail
                  refine hK.out _ _ (unhide Htb) (fun hHeld => ?_)
                  clear hK K
                  refine take_dst9 (i := 6) (dst := some 93) (v := ?_) rfl rfl (by kernel_rfl) (by kernel_rfl) (by kernel_rfl) (fun _ _ _ h => h) (Or.inl ⟨by rfl, ?_⟩) hHeld ?_
                  rotate_left
                  · intro w hSw; have z0 := cell_block hSw 0 _ rfl; have z1 := cell_block hSw 1 _ rfl; have z2 := cell_block hSw 2 _ rfl; go_simp; try (with_reducible rfl)
                  simp only [Act.put, List.setIfInBounds_toArray, List.set_cons_zero, List.set_cons_succ]
                  refine wpAnyH_ready (rs := [7]) (by kernel_rfl) (by simp) ?_
                  refine AllReadyH.cons rfl (fun K hK => ?_) AllReadyH.nil
                  go_simp
                  refine hK.out _ _ (set3_block (unhide Htb) (by omega) _ _ _) (fun hHeld => ?_)
                  clear hK K
                  refine take_dst9 (i := 8) (dst := some 7) (v := ?_) rfl rfl (by kernel_rfl) (by kernel_rfl) (by kernel_rfl) (fun _ _ _ h => h) (Or.inl ⟨by rfl, ?_⟩) hHeld ?_
                  rotate_left
                  · intro w hSw; have z0 := cell_block hSw 0 _ rfl; have z1 := cell_block hSw 1 _ rfl; have z2 := cell_block hSw 2 _ rfl; go_simp; try (with_reducible rfl)
                  simp only [Act.put, List.setIfInBounds_toArray, List.set_cons_zero, List.set_cons_succ]
                  refine wpAnyH_done (by kernel_rfl) ?_ _
                  go_wp2
                  refine bodyPost_ret (v := .tuple #[.agg #[.int .i64 (kn : Int), .int .i64 (u : Int), .int .i64 (v : Int)], .bool true]) (by simp [results, Tryd.results44, go_sem, a0, a1, a2]) rfl ?_
                  exact ⟨_, true, rfl, set3_below (unhide HO).bel _ _ _, unhide HP⟩
                · have HP := hide (unhide Hnos hX)
                  have hcmp : ((bs X).toList == (bs s).toList) = false := bs_ne (fun e => hX e.symm)
                  clear hX Hyes Hnos HO3
                  generalize bs X = XX at *
                  refine wp_region_held_drew (S := fun W : World => W.heap[w3.heap.size]? = some (.cells #[.int .i64 (kn : Int), .int .i64 (u : Int), .int .i64 (v : Int)] 55 (0, 0))) (by kernel_rfl) (unhide Htb) (fun hHeld => ?_)
                  refine take_dst9 (i := 0) (dst := some 87) (v := ?_) rfl rfl (by kernel_rfl) (by kernel_rfl) (by kernel_rfl) (fun _ _ _ h => h) (Or.inl ⟨by rfl, ?_⟩) hHeld ?_
                  rotate_left
                  · intro w hSw; have z0 := cell_block hSw 0 _ rfl; have z1 := cell_block hSw 1 _ rfl; have z2 := cell_block hSw 2 _ rfl; go_simp; try (with_reducible rfl)
                  simp only [Act.put, List.setIfInBounds_toArray, List.set_cons_zero, List.set_cons_succ]
                  refine take_dst9 (i := 1) (dst := some 88) (v := ?_) rfl rfl (by kernel_rfl) (by kernel_rfl) (by kernel_rfl) (fun _ _ _ h => h) (Or.inl ⟨by rfl, ?_⟩) hHeld ?_
                  rotate_left
                  · intro w hSw; have z0 := cell_block hSw 0 _ rfl; have z1 := cell_block hSw 1 _ rfl; have z2 := cell_block hSw 2 _ rfl; go_simp; try (with_reducible rfl)
                  simp only [Act.put, List.setIfInBounds_toArray, List.set_cons_zero, List.set_cons_succ]
                  refine take_dst9 (i := 2) (dst := some 89) (v := ?_) rfl rfl (by kernel_rfl) (by kernel_rfl) (by kernel_rfl) (fun _ _ _ h => h) (Or.inl ⟨by rfl, ?_⟩) hHeld ?_
                  rotate_left
                  · intro w hSw; have z0 := cell_block hSw 0 _ rfl; have z1 := cell_block hSw 1 _ rfl; have z2 := cell_block hSw 2 _ rfl; go_simp; try (with_reducible rfl)
                  simp only [Act.put, List.setIfInBounds_toArray, List.set_cons_zero, List.set_cons_succ]
                  refine take_dst9 (i := 3) (dst := some 90) (v := ?_) rfl rfl (by kernel_rfl) (by kernel_rfl) (by kernel_rfl) (fun _ _ _ h => h) (Or.inl ⟨by rfl, ?_⟩) hHeld ?_
                  rotate_left
                  · intro w hSw; have z0 := cell_block hSw 0 _ rfl; have z1 := cell_block hSw 1 _ rfl; have z2 := cell_block hSw 2 _ rfl; go_simp; try (with_reducible rfl)
                  simp only [Act.put, List.setIfInBounds_toArray, List.set_cons_zero, List.set_cons_succ]
                  refine take_dst9 (i := 5) (dst := some 92) (v := ?_) rfl rfl (by kernel_rfl) (by kernel_rfl) (by kernel_rfl) (fun _ _ _ h => h) (Or.inl ⟨by rfl, ?_⟩) hHeld ?_
                  rotate_left
                  · intro w hSw; have z0 := cell_block hSw 0 _ rfl; have z1 := cell_block hSw 1 _ rfl; have z2 := cell_block hSw 2 _ rfl; go_simp; try (with_reducible rfl)
                  simp only [Act.put, List.setIfInBounds_toArray, List.set_cons_zero, List.set_cons_succ]
                  refine wpAnyH_ready (rs := [4]) (by kernel_rfl) (by simp) ?_
                  refine AllReadyH.cons rfl (fun K hK => ?_) AllReadyH.nil
                  go_simp
                  go_at_call 41
                  refine (unhide HL _ (unhide HO)).mono ?_
                  rintro e W9 ⟨rfl, hb9⟩
                  have HO := hide ((unhide HO).below hb9)
                  have Htb := hide ((hb9.block _ (lt_of_some (unhide Htb))).trans (unhide Htb))
                  have a0 := cell_block (unhide HO).hA 0 _ rfl
                  have a1 := cell_block (unhide HO).hA 1 _ rfl
                  have a2 := cell_block (unhide HO).hA 2 _ rfl
                  have f0 := frozen_block (unhide HO).hA 0
                  have f1 := frozen_block (unhide HO).hA 1
                  have f2 := frozen_block (unhide HO).hA 2
                  clear hb9
                  go_wp2_with fail
                  refine hK.out _ _ (unhide Htb) (fun hHeld => ?_)
                  clear hK K
                  refine take_dst9 (i := 6) (dst := some 93) (v := ?_) rfl rfl (by kernel_rfl) (by kernel_rfl) (by kernel_rfl) (fun _ _ _ h => h) (Or.inl ⟨by rfl, ?_⟩) hHeld ?_
                  rotate_left
                  · intro w hSw; have z0 := cell_block hSw 0 _ rfl; have z1 := cell_block hSw 1 _ rfl; have z2 := cell_block hSw 2 _ rfl; go_simp; try (with_reducible rfl)
                  simp only [Act.put, List.setIfInBounds_toArray, List.set_cons_zero, List.set_cons_succ]
                  refine wpAnyH_ready (rs := [7]) (by kernel_rfl) (by simp) ?_
                  refine AllReadyH.cons rfl (fun K hK => ?_) AllReadyH.nil
                  go_simp
                  refine hK.out _ _ (set3_block (unhide Htb) (by omega) _ _ _) (fun hHeld => ?_)
                  clear hK K
                  refine take_dst9 (i := 8) (dst := some 7) (v := ?_) rfl rfl (by kernel_rfl) (by kernel_rfl) (by kernel_rfl) (fun _ _ _ h => h) (Or.inl ⟨by rfl, ?_⟩) hHeld ?_
                  rotate_left
                  · intro w hSw; have z0 := cell_block hSw 0 _ rfl; have z1 := cell_block hSw 1 _ rfl; have z2 := cell_block hSw 2 _ rfl; go_simp; try (with_reducible rfl)
                  simp only [Act.put, List.setIfInBounds_toArray, List.set_cons_zero, List.set_cons_succ]
                  refine wpAnyH_done (by kernel_rfl) ?_ _
                  go_wp2
                  refine bodyPost_ret (v := .tuple #[.agg #[.int .i64 (kn : Int), .int .i64 (u : Int), .int .i64 (v : Int)], .bool false]) (by simp [results, Tryd.results44, go_sem, a0, a1, a2]) rfl ?_
                  exact ⟨_, false, rfl, set3_below (unhide HO).bel _ _ _, unhide HP⟩
            · have hjl' : (s.length : Int) ≤ jn := by omega
              have hjl2 : s.length ≤ jn := by omega
              have HP := hide (one_no (x := (0, 0, 0)) (ns := ns) (src := src) (s := s) (fun k f t h1 h2 h3 _ h5 => hjl (unhide Hch k f t h1 h2 h3 h5).2.2.1))
              have a0 := cell_block (unhide HO2).hA 0 _ rfl
              have a1 := cell_block (unhide HO2).hA 1 _ rfl
              have a2 := cell_block (unhide HO2).hA 2 _ rfl
              have f0 := frozen_block (unhide HO2).hA 0
              have f1 := frozen_block (unhide HO2).hA 1
              have f2 := frozen_block (unhide HO2).hA 2
              clear Hch
              go_wp2
              refine bodyPost_ret (v := .tuple #[.agg #[.int .i64 0, .int .i64 0, .int .i64 0], .bool false]) (by simp [results, Tryd.results44, go_sem, a0, a1, a2]) rfl ?_
              exact ⟨(0, 0, 0), false, rfl, set3_below (unhide HO2).bel _ _ _, unhide HP⟩
      · have hge' : (s.length : Int) ≤ j := by omega
        have hnlt' : ¬ (j : Int) < s.length := by omega
        clear hgo
        cases f2
        · go_wp2_with fail
          refine (unhide HF).mono ?_
          rintro e w1 ⟨rfl, rfl⟩
          have HP := hide (one_no (x := (0, 0, 0)) (ns := ns) (src := src) (s := s) (fun k f t h1 h2 h3 _ h5 => hlt (unhide Hch k f t h1 h2 h3 h5).1))
          have a0 := cell_block (unhide HO).hA 0 _ rfl
          have a1 := cell_block (unhide HO).hA 1 _ rfl
          have a2 := cell_block (unhide HO).hA 2 _ rfl
          have f0 := frozen_block (unhide HO).hA 0
          have f1 := frozen_block (unhide HO).hA 1
          have f2 := frozen_block (unhide HO).hA 2
          clear Hch
          go_wp2
          refine bodyPost_ret (v := .tuple #[.agg #[.int .i64 0, .int .i64 0, .int .i64 0], .bool false]) (by simp [results, Tryd.results44, go_sem, a0, a1, a2]) rfl ?_
          exact ⟨(0, 0, 0), false, rfl, set3_below (unhide HO).bel _ _ _, unhide HP⟩
        · go_wp2_with fail
          refine (unhide HF).mono ?_
          rintro e w1 ⟨rfl, rfl⟩
          have HP := hide (one_no (x := (0, 0, 0)) (ns := ns) (src := src) (s := s) (fun k f t h1 h2 h3 _ h5 => hlt (unhide Hch k f t h1 h2 h3 h5).1))
          have a0 := cell_block (unhide HO).hA 0 _ rfl
          have a1 := cell_block (unhide HO).hA 1 _ rfl
          have a2 := cell_block (unhide HO).hA 2 _ rfl
          have f0 := frozen_block (unhide HO).hA 0
          have f1 := frozen_block (unhide HO).hA 1
          have f2 := frozen_block (unhide HO).hA 2
          clear Hch
          go_wp2
          refine bodyPost_ret (v := .tuple #[.agg #[.int .i64 0, .int .i64 0, .int .i64 0], .bool false]) (by simp [results, Tryd.results44, go_sem, a0, a1, a2]) rfl ?_
          exact ⟨(0, 0, 0), false, rfl, set3_below (unhide HO).bel _ _ _, unhide HP⟩
end Go.Proofs.YtkckcnjamlpadaaDoor

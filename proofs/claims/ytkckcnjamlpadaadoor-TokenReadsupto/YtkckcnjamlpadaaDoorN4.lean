/- The document's Read, walked. -/
import Derived.Test.YtkckcnjamlpadaaDoorN3
import Derived.Test.YtkckcnjamlpadaaDoorR7
namespace Go.Proofs.YtkckcnjamlpadaaDoor
open Go.RowKit Go.Maps

def fewT (acc : List T3) : Prop := acc.length ≤ 65536
def noTen (s : List UInt8) (p e : Nat) : Prop := ∀ q, p ≤ q → q < e → s.getD q 0 ≠ 10
theorem ten_mem {s : List UInt8} {p e : Nat} (he : e ≤ s.length) (h : noTen s p e) : (10 : UInt8) ∉ (s.drop p).take (e - p) := fun hm => by
  obtain ⟨i, hi, e1⟩ := List.mem_iff_getElem.1 hm
  have hi' : i < e - p ∧ p + i < s.length := by simp at hi; omega
  apply h (p + i) (by omega) (by omega)
  rw [List.getD_eq_getElem?_getD, List.getElem?_eq_getElem hi'.2]
  simpa using e1
theorem okT_last {n sz : Nat} {acc : List T3} {x : T3} : okT n sz (acc ++ [x]) acc.length = takeB n sz (reach acc) x := by
  have e1 : reachAt (acc ++ [x]) acc.length = reach acc := by
    rw [← reach_take (by simp)]
    simp
  unfold okT
  rw [e1, List.getD_eq_getElem?_getD, List.getElem?_append_right (Nat.le_refl _)]
  simp
theorem rd_none {ns : List (List UInt8)} {src : ByteArray} {r : Int} {line : List UInt8} {x : T3} (hk : kindsB ns = true) (hr : 0 ≤ r) (h : OnePost ns src (line ++ [10]) x false) : tokOf ns src r line = none :=
  tokOf_no (fun y hy => by
    obtain ⟨k, f, t, rfl, h1, h2, h3, -⟩ := tok_split hk hr hy
    have := (h.2 k f t h1 h3 h2 (by have := hy.2.1; simp only at this; omega) (by rw [← hy.2.2]; rfl)).1
    cases this)
theorem rd_some {ns : List (List UInt8)} {src : ByteArray} {acc : List T3} {line : List UInt8} {x : T3} (hk : kindsB ns = true) (hsrc : src.size ≤ 9223372036854775807) (hr : 0 ≤ reach acc) (h : OnePost ns src (line ++ [10]) x true) : tokOf ns src (reach acc) line = if okT ns.length src.size (acc ++ [x]) acc.length then some x else none := by
  rw [okT_last]
  obtain ⟨k, f, t, rfl, h1, h2, h3, h4, h5⟩ := h.1 rfl
  cases hb : takeB ns.length src.size (reach acc) ((k : Int), (f : Int), (t : Int))
  · refine tokOf_no (fun y hy => ?_)
    obtain ⟨k', f', t', rfl, g1, g2, g3, -⟩ := tok_split hk hr hy
    have e := (h.2 k' f' t' g1 g3 g2 (by have := hy.2.1; simp only at this; omega) (by rw [← hy.2.2]; rfl)).2
    have h0 := hy.1
    rw [← e, hb] at h0
    cases h0
  · refine tokOf_yes hk hr hsrc ⟨hb, by simp only; omega, ?_⟩
    exact (List.append_cancel_right h5).symm

set_option maxHeartbeats 4000000 in
set_option maxRecDepth 100000 in
theorem rRead_any (a : Option Addr) (cap : Nat) (ns : List (List UInt8)) (src : ByteArray) (hsrc : src.size < 10995116277760) (s : List UInt8) (hs : s.length ≤ 281474976710656) (w : World) (hrow : SRow w a ns) (hE : Env w) :
    Calls Tryd.prog 19 #[.slice a ns.length cap, .string src, .string (bs s)] w fun e w' => ∃ v, e = .returned (.tuple #[v, .int .i64 (readT ns src s).2.1, .int .i64 (readT ns src s).2.2]) ∧ w'.ownsRow w.heap.size 55 3 v (readT ns src s).1.length (flat3 (readT ns src s).1) ∧ Below w.heap.size w w' := by
  obtain ⟨i0, hi, hz0, hz1, hz2⟩ := info_parts htok
  have hsz0 : (bs s).size = s.length := rfl
  have HK := hide (rKinds_any a cap ns w hrow)
  cases hk : kindsB ns
  · rw [show readT ns src s = ([], 70, 0) by unfold readT; rw [hk]; rfl]
    rw [hk] at HK
    clear hk hrow hE
    go_enter Tryd.func19, Tryd.ntmps19
    go_wp2_with fail
    refine (unhide HK).mono ?_
    rintro e w1 ⟨rfl, hb1⟩
    have Hb1 := hide hb1
    clear hb1
    go_wp2
    refine bodyPost_ret (v := .tuple #[.slice none 0 0, .int .i64 70, .int .i64 0]) (by simp [results, Tryd.results19, go_sem]) rfl ?_
    exact ⟨_, rfl, World.ownsRow_nil _ _ _ _, unhide Hb1⟩
  rw [show readT ns src s = rdF ns src s.length s [] by unfold readT; rw [hk]; rfl]
  rw [hk] at HK
  generalize hZ : rdF ns src s.length s [] = Z at *
  have HZ0 := hide hZ
  have Hrow := hide hrow; have HE := hide hE; have Hk := hide hk
  clear hZ hrow hE hk
  go_enter Tryd.func19, Tryd.ntmps19
  go_wp2_with fail
  refine (unhide HK).mono ?_
  rintro e w1 ⟨rfl, hb1⟩
  have Hb1 := hide hb1
  clear hb1 HK
  go_wp2
  go_loopw [9, 10] (fun v x wr => ∃ (acc : List T3) (p fuel : Nat), x = .int .i64 (p : Int) ∧ p ≤ s.length ∧ s.length ≤ p + fuel ∧ rdF ns src fuel (s.drop p) acc = Z ∧ 0 ≤ reach acc ∧ fewT acc ∧ wr.ownsRow w.heap.size 55 3 v acc.length (flat3 acc) ∧ Below w.heap.size w wr) (fun _ x _ => s.length - (intOf x).toNat)
  case atStart => exact ⟨[], 0, s.length, rfl, Nat.zero_le _, by omega, by rw [List.drop_zero]; exact unhide HZ0, by simp [reach, reachAt], by simp [fewT], World.ownsRow_nil _ _ _ _, unhide Hb1⟩
  case round =>
    obtain ⟨acc, p, fuel, rfl, hp, hfu, hz, hr, hal, hown, hbel⟩ := hrel
    obtain ⟨va, vc, rfl, -, -⟩ := trow_own hown
    have hal : acc.length ≤ 65536 := hal
    have hsz := hbel.size
    have Hz := hide hz; have Hown := hide hown; have Hbel := hide hbel
    clear hz hown hbel HZ0 Hb1
    by_cases hlt : p < s.length
    · have hlt' : (p : Int) < s.length := by omega
      have hne : s.drop p ≠ [] := by intro e; have := congrArg List.length e; simp at this; omega
      obtain ⟨g, rfl⟩ : ∃ g, fuel = g + 1 := ⟨fuel - 1, by omega⟩
      go_wp2
      go_loopw [11] (fun x W => ∃ e : Nat, x = .int .i64 (e : Int) ∧ p ≤ e ∧ e ≤ s.length ∧ noTen s p e ∧ W.ownsRow w.heap.size 55 3 (.slice va acc.length vc) acc.length (flat3 acc) ∧ Below w.heap.size w W) (fun x _ => s.length - (intOf x).toNat)
      case atStart => exact ⟨p, rfl, Nat.le_refl _, hp, fun q h1 h2 => absurd h2 (by omega), unhide Hown, unhide Hbel⟩
      case round =>
        obtain ⟨e, rfl, hpe, hel, hnt, hown, hbel⟩ := hrel
        have hsz := hbel.size
        have Hown := hide hown; have Hbel := hide hbel
        clear hown hbel
        have hpe' : (p : Int) ≤ e := by omega
        have hel' : (e : Int) ≤ s.length := by omega
        have Hnt := hide hnt
        clear hnt
        by_cases hes : e < s.length
        · have hes' : (e : Int) < s.length := by omega
          have ik := index_bt (bs s) e hes
          have hbt := bt_drop s 0 e (by omega)
          rw [Nat.zero_add, List.drop_zero] at hbt
          by_cases hc : bt (bs s) e = 10
          · have hge : s.getD e 0 = 10 := UInt8.toNat_inj.1 (by rw [← hbt, hc]; rfl)
            have hcut : s.drop p = (s.drop p).take (e - p) ++ 10 :: s.drop (e + 1) := by
              conv => lhs; rw [← List.take_append_drop (e - p) (s.drop p)]
              rw [List.drop_drop, show p + (e - p) = e by omega, List.drop_eq_getElem_cons hes]
              rw [List.getD_eq_getElem?_getD, List.getElem?_eq_getElem hes] at hge
              simp only [Option.getD_some] at hge
              rw [hge]
            have hnm := ten_mem hel (unhide Hnt)
            have hcl := cutL_of _ (s.drop (e + 1)) hnm
            rw [← hcut] at hcl
            have hpc : (s.drop p).take (e + 1 - p) = (s.drop p).take (e - p) ++ [10] := by
              rw [show e + 1 - p = (e - p) + 1 by omega, take_snoc8 _ _ (by simp; omega)]
              rw [List.getD_eq_getElem?_getD, List.getElem?_drop, show p + (e - p) = e by omega, ← List.getD_eq_getElem?_getD, hge]
            have HOne := hide (one_any a cap ns src hsrc ((s.drop p).take (e + 1 - p)) (by simp; omega) (unhide Hk) wr (srow_below (unhide Hrow) (Nat.le_refl _) (unhide Hbel)) (env_below (unhide HE) (unhide Hbel)))
            rw [← extract_bs s p (e + 1) (by omega), hpc] at HOne
            rw [hc] at ik
            have Hcl := hide hcl
            generalize (s.drop p).take (e - p) = line at *
            clear hcut hnm hpc hge hbt hc hcl
            have hp1 : (p : Int) ≤ (e : Int) + 1 := by omega
            have he1 : (e : Int) + 1 ≤ s.length := by omega
            go_wp2_with fail
            refine (unhide HOne).mono ?_
            rintro e' W2 ⟨x, ok, rfl, hb2, hpost⟩
            have Hpost := hide hpost
            clear hpost
            cases ok
            · have HZ := hide (show ([], 5, (acc.length : Int)) = Z by rw [← unhide Hz, rdF_wrong hne (unhide Hcl) (rd_none (unhide Hk) hr (unhide Hpost))])
              clear Hpost
              have O1 := hide (ownsRow_below (unhide Hown) hb2 (Nat.le_refl _))
              have Hb2 := hide ((unhide Hbel).trans (hb2.mono hsz))
              have hs2 := (unhide Hb2).size
              clear hb2 HOne
              obtain ⟨x0, x1, x2⟩ := x
              simp only
              go_wp2_with (at_builtin; refine wpList_append_own _ rfl _ _ 23 rfl w.heap.size 55 i0 (.agg #[.int .i64 0, .int .i64 0, .int .i64 0]) 3 24 Tryd.underlying23 hi hz0 hz1 hz2 rfl (by decide) _ _ _ rfl (((unhide O1).alloc _).alloc _) ⟨W2.heap.size + 1, 0, none⟩ 1 1 [.int .i64 x0, .int .i64 x1, .int .i64 x2] rfl rfl ?zz1c1 ?zz1c2 ?zz1c3 ?zz1c4 ?zz1c5 ?_)
              case zz1c1 =>
                have h := cells_three_new (W2.alloc (.cells #[.int .i64 x0, .int .i64 x1, .int .i64 x2] 55)) (.int .i64 x0) (.int .i64 x1) (.int .i64 x2) 55
                rw [show (W2.alloc (.cells #[.int .i64 x0, .int .i64 x1, .int .i64 x2] 55)).heap.size = W2.heap.size + 1 by simp] at h
                exact h
              case zz1c2 => first | exact ⟨rfl, rfl, rfl⟩ | (intro u hu; simp at hu; rcases hu with rfl | rfl | rfl <;> rfl)
              case zz1c3 => unfold maxLen; omega
              case zz1c4 => omega
              case zz1c5 => first | omega | (simp; omega)
              intro v' W3 hown' hgrow _
              have Hb3 := hide ((((unhide Hb2).alloc hs2 _).alloc (by simp; omega) _).grown hgrow (by simp; omega) (fun k hk => ((unhide O1).lt k hk).1))
              have hO3 : W3.ownsRow w.heap.size 55 3 v' (acc ++ [(x0, x1, x2)]).length (flat3 (acc ++ [(x0, x1, x2)])) := by
                rw [flat3_snoc, List.length_append]; exact hown'
              obtain ⟨ra, rc, rfl, htr3, -⟩ := trow_own hO3
              have HO3 := hide hO3
              rw [show (acc ++ [(x0, x1, x2)]).length = acc.length + 1 by simp]
              clear hown' hgrow hO3
              go_wp2
              refine bodyPost_ret (v := .tuple #[.slice none 0 0, .int .i64 5, .int .i64 (acc.length : Int)]) (by simp [results, Tryd.results19, go_sem]) rfl ?_
              exact ⟨.slice none 0 0, by rw [← unhide HZ], by rw [← unhide HZ]; exact World.ownsRow_nil _ _ _ _, unhide Hb3⟩
            · have Htk := hide (rd_some (acc := acc) (unhide Hk) (by omega) hr (unhide Hpost))
              have hnn : 0 ≤ x.2.2 := by obtain ⟨k, f, t, e, -⟩ := (unhide Hpost).1 rfl; rw [e]; simp only; omega
              clear Hpost
              by_cases hm : acc.length = 65536
              · have HZ := hide (show ([], 5, (acc.length : Int)) = Z by
                  have htk := unhide Htk
                  rw [← unhide Hz]
                  cases hb : okT ns.length src.size (acc ++ [x]) acc.length
                  · rw [hb] at htk; rw [rdF_wrong hne (unhide Hcl) htk]
                  · rw [hb] at htk; rw [rdF_many hne (unhide Hcl) htk hm])
                have hm' : (65536 : Int) ≤ acc.length := by omega
                have hm2 : 65536 ≤ acc.length := by omega
                clear Htk hm
                have O1 := hide (ownsRow_below (unhide Hown) hb2 (Nat.le_refl _))
                have Hb2 := hide ((unhide Hbel).trans (hb2.mono hsz))
                have hs2 := (unhide Hb2).size
                clear hb2 HOne
                obtain ⟨x0, x1, x2⟩ := x
                simp only
                go_wp2_with (at_builtin; refine wpList_append_own _ rfl _ _ 23 rfl w.heap.size 55 i0 (.agg #[.int .i64 0, .int .i64 0, .int .i64 0]) 3 24 Tryd.underlying23 hi hz0 hz1 hz2 rfl (by decide) _ _ _ rfl (((unhide O1).alloc _).alloc _) ⟨W2.heap.size + 1, 0, none⟩ 1 1 [.int .i64 x0, .int .i64 x1, .int .i64 x2] rfl rfl ?zz2c1 ?zz2c2 ?zz2c3 ?zz2c4 ?zz2c5 ?_)
                case zz2c2 => first | exact ⟨rfl, rfl, rfl⟩ | (intro u hu; simp at hu; rcases hu with rfl | rfl | rfl <;> rfl)
                case zz2c3 => unfold maxLen; omega
                case zz2c4 => omega
                case zz2c5 => first | omega | (simp; omega)
                intro v' W3 hown' hgrow _
                have Hb3 := hide ((((unhide Hb2).alloc hs2 _).alloc (by simp; omega) _).grown hgrow (by simp; omega) (fun k hk => ((unhide O1).lt k hk).1))
                have hO3 : W3.ownsRow w.heap.size 55 3 v' (acc ++ [(x0, x1, x2)]).length (flat3 (acc ++ [(x0, x1, x2)])) := by
                  rw [flat3_snoc, List.length_append]; exact hown'
                obtain ⟨ra, rc, rfl, htr3, -⟩ := trow_own hO3
                have HO3 := hide hO3
                rw [show (acc ++ [(x0, x1, x2)]).length = acc.length + 1 by simp]
                clear hown' hgrow hO3
                go_wp2
                refine bodyPost_ret (v := .tuple #[.slice none 0 0, .int .i64 5, .int .i64 (acc.length : Int)]) (by simp [results, Tryd.results19, go_sem]) rfl ?_
                exact ⟨.slice none 0 0, by rw [← unhide HZ], by rw [← unhide HZ]; exact World.ownsRow_nil _ _ _ _, unhide Hb3⟩
              · have hm' : ¬ (65536 : Int) ≤ acc.length := by omega
                have hm2 : ¬ 65536 ≤ acc.length := by omega
                have O1 := hide (ownsRow_below (unhide Hown) hb2 (Nat.le_refl _))
                have Hb2 := hide ((unhide Hbel).trans (hb2.mono hsz))
                have hs2 := (unhide Hb2).size
                clear hb2 HOne
                obtain ⟨x0, x1, x2⟩ := x
                simp only
                go_wp2_with (at_builtin; refine wpList_append_own _ rfl _ _ 23 rfl w.heap.size 55 i0 (.agg #[.int .i64 0, .int .i64 0, .int .i64 0]) 3 24 Tryd.underlying23 hi hz0 hz1 hz2 rfl (by decide) _ _ _ rfl (((unhide O1).alloc _).alloc _) ⟨W2.heap.size + 1, 0, none⟩ 1 1 [.int .i64 x0, .int .i64 x1, .int .i64 x2] rfl rfl ?zz3c1 ?zz3c2 ?zz3c3 ?zz3c4 ?zz3c5 ?_)
                case zz3c2 => first | exact ⟨rfl, rfl, rfl⟩ | (intro u hu; simp at hu; rcases hu with rfl | rfl | rfl <;> rfl)
                case zz3c3 => unfold maxLen; omega
                case zz3c4 => omega
                case zz3c5 => first | omega | (simp; omega)
                intro v' W3 hown' hgrow _
                have Hb3 := hide ((((unhide Hb2).alloc hs2 _).alloc (by simp; omega) _).grown hgrow (by simp; omega) (fun k hk => ((unhide O1).lt k hk).1))
                have hO3 : W3.ownsRow w.heap.size 55 3 v' (acc ++ [(x0, x1, x2)]).length (flat3 (acc ++ [(x0, x1, x2)])) := by
                  rw [flat3_snoc, List.length_append]; exact hown'
                obtain ⟨ra, rc, rfl, htr3, -⟩ := trow_own hO3
                have HO3 := hide hO3
                rw [show (acc ++ [(x0, x1, x2)]).length = acc.length + 1 by simp]
                clear hown' hgrow hO3
                have HR := hide (right_any ns.length src ra rc (acc ++ [(x0, x1, x2)]) (by simp; omega) acc.length (by simp) W3 htr3)
                rw [show (acc ++ [(x0, x1, x2)]).length = acc.length + 1 by simp] at HR
                clear htr3
                cases hrt : okT ns.length src.size (acc ++ [(x0, x1, x2)]) acc.length
                · have htk := unhide Htk
                  rw [hrt] at htk HR
                  have HZ := hide (show ([], 5, (acc.length : Int)) = Z by rw [← unhide Hz, rdF_wrong hne (unhide Hcl) htk])
                  clear hrt htk Htk
                  go_wp2_with fail
                  refine (unhide HR).mono ?_
                  rintro e' W4 ⟨rfl, hb4⟩
                  have Hb3 := hide ((unhide Hb3).trans (hb4.mono (unhide Hb3).size))
                  clear hb4 HR
                  go_wp2
                  refine bodyPost_ret (v := .tuple #[.slice none 0 0, .int .i64 5, .int .i64 (acc.length : Int)]) (by simp [results, Tryd.results19, go_sem]) rfl ?_
                  exact ⟨.slice none 0 0, by rw [← unhide HZ], by rw [← unhide HZ]; exact World.ownsRow_nil _ _ _ _, unhide Hb3⟩
                · have htk := unhide Htk
                  rw [hrt] at htk HR
                  have HZ2 := hide (show rdF ns src g (s.drop (e + 1)) (acc ++ [(x0, x1, x2)]) = Z by rw [← unhide Hz, rdF_step hne (unhide Hcl) htk hm])
                  clear hrt htk Htk
                  go_wp2_with fail
                  refine (unhide HR).mono ?_
                  rintro e' W4 ⟨rfl, hb4⟩
                  have HO4 := hide (ownsRow_below (unhide HO3) hb4 (Nat.le_refl _))
                  have Hb4 := hide ((unhide Hb3).trans (hb4.mono (unhide Hb3).size))
                  have Hm3 := hide (show fewT (acc ++ [(x0, x1, x2)]) by unfold fewT; simp; omega)
                  have Hre := hide (show 0 ≤ reach (acc ++ [(x0, x1, x2)]) by rw [reach_snoc]; exact hnn)
                  have Hvo := hide (show W4.ownsRow w.heap.size 55 3 (.slice ra (acc.length + 1) rc) (acc ++ [(x0, x1, x2)]).length (flat3 (acc ++ [(x0, x1, x2)])) by have := unhide HO4; simpa using this)
                  have hd : decide ((65536 : Int) ≤ (acc.length : Int)) = false := decide_eq_false (Int.not_le.2 hm')
                  rw [hd]
                  clear hb4 HR hd hm hm' hm2 hal
                  go_wp2
                  go_roundw
                  case rel => exact ⟨acc ++ [(x0, x1, x2)], e + 1, g, by go_num, by omega, by omega, unhide HZ2, unhide Hre, unhide Hm3, unhide Hvo, unhide Hb4⟩
                  case measure => simp [intOf]; omega
          · have Hn2 := hide (show noTen s p (e + 1) from fun q h1 h2 => by
              by_cases e3 : q = e
              · subst e3; intro e2; apply hc; rw [hbt, e2]; rfl
              · exact unhide Hnt q h1 (by omega))
            clear hbt
            generalize bt (bs s) e = c at *
            have hc' : ((c : Int) == 10) = false := by rw [beq_eq_false_iff_ne]; omega
            clear hc
            go_wp2
            go_roundw
            case rel => exact ⟨e + 1, by go_num, by omega, by omega, unhide Hn2, unhide Hown, unhide Hbel⟩
            case measure => simp [intOf]; omega
        · obtain rfl : e = s.length := by omega
          have hes' : ¬ (s.length : Int) < s.length := by omega
          have hcl : cutL 10 (s.drop p) = none := by
            rw [cutL_none]
            have := ten_mem (Nat.le_refl _) (unhide Hnt)
            rwa [List.take_of_length_le (by simp)] at this
          have hnm := ten_mem (Nat.le_refl _) (unhide Hnt)
          have HZ := hide (show ([], 5, (acc.length : Int)) = Z by rw [← unhide Hz, rdF_open hne hcl])
          have HOne := hide (one_any a cap ns src hsrc ((s.drop p).take (s.length - p)) (by simp; omega) (unhide Hk) wr (srow_below (unhide Hrow) (Nat.le_refl _) (unhide Hbel)) (env_below (unhide HE) (unhide Hbel)))
          rw [← extract_bs s p s.length hpe] at HOne
          clear hcl hes
          go_wp2_with fail
          refine (unhide HOne).mono ?_
          rintro e W2 ⟨x, ok, rfl, hb2, hpost⟩
          obtain rfl : ok = false := by
            cases ok
            · rfl
            · obtain ⟨k, f, t, -, -, -, -, -, h5⟩ := hpost.1 rfl
              exact absurd (by rw [h5]; simp) hnm
          clear hpost hnm
          have O1 := hide (ownsRow_below (unhide Hown) hb2 (Nat.le_refl _))
          have Hb2 := hide ((unhide Hbel).trans (hb2.mono hsz))
          have hs2 := (unhide Hb2).size
          clear hb2 HOne
          obtain ⟨x0, x1, x2⟩ := x
          simp only
          go_wp2_with (at_builtin; refine wpList_append_own _ rfl _ _ 23 rfl w.heap.size 55 i0 (.agg #[.int .i64 0, .int .i64 0, .int .i64 0]) 3 24 Tryd.underlying23 hi hz0 hz1 hz2 rfl (by decide) _ _ _ rfl (((unhide O1).alloc _).alloc _) ⟨W2.heap.size + 1, 0, none⟩ 1 1 [.int .i64 x0, .int .i64 x1, .int .i64 x2] rfl rfl ?zz4c1 ?zz4c2 ?zz4c3 ?zz4c4 ?zz4c5 ?_)
          case zz4c1 =>
            have h := cells_three_new (W2.alloc (.cells #[.int .i64 x0, .int .i64 x1, .int .i64 x2] 55)) (.int .i64 x0) (.int .i64 x1) (.int .i64 x2) 55
            rw [show (W2.alloc (.cells #[.int .i64 x0, .int .i64 x1, .int .i64 x2] 55)).heap.size = W2.heap.size + 1 by simp] at h
            exact h
          case zz4c2 => first | exact ⟨rfl, rfl, rfl⟩ | (intro u hu; simp at hu; rcases hu with rfl | rfl | rfl <;> rfl)
          case zz4c3 => unfold maxLen; omega
          case zz4c4 => omega
          case zz4c5 => first | omega | (simp; omega)
          intro v' W3 hown' hgrow _
          have Hb3 := hide ((((unhide Hb2).alloc hs2 _).alloc (by simp; omega) _).grown hgrow (by simp; omega) (fun k hk => ((unhide O1).lt k hk).1))
          have hO3 : W3.ownsRow w.heap.size 55 3 v' (acc ++ [(x0, x1, x2)]).length (flat3 (acc ++ [(x0, x1, x2)])) := by
            rw [flat3_snoc, List.length_append]; exact hown'
          obtain ⟨ra, rc, rfl, htr3, -⟩ := trow_own hO3
          have HO3 := hide hO3
          rw [show (acc ++ [(x0, x1, x2)]).length = acc.length + 1 by simp]
          clear hown' hgrow hO3
          go_wp2
          refine bodyPost_ret (v := .tuple #[.slice none 0 0, .int .i64 5, .int .i64 (acc.length : Int)]) (by simp [results, Tryd.results19, go_sem]) rfl ?_
          exact ⟨.slice none 0 0, by rw [← unhide HZ], by rw [← unhide HZ]; exact World.ownsRow_nil _ _ _ _, unhide Hb3⟩
    · obtain rfl : p = s.length := by omega
      have hz := unhide Hz
      rw [List.drop_length, rdF_nil] at hz
      subst hz
      go_wp2
      refine bodyPost_ret (v := .tuple #[.slice va acc.length vc, .int .i64 0, .int .i64 0]) (by simp [results, Tryd.results19, go_sem]) rfl ?_
      exact ⟨_, rfl, unhide Hown, unhide Hbel⟩
end Go.Proofs.YtkckcnjamlpadaaDoor

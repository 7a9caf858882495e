/- The law WorkSets, walked. -/
import Derived.Test.YtdpphjedjhjdgaaDoorDB
import Derived.Deep.RegionHeld3
namespace Go.Proofs.YtdpphjedjhjdgaaDoor
open Go.RowKit Go.Maps

/-- 'wpAnyH_take' with the slot that is written told outright. -/
theorem take_dst {P : Program} {md : Region.Mode} {ops : Array Oper} {Q : Exit → Act → World → Prop} {S : World → Prop} {i : Nat} {oi : Oper} {v : Value} {dst : Option Nat} {fuel : Nat} {listed : Array Bool} {a : Act} {w : World} (hi : ops[i]? = some oi) (hd : oi.dst = dst)
    (hs : Region.noSelect ops = true) (hf : Region.free md ops listed i = true) (hr : (Region.ready md ops listed).contains i = true)
    (hQ : ∀ c a w, Q (.panic c) (a.put dst v) w → Q (.panic c) a w) (hy : YieldsIf P ops S oi v a) (hS : S w)
    (h : wpAnyH P md ops Q S fuel (listed.setIfInBounds i true) (a.put dst v) w) : wpAnyH P md ops Q S (fuel + 1) listed a w := by
  subst hd; exact wpAnyH_take hi hs hf hr hQ hy hS h
theorem wpAnyH_mono {P : Program} {md : Region.Mode} {ops : Array Oper} {Q : Exit → Act → World → Prop} {S S' : World → Prop} (hS : ∀ w, S' w → S w) : ∀ (fuel : Nat) (listed : Array Bool) (a : Act) (w : World), wpAnyH P md ops Q S' fuel listed a w → wpAnyH P md ops Q S fuel listed a w
  | 0, _, _, _, h => h
  | fuel + 1, _, _, _, h => ⟨h.1, fun i hi => wpOp_mono (fun a' w' h' => ⟨hS w' h'.1, wpAnyH_mono hS fuel _ a' w' h'.2⟩) (h.2 i hi)⟩
theorem tab2 {w W : World} (h : Tab w) (hb : Below w.heap.size w W) (h0 : 0 < w.heap.size) : Tab W := fun j hj => (hb.cell (p := ⟨0, j, none⟩) h0).trans (h j hj)
theorem own_nrow2 {w : World} {B n c : Nat} {a : Option Addr} {L : List Int} (h : w.ownsRow B 3 1 (.slice a n c) n (intV L)) (hn : n = L.length) : NRow w a L := by
  subst hn
  by_cases h0 : L = []
  · exact .inl h0
  · obtain ⟨g, c', e, -⟩ := own_pos h (List.length_pos_iff.2 h0)
    simp only [Value.slice.injEq] at e
    obtain ⟨rfl, -, rfl⟩ := e
    exact own_nrow h

/-- An act of a script. -/
structure Sc where
  kd : Int
  wh : Int
  n : Int
  a : Option Addr
  c : Nat
  l : List Int
def sc0 : Sc := ⟨0, 0, 0, none, 0, []⟩
/-- A script lies there. -/
def SRow (w : World) (a : Option Addr) (ss : List Sc) : Prop := (ss = [] ∨ ∃ g off, a = some ⟨g, off, none⟩ ∧ g < w.heap.size ∧ ∀ j, j < ss.length → w.cell? ⟨g, off + j * 4, none⟩ = some (.int .i64 (ss.getD j sc0).kd) ∧ w.cell? ⟨g, off + j * 4 + 1, none⟩ = some (.int .i64 (ss.getD j sc0).wh) ∧ w.cell? ⟨g, off + j * 4 + 2, none⟩ = some (.int .i64 (ss.getD j sc0).n) ∧ w.cell? ⟨g, off + j * 4 + 3, none⟩ = some (.slice (ss.getD j sc0).a (ss.getD j sc0).l.length (ss.getD j sc0).c)) ∧ ∀ s ∈ ss, s.l.length ≤ 281474976710656 ∧ NRow w s.a s.l
theorem two_off {w W W' : World} {Bs Br : Nat} (h : Two w W Bs Br) (hb : Below W.heap.size W W') : Two w W' Bs Br := by
  obtain ⟨B0, B1, O0, O1, bl0, bl1, v0, v1, h⟩ := h
  exact ⟨_, _, _, _, _, _, _, _, inv_off h hb⟩
theorem two_bel {w W : World} {Bs Br : Nat} (h : Two w W Bs Br) : Below w.heap.size w W := by
  obtain ⟨B0, B1, O0, O1, bl0, bl1, v0, v1, h⟩ := h
  exact h.below
/-- The two sets, and the document's, are laid. -/
theorem mk_two {w W3 W8 : World} {Bx By : Nat} {O1 O2 : Nat → Prop} {bl cl : List Blk} (hb : Below w.heap.size w W3) (hx : SetOk W3 Bx O1 bl (cnt 1048576 (hasB bl))) (hy : SetOk W3 By O2 cl (cnt 1048576 (hasB cl))) (hd : ∀ k, O1 k → ¬ O2 k) (h1 : ∀ k, O1 k → w.heap.size ≤ k) (h2 : ∀ k, O2 k → w.heap.size ≤ k)
    (hb8 : Below (W3.alloc (.cells #[.pointer (some ⟨Bx, 0, none⟩), .pointer (some ⟨By, 0, none⟩)] 30)).heap.size (W3.alloc (.cells #[.pointer (some ⟨Bx, 0, none⟩), .pointer (some ⟨By, 0, none⟩)] 30)) W8) {v0 v1 : Value} (r0 : RowI W8 0 v0 (allL bl)) (r1 : RowI W8 0 v1 (allL cl)) : Two w (W8.alloc (.cells #[v0, v1] 35)) W3.heap.size W8.heap.size := by
  obtain ⟨Q1, t1, q1⟩ := set_tight hx rfl
  obtain ⟨Q2, t2, q2⟩ := set_tight hy rfl
  have b4 : Below W3.heap.size W3 (W3.alloc (.cells #[.pointer (some ⟨Bx, 0, none⟩), .pointer (some ⟨By, 0, none⟩)] 30)) := (Below.refl _ _).alloc (Nat.le_refl _) _
  have b38 : Below W3.heap.size W3 W8 := b4.trans (hb8.mono (by simp))
  have b9 : Below W8.heap.size W8 (W8.alloc (.cells #[v0, v1] 35)) := (Below.refl _ _).alloc (Nat.le_refl _) _
  have b39 := b38.trans (b9.mono b38.size)
  have hs8 : W8.heap[W3.heap.size]? = _ := (hb8.block _ (by simp)).trans (MapKept.heap_alloc W3 (.cells #[.pointer (some ⟨Bx, 0, none⟩), .pointer (some ⟨By, 0, none⟩)] 30)).1
  exact ⟨Bx, By, Q1, Q2, bl, cl, v0, v1, hb.trans (b39.mono hb.size), (b9.block _ (lt_of_some hs8)).trans hs8, (MapKept.heap_alloc W8 _).1, hb.size, Nat.le_trans hb.size b38.size, tset_below t1 b39, tset_below t2 b39, fun k a b => hd k (q1 k a) (q2 k b), fun k a => h1 k (q1 k a), fun k a => h2 k (q2 k a), rowI_below r0 b9, rowI_below r1 b9⟩

set_option maxHeartbeats 8000000 in
set_option maxRecDepth 100000 in
theorem sets_yes (aa ab : Option Addr) (ca cb : Nat) (l m : List Int) (hl : l.length ≤ 281474976710656) (hm : m.length ≤ 281474976710656) (hnl : numsB l = true) (hnm : numsB m = true) (asc : Option Addr) (cs : Nat) (ss : List Sc) (hss : ss.length ≤ 281474976710656) (w : World) (hra : NRow w aa l) (hrb : NRow w ab m) (hrs : SRow w asc ss) (ht : Tab w) (h0 : 0 < w.heap.size) :
    Calls Tryd.prog 3 #[.slice aa l.length ca, .slice ab m.length cb, .slice asc ss.length cs] w fun e w' => e = .returned (.bool true) ∧ Below w.heap.size w w' := by
  have HN1 := hide (new_nums 1048576 rfl aa ca l hl hnl w hra)
  have Hra := hide hra; have Hrb := hide hrb; have Ht := hide ht; have Hnl := hide hnl; have Hnm := hide hnm; have Hrs := hide hrs
  clear hra hrb ht hnl hnm hrs
  go_enter Tryd.func3, Tryd.ntmps3
  go_wp2_with fail
  refine (unhide HN1).mono ?_
  rintro e W1 ⟨rfl, hb1, bl, O1, hok1, hO1, hh1⟩
  have HN2 := hide (new_nums 1048576 rfl ab cb m hm (unhide Hnm) W1 (nrow_below (unhide Hrb) hb1 (Nat.le_refl _)))
  have Hb1 := hide hb1; have Hok1 := hide hok1; have HO1 := hide hO1; have Hh1 := hide hh1
  have hz1 := hb1.size
  clear hb1 hok1 hO1 hh1 HN1
  go_wp2_with fail
  refine (unhide HN2).mono ?_
  rintro e W2 ⟨rfl, hb2, cl, O2, hok2, hO2, hh2⟩
  have hx2 := ok_below (unhide Hok1) hb2
  have hbw2 := (unhide Hb1).trans (hb2.mono hz1)
  have hd12 : ∀ k, O1 k → ¬ O2 k := fun k h1 h2 => by have := hO2 k h2; have := (unhide Hok1).is.lt k h1; omega
  have hlo2 : ∀ k, O2 k → w.heap.size ≤ k := fun k h2 => by have := hO2 k h2; omega
  have HNa := hide (refNumbers_any aa ca l hl W2 (nrow_below (unhide Hra) hbw2 (Nat.le_refl _)))
  have HNb := hide (refNumbers_any ab cb m hm W2 (nrow_below (unhide Hrb) hbw2 (Nat.le_refl _)))
  rw [unhide Hnl] at HNa
  rw [unhide Hnm] at HNb
  have HAl := hide (alive_any W2)
  have Hx2 := hide hx2; have Hy2 := hide hok2; have Hbw2 := hide hbw2; have Hd12 := hide hd12; have Hlo2 := hide hlo2; have Hh2 := hide hh2
  clear hx2 hok2 hbw2 hd12 hlo2 hh2 hb2 hO2 HN2 Hok1 Hb1
  go_wp2_with fail
  refine (unhide HNa).mono ?_
  rintro e W9 ⟨rfl, hw9⟩
  obtain rfl := hw9.symm
  go_wp2_with fail
  refine (unhide HNb).mono ?_
  rintro e W9 ⟨rfl, hw9⟩
  obtain rfl := hw9.symm
  go_wp2_with fail
  refine (unhide HNa).mono ?_
  rintro e W9 ⟨rfl, hw9⟩
  obtain rfl := hw9.symm
  go_wp2_with fail
  refine (unhide HAl).mono ?_
  rintro e W3 ⟨rfl, hb3⟩
  obtain ⟨Bx, hBx⟩ : ∃ Bx, Bx = w.heap.size := ⟨_, rfl⟩
  obtain ⟨By, hBy⟩ : ∃ By, By = W1.heap.size := ⟨_, rfl⟩
  have hx3 : SetOk W3 Bx O1 bl (cnt 1048576 (hasB bl)) := by rw [hBx]; exact ok_below (unhide Hx2) hb3
  have hy3 : SetOk W3 By O2 cl (cnt 1048576 (hasB cl)) := by rw [hBy]; exact ok_below (unhide Hy2) hb3
  rw [← hBx, ← hBy]
  have hbw3 := (unhide Hbw2).trans (hb3.mono (unhide Hbw2).size)
  have hb4 : Below W3.heap.size W3 (W3.alloc (.cells #[.pointer (some ⟨Bx, 0, none⟩), .pointer (some ⟨By, 0, none⟩)] 30)) := (Below.refl _ _).alloc (Nat.le_refl _) _
  have hbw4 := hbw3.trans (hb4.mono hbw3.size)
  have HA1 := hide (refAdd_gen (.slice none 0 0) [] List.Pairwise.nil (by simp) aa ca l hl (unhide Hnl) _ (.inl ⟨rfl, rfl⟩) (nrow_below (unhide Hra) hbw4 (Nat.le_refl _)))
  have Hx3 := hide hx3; have Hy3 := hide hy3; have Hbw3 := hide hbw3; have Hbw4 := hide hbw4
  clear hx3 hy3 hbw3 hbw4 hb4 hb3 HNa HNb HAl Hx2 Hy2 Hbw2 hBx hBy
  go_wp2_with fail
  obtain ⟨W4, hW4⟩ : ∃ W4, W4 = W3.alloc (.cells #[.pointer (some ⟨Bx, 0, none⟩), .pointer (some ⟨By, 0, none⟩)] 30) := ⟨_, rfl⟩
  have hs4 : W4.heap.size = W3.heap.size + 1 := by rw [hW4, World.size_alloc]
  rw [← hW4] at HA1 Hbw4 ⊢
  have HW4 := hide hW4
  clear hW4
  refine (unhide HA1).mono ?_
  rintro e W5 ⟨v5, L5, rfl, hr5, hu5, hm5, hb5⟩
  obtain ⟨va5, vc5, rfl⟩ := rowI_form hr5
  have hL5 : L5 = allL bl := all_is (unhide Hx3).is.up (unhide Hx3).fit hu5 (fun z => by rw [hm5, unhide Hh1 z]; simp)
  subst hL5
  have hb6 : Below W4.heap.size W4 (W5.alloc (.cells #[.slice va5 (allL bl).length vc5] 32)) := hb5.alloc hb5.size _
  have hbw6 := (unhide Hbw4).trans (hb6.mono (unhide Hbw4).size)
  have HA2 := hide (refAdd_gen (.slice none 0 0) [] List.Pairwise.nil (by simp) ab cb m hm (unhide Hnm) _ (.inl ⟨rfl, rfl⟩) (nrow_below (unhide Hrb) hbw6 (Nat.le_refl _)))
  have hbox6 := (MapKept.heap_alloc W5 (.cells #[.slice va5 (allL bl).length vc5] 32)).1
  have hr6 := rowI_below hr5 ((Below.refl _ W5).alloc (Nat.le_refl _) (.cells #[.slice va5 (allL bl).length vc5] 32))
  have Hr6 := hide hr6; have Hbox6 := hide hbox6; have Hb6 := hide hb6; have Hbw6 := hide hbw6
  clear hr5 hu5 hm5 hb5 hb6 hbw6 hbox6 hr6 HA1
  generalize (((allL bl).length : Int) - ([] : List Int).length) = k5
  go_wp2_with fail
  obtain ⟨W6, hW6⟩ : ∃ W6, W6 = W5.alloc (.cells #[.slice va5 (allL bl).length vc5] 32) := ⟨_, rfl⟩
  rw [← hW6] at HA2 Hr6 Hbox6 Hb6 Hbw6 ⊢
  clear hW6
  refine (unhide HA2).mono ?_
  rintro e W7 ⟨v7, L7, rfl, hr7, hu7, hm7, hb7⟩
  obtain ⟨va7, vc7, rfl⟩ := rowI_form hr7
  have hL7 : L7 = allL cl := all_is (unhide Hy3).is.up (unhide Hy3).fit hu7 (fun z => by rw [hm7, unhide Hh2 z]; simp)
  subst hL7
  have hb8 : Below W6.heap.size W6 (W7.alloc (.cells #[.slice va7 (allL cl).length vc7] 32)) := hb7.alloc hb7.size _
  have hbox8 := (hb8.block _ (lt_of_some (unhide Hbox6))).trans (unhide Hbox6)
  have hbox8' := (MapKept.heap_alloc W7 (.cells #[.slice va7 (allL cl).length vc7] 32)).1
  have h48 : Below W4.heap.size W4 (W7.alloc (.cells #[.slice va7 (allL cl).length vc7] 32)) := (unhide Hb6).trans (hb8.mono (unhide Hb6).size)
  rw [unhide HW4] at h48
  have htwo := mk_two (unhide Hbw3) (unhide Hx3) (unhide Hy3) (unhide Hd12) (unhide HO1) (unhide Hlo2) h48 (rowI_below (unhide Hr6) hb8) (rowI_below hr7 ((Below.refl _ W7).alloc (Nat.le_refl _) _))
  have x12 := cell_block hbox8 0 _ rfl
  have x15 := cell_block hbox8' 0 _ rfl
  rw [World.size_alloc] at htwo
  have Htwo := hide htwo
  clear hr7 hu7 hm7 hb7 hb8 hbox8 hbox8' h48 htwo HA2 Hr6 Hbox6 Hb6 Hbw6 Hbw4 Hx3 Hy3 Hd12 Hh1 Hh2 HO1 Hlo2 HW4 Hbw3
  generalize (((allL cl).length : Int) - ([] : List Int).length) = k7
  generalize (allL bl).length = nb at *
  generalize (allL cl).length = nc at *
  go_wp2
  generalize hBs : W3.heap.size = Bs at *
  generalize hBr : W7.heap.size + 1 = Br at *
  clear hBs hBr hs4 x12 x15
  go_loopw [95] (fun x W => ∃ i : Nat, x = .int .i64 i ∧ i ≤ ss.length ∧ Two w W Bs Br) (fun x _ => ss.length - (intOf x).toNat)
  case atStart => exact ⟨0, rfl, Nat.zero_le _, unhide Htwo⟩
  case round =>
    obtain ⟨i, rfl, hi, h2⟩ := hrel
    clear Htwo
    by_cases hlt : i < ss.length
    · have hlt' : (i : Int) < ss.length := by omega
      obtain ⟨hrow, hall⟩ := unhide Hrs
      rcases hrow with h | ⟨g, off, rfl, hgl, hc⟩
      · subst h; simp at hlt
      obtain ⟨d0, d1, d2, d3⟩ := hc i hlt
      have hbel := two_bel h2
      have e0 := (hbel.cell (p := ⟨g, off + i * 4, none⟩) hgl).trans d0
      have e1 := (hbel.cell (p := ⟨g, off + i * 4 + 1, none⟩) hgl).trans d1
      have e2 := (hbel.cell (p := ⟨g, off + i * 4 + 2, none⟩) hgl).trans d2
      have e3 := (hbel.cell (p := ⟨g, off + i * 4 + 3, none⟩) hgl).trans d3
      obtain ⟨hsl, hsr⟩ := hall (ss.getD i sc0) (by rw [List.getD_eq_getElem?_getD, List.getElem?_eq_getElem hlt]; exact List.getElem_mem _)
      clear d0 d1 d2 d3 hc hall hbel
      generalize ss.getD i sc0 = s at *
      obtain ⟨kd, wh, n, sa, sc, sl⟩ := s
      simp only at e0 e1 e2 e3 hsl hsr
      have h3 : Two w (wr.alloc (.cells #[.int .i64 kd, .int .i64 wh, .int .i64 n, .slice sa sl.length sc] 37)).drew Bs Br := two_off h2 (((Below.refl _ _).alloc (Nat.le_refl _) _).drew)
      have HD := hide (does_any w _ Bs Br h3 kd wh n sa sc sl hsl hsr)
      clear h2 h3 hsl hsr
      go_wp2
      refine wp_region_held_drew (S := fun _ => True) (by kernel_rfl) trivial (fun _ => ?_)
      refine wpAnyH_ready (rs := [0]) (by kernel_rfl) (by simp) ?_
      refine AllReadyH.cons rfl (fun K hK => ?_) AllReadyH.nil
      go_simp
      refine hK.out _ _ trivial (fun _ => ?_)
      clear hK K
      refine wpAnyH_ready (rs := [1]) (by kernel_rfl) (by simp) ?_
      refine AllReadyH.cons rfl (fun K hK => ?_) AllReadyH.nil
      go_simp
      go_at_call 9
      refine (unhide HD).mono ?_
      rintro e W2 ⟨rfl, htwo⟩
      obtain ⟨B0, B1, O0, O1, bl0, bl1, v0, v1, h4⟩ := htwo
      obtain ⟨a0, c0, rfl⟩ := rowI_form h4.r0
      obtain ⟨a1, c1, rfl⟩ := rowI_form h4.r1
      go_wp2_with fail
      refine hK.out _ _ trivial (fun _ => ?_)
      clear hK K
      have g0 := ok_good h4.t0.ok
      have g1 := ok_good h4.t1.ok
      have hl0 := allL_short g0.up g0.fit
      have hl1 := allL_short g1.up g1.fit
      obtain ⟨n0, hn0⟩ : ∃ n0, n0 = (allL bl0).length := ⟨_, rfl⟩
      obtain ⟨n1, hn1⟩ : ∃ n1, n1 = (allL bl1).length := ⟨_, rfl⟩
      have htab : ∀ W', Below W2.heap.size W2 W' → Tab W' ∧ 0 < W'.heap.size := fun W' hb => ⟨tab2 (unhide Ht) (h4.below.trans (hb.mono h4.below.size)) h0, Nat.lt_of_lt_of_le h0 (Nat.le_trans h4.below.size hb.size)⟩
      have hc0 := cnt_le 1048576 (hasB bl0)
      have HAll0 := hide (fun W' (hb : Below W2.heap.size W2 W') => all_any B0 O0 bl0 _ (by omega) W' (ok_below h4.t0.ok hb) (htab W' hb).1 (htab W' hb).2)
      have HSame0 := hide (fun Bz va vc W9 (hown : W9.ownsRow Bz 3 1 (.slice va (allL bl0).length vc) (allL bl0).length (intV (allL bl0))) (hb : Below W2.heap.size W2 W9) => refSame_any va a0 vc c0 (allL bl0) (allL bl0) (by omega) W9 (own_nrow2 hown rfl) (rowI_nrow (rowI_below h4.r0 hb) rfl))
      have HLen0 := hide (fun W' (hb : Below W2.heap.size W2 W') => lenS_any B0 O0 bl0 _ W' (set_below h4.t0.ok.is hb))
      rw [decide_eq_true (rfl : allL bl0 = allL bl0)] at HSame0
      rw [← allL_cnt g0.up g0.fit] at HLen0
      rw [← hn0] at HSame0 HLen0 HAll0
      have hc1 := cnt_le 1048576 (hasB bl1)
      have HAll1 := hide (fun W' (hb : Below W2.heap.size W2 W') => all_any B1 O1 bl1 _ (by omega) W' (ok_below h4.t1.ok hb) (htab W' hb).1 (htab W' hb).2)
      have HSame1 := hide (fun Bz va vc W9 (hown : W9.ownsRow Bz 3 1 (.slice va (allL bl1).length vc) (allL bl1).length (intV (allL bl1))) (hb : Below W2.heap.size W2 W9) => refSame_any va a1 vc c1 (allL bl1) (allL bl1) (by omega) W9 (own_nrow2 hown rfl) (rowI_nrow (rowI_below h4.r1 hb) rfl))
      have HLen1 := hide (fun W' (hb : Below W2.heap.size W2 W') => lenS_any B1 O1 bl1 _ W' (set_below h4.t1.ok.is hb))
      rw [decide_eq_true (rfl : allL bl1 = allL bl1)] at HSame1
      rw [← allL_cnt g1.up g1.fit] at HLen1
      rw [← hn1] at HSame1 HLen1 HAll1
      have Hz : Hid (∀ W', Below W2.heap.size W2 W' → (fun w' : World => w'.cell? ⟨Bs, 0, none⟩ = some (.pointer (some ⟨B0, 0, none⟩)) ∧ w'.cell? ⟨Bs, 1, none⟩ = some (.pointer (some ⟨B1, 0, none⟩)) ∧ w'.cell? ⟨Br, 0, none⟩ = some (.slice a0 n0 c0) ∧ w'.cell? ⟨Br, 1, none⟩ = some (.slice a1 n1 c1)) W') := hide (fun W' hb => by
        have h5 := inv_off h4 hb
        rw [hn0, hn1]
        exact ⟨cell_block h5.s 0 _ rfl, cell_block h5.s 1 _ rfl, cell_block h5.r 0 _ rfl, cell_block h5.r 1 _ rfl⟩)
      have Hb : Hid (Below W2.heap.size W2 W2) := hide (Below.refl _ _)
      have Htwo : Hid (∀ W', Below W2.heap.size W2 W' → Two w W' Bs Br) := hide (fun W' hb => ⟨_, _, _, _, _, _, _, _, inv_off h4 hb⟩)
      have hb0 : n0 ≤ 1048576 := by omega
      have hb1 : n1 ≤ 1048576 := by omega
      clear h4 g0 g1 hl0 hl1 htab hc0 hc1 hn0 hn1
      have hHeld : (fun w' : World => w'.cell? ⟨Bs, 0, none⟩ = some (.pointer (some ⟨B0, 0, none⟩)) ∧ w'.cell? ⟨Bs, 1, none⟩ = some (.pointer (some ⟨B1, 0, none⟩)) ∧ w'.cell? ⟨Br, 0, none⟩ = some (.slice a0 n0 c0) ∧ w'.cell? ⟨Br, 1, none⟩ = some (.slice a1 n1 c1)) W2 := unhide Hz W2 (Below.refl _ _)
      refine wpAnyH_mono (S' := fun w' : World => w'.cell? ⟨Bs, 0, none⟩ = some (.pointer (some ⟨B0, 0, none⟩)) ∧ w'.cell? ⟨Bs, 1, none⟩ = some (.pointer (some ⟨B1, 0, none⟩)) ∧ w'.cell? ⟨Br, 0, none⟩ = some (.slice a0 n0 c0) ∧ w'.cell? ⟨Br, 1, none⟩ = some (.slice a1 n1 c1)) (fun _ _ => trivial) _ _ _ _ ?_
      refine take_dst (i := 2) (dst := some 101) (v := ?_) rfl rfl (by kernel_rfl) (by kernel_rfl) (by kernel_rfl) (fun _ _ _ h => h) (Or.inl ⟨by rfl, ?_⟩) hHeld ?_
      rotate_left
      · intro w hSw; obtain ⟨z0, z1, z2, z3⟩ := hSw; go_simp; try (with_reducible rfl)
      simp only [Act.put, List.setIfInBounds_toArray, List.set_cons_zero, List.set_cons_succ]
      refine take_dst (i := 3) (dst := some 102) (v := ?_) rfl rfl (by kernel_rfl) (by kernel_rfl) (by kernel_rfl) (fun _ _ _ h => h) (Or.inl ⟨by rfl, ?_⟩) hHeld ?_
      rotate_left
      · intro w hSw; obtain ⟨z0, z1, z2, z3⟩ := hSw; go_simp; try (with_reducible rfl)
      simp only [Act.put, List.setIfInBounds_toArray, List.set_cons_zero, List.set_cons_succ]
      refine take_dst (i := 4) (dst := some 103) (v := ?_) rfl rfl (by kernel_rfl) (by kernel_rfl) (by kernel_rfl) (fun _ _ _ h => h) (Or.inl ⟨by rfl, ?_⟩) hHeld ?_
      rotate_left
      · intro w hSw; obtain ⟨z0, z1, z2, z3⟩ := hSw; go_simp; try (with_reducible rfl)
      simp only [Act.put, List.setIfInBounds_toArray, List.set_cons_zero, List.set_cons_succ]
      refine take_dst (i := 5) (dst := some 104) (v := ?_) rfl rfl (by kernel_rfl) (by kernel_rfl) (by kernel_rfl) (fun _ _ _ h => h) (Or.inl ⟨by rfl, ?_⟩) hHeld ?_
      rotate_left
      · intro w hSw; obtain ⟨z0, z1, z2, z3⟩ := hSw; go_simp; try (with_reducible rfl)
      simp only [Act.put, List.setIfInBounds_toArray, List.set_cons_zero, List.set_cons_succ]
      refine take_dst (i := 7) (dst := some 106) (v := ?_) rfl rfl (by kernel_rfl) (by kernel_rfl) (by kernel_rfl) (fun _ _ _ h => h) (Or.inl ⟨by rfl, ?_⟩) hHeld ?_
      rotate_left
      · intro w hSw; obtain ⟨z0, z1, z2, z3⟩ := hSw; go_simp; try (with_reducible rfl)
      simp only [Act.put, List.setIfInBounds_toArray, List.set_cons_zero, List.set_cons_succ]
      refine take_dst (i := 8) (dst := some 107) (v := ?_) rfl rfl (by kernel_rfl) (by kernel_rfl) (by kernel_rfl) (fun _ _ _ h => h) (Or.inl ⟨by rfl, ?_⟩) hHeld ?_
      rotate_left
      · intro w hSw; obtain ⟨z0, z1, z2, z3⟩ := hSw; go_simp; try (with_reducible rfl)
      simp only [Act.put, List.setIfInBounds_toArray, List.set_cons_zero, List.set_cons_succ]
      refine take_dst (i := 9) (dst := some 108) (v := ?_) rfl rfl (by kernel_rfl) (by kernel_rfl) (by kernel_rfl) (fun _ _ _ h => h) (Or.inl ⟨by rfl, ?_⟩) hHeld ?_
      rotate_left
      · intro w hSw; obtain ⟨z0, z1, z2, z3⟩ := hSw; go_simp; try (with_reducible rfl)
      simp only [Act.put, List.setIfInBounds_toArray, List.set_cons_zero, List.set_cons_succ]
      refine wpAnyH_ready (rs := [6]) (by kernel_rfl) (by simp) ?_
      refine AllReadyH.cons rfl (fun K hK => ?_) AllReadyH.nil
      go_simp
      go_at_call 11
      refine (unhide HAll0 _ (unhide Hb)).mono ?_
      rintro e W9 ⟨v9, rfl, hown9, hb9⟩
      obtain ⟨va9, vc9, rfl⟩ := own_form hown9
      have HSm := hide (unhide HSame0 _ va9 vc9 W9 hown9 ((unhide Hb).trans (hb9.mono (unhide Hb).size)))
      have z9 := unhide Hz _ ((unhide Hb).trans (hb9.mono (unhide Hb).size))
      have Hb := hide ((unhide Hb).trans (hb9.mono (unhide Hb).size))
      clear hb9 hown9
      go_wp2_with fail
      refine hK.out _ _ (z9) (fun hHeld => ?_)
      clear hK K
      refine wpAnyH_ready (rs := [10]) (by kernel_rfl) (by simp) ?_
      refine AllReadyH.cons rfl (fun K hK => ?_) AllReadyH.nil
      go_simp
      go_at_call 10
      refine (unhide HSm).mono ?_
      rintro e W9 ⟨rfl, q9, hq9⟩
      have hb9 := below_q hq9
      have z9 := unhide Hz _ ((unhide Hb).trans (hb9.mono (unhide Hb).size))
      have Hb := hide ((unhide Hb).trans (hb9.mono (unhide Hb).size))
      clear hb9 hq9 HSm
      go_wp2_with fail
      refine hK.out _ _ (z9) (fun hHeld => ?_)
      clear hK K
      refine take_dst (i := 11) (dst := some 110) (v := ?_) rfl rfl (by kernel_rfl) (by kernel_rfl) (by kernel_rfl) (fun _ _ _ h => h) (Or.inl ⟨by rfl, ?_⟩) hHeld ?_
      rotate_left
      · intro w hSw; obtain ⟨z0, z1, z2, z3⟩ := hSw; go_simp; try (with_reducible rfl)
      simp only [Act.put, List.setIfInBounds_toArray, List.set_cons_zero, List.set_cons_succ]
      refine take_dst (i := 12) (dst := some 111) (v := ?_) rfl rfl (by kernel_rfl) (by kernel_rfl) (by kernel_rfl) (fun _ _ _ h => h) (Or.inl ⟨by rfl, ?_⟩) hHeld ?_
      rotate_left
      · intro w hSw; obtain ⟨z0, z1, z2, z3⟩ := hSw; go_simp; try (with_reducible rfl)
      simp only [Act.put, List.setIfInBounds_toArray, List.set_cons_zero, List.set_cons_succ]
      refine take_dst (i := 13) (dst := some 112) (v := ?_) rfl rfl (by kernel_rfl) (by kernel_rfl) (by kernel_rfl) (fun _ _ _ h => h) (Or.inl ⟨by rfl, ?_⟩) hHeld ?_
      rotate_left
      · intro w hSw; obtain ⟨z0, z1, z2, z3⟩ := hSw; go_simp; try (with_reducible rfl)
      simp only [Act.put, List.setIfInBounds_toArray, List.set_cons_zero, List.set_cons_succ]
      refine take_dst (i := 14) (dst := some 113) (v := ?_) rfl rfl (by kernel_rfl) (by kernel_rfl) (by kernel_rfl) (fun _ _ _ h => h) (Or.inl ⟨by rfl, ?_⟩) hHeld ?_
      rotate_left
      · intro w hSw; obtain ⟨z0, z1, z2, z3⟩ := hSw; go_simp; try (with_reducible rfl)
      simp only [Act.put, List.setIfInBounds_toArray, List.set_cons_zero, List.set_cons_succ]
      refine take_dst (i := 15) (dst := some 114) (v := ?_) rfl rfl (by kernel_rfl) (by kernel_rfl) (by kernel_rfl) (fun _ _ _ h => h) (Or.inl ⟨by rfl, ?_⟩) hHeld ?_
      rotate_left
      · intro w hSw; obtain ⟨z0, z1, z2, z3⟩ := hSw; go_simp; try (with_reducible rfl)
      simp only [Act.put, List.setIfInBounds_toArray, List.set_cons_zero, List.set_cons_succ]
      refine take_dst (i := 17) (dst := some 116) (v := ?_) rfl rfl (by kernel_rfl) (by kernel_rfl) (by kernel_rfl) (fun _ _ _ h => h) (Or.inl ⟨by rfl, ?_⟩) hHeld ?_
      rotate_left
      · intro w hSw; obtain ⟨z0, z1, z2, z3⟩ := hSw; go_simp; try (with_reducible rfl)
      simp only [Act.put, List.setIfInBounds_toArray, List.set_cons_zero, List.set_cons_succ]
      refine take_dst (i := 18) (dst := some 117) (v := ?_) rfl rfl (by kernel_rfl) (by kernel_rfl) (by kernel_rfl) (fun _ _ _ h => h) (Or.inl ⟨by rfl, ?_⟩) hHeld ?_
      rotate_left
      · intro w hSw; obtain ⟨z0, z1, z2, z3⟩ := hSw; go_simp; try (with_reducible rfl)
      simp only [Act.put, List.setIfInBounds_toArray, List.set_cons_zero, List.set_cons_succ]
      refine take_dst (i := 19) (dst := some 118) (v := ?_) rfl rfl (by kernel_rfl) (by kernel_rfl) (by kernel_rfl) (fun _ _ _ h => h) (Or.inl ⟨by rfl, ?_⟩) hHeld ?_
      rotate_left
      · intro w hSw; obtain ⟨z0, z1, z2, z3⟩ := hSw; go_simp; try (with_reducible rfl)
      simp only [Act.put, List.setIfInBounds_toArray, List.set_cons_zero, List.set_cons_succ]
      refine wpAnyH_ready (rs := [16]) (by kernel_rfl) (by simp) ?_
      refine AllReadyH.cons rfl (fun K hK => ?_) AllReadyH.nil
      go_simp
      go_at_call 11
      refine (unhide HAll1 _ (unhide Hb)).mono ?_
      rintro e W9 ⟨v9, rfl, hown9, hb9⟩
      obtain ⟨va9, vc9, rfl⟩ := own_form hown9
      have HSm := hide (unhide HSame1 _ va9 vc9 W9 hown9 ((unhide Hb).trans (hb9.mono (unhide Hb).size)))
      have z9 := unhide Hz _ ((unhide Hb).trans (hb9.mono (unhide Hb).size))
      have Hb := hide ((unhide Hb).trans (hb9.mono (unhide Hb).size))
      clear hb9 hown9
      go_wp2_with fail
      refine hK.out _ _ (z9) (fun hHeld => ?_)
      clear hK K
      refine wpAnyH_ready (rs := [20]) (by kernel_rfl) (by simp) ?_
      refine AllReadyH.cons rfl (fun K hK => ?_) AllReadyH.nil
      go_simp
      go_at_call 10
      refine (unhide HSm).mono ?_
      rintro e W9 ⟨rfl, q9, hq9⟩
      have hb9 := below_q hq9
      have z9 := unhide Hz _ ((unhide Hb).trans (hb9.mono (unhide Hb).size))
      have Hb := hide ((unhide Hb).trans (hb9.mono (unhide Hb).size))
      clear hb9 hq9 HSm
      go_wp2_with fail
      refine hK.out _ _ (z9) (fun hHeld => ?_)
      clear hK K
      refine take_dst (i := 21) (dst := some 120) (v := ?_) rfl rfl (by kernel_rfl) (by kernel_rfl) (by kernel_rfl) (fun _ _ _ h => h) (Or.inl ⟨by rfl, ?_⟩) hHeld ?_
      rotate_left
      · intro w hSw; obtain ⟨z0, z1, z2, z3⟩ := hSw; go_simp; try (with_reducible rfl)
      simp only [Act.put, List.setIfInBounds_toArray, List.set_cons_zero, List.set_cons_succ]
      refine take_dst (i := 22) (dst := some 121) (v := ?_) rfl rfl (by kernel_rfl) (by kernel_rfl) (by kernel_rfl) (fun _ _ _ h => h) (Or.inl ⟨by rfl, ?_⟩) hHeld ?_
      rotate_left
      · intro w hSw; obtain ⟨z0, z1, z2, z3⟩ := hSw; go_simp; try (with_reducible rfl)
      simp only [Act.put, List.setIfInBounds_toArray, List.set_cons_zero, List.set_cons_succ]
      refine take_dst (i := 23) (dst := some 122) (v := ?_) rfl rfl (by kernel_rfl) (by kernel_rfl) (by kernel_rfl) (fun _ _ _ h => h) (Or.inl ⟨by rfl, ?_⟩) hHeld ?_
      rotate_left
      · intro w hSw; obtain ⟨z0, z1, z2, z3⟩ := hSw; go_simp; try (with_reducible rfl)
      simp only [Act.put, List.setIfInBounds_toArray, List.set_cons_zero, List.set_cons_succ]
      refine take_dst (i := 24) (dst := some 123) (v := ?_) rfl rfl (by kernel_rfl) (by kernel_rfl) (by kernel_rfl) (fun _ _ _ h => h) (Or.inl ⟨by rfl, ?_⟩) hHeld ?_
      rotate_left
      · intro w hSw; obtain ⟨z0, z1, z2, z3⟩ := hSw; go_simp; try (with_reducible rfl)
      simp only [Act.put, List.setIfInBounds_toArray, List.set_cons_zero, List.set_cons_succ]
      refine take_dst (i := 25) (dst := some 124) (v := ?_) rfl rfl (by kernel_rfl) (by kernel_rfl) (by kernel_rfl) (fun _ _ _ h => h) (Or.inl ⟨by rfl, ?_⟩) hHeld ?_
      rotate_left
      · intro w hSw; obtain ⟨z0, z1, z2, z3⟩ := hSw; go_simp; try (with_reducible rfl)
      simp only [Act.put, List.setIfInBounds_toArray, List.set_cons_zero, List.set_cons_succ]
      refine take_dst (i := 27) (dst := some 126) (v := ?_) rfl rfl (by kernel_rfl) (by kernel_rfl) (by kernel_rfl) (fun _ _ _ h => h) (Or.inl ⟨by rfl, ?_⟩) hHeld ?_
      rotate_left
      · intro w hSw; obtain ⟨z0, z1, z2, z3⟩ := hSw; go_simp; try (with_reducible rfl)
      simp only [Act.put, List.setIfInBounds_toArray, List.set_cons_zero, List.set_cons_succ]
      refine take_dst (i := 28) (dst := some 127) (v := ?_) rfl rfl (by kernel_rfl) (by kernel_rfl) (by kernel_rfl) (fun _ _ _ h => h) (Or.inl ⟨by rfl, ?_⟩) hHeld ?_
      rotate_left
      · intro w hSw; obtain ⟨z0, z1, z2, z3⟩ := hSw; go_simp; try (with_reducible rfl)
      simp only [Act.put, List.setIfInBounds_toArray, List.set_cons_zero, List.set_cons_succ]
      refine take_dst (i := 29) (dst := some 128) (v := ?_) rfl rfl (by kernel_rfl) (by kernel_rfl) (by kernel_rfl) (fun _ _ _ h => h) (Or.inl ⟨by rfl, ?_⟩) hHeld ?_
      rotate_left
      · intro w hSw; obtain ⟨z0, z1, z2, z3⟩ := hSw; go_simp; try (with_reducible rfl)
      simp only [Act.put, List.setIfInBounds_toArray, List.set_cons_zero, List.set_cons_succ]
      refine take_dst (i := 30) (dst := some 129) (v := ?_) rfl rfl (by kernel_rfl) (by kernel_rfl) (by kernel_rfl) (fun _ _ _ h => h) (Or.inl ⟨by rfl, ?_⟩) hHeld ?_
      rotate_left
      · intro w hSw; obtain ⟨z0, z1, z2, z3⟩ := hSw; go_simp; try (with_reducible rfl)
      simp only [Act.put, List.setIfInBounds_toArray, List.set_cons_zero, List.set_cons_succ]
      refine wpAnyH_ready (rs := [26]) (by kernel_rfl) (by simp) ?_
      refine AllReadyH.cons rfl (fun K hK => ?_) AllReadyH.nil
      go_simp
      go_at_call 12
      refine (unhide HLen0 _ (unhide Hb)).mono ?_
      rintro e W9 ⟨rfl, hw9⟩
      obtain rfl := hw9.symm
      go_wp2_with fail
      refine hK.out _ _ (hHeld) (fun hHeld => ?_)
      clear hK K
      refine take_dst (i := 31) (dst := some 130) (v := ?_) rfl rfl (by kernel_rfl) (by kernel_rfl) (by kernel_rfl) (fun _ _ _ h => h) (Or.inl ⟨by rfl, ?_⟩) hHeld ?_
      rotate_left
      · intro w hSw; obtain ⟨z0, z1, z2, z3⟩ := hSw; go_simp; try (with_reducible rfl)
      simp only [Act.put, List.setIfInBounds_toArray, List.set_cons_zero, List.set_cons_succ]
      refine take_dst (i := 32) (dst := some 131) (v := ?_) rfl rfl (by kernel_rfl) (by kernel_rfl) (by kernel_rfl) (fun _ _ _ h => h) (Or.inl ⟨by rfl, ?_⟩) hHeld ?_
      rotate_left
      · intro w hSw; obtain ⟨z0, z1, z2, z3⟩ := hSw; go_simp; try (with_reducible rfl)
      simp only [Act.put, List.setIfInBounds_toArray, List.set_cons_zero, List.set_cons_succ]
      refine take_dst (i := 33) (dst := some 132) (v := ?_) rfl rfl (by kernel_rfl) (by kernel_rfl) (by kernel_rfl) (fun _ _ _ h => h) (Or.inl ⟨by rfl, ?_⟩) hHeld ?_
      rotate_left
      · intro w hSw; obtain ⟨z0, z1, z2, z3⟩ := hSw; go_simp; try (with_reducible rfl)
      simp only [Act.put, List.setIfInBounds_toArray, List.set_cons_zero, List.set_cons_succ]
      refine take_dst (i := 34) (dst := some 133) (v := ?_) rfl rfl (by kernel_rfl) (by kernel_rfl) (by kernel_rfl) (fun _ _ _ h => h) (Or.inl ⟨by rfl, ?_⟩) hHeld ?_
      rotate_left
      · intro w hSw; obtain ⟨z0, z1, z2, z3⟩ := hSw; go_simp; try (with_reducible rfl)
      simp only [Act.put, List.setIfInBounds_toArray, List.set_cons_zero, List.set_cons_succ]
      refine take_dst (i := 35) (dst := some 134) (v := ?_) rfl rfl (by kernel_rfl) (by kernel_rfl) (by kernel_rfl) (fun _ _ _ h => h) (Or.inl ⟨by rfl, ?_⟩) hHeld ?_
      rotate_left
      · intro w hSw; obtain ⟨z0, z1, z2, z3⟩ := hSw; go_simp; try (with_reducible rfl)
      simp only [Act.put, List.setIfInBounds_toArray, List.set_cons_zero, List.set_cons_succ]
      refine take_dst (i := 37) (dst := some 136) (v := ?_) rfl rfl (by kernel_rfl) (by kernel_rfl) (by kernel_rfl) (fun _ _ _ h => h) (Or.inl ⟨by rfl, ?_⟩) hHeld ?_
      rotate_left
      · intro w hSw; obtain ⟨z0, z1, z2, z3⟩ := hSw; go_simp; try (with_reducible rfl)
      simp only [Act.put, List.setIfInBounds_toArray, List.set_cons_zero, List.set_cons_succ]
      refine take_dst (i := 38) (dst := some 137) (v := ?_) rfl rfl (by kernel_rfl) (by kernel_rfl) (by kernel_rfl) (fun _ _ _ h => h) (Or.inl ⟨by rfl, ?_⟩) hHeld ?_
      rotate_left
      · intro w hSw; obtain ⟨z0, z1, z2, z3⟩ := hSw; go_simp; try (with_reducible rfl)
      simp only [Act.put, List.setIfInBounds_toArray, List.set_cons_zero, List.set_cons_succ]
      refine take_dst (i := 39) (dst := some 138) (v := ?_) rfl rfl (by kernel_rfl) (by kernel_rfl) (by kernel_rfl) (fun _ _ _ h => h) (Or.inl ⟨by rfl, ?_⟩) hHeld ?_
      rotate_left
      · intro w hSw; obtain ⟨z0, z1, z2, z3⟩ := hSw; go_simp; try (with_reducible rfl)
      simp only [Act.put, List.setIfInBounds_toArray, List.set_cons_zero, List.set_cons_succ]
      refine take_dst (i := 40) (dst := some 139) (v := ?_) rfl rfl (by kernel_rfl) (by kernel_rfl) (by kernel_rfl) (fun _ _ _ h => h) (Or.inl ⟨by rfl, ?_⟩) hHeld ?_
      rotate_left
      · intro w hSw; obtain ⟨z0, z1, z2, z3⟩ := hSw; go_simp; try (with_reducible rfl)
      simp only [Act.put, List.setIfInBounds_toArray, List.set_cons_zero, List.set_cons_succ]
      refine wpAnyH_ready (rs := [36]) (by kernel_rfl) (by simp) ?_
      refine AllReadyH.cons rfl (fun K hK => ?_) AllReadyH.nil
      go_simp
      go_at_call 12
      refine (unhide HLen1 _ (unhide Hb)).mono ?_
      rintro e W9 ⟨rfl, hw9⟩
      obtain rfl := hw9.symm
      go_wp2_with fail
      refine hK.out _ _ (hHeld) (fun hHeld => ?_)
      clear hK K
      refine take_dst (i := 41) (dst := some 140) (v := ?_) rfl rfl (by kernel_rfl) (by kernel_rfl) (by kernel_rfl) (fun _ _ _ h => h) (Or.inl ⟨by rfl, ?_⟩) hHeld ?_
      rotate_left
      · intro w hSw; obtain ⟨z0, z1, z2, z3⟩ := hSw; go_simp; try (with_reducible rfl)
      simp only [Act.put, List.setIfInBounds_toArray, List.set_cons_zero, List.set_cons_succ]
      refine take_dst (i := 42) (dst := some 141) (v := ?_) rfl rfl (by kernel_rfl) (by kernel_rfl) (by kernel_rfl) (fun _ _ _ h => h) (Or.inl ⟨by rfl, ?_⟩) hHeld ?_
      rotate_left
      · intro w hSw; obtain ⟨z0, z1, z2, z3⟩ := hSw; go_simp; try (with_reducible rfl)
      simp only [Act.put, List.setIfInBounds_toArray, List.set_cons_zero, List.set_cons_succ]
      refine wpAnyH_done (by kernel_rfl) ?_ _
      go_wp2
      go_roundw
      case rel => exact ⟨i + 1, by go_num, by omega, unhide Htwo _ (unhide Hb)⟩
      case measure => simp [intOf]; omega
    · obtain rfl : i = ss.length := by omega
      have hlt' : ¬ ((ss.length : Int) < ss.length) := by omega
      obtain ⟨B0, B1, O0, O1, bl0, bl1, v0, v1, h4⟩ := h2
      obtain ⟨a0, c0, rfl⟩ := rowI_form h4.r0
      obtain ⟨a1, c1, rfl⟩ := rowI_form h4.r1
      obtain ⟨W2, hW2⟩ : ∃ W2, W2 = wr := ⟨_, rfl⟩
      subst hW2
      have g0 := ok_good h4.t0.ok
      have g1 := ok_good h4.t1.ok
      have hl0 := allL_short g0.up g0.fit
      have hl1 := allL_short g1.up g1.fit
      obtain ⟨n0, hn0⟩ : ∃ n0, n0 = (allL bl0).length := ⟨_, rfl⟩
      obtain ⟨n1, hn1⟩ : ∃ n1, n1 = (allL bl1).length := ⟨_, rfl⟩
      have htab : ∀ W', Below W2.heap.size W2 W' → Tab W' ∧ 0 < W'.heap.size := fun W' hb => ⟨tab2 (unhide Ht) (h4.below.trans (hb.mono h4.below.size)) h0, Nat.lt_of_lt_of_le h0 (Nat.le_trans h4.below.size hb.size)⟩
      have hc0 := cnt_le 1048576 (hasB bl0)
      have HAll0 := hide (fun W' (hb : Below W2.heap.size W2 W') => all_any B0 O0 bl0 _ (by omega) W' (ok_below h4.t0.ok hb) (htab W' hb).1 (htab W' hb).2)
      have HSame0 := hide (fun Bz va vc W9 (hown : W9.ownsRow Bz 3 1 (.slice va (allL bl0).length vc) (allL bl0).length (intV (allL bl0))) (hb : Below W2.heap.size W2 W9) => refSame_any va a0 vc c0 (allL bl0) (allL bl0) (by omega) W9 (own_nrow2 hown rfl) (rowI_nrow (rowI_below h4.r0 hb) rfl))
      have HLen0 := hide (fun W' (hb : Below W2.heap.size W2 W') => lenS_any B0 O0 bl0 _ W' (set_below h4.t0.ok.is hb))
      rw [decide_eq_true (rfl : allL bl0 = allL bl0)] at HSame0
      rw [← allL_cnt g0.up g0.fit] at HLen0
      rw [← hn0] at HSame0 HLen0 HAll0
      have hc1 := cnt_le 1048576 (hasB bl1)
      have HAll1 := hide (fun W' (hb : Below W2.heap.size W2 W') => all_any B1 O1 bl1 _ (by omega) W' (ok_below h4.t1.ok hb) (htab W' hb).1 (htab W' hb).2)
      have HSame1 := hide (fun Bz va vc W9 (hown : W9.ownsRow Bz 3 1 (.slice va (allL bl1).length vc) (allL bl1).length (intV (allL bl1))) (hb : Below W2.heap.size W2 W9) => refSame_any va a1 vc c1 (allL bl1) (allL bl1) (by omega) W9 (own_nrow2 hown rfl) (rowI_nrow (rowI_below h4.r1 hb) rfl))
      have HLen1 := hide (fun W' (hb : Below W2.heap.size W2 W') => lenS_any B1 O1 bl1 _ W' (set_below h4.t1.ok.is hb))
      rw [decide_eq_true (rfl : allL bl1 = allL bl1)] at HSame1
      rw [← allL_cnt g1.up g1.fit] at HLen1
      rw [← hn1] at HSame1 HLen1 HAll1
      have Hz : Hid (∀ W', Below W2.heap.size W2 W' → (fun w' : World => w'.cell? ⟨Bs, 0, none⟩ = some (.pointer (some ⟨B0, 0, none⟩)) ∧ w'.cell? ⟨Bs, 1, none⟩ = some (.pointer (some ⟨B1, 0, none⟩)) ∧ w'.cell? ⟨Br, 0, none⟩ = some (.slice a0 n0 c0) ∧ w'.cell? ⟨Br, 1, none⟩ = some (.slice a1 n1 c1)) W') := hide (fun W' hb => by
        have h5 := inv_off h4 hb
        rw [hn0, hn1]
        exact ⟨cell_block h5.s 0 _ rfl, cell_block h5.s 1 _ rfl, cell_block h5.r 0 _ rfl, cell_block h5.r 1 _ rfl⟩)
      have Hb : Hid (Below W2.heap.size W2 W2) := hide (Below.refl _ _)
      have Htwo : Hid (∀ W', Below W2.heap.size W2 W' → Two w W' Bs Br) := hide (fun W' hb => ⟨_, _, _, _, _, _, _, _, inv_off h4 hb⟩)
      have hb0 : n0 ≤ 1048576 := by omega
      have hb1 : n1 ≤ 1048576 := by omega
      clear h4 g0 g1 hl0 hl1 htab hc0 hc1 hn0 hn1
      have Hd : Hid (Below W2.heap.size W2 W2.drew) := hide ((Below.refl _ _).drew)
      have hz := unhide Hz W2 (Below.refl _ _)
      obtain ⟨z0, z1, z2, z3⟩ := hz
      have Hb := Hd
      clear Hd HLen0 HLen1
      go_wp2
      go_region_held3 (fun w' : World => w'.cell? ⟨Bs, 0, none⟩ = some (.pointer (some ⟨B0, 0, none⟩)) ∧ w'.cell? ⟨Bs, 1, none⟩ = some (.pointer (some ⟨B1, 0, none⟩)) ∧ w'.cell? ⟨Br, 0, none⟩ = some (.slice a0 n0 c0) ∧ w'.cell? ⟨Br, 1, none⟩ = some (.slice a1 n1 c1))
        (first | exact z9 | exact ⟨z0, z1, z2, z3⟩ | go_keep)
        ((first | (go_at_call 11; refine (unhide HAll0 _ (unhide Hb)).mono ?_; rintro e W9 ⟨v9, rfl, hown9, hb9⟩; obtain ⟨va9, vc9, rfl⟩ := own_form hown9; have HSm := hide (unhide HSame0 _ va9 vc9 W9 hown9 ((unhide Hb).trans (hb9.mono (unhide Hb).size))); have z9 := unhide Hz _ ((unhide Hb).trans (hb9.mono (unhide Hb).size)); have Hb := hide ((unhide Hb).trans (hb9.mono (unhide Hb).size)); clear hb9 hown9; have HAll0 := HAll1; have HSame0 := HSame1) | (go_at_call 10; refine (unhide HSm).mono ?_; rintro e W9 ⟨rfl, q9, hq9⟩; have hb9 := below_q hq9; have z9 := unhide Hz _ ((unhide Hb).trans (hb9.mono (unhide Hb).size)); have Hb := hide ((unhide Hb).trans (hb9.mono (unhide Hb).size)); clear hb9 hq9 HSm)))
      all_goals
        go_wp2
        go_ret
        exact ⟨rfl, two_bel (unhide Htwo _ (unhide Hb))⟩
end Go.Proofs.YtdpphjedjhjdgaaDoor

/- The law WorkOwn, walked. -/
import Derived.Test.YtdpphjedjhjdgabDoorF3
namespace Go.Proofs.YtdpphjedjhjdgabDoor
open Go.RowKit Go.Maps

def five : List Int := [-5, -5]
/-- What is there behind the copy: the room. -/
def Room (w W : World) (r cap : Nat) (l : List Int) : Prop := Below w.heap.size w W ∧ W.ownsRow w.heap.size 3 1 (.slice (some ⟨r, 0, none⟩) (l.length + 2) cap) (l.length + 2) (intV (l ++ five))
theorem tab_below {w W : World} (h : Tab w) (hb : Below w.heap.size w W) (h0 : 0 < w.heap.size) : Tab W := fun j hj => (hb.cell (p := ⟨0, j, none⟩) h0).trans (h j hj)
theorem room_row {w W : World} {r cap : Nat} {l : List Int} (h : Room w W r cap l) : NRow W (some ⟨r, 0, none⟩) l := by
  by_cases h0 : l = []
  · exact .inl h0
  · refine .inr ⟨r, 0, rfl, (h.2.lt r rfl).2, fun j hj => ?_⟩
    rw [Nat.zero_add, own_cell h.2 rfl j (by rw [intV_length, List.length_append]; omega), intV_at _ j (by rw [List.length_append]; omega), List.getD_eq_getElem?_getD, List.getD_eq_getElem?_getD, List.getElem?_append_left hj]
theorem room_five {w W : World} {r cap : Nat} {l : List Int} (h : Room w W r cap l) : W.cell? ⟨r, l.length, none⟩ = some (.int .i64 (-5)) := by
  rw [own_cell h.2 rfl l.length (by rw [intV_length, List.length_append]; simp [five]), intV_at _ _ (by rw [List.length_append]; simp [five]), List.getD_eq_getElem?_getD, List.getElem?_append_right (Nat.le_refl _), Nat.sub_self]; rfl

theorem own_nrow2 {w : World} {B n c : Nat} {a : Option Addr} {L : List Int} (h : w.ownsRow B 3 1 (.slice a n c) n (intV L)) (hn : n = L.length) : NRow w a L := by
  subst hn
  by_cases h0 : L = []
  · exact .inl h0
  · obtain ⟨g, c', e, -⟩ := own_pos h (List.length_pos_iff.2 h0)
    simp only [Value.slice.injEq] at e
    obtain ⟨rfl, -, rfl⟩ := e
    exact own_nrow h

set_option maxHeartbeats 8000000 in
set_option maxRecDepth 100000 in
theorem own_walk (aa ab : Option Addr) (ca cb : Nat) (l m : List Int) (hl : l.length * 8 ≤ 140737488351232) (hm : m.length ≤ 281474976710656) (haa : aa = none → l = [] ∧ ca = 0) (w : World) (hra : NRow w aa l) (hrb : NRow w ab m) (ht : Tab w) (h0 : 0 < w.heap.size) :
    Calls Tryd.prog 3 #[.slice aa l.length ca, .slice ab m.length cb] w fun e w' => e = .returned (.bool true) ∧ Below w.heap.size w w' := by
  obtain ⟨i0, hi, hz0, hz1, hz2⟩ := info_parts hint
  have Hra := hide hra; have Hrb := hide hrb; have Ht := hide ht
  have hl48 : l.length ≤ 281474976710656 := by omega
  have Hsrc : Hid (∀ ad, aa = some ad → l ≠ [] → ∀ j u, (intV l)[j]? = some u → w.cell? (ad.add j) = some u) := hide (fun ad had hne j u hu => by
    rcases hra with h | ⟨g, off, h, hg, hc⟩
    · exact absurd h hne
    · rw [had] at h; cases h
      unfold intV at hu
      rw [List.getElem?_map] at hu
      by_cases hj : j < l.length
      · rw [List.getElem?_eq_getElem hj] at hu
        have h5 := hc j hj
        rw [List.getD_eq_getElem?_getD, List.getElem?_eq_getElem hj] at h5
        have e : (⟨g, off, none⟩ : Addr).add j = ⟨g, off + j, none⟩ := by unfold Addr.add; split <;> simp_all
        rw [e, h5]
        simpa using hu
      · rw [List.getElem?_eq_none (by omega)] at hu; simp at hu)
  clear hra hrb ht
  go_enter Tryd.func3, Tryd.ntmps3
  -- the first append: a copy
  have hstep : ∃ T : Prop, T := ⟨True, trivial⟩
  clear hstep
  cases aa with
  | none =>
    obtain ⟨rfl, rfl⟩ := haa rfl
    have Hll := hide (intV_length ([] : List Int))
    go_wp2_with (first | (at_builtin; refine wpList_append_own_none rfl _ _ 22 rfl w.heap.size 3 i0 1 Tryd.underlying22 hi _ 0 [] rfl (World.ownsRow_nil _ _ _ _) rfl ?_) | (at_builtin; refine wpList_append_own _ rfl _ _ 22 rfl w.heap.size 3 i0 (.int .i64 0) 1 8 Tryd.underlying22 hi hz0 hz1 hz2 rfl (by decide) _ 0 [] rfl (World.ownsRow_nil _ _ _ _) ⟨w.heap.size, 0, none⟩ 2 2 (intV five) rfl rfl (World.news_of_block (MapKept.heap_alloc w (.cells #[.int .i64 (-5), .int .i64 (-5)] 3)).1) (intV_one _) (by decide) (by decide) (by simp) ?_))
    intro v2 W2 hown2 hg2 hv2
    have hb2 : Below w.heap.size w W2 := ((Below.refl _ w).alloc (Nat.le_refl _) _).grown hg2 (by simp) (fun k hk => by simp [Value.ownBlock] at hk)
    obtain ⟨r, cap, rfl, -, -, hcap, -⟩ := own_pos hown2 (by omega)
    have hroom : Room w W2 r cap [] := ⟨hb2, hown2⟩
    have hcl : (0 : Int) ≤ cap := by omega
    have HR := hide hroom
    clear hb2 hown2 hg2 hv2 hroom
    cases hnum : numsB ([] : List Int)
    · have HNw := hide (new_wrong (some ⟨r, 0, none⟩) cap ([] : List Int) hl48 hnum W2 (room_row (unhide HR)))
      have HNm := hide (fun W3 (hb : Below W2.heap.size W2 W3) => by
        have h := refNumbers_any none 0 ([] : List Int) hl48 W3 (nrow_below (unhide Hra) ((unhide HR).1.trans (hb.mono (unhide HR).1.size)) (Nat.le_refl _))
        rw [hnum] at h
        exact h)
      clear hnum
      go_wp2_with fail
      refine (unhide HNw).mono ?_
      rintro e W3 ⟨rfl, hb3⟩
      have HNm3 := hide (unhide HNm W3 hb3)
      have HAl := hide (alive_any W3)
      have Hb3 := hide ((unhide HR).1.trans (hb3.mono (unhide HR).1.size))
      clear hb3 HNm HNw
      go_wp2_with fail
      refine (unhide HNm3).mono ?_
      rintro e W4 ⟨rfl, hw⟩
      obtain rfl := hw.symm
      go_wp2_with fail
      refine (unhide HAl).mono ?_
      rintro e W4 ⟨rfl, hb4⟩
      have Hb4 := hide ((unhide Hb3).trans (hb4.mono (unhide Hb3).size))
      clear hb4
      go_wp2
      go_ret
      exact ⟨rfl, unhide Hb4⟩
    · have HN := hide (new_nums 1048576 rfl (some ⟨r, 0, none⟩) cap ([] : List Int) hl48 hnum W2 (room_row (unhide HR)))
      have Hnum := hide hnum
      clear hnum
      go_wp2_with fail
      refine (unhide HN).mono ?_
      rintro e W3 ⟨rfl, hb3, bl, O, hok3, hO3, hh3⟩
      have hbw3 := (unhide HR).1.trans (hb3.mono (unhide HR).1.size)
      obtain ⟨sz, hsz⟩ : ∃ sz : Int, sz = (cnt 1048576 (hasB bl) : Int) := ⟨_, rfl⟩
      rw [← hsz] at hok3
      have hsz2 : 0 ≤ sz ∧ sz ≤ 1048576 := by have := cnt_le 1048576 (hasB bl); omega
      have HAd := hide (refAdd_any none 0 ([] : List Int) hl48 (unhide Hnum) W3 (nrow_below (unhide Hra) hbw3 (Nat.le_refl _)))
      have Hsz := hide hsz; have Hsz2 := hide hsz2; have Hok3 := hide hok3; have HO3 := hide hO3; have Hh3 := hide hh3; have Hbw3 := hide hbw3; have Hb3 := hide hb3
      clear hsz hsz2 hok3 hO3 hh3 hbw3 hb3 HN
      go_wp2_with fail
      refine (unhide HAd).mono ?_
      rintro e W4 ⟨v4, L4, k4, rfl, hri4, hup4, hm4, hb4⟩
      obtain ⟨va4, vc4, rfl⟩ := rowI_form hri4
      have hb4' : Below W4.heap.size W4 (W4.alloc (.cells #[.slice va4 L4.length vc4] 30)) := (Below.refl _ _).alloc (Nat.le_refl _) _
      have hb34 := hb4.trans (hb4'.mono hb4.size)
      have hbw4 := (unhide Hbw3).trans (hb34.mono (unhide Hbw3).size)
      have hok4 := ok_below (unhide Hok3) hb34
      have htab4 := tab_below (unhide Ht) hbw4 h0
      have hpos4 : 0 < (W4.alloc (.cells #[.slice va4 L4.length vc4] 30)).heap.size := by rw [World.size_alloc]; omega
      have HAll := hide (all_any W2.heap.size O bl sz (unhide Hsz2) _ hok4 htab4 hpos4)
      have hri4' := rowI_below hri4 hb4'
      have hbox4 := (MapKept.heap_alloc W4 (.cells #[.slice va4 L4.length vc4] 30)).1
      have Hri4 := hide hri4'; have Hbox4 := hide hbox4; have Hup4 := hide hup4; have Hm4 := hide hm4; have Hb34 := hide hb34; have Hbw4 := hide hbw4; have Hok4 := hide hok4
      have hs4 : W3.heap.size ≤ W4.heap.size := hb4.size
      clear hri4 hri4' hbox4 hup4 hm4 hb34 hbw4 hok4 htab4 hpos4 hb4 hb4' HAd
      go_wp2_with fail
      generalize hW5 : W4.alloc (.cells #[.slice va4 L4.length vc4] 30) = W5 at *
      have hs5 : W5.heap.size = W4.heap.size + 1 := by rw [← hW5, World.size_alloc]
      clear hW5
      refine (unhide HAll).mono ?_
      rintro e W6 ⟨v6, rfl, hown6, hb6⟩
      obtain ⟨va6, vc6, rfl⟩ := own_form hown6
      have hn6 : (allL bl).length ≤ 1048576 := by
        have h1 := allL_len bl
        have h2 := fit_short (unhide Hok3).is.up (unhide Hok3).fit
        omega
      have Hown6 := hide hown6; have Hb6 := hide hb6
      clear hown6 hb6 HAll
      generalize (allL bl).length = n6 at *
      go_wp2
      go_loopw [54, 13] (fun x _ W => ∃ (i : Nat) (xs : List Value), x = .int .i64 i ∧ i ≤ n6 ∧ Below W5.heap.size W5 W ∧ W.ownsRow W5.heap.size 3 1 (.slice va6 n6 vc6) n6 xs) (fun x _ _ => n6 - (intOf x).toNat)
      case atStart => exact ⟨0, _, rfl, Nat.zero_le _, unhide Hb6, unhide Hown6⟩
      case round =>
        obtain ⟨i, xs, rfl, hin, hbi, howni⟩ := hrel
        clear Hb6 Hown6
        by_cases hlt : i < n6
        · have hlt' : (i : Int) < n6 := by omega
          obtain ⟨g6, c6, e6, hg6, -⟩ := own_pos howni (by omega)
          simp only [Value.slice.injEq] at e6
          obtain ⟨rfl, -, rfl⟩ := e6
          have hxl : xs.length = n6 := by have := howni.1; omega
          have ci := own_cell howni rfl i (by omega)
          have fi : wr.frozen? ⟨g6, i, none⟩ = false := howni.frozenAt _
          have hst := (howni.stored i (.int .i64 77)).1
          have Hrel := hide (And.intro (hbi.setCell (p := ⟨g6, i, none⟩) hg6 (.int .i64 77)) hst)
          clear hst hbi howni
          generalize xs.getD i undef = z at *
          go_wp2
          go_roundw
          case rel => exact ⟨i + 1, _, by go_num, by omega, (unhide Hrel).1, (unhide Hrel).2⟩
          case measure => simp [intOf]; omega
        · obtain rfl : i = n6 := by omega
          have hlt' : ¬ ((i : Int) < i) := by omega
          have Hbi := hide hbi; have Howni := hide howni
          have hsi := hbi.size
          clear hbi howni
          go_wp2_with (at_builtin; refine wpList_append_own _ rfl _ _ 22 rfl W5.heap.size 3 i0 (.int .i64 0) 1 8 Tryd.underlying22 hi hz0 hz1 hz2 rfl (by decide) _ _ _ rfl ((unhide Howni).alloc _) ⟨wr.heap.size, 0, none⟩ 2 2 (intV [78, 79]) rfl rfl (World.news_of_block (MapKept.heap_alloc wr (.cells #[.int .i64 78, .int .i64 79] 3)).1) (intV_one _) (by unfold maxLen; omega) (by omega) (by simp; omega) ?_)
          intro v7 W7 hown7 hg7 hv7
          have hb7 : Below W5.heap.size W5 W7 := ((unhide Hbi).alloc hsi _).grown hg7 (by simp; omega) (fun k hk => ((unhide Howni).lt k hk).1)
          have Hb7 := hide hb7
          clear hb7 hown7 hg7 hv7 Hbi Howni
          have hb7 := unhide Hb7
          have hbw7 := (unhide Hbw4).trans (hb7.mono (unhide Hbw4).size)
          have hok7 := ok_below (unhide Hok4) hb7
          have hrow7 := nrow_below (unhide Hrb) hbw7 (Nat.le_refl _)
          have hvalid : ∀ x, hasB bl x = true → 0 ≤ x ∧ x < ((1048576 : Nat) : Int) := fun x hx => has_valid (unhide Hok3).fit x hx
          have hcn := dropS_cnt 1048576 (hasB bl) hvalid m
          have hszk : ∀ k, k ≤ m.length → (dropS (hasB bl) (m.take k)).2 ≤ sz := fun k hk => by have := hcn k hk; have := unhide Hsz; omega
          have hwW2 : w.heap.size ≤ W2.heap.size := (unhide HR).1.size
          have hap : m ≠ [] → ∀ x, ab = some x → ¬ O x.block := fun h1 x hx hO => by
            rcases unhide Hrb with h | ⟨g, off, h, hg, -⟩
            · exact h1 h
            · rw [h] at hx; cases hx; have := unhide HO3 _ hO; have : W2.heap.size ≤ g := this; omega
          have HD := hide (drop_all W2.heap.size O bl sz ab cb m hm hszk (by have := (unhide Hsz2).2; omega) W7 hok7 hrow7 hap)
          have Hd2 : Hid ((dropS (hasB bl) m).2 = (cnt 1048576 (hasB bl) : Int) - cnt 1048576 (dropS (hasB bl) m).1 ∧ 0 ≤ (dropS (hasB bl) m).2) := hide (by
            have h1 := hcn m.length (Nat.le_refl _)
            have h2 := dropS_le (hasB bl) m m.length (Nat.le_refl _)
            rw [List.take_length] at h1 h2
            exact ⟨h1, h2.1⟩)
          have Hdm : Hid (∀ x, (dropS (hasB bl) m).1 x = (!decide (x ∈ m) && hasB bl x)) := hide (fun x => by
            have h1 := dropS_mem (hasB bl) m x m.length (Nat.le_refl _)
            rw [List.take_length] at h1
            exact h1)
          clear hb7 hbw7 hok7 hrow7 hvalid hcn hszk hap
          go_wp2_with fail
          refine (unhide HD).mono ?_
          rintro e W8 ⟨rfl, ho8, bl8, hok8, hh8⟩
          have hOlt : ∀ k, O k → k < W3.heap.size := (unhide Hok3).is.lt
          have hlow8 : ∀ k, O k → w.heap.size ≤ k := fun k hk => by have := unhide HO3 k hk; omega
          have hbw7 := (unhide Hbw4).trans ((unhide Hb7).mono (unhide Hbw4).size)
          have hbw8 : Below w.heap.size w W8 := hbw7.trans (off_to ho8 hlow8 hbw7.size)
          have hbox8 : W8.heap[W4.heap.size]? = some (.cells #[.slice va4 L4.length vc4] 30 (0, 0)) := by
            have h7 := ((unhide Hb7).block _ (lt_of_some (unhide Hbox4))).trans (unhide Hbox4)
            exact (ho8.block _ (lt_of_some h7) (fun h => by have := hOlt _ h; omega)).trans h7
          have hri8 : RowI W8 W3.heap.size (.slice va4 L4.length vc4) L4 := rowI_off (rowI_below (unhide Hri4) (unhide Hb7)) ho8 (fun k hk h => by
            have h1 := ((rowI_own (unhide Hri4)).lt k hk).1
            have := hOlt k h
            omega)
          have hvl : ∀ x ∈ ([] : List Int), 0 ≤ x ∧ x < 1048576 := fun x hx => by
            have := List.all_eq_true.1 (unhide Hnum) x hx
            simpa using this
          have hL4 := up_short (unhide Hup4) (fun x hx => hvl x ((unhide Hm4 x).1 hx))
          have HDr := hide (refDrop_any (.slice va4 L4.length vc4) L4 hL4 (unhide Hup4) W3.heap.size ab cb m hm W8 hri8 (nrow_below (unhide Hrb) hbw8 (Nat.le_refl _)))
          have hroom8 : Room w W8 r cap ([] : List Int) := ⟨hbw8, own_off (own_off (O := fun _ => False) (own_off (O := fun _ => False) (own_off (O := fun _ => False) (unhide HR).2 (off_below (unhide Hb3)) (fun _ _ h => h)) (off_below (unhide Hb34)) (fun _ _ h => h)) (off_below (unhide Hb7)) (fun _ _ h => h)) ho8 (fun k hk h => by
            have h1 := ((unhide HR).2.lt k hk).2
            have := unhide HO3 k h
            omega)⟩
          have x8 := cell_block hbox8 0 _ rfl
          have Hbw8 := hide hbw8; have Hok8 := hide hok8; have Hh8 := hide hh8; have Hroom8 := hide hroom8
          have hrW2 : r < W2.heap.size := ((unhide HR).2.lt r rfl).2
          have hs38 : W3.heap.size ≤ W8.heap.size := by have h1 := (unhide Hb34).size; have h2 := (unhide Hb7).size; have h3 := ho8.size; omega
          have hs23 := (unhide Hb3).size
          clear ho8 hbw7 hbw8 hok8 hh8 hbox8 hri8 hvl hL4 hroom8 hOlt hlow8 HD
          go_wp2_with fail
          refine (unhide HDr).mono ?_
          rintro e W9 ⟨v9, L9, k9, rfl, hri9, hup9, hm9, hb9⟩
          obtain ⟨va9, vc9, rfl⟩ := rowI_form hri9
          have hb10 : Below W9.heap.size W9 (W9.alloc (.cells #[.slice va9 L9.length vc9] 30)) := (Below.refl _ _).alloc (Nat.le_refl _) _
          have hb810 := hb9.trans (hb10.mono hb9.size)
          have hbw10 := (unhide Hbw8).trans (hb810.mono (unhide Hbw8).size)
          have hroom10 : Room w (W9.alloc (.cells #[.slice va9 L9.length vc9] 30)) r cap ([] : List Int) := ⟨hbw10, own_off (O := fun _ => False) (unhide Hroom8).2 (off_below hb810) (fun _ _ h => h)⟩
          have hbox10 := (MapKept.heap_alloc W9 (.cells #[.slice va9 L9.length vc9] 30)).1
          have hri10 := rowI_below hri9 hb10
          have hok10 := ok_below (unhide Hok8) hb810
          have HSm := hide (refSame_any (some ⟨r, 0, none⟩) none cap 0 ([] : List Int) ([] : List Int) hl48 _ (room_row hroom10) (nrow_below (unhide Hra) hbw10 (Nat.le_refl _)))
          rw [show decide (([] : List Int) = ([] : List Int)) = true by simp] at HSm
          have hs89 := hb9.size
          have f10 := room_five hroom10
          have Hroom10 := hide hroom10; have Hbox10 := hide hbox10; have Hri10 := hide hri10; have Hok10 := hide hok10; have Hbw10 := hide hbw10; have Hup9 := hide hup9; have Hm9 := hide hm9
          clear hb10 hb810 hbw10 hroom10 hbox10 hri10 hok10 hri9 hup9 hm9 hb9 HDr x8
          have hll : (0 : Int) < (0 : Int) + 2 := by omega
          go_wp2_with fail
          generalize hW10 : W9.alloc (.cells #[.slice va9 L9.length vc9] 30) = W10 at *
          have hs10 : W10.heap.size = W9.heap.size + 1 := by rw [← hW10, World.size_alloc]
          clear hW10
          refine (unhide HSm).mono ?_
          rintro e W11 ⟨rfl, q, rfl⟩
          have hb11 : Below W10.heap.size W10 (W10.drewN q) := ⟨rfl, rfl, rfl, Nat.le_refl _, fun _ _ => rfl⟩
          have f11 : (W10.drewN q).cell? ⟨r, 0, none⟩ = some (.int .i64 (-5)) := f10
          have hs11 : (W10.drewN q).heap.size = W10.heap.size := rfl
          generalize W10.drewN q = W11 at *
          have hroom11 : Room w W11 r cap ([] : List Int) := ⟨(unhide Hroom10).1.trans (hb11.mono (unhide Hroom10).1.size), own_off (O := fun _ => False) (unhide Hroom10).2 (off_below hb11) (fun _ _ h => h)⟩
          have Hroom11 := hide hroom11
          have Hbox11 := hide ((hb11.block _ (lt_of_some (unhide Hbox10))).trans (unhide Hbox10))
          have Hri11 := hide (rowI_below (unhide Hri10) hb11)
          have Hok11 := hide (ok_below (unhide Hok10) hb11)
          clear hroom11 hb11 f10 Hroom10 Hbox10 Hri10 Hok10 HSm
          go_wp2
          go_loopw [86, 17] (fun x _ W => ∃ (i : Nat) (xs : List Value), x = .int .i64 i ∧ i ≤ 0 ∧ Off (fun k => k = r) W11 W ∧ W.ownsRow w.heap.size 3 1 (.slice (some ⟨r, 0, none⟩) (0 + 2) cap) (0 + 2) xs) (fun x _ _ => 0 - (intOf x).toNat)
          case atStart => exact ⟨0, _, rfl, Nat.zero_le _, off_refl _ _, (unhide Hroom11).2⟩
          case round =>
            obtain ⟨i, xs, rfl, hin, hbi, howni⟩ := hrel
            by_cases hlt : i < 0
            · omega
            · obtain rfl : i = 0 := by omega
              have hlt2 : ¬ ((0 : Int) < 0) := by omega
              have hbw11 := (unhide Hroom11).1
              have hbw12 : Below w.heap.size w wr := hbw11.trans (off_to hbi (fun k hk => by have := ((unhide HR).2.lt r rfl).1; omega) hbw11.size)
              have hbox12 : wr.heap[W9.heap.size]? = some (.cells #[.slice va9 L9.length vc9] 30 (0, 0)) := (hbi.block _ (lt_of_some (unhide Hbox11)) (by show ¬ W9.heap.size = r; omega)).trans (unhide Hbox11)
              have hri12 := rowI_off (unhide Hri11) hbi (fun k hk h => by have h1 := ((rowI_own (unhide Hri11)).lt k hk).1; have : k = r := h; omega)
              have hok12 := ok_off (unhide Hok11) hbi (fun k hk h => by have h1 := unhide HO3 k hk; have : k = r := h; omega)
              have htab12 := tab_below (unhide Ht) hbw12 h0
              have hpos12 : 0 < wr.heap.size := by have := hbw12.size; omega
              have hsz8 : 0 ≤ sz - (dropS (hasB bl) m).2 ∧ sz - (dropS (hasB bl) m).2 ≤ 1048576 := by
                have h1 := (unhide Hd2).1; have h2 := (unhide Hd2).2; have h3 := unhide Hsz; have h4 := (unhide Hsz2).2
                omega
              have hdr : Below wr.heap.size wr wr.drew := (Below.refl _ _).drew
              have HAll := hide (all_any W2.heap.size O bl8 _ hsz8 wr.drew (ok_below hok12 hdr) (tab_below htab12 hdr hpos12) hpos12)
              have heq : L9 = allL bl8 := all_is hok12.is.up hok12.fit (unhide Hup9) (fun x => by
                rw [unhide Hm9, unhide Hm4, unhide Hh8, unhide Hdm, unhide Hh3]
                simp)
              have hn13 : (allL bl8).length ≤ 281474976710656 := by
                have h1 := allL_len bl8
                have h2 := fit_short hok12.is.up hok12.fit
                omega
              have HS13 : Hid (∀ (va : Option Addr) (vc : Nat) (W13 : World), W13.ownsRow wr.drew.heap.size 3 1 (.slice va (allL bl8).length vc) (allL bl8).length (intV (allL bl8)) → Below wr.drew.heap.size wr.drew W13 →
                  Calls Tryd.prog 12 #[.slice va (allL bl8).length vc, .slice va9 L9.length vc9] W13 (fun e w' => e = .returned (.bool true) ∧ ∃ q, w' = W13.drewN q) ∧ W13.heap[W9.heap.size]? = some (.cells #[.slice va9 L9.length vc9] 30 (0, 0)) ∧ Below w.heap.size w W13) := hide (fun va vc W13 hown hb => by
                have h2 : NRow W13 va9 L9 := rowI_nrow (rowI_below (rowI_below hri12 hdr) hb) rfl
                have h3 := refSame_any va va9 vc vc9 (allL bl8) L9 hn13 W13 (own_nrow2 hown rfl) h2
                rw [show decide (allL bl8 = L9) = true by rw [heq]; simp] at h3
                exact ⟨h3, (hb.block _ (lt_of_some hbox12)).trans hbox12, hbw12.drew.trans (hb.mono hbw12.size)⟩)
              have HAl := hide (fun W => alive_any W)
              have z0 := cell_block hbox12 0 _ rfl
              clear hbw11 hbw12 hbox12 hri12 hok12 htab12 hsz8 heq hn13 hdr hbi howni Hroom11 Hbox11 Hri11 Hok11
              generalize (allL bl8).length = n13 at *
              go_wp2
              go_region_held3 (fun w' : World => w'.cell? ⟨W9.heap.size, 0, none⟩ = some (.slice va9 L9.length vc9))
                (first | exact c15 | exact c13 | exact z0 | go_keep)
                ((first | (go_at_call 9; refine (unhide HAll).mono ?_; rintro e W13 ⟨v13, rfl, hown13, hb13⟩; obtain ⟨va13, vc13, rfl⟩ := own_form hown13; obtain ⟨hS, hx13, hbw13⟩ := unhide HS13 va13 vc13 W13 hown13 hb13; have c13 := cell_block hx13 0 _ rfl; have HSm := hide hS; have Hx13 := hide hx13; have Hbw13 := hide hbw13; clear hS hx13 hbw13 hown13 hb13) | (go_at_call 12; refine (unhide HSm).mono ?_; rintro e W14 ⟨rfl, q2, rfl⟩) | (go_at_call 7; refine (unhide HAl _).mono ?_; rintro e W15 ⟨rfl, hb15⟩; have c15 : W15.cell? ⟨W9.heap.size, 0, none⟩ = some (.slice va9 L9.length vc9) := (hb15.cell (p := ⟨W9.heap.size, 0, none⟩) (lt_of_some (unhide Hx13))).trans c13; have Hb15 := hide hb15; clear hb15)))
              all_goals
                go_wp2
                go_ret
                exact ⟨rfl, (below_dN (unhide Hbw13) _).trans ((unhide Hb15).mono (unhide Hbw13).size)⟩
  | some ad =>
    have hsrc : ∀ j u, (intV l)[j]? = some u → w.cell? (ad.add j) = some u := fun j u hu => by
      by_cases hne : l = []
      · subst hne; simp [intV] at hu
      · exact unhide Hsrc ad rfl hne j u hu
    have Hs := hide hsrc
    have Hone := hide (intV_one l)
    have Hll := hide (intV_length l)
    clear hsrc
    go_wp2_with (at_builtin; refine wpList_append_own _ rfl _ _ 22 rfl w.heap.size 3 i0 (.int .i64 0) 1 8 Tryd.underlying22 hi hz0 hz1 hz2 rfl (by decide) _ 0 [] rfl (World.ownsRow_nil _ _ _ _) ad l.length ca (intV l) rfl (by rw [unhide Hll, Nat.mul_one]) (unhide Hs) (unhide Hone) (by unfold maxLen; omega) (by omega) (Nat.le_refl _) ?_)
    intro v1 W1 hown1 hg1 hv1
    have hb1 : Below w.heap.size w W1 := (Below.refl _ w).grown hg1 (Nat.le_refl _) (fun k hk => by simp [Value.ownBlock] at hk)
    have hs1 := hb1.size
    obtain ⟨va1, vc1, rfl⟩ := own_form hown1
    have Hb1 := hide hb1; have Hown1 := hide hown1
    clear hb1 hown1 hg1 hv1
    go_wp2_with (at_builtin; refine wpList_append_own _ rfl _ _ 22 rfl w.heap.size 3 i0 (.int .i64 0) 1 8 Tryd.underlying22 hi hz0 hz1 hz2 rfl (by decide) _ _ _ rfl ((unhide Hown1).alloc _) ⟨W1.heap.size, 0, none⟩ 2 2 (intV five) rfl rfl (World.news_of_block (MapKept.heap_alloc W1 (.cells #[.int .i64 (-5), .int .i64 (-5)] 3)).1) (intV_one _) (by unfold maxLen; omega) (by omega) (by simp; omega) ?_)
    intro v2 W2 hown2 hg2 hv2
    have hb2 : Below w.heap.size w W2 := ((unhide Hb1).alloc hs1 _).grown hg2 (by simp; omega) (fun k hk => ((unhide Hown1).lt k hk).1)
    obtain ⟨r, cap, rfl, -, -, hcap, -⟩ := own_pos hown2 (by omega)
    have hroom : Room w W2 r cap l := ⟨hb2, by rw [intV_append]; simpa using hown2⟩
    have hcl : (l.length : Int) ≤ cap := by omega
    have HR := hide hroom
    clear hb2 hown2 hg2 hv2 hroom Hb1 Hown1
    cases hnum : numsB l
    · have HNw := hide (new_wrong (some ⟨r, 0, none⟩) cap l hl48 hnum W2 (room_row (unhide HR)))
      have HNm := hide (fun W3 (hb : Below W2.heap.size W2 W3) => by
        have h := refNumbers_any (some ad) ca l hl48 W3 (nrow_below (unhide Hra) ((unhide HR).1.trans (hb.mono (unhide HR).1.size)) (Nat.le_refl _))
        rw [hnum] at h
        exact h)
      clear hnum
      go_wp2_with fail
      refine (unhide HNw).mono ?_
      rintro e W3 ⟨rfl, hb3⟩
      have HNm3 := hide (unhide HNm W3 hb3)
      have HAl := hide (alive_any W3)
      have Hb3 := hide ((unhide HR).1.trans (hb3.mono (unhide HR).1.size))
      clear hb3 HNm HNw
      go_wp2_with fail
      refine (unhide HNm3).mono ?_
      rintro e W4 ⟨rfl, hw⟩
      obtain rfl := hw.symm
      go_wp2_with fail
      refine (unhide HAl).mono ?_
      rintro e W4 ⟨rfl, hb4⟩
      have Hb4 := hide ((unhide Hb3).trans (hb4.mono (unhide Hb3).size))
      clear hb4
      go_wp2
      go_ret
      exact ⟨rfl, unhide Hb4⟩
    · have HN := hide (new_nums 1048576 rfl (some ⟨r, 0, none⟩) cap l hl48 hnum W2 (room_row (unhide HR)))
      have Hnum := hide hnum
      clear hnum
      go_wp2_with fail
      refine (unhide HN).mono ?_
      rintro e W3 ⟨rfl, hb3, bl, O, hok3, hO3, hh3⟩
      have hbw3 := (unhide HR).1.trans (hb3.mono (unhide HR).1.size)
      obtain ⟨sz, hsz⟩ : ∃ sz : Int, sz = (cnt 1048576 (hasB bl) : Int) := ⟨_, rfl⟩
      rw [← hsz] at hok3
      have hsz2 : 0 ≤ sz ∧ sz ≤ 1048576 := by have := cnt_le 1048576 (hasB bl); omega
      have HAd := hide (refAdd_any (some ad) ca l hl48 (unhide Hnum) W3 (nrow_below (unhide Hra) hbw3 (Nat.le_refl _)))
      have Hsz := hide hsz; have Hsz2 := hide hsz2; have Hok3 := hide hok3; have HO3 := hide hO3; have Hh3 := hide hh3; have Hbw3 := hide hbw3; have Hb3 := hide hb3
      clear hsz hsz2 hok3 hO3 hh3 hbw3 hb3 HN
      go_wp2_with fail
      refine (unhide HAd).mono ?_
      rintro e W4 ⟨v4, L4, k4, rfl, hri4, hup4, hm4, hb4⟩
      obtain ⟨va4, vc4, rfl⟩ := rowI_form hri4
      have hb4' : Below W4.heap.size W4 (W4.alloc (.cells #[.slice va4 L4.length vc4] 30)) := (Below.refl _ _).alloc (Nat.le_refl _) _
      have hb34 := hb4.trans (hb4'.mono hb4.size)
      have hbw4 := (unhide Hbw3).trans (hb34.mono (unhide Hbw3).size)
      have hok4 := ok_below (unhide Hok3) hb34
      have htab4 := tab_below (unhide Ht) hbw4 h0
      have hpos4 : 0 < (W4.alloc (.cells #[.slice va4 L4.length vc4] 30)).heap.size := by rw [World.size_alloc]; omega
      have HAll := hide (all_any W2.heap.size O bl sz (unhide Hsz2) _ hok4 htab4 hpos4)
      have hri4' := rowI_below hri4 hb4'
      have hbox4 := (MapKept.heap_alloc W4 (.cells #[.slice va4 L4.length vc4] 30)).1
      have Hri4 := hide hri4'; have Hbox4 := hide hbox4; have Hup4 := hide hup4; have Hm4 := hide hm4; have Hb34 := hide hb34; have Hbw4 := hide hbw4; have Hok4 := hide hok4
      have hs4 : W3.heap.size ≤ W4.heap.size := hb4.size
      clear hri4 hri4' hbox4 hup4 hm4 hb34 hbw4 hok4 htab4 hpos4 hb4 hb4' HAd
      go_wp2_with fail
      generalize hW5 : W4.alloc (.cells #[.slice va4 L4.length vc4] 30) = W5 at *
      have hs5 : W5.heap.size = W4.heap.size + 1 := by rw [← hW5, World.size_alloc]
      clear hW5
      refine (unhide HAll).mono ?_
      rintro e W6 ⟨v6, rfl, hown6, hb6⟩
      obtain ⟨va6, vc6, rfl⟩ := own_form hown6
      have hn6 : (allL bl).length ≤ 1048576 := by
        have h1 := allL_len bl
        have h2 := fit_short (unhide Hok3).is.up (unhide Hok3).fit
        omega
      have Hown6 := hide hown6; have Hb6 := hide hb6
      clear hown6 hb6 HAll
      generalize (allL bl).length = n6 at *
      go_wp2
      go_loopw [54, 13] (fun x _ W => ∃ (i : Nat) (xs : List Value), x = .int .i64 i ∧ i ≤ n6 ∧ Below W5.heap.size W5 W ∧ W.ownsRow W5.heap.size 3 1 (.slice va6 n6 vc6) n6 xs) (fun x _ _ => n6 - (intOf x).toNat)
      case atStart => exact ⟨0, _, rfl, Nat.zero_le _, unhide Hb6, unhide Hown6⟩
      case round =>
        obtain ⟨i, xs, rfl, hin, hbi, howni⟩ := hrel
        clear Hb6 Hown6
        by_cases hlt : i < n6
        · have hlt' : (i : Int) < n6 := by omega
          obtain ⟨g6, c6, e6, hg6, -⟩ := own_pos howni (by omega)
          simp only [Value.slice.injEq] at e6
          obtain ⟨rfl, -, rfl⟩ := e6
          have hxl : xs.length = n6 := by have := howni.1; omega
          have ci := own_cell howni rfl i (by omega)
          have fi : wr.frozen? ⟨g6, i, none⟩ = false := howni.frozenAt _
          have hst := (howni.stored i (.int .i64 77)).1
          have Hrel := hide (And.intro (hbi.setCell (p := ⟨g6, i, none⟩) hg6 (.int .i64 77)) hst)
          clear hst hbi howni
          generalize xs.getD i undef = z at *
          go_wp2
          go_roundw
          case rel => exact ⟨i + 1, _, by go_num, by omega, (unhide Hrel).1, (unhide Hrel).2⟩
          case measure => simp [intOf]; omega
        · obtain rfl : i = n6 := by omega
          have hlt' : ¬ ((i : Int) < i) := by omega
          have Hbi := hide hbi; have Howni := hide howni
          have hsi := hbi.size
          clear hbi howni
          go_wp2_with (at_builtin; refine wpList_append_own _ rfl _ _ 22 rfl W5.heap.size 3 i0 (.int .i64 0) 1 8 Tryd.underlying22 hi hz0 hz1 hz2 rfl (by decide) _ _ _ rfl ((unhide Howni).alloc _) ⟨wr.heap.size, 0, none⟩ 2 2 (intV [78, 79]) rfl rfl (World.news_of_block (MapKept.heap_alloc wr (.cells #[.int .i64 78, .int .i64 79] 3)).1) (intV_one _) (by unfold maxLen; omega) (by omega) (by simp; omega) ?_)
          intro v7 W7 hown7 hg7 hv7
          have hb7 : Below W5.heap.size W5 W7 := ((unhide Hbi).alloc hsi _).grown hg7 (by simp; omega) (fun k hk => ((unhide Howni).lt k hk).1)
          have Hb7 := hide hb7
          clear hb7 hown7 hg7 hv7 Hbi Howni
          have hb7 := unhide Hb7
          have hbw7 := (unhide Hbw4).trans (hb7.mono (unhide Hbw4).size)
          have hok7 := ok_below (unhide Hok4) hb7
          have hrow7 := nrow_below (unhide Hrb) hbw7 (Nat.le_refl _)
          have hvalid : ∀ x, hasB bl x = true → 0 ≤ x ∧ x < ((1048576 : Nat) : Int) := fun x hx => has_valid (unhide Hok3).fit x hx
          have hcn := dropS_cnt 1048576 (hasB bl) hvalid m
          have hszk : ∀ k, k ≤ m.length → (dropS (hasB bl) (m.take k)).2 ≤ sz := fun k hk => by have := hcn k hk; have := unhide Hsz; omega
          have hwW2 : w.heap.size ≤ W2.heap.size := (unhide HR).1.size
          have hap : m ≠ [] → ∀ x, ab = some x → ¬ O x.block := fun h1 x hx hO => by
            rcases unhide Hrb with h | ⟨g, off, h, hg, -⟩
            · exact h1 h
            · rw [h] at hx; cases hx; have := unhide HO3 _ hO; have : W2.heap.size ≤ g := this; omega
          have HD := hide (drop_all W2.heap.size O bl sz ab cb m hm hszk (by have := (unhide Hsz2).2; omega) W7 hok7 hrow7 hap)
          have Hd2 : Hid ((dropS (hasB bl) m).2 = (cnt 1048576 (hasB bl) : Int) - cnt 1048576 (dropS (hasB bl) m).1 ∧ 0 ≤ (dropS (hasB bl) m).2) := hide (by
            have h1 := hcn m.length (Nat.le_refl _)
            have h2 := dropS_le (hasB bl) m m.length (Nat.le_refl _)
            rw [List.take_length] at h1 h2
            exact ⟨h1, h2.1⟩)
          have Hdm : Hid (∀ x, (dropS (hasB bl) m).1 x = (!decide (x ∈ m) && hasB bl x)) := hide (fun x => by
            have h1 := dropS_mem (hasB bl) m x m.length (Nat.le_refl _)
            rw [List.take_length] at h1
            exact h1)
          clear hb7 hbw7 hok7 hrow7 hvalid hcn hszk hap
          go_wp2_with fail
          refine (unhide HD).mono ?_
          rintro e W8 ⟨rfl, ho8, bl8, hok8, hh8⟩
          have hOlt : ∀ k, O k → k < W3.heap.size := (unhide Hok3).is.lt
          have hlow8 : ∀ k, O k → w.heap.size ≤ k := fun k hk => by have := unhide HO3 k hk; omega
          have hbw7 := (unhide Hbw4).trans ((unhide Hb7).mono (unhide Hbw4).size)
          have hbw8 : Below w.heap.size w W8 := hbw7.trans (off_to ho8 hlow8 hbw7.size)
          have hbox8 : W8.heap[W4.heap.size]? = some (.cells #[.slice va4 L4.length vc4] 30 (0, 0)) := by
            have h7 := ((unhide Hb7).block _ (lt_of_some (unhide Hbox4))).trans (unhide Hbox4)
            exact (ho8.block _ (lt_of_some h7) (fun h => by have := hOlt _ h; omega)).trans h7
          have hri8 : RowI W8 W3.heap.size (.slice va4 L4.length vc4) L4 := rowI_off (rowI_below (unhide Hri4) (unhide Hb7)) ho8 (fun k hk h => by
            have h1 := ((rowI_own (unhide Hri4)).lt k hk).1
            have := hOlt k h
            omega)
          have hvl : ∀ x ∈ l, 0 ≤ x ∧ x < 1048576 := fun x hx => by
            have := List.all_eq_true.1 (unhide Hnum) x hx
            simpa using this
          have hL4 := up_short (unhide Hup4) (fun x hx => hvl x ((unhide Hm4 x).1 hx))
          have HDr := hide (refDrop_any (.slice va4 L4.length vc4) L4 hL4 (unhide Hup4) W3.heap.size ab cb m hm W8 hri8 (nrow_below (unhide Hrb) hbw8 (Nat.le_refl _)))
          have hroom8 : Room w W8 r cap l := ⟨hbw8, own_off (own_off (O := fun _ => False) (own_off (O := fun _ => False) (own_off (O := fun _ => False) (unhide HR).2 (off_below (unhide Hb3)) (fun _ _ h => h)) (off_below (unhide Hb34)) (fun _ _ h => h)) (off_below (unhide Hb7)) (fun _ _ h => h)) ho8 (fun k hk h => by
            have h1 := ((unhide HR).2.lt k hk).2
            have := unhide HO3 k h
            omega)⟩
          have x8 := cell_block hbox8 0 _ rfl
          have Hbw8 := hide hbw8; have Hok8 := hide hok8; have Hh8 := hide hh8; have Hroom8 := hide hroom8
          have hrW2 : r < W2.heap.size := ((unhide HR).2.lt r rfl).2
          have hs38 : W3.heap.size ≤ W8.heap.size := by have h1 := (unhide Hb34).size; have h2 := (unhide Hb7).size; have h3 := ho8.size; omega
          have hs23 := (unhide Hb3).size
          clear ho8 hbw7 hbw8 hok8 hh8 hbox8 hri8 hvl hL4 hroom8 hOlt hlow8 HD
          go_wp2_with fail
          refine (unhide HDr).mono ?_
          rintro e W9 ⟨v9, L9, k9, rfl, hri9, hup9, hm9, hb9⟩
          obtain ⟨va9, vc9, rfl⟩ := rowI_form hri9
          have hb10 : Below W9.heap.size W9 (W9.alloc (.cells #[.slice va9 L9.length vc9] 30)) := (Below.refl _ _).alloc (Nat.le_refl _) _
          have hb810 := hb9.trans (hb10.mono hb9.size)
          have hbw10 := (unhide Hbw8).trans (hb810.mono (unhide Hbw8).size)
          have hroom10 : Room w (W9.alloc (.cells #[.slice va9 L9.length vc9] 30)) r cap l := ⟨hbw10, own_off (O := fun _ => False) (unhide Hroom8).2 (off_below hb810) (fun _ _ h => h)⟩
          have hbox10 := (MapKept.heap_alloc W9 (.cells #[.slice va9 L9.length vc9] 30)).1
          have hri10 := rowI_below hri9 hb10
          have hok10 := ok_below (unhide Hok8) hb810
          have HSm := hide (refSame_any (some ⟨r, 0, none⟩) (some ad) cap ca l l hl48 _ (room_row hroom10) (nrow_below (unhide Hra) hbw10 (Nat.le_refl _)))
          rw [show decide (l = l) = true by simp] at HSm
          have hs89 := hb9.size
          have f10 := room_five hroom10
          have Hroom10 := hide hroom10; have Hbox10 := hide hbox10; have Hri10 := hide hri10; have Hok10 := hide hok10; have Hbw10 := hide hbw10; have Hup9 := hide hup9; have Hm9 := hide hm9
          clear hb10 hb810 hbw10 hroom10 hbox10 hri10 hok10 hri9 hup9 hm9 hb9 HDr x8
          have hll : (l.length : Int) < (l.length : Int) + 2 := by omega
          go_wp2_with fail
          generalize hW10 : W9.alloc (.cells #[.slice va9 L9.length vc9] 30) = W10 at *
          have hs10 : W10.heap.size = W9.heap.size + 1 := by rw [← hW10, World.size_alloc]
          clear hW10
          refine (unhide HSm).mono ?_
          rintro e W11 ⟨rfl, q, rfl⟩
          have hb11 : Below W10.heap.size W10 (W10.drewN q) := ⟨rfl, rfl, rfl, Nat.le_refl _, fun _ _ => rfl⟩
          have f11 : (W10.drewN q).cell? ⟨r, l.length, none⟩ = some (.int .i64 (-5)) := f10
          have hs11 : (W10.drewN q).heap.size = W10.heap.size := rfl
          generalize W10.drewN q = W11 at *
          have hroom11 : Room w W11 r cap l := ⟨(unhide Hroom10).1.trans (hb11.mono (unhide Hroom10).1.size), own_off (O := fun _ => False) (unhide Hroom10).2 (off_below hb11) (fun _ _ h => h)⟩
          have Hroom11 := hide hroom11
          have Hbox11 := hide ((hb11.block _ (lt_of_some (unhide Hbox10))).trans (unhide Hbox10))
          have Hri11 := hide (rowI_below (unhide Hri10) hb11)
          have Hok11 := hide (ok_below (unhide Hok10) hb11)
          clear hroom11 hb11 f10 Hroom10 Hbox10 Hri10 Hok10 HSm
          go_wp2
          go_loopw [86, 17] (fun x _ W => ∃ (i : Nat) (xs : List Value), x = .int .i64 i ∧ i ≤ l.length ∧ Off (fun k => k = r) W11 W ∧ W.ownsRow w.heap.size 3 1 (.slice (some ⟨r, 0, none⟩) (l.length + 2) cap) (l.length + 2) xs) (fun x _ _ => l.length - (intOf x).toNat)
          case atStart => exact ⟨0, _, rfl, Nat.zero_le _, off_refl _ _, (unhide Hroom11).2⟩
          case round =>
            obtain ⟨i, xs, rfl, hin, hbi, howni⟩ := hrel
            by_cases hlt : i < l.length
            · have hlt2 : (i : Int) < l.length := by omega
              have hxl : xs.length = l.length + 2 := by have := howni.1; omega
              have ci := own_cell howni rfl i (by omega)
              have fi : wr.frozen? ⟨r, i, none⟩ = false := howni.frozenAt _
              have hst := (howni.stored i (.int .i64 3)).1
              have Hrel := hide (And.intro (off_set (O := fun k => k = r) hbi (p := ⟨r, i, none⟩) (.inl rfl) (.int .i64 3)) hst)
              clear hst hbi howni
              generalize xs.getD i undef = z at *
              go_wp2
              go_roundw
              case rel => exact ⟨i + 1, _, by go_num, by omega, (unhide Hrel).1, (unhide Hrel).2⟩
              case measure => simp [intOf]; omega
            · obtain rfl : i = l.length := by omega
              have hlt2 : ¬ ((l.length : Int) < l.length) := by omega
              have hbw11 := (unhide Hroom11).1
              have hbw12 : Below w.heap.size w wr := hbw11.trans (off_to hbi (fun k hk => by have := ((unhide HR).2.lt r rfl).1; omega) hbw11.size)
              have hbox12 : wr.heap[W9.heap.size]? = some (.cells #[.slice va9 L9.length vc9] 30 (0, 0)) := (hbi.block _ (lt_of_some (unhide Hbox11)) (by show ¬ W9.heap.size = r; omega)).trans (unhide Hbox11)
              have hri12 := rowI_off (unhide Hri11) hbi (fun k hk h => by have h1 := ((rowI_own (unhide Hri11)).lt k hk).1; have : k = r := h; omega)
              have hok12 := ok_off (unhide Hok11) hbi (fun k hk h => by have h1 := unhide HO3 k hk; have : k = r := h; omega)
              have htab12 := tab_below (unhide Ht) hbw12 h0
              have hpos12 : 0 < wr.heap.size := by have := hbw12.size; omega
              have hsz8 : 0 ≤ sz - (dropS (hasB bl) m).2 ∧ sz - (dropS (hasB bl) m).2 ≤ 1048576 := by
                have h1 := (unhide Hd2).1; have h2 := (unhide Hd2).2; have h3 := unhide Hsz; have h4 := (unhide Hsz2).2
                omega
              have hdr : Below wr.heap.size wr wr.drew := (Below.refl _ _).drew
              have HAll := hide (all_any W2.heap.size O bl8 _ hsz8 wr.drew (ok_below hok12 hdr) (tab_below htab12 hdr hpos12) hpos12)
              have heq : L9 = allL bl8 := all_is hok12.is.up hok12.fit (unhide Hup9) (fun x => by
                rw [unhide Hm9, unhide Hm4, unhide Hh8, unhide Hdm, unhide Hh3]
                simp [and_comm])
              have hn13 : (allL bl8).length ≤ 281474976710656 := by
                have h1 := allL_len bl8
                have h2 := fit_short hok12.is.up hok12.fit
                omega
              have HS13 : Hid (∀ (va : Option Addr) (vc : Nat) (W13 : World), W13.ownsRow wr.drew.heap.size 3 1 (.slice va (allL bl8).length vc) (allL bl8).length (intV (allL bl8)) → Below wr.drew.heap.size wr.drew W13 →
                  Calls Tryd.prog 12 #[.slice va (allL bl8).length vc, .slice va9 L9.length vc9] W13 (fun e w' => e = .returned (.bool true) ∧ ∃ q, w' = W13.drewN q) ∧ W13.heap[W9.heap.size]? = some (.cells #[.slice va9 L9.length vc9] 30 (0, 0)) ∧ Below w.heap.size w W13) := hide (fun va vc W13 hown hb => by
                have h2 : NRow W13 va9 L9 := rowI_nrow (rowI_below (rowI_below hri12 hdr) hb) rfl
                have h3 := refSame_any va va9 vc vc9 (allL bl8) L9 hn13 W13 (own_nrow2 hown rfl) h2
                rw [show decide (allL bl8 = L9) = true by rw [heq]; simp] at h3
                exact ⟨h3, (hb.block _ (lt_of_some hbox12)).trans hbox12, hbw12.drew.trans (hb.mono hbw12.size)⟩)
              have HAl := hide (fun W => alive_any W)
              have z0 := cell_block hbox12 0 _ rfl
              clear hbw11 hbw12 hbox12 hri12 hok12 htab12 hsz8 heq hn13 hdr hbi howni Hroom11 Hbox11 Hri11 Hok11
              generalize (allL bl8).length = n13 at *
              go_wp2
              go_region_held3 (fun w' : World => w'.cell? ⟨W9.heap.size, 0, none⟩ = some (.slice va9 L9.length vc9))
                (first | exact c15 | exact c13 | exact z0 | go_keep)
                ((first | (go_at_call 9; refine (unhide HAll).mono ?_; rintro e W13 ⟨v13, rfl, hown13, hb13⟩; obtain ⟨va13, vc13, rfl⟩ := own_form hown13; obtain ⟨hS, hx13, hbw13⟩ := unhide HS13 va13 vc13 W13 hown13 hb13; have c13 := cell_block hx13 0 _ rfl; have HSm := hide hS; have Hx13 := hide hx13; have Hbw13 := hide hbw13; clear hS hx13 hbw13 hown13 hb13) | (go_at_call 12; refine (unhide HSm).mono ?_; rintro e W14 ⟨rfl, q2, rfl⟩) | (go_at_call 7; refine (unhide HAl _).mono ?_; rintro e W15 ⟨rfl, hb15⟩; have c15 : W15.cell? ⟨W9.heap.size, 0, none⟩ = some (.slice va9 L9.length vc9) := (hb15.cell (p := ⟨W9.heap.size, 0, none⟩) (lt_of_some (unhide Hx13))).trans c13; have Hb15 := hide hb15; clear hb15)))
              all_goals
                go_wp2
                go_ret
                exact ⟨rfl, (below_dN (unhide Hbw13) _).trans ((unhide Hb15).mono (unhide Hbw13).size)⟩
end Go.Proofs.YtdpphjedjhjdgabDoor

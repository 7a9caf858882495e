/- The document's sets: with, any; Add. -/
import Derived.Test.YtdpphjedjhjdgaaDoorE9
import Derived.Laws.AppendOwnNone
namespace Go.Proofs.YtdpphjedjhjdgaaDoor
open Go.RowKit Go.Maps

set_option maxHeartbeats 8000000 in
set_option maxRecDepth 100000 in
theorem with_nil (n : Int) (w : World) :
    Calls Tryd.prog 26 #[.agg #[.slice none 0 0], .int .i64 n] w fun e w' => ∃ v', e = .returned (.agg #[v']) ∧ RowI w' w.heap.size v' [n] ∧ Below w.heap.size w w' := by
  obtain ⟨i0, hi, hz0, hz1, hz2⟩ := info_parts hint
  have hb0 : Below w.heap.size w ((w.alloc (.cells #[.slice none 0 0] 32)).alloc (.cells #[.slice none 0 0] 32)) := ((Below.refl _ w).alloc (Nat.le_refl _) _).alloc (by simp) _
  have HH := hide (refHas_any none 0 [] (by decide) n ((w.alloc (.cells #[.slice none 0 0] 32)).alloc (.cells #[.slice none 0 0] 32)) (.inl rfl))
  rw [show decide (n ∈ ([] : List Int)) = false by simp, show ([] : List Int).length = 0 from rfl] at HH
  have hw0 : WBl ((w.alloc (.cells #[.slice none 0 0] 32)).alloc (.cells #[.slice none 0 0] 32)) w.heap.size (.slice none 0 0) := ⟨(Below.heap_alloc _ _ _ (by simp)).trans (MapKept.heap_alloc w _).1, by
    have := (MapKept.heap_alloc (w.alloc (.cells #[.slice none 0 0] 32)) (.cells #[.slice none 0 0] 32)).1
    simpa using this⟩
  have Hb0 := hide hb0; have Hw0 := hide hw0
  clear hb0 hw0
  go_enter Tryd.func26, Tryd.ntmps26
  go_wp2_with fail
  refine (unhide HH).mono ?_
  rintro e w1 ⟨rfl, hb1⟩
  have hbw1 := (unhide Hb0).trans (hb1.mono (unhide Hb0).size)
  have hw1 := wbl_kept (unhide Hw0) (fun j hj => hb1.block j (Nat.lt_of_lt_of_le hj (wbl_lt (unhide Hw0))))
  have x0 := cell_block hw1.b0 0 _ rfl
  have hs2 := wbl_lt hw1
  have Hbw1 := hide hbw1; have Hw1 := hide hw1
  clear hbw1 hw1 hb1 HH Hw0 Hb0
  go_wp2
  go_loop [6, 5] (fun x v => x = .int .i64 0 ∧ v = .slice none 0 0) (fun x _ => 0)
  case atStart => exact ⟨rfl, rfl⟩
  case round =>
    obtain ⟨rfl, rfl⟩ := hrel
    go_wp2_with (at_builtin; refine wpList_append_own _ rfl _ _ 22 rfl (w.heap.size + 2) 3 i0 (.int .i64 0) 1 8 Tryd.underlying22 hi hz0 hz1 hz2 rfl (by decide) _ 0 [] rfl (World.ownsRow_nil _ _ _ _) ⟨w1.heap.size, 0, none⟩ 1 1 [.int .i64 n] rfl rfl (World.news_of_block (MapKept.heap_alloc w1 (.cells #[.int .i64 n] 3)).1) (by simp [Value.oneCell']) (by decide) (by decide) (by simp; omega) ?_)
    intro v2 W2 hown2 hg2 hv2
    have hb2 : Below w.heap.size w W2 := ((unhide Hbw1).alloc (unhide Hbw1).size _).grown hg2 (by have := (unhide Hbw1).size; simp; omega) (fun k hk => by simp [Value.ownBlock] at hk)
    have hwb2 : WBl W2 w.heap.size (.slice none 0 0) := wbl_kept (unhide Hw1) (fun j hj => (hg2.block j (by simp; omega) (by simp [Value.ownBlock])).trans (Below.heap_alloc w1 _ j (by omega)))
    obtain ⟨va2, vc2, rfl⟩ := own_form hown2
    have x2 := cell_block hwb2.b0 0 _ rfl
    have y2 := cell_block hwb2.b1 0 _ rfl
    have f2 := frozen_block hwb2.b1 0
    have hx : RowI (W2.setCell ⟨w.heap.size + 1, 0, none⟩ (.slice va2 1 vc2)) w.heap.size (.slice va2 1 vc2) [n] := by
      refine .inr ⟨by simp, ?_⟩
      have h1 := own_off (O := fun k => k = w.heap.size + 1) hown2 (off_set (O := fun k => k = w.heap.size + 1) (off_refl _ _) (p := ⟨w.heap.size + 1, 0, none⟩) (.inl rfl) (.slice va2 1 vc2)) (fun k hk e => by have := (hown2.lt k hk).1; omega)
      refine ⟨h1.1, ?_⟩
      rcases h1.2 with h | ⟨g', cap, cur, h6, h7, h8⟩
      · exact .inl h
      · exact .inr ⟨g', cap, cur, h6, by omega, h8⟩
    have Hx := hide hx
    have Hrc := hide (box30 hwb2.b1 (.slice va2 1 vc2))
    have Hb4 := hide (hb2.setCell (p := ⟨w.heap.size + 1, 0, none⟩) (by simp) (.slice va2 1 vc2))
    have Hown2 := hide hown2
    clear hx hb2 hwb2 hown2 hg2 hv2
    go_wp2_with (at_builtin; refine wpList_append_own_none rfl _ _ 22 rfl (w.heap.size + 2) 3 i0 1 Tryd.underlying22 hi _ _ _ rfl (unhide Hown2) rfl ?_)
    refine bodyPost_ret (v := .agg #[.slice va2 1 vc2]) (by have rc := unhide Hrc; simp [results, Tryd.results26, go_sem, rc]) rfl ⟨_, rfl, unhide Hx, unhide Hb4⟩

/-- with, of any set. -/
theorem with_any (v : Value) (L : List Int) (hlen : L.length ≤ 1048576) (hup : Up L) (n : Int) (B : Nat) (w : World) (hB : B ≤ w.heap.size) (hr : RowI w B v L) :
    Calls Tryd.prog 26 #[.agg #[v], .int .i64 n] w fun e w' => ∃ v' L', e = .returned (.agg #[v']) ∧ RowI w' B v' L' ∧ Up L' ∧ (∀ m, m ∈ L' ↔ m = n ∨ m ∈ L) ∧ Below w.heap.size w w' := by
  by_cases hn : n ∈ L
  · obtain ⟨a, c, rfl⟩ := rowI_form hr
    exact (with_old a c L hlen n hn w (rowI_nrow hr rfl)).mono fun e w' ⟨h1, h2⟩ => ⟨_, L, h1, rowI_below hr h2, hup, fun m => ⟨.inr, fun h => h.elim (fun e => by rw [e]; exact hn) id⟩, h2⟩
  · rcases hr with ⟨rfl, rfl⟩ | ⟨h0, h⟩
    · exact (with_nil n w).mono fun e w' ⟨v', h1, h2, h3⟩ => ⟨v', [n], h1, rowI_mono h2 hB, List.pairwise_singleton _ _, fun m => by simp, h3⟩
    · obtain ⟨g, c, rfl, -⟩ := own_pos h h0
      exact (with_some g c L h0 hlen hup n hn B w h).mono fun e w' ⟨v', L', h1, h2, h3, h4, h5⟩ => ⟨v', L', h1, rowI_mono h2 hB, h3, h4, h5⟩
theorem up_short {L : List Int} (h : Up L) (hv : ∀ m ∈ L, 0 ≤ m ∧ m < 1048576) : L.length ≤ 1048576 :=
  nodup_bound 1048576 L (by rw [List.nodup_iff_pairwise_ne]; exact h.imp fun h => by omega) hv

set_option maxHeartbeats 8000000 in
set_option maxRecDepth 100000 in
/-- The document's Add, of numbers, to nothing. -/
theorem refAdd_any (a : Option Addr) (c : Nat) (l : List Int) (hl : l.length ≤ 281474976710656) (hnum : numsB l = true) (w : World) (hrow : NRow w a l) :
    Calls Tryd.prog 8 #[.agg #[.slice none 0 0], .slice a l.length c] w fun e w' => ∃ v' L' k, e = .returned (.tuple #[.agg #[v'], .int .i64 k, .int .i64 0]) ∧ RowI w' w.heap.size v' L' ∧ Up L' ∧ (∀ m, m ∈ L' ↔ m ∈ l) ∧ Below w.heap.size w w' := by
  have hb0 : Below w.heap.size w ((w.alloc (.cells #[.slice none 0 0] 32)).alloc (.cells #[.slice none 0 0] 32)) := ((Below.refl _ w).alloc (Nat.le_refl _) _).alloc (by simp) _
  have hw0 : WBl ((w.alloc (.cells #[.slice none 0 0] 32)).alloc (.cells #[.slice none 0 0] 32)) w.heap.size (.slice none 0 0) := ⟨(Below.heap_alloc _ _ _ (by simp)).trans (MapKept.heap_alloc w _).1, by
    have := (MapKept.heap_alloc (w.alloc (.cells #[.slice none 0 0] 32)) (.cells #[.slice none 0 0] 32)).1
    simpa using this⟩
  have HN := hide (refNumbers_any a c l hl _ (nrow_below hrow hb0 (Nat.le_refl _)))
  rw [hnum] at HN
  have hv : ∀ m ∈ l, 0 ≤ m ∧ m < 1048576 := fun m hm => by
    have := List.all_eq_true.1 hnum m hm
    simpa using this
  have Hv := hide hv
  have Hb0 := hide hb0; have Hw0 := hide hw0; have Hrow := hide hrow
  clear hb0 hw0 hrow hnum hv
  go_enter Tryd.func8, Tryd.ntmps8
  go_wp2_with (go_at_call 6; refine (unhide HN).mono ?_; rintro e w1 ⟨rfl, hw⟩; obtain rfl := hw.symm)
  go_loopw [8] (fun x W => ∃ (i : Nat) (v : Value) (L : List Int), x = .int .i64 i ∧ i ≤ l.length ∧ Below w.heap.size w W ∧ WBl W w.heap.size v ∧ RowI W (w.heap.size + 2) v L ∧ Up L ∧ ∀ m, m ∈ L ↔ m ∈ l.take i) (fun x _ => l.length - (intOf x).toNat)
  case atStart => exact ⟨0, _, [], rfl, Nat.zero_le _, unhide Hb0, unhide Hw0, .inl ⟨rfl, rfl⟩, List.Pairwise.nil, by simp⟩
  case round =>
    obtain ⟨i, v, L, rfl, hil, hbel, hwb, hri, hupL, hmem⟩ := hrel
    clear HN Hb0 Hw0
    have hvL : ∀ m ∈ L, 0 ≤ m ∧ m < 1048576 := fun m hm => unhide Hv m (List.mem_of_mem_take ((hmem m).1 hm))
    have hLl := up_short hupL hvL
    obtain ⟨va, vc, rfl⟩ := rowI_form hri
    have x0 := cell_block hwb.b0 0 _ rfl
    have hs2 := wbl_lt hwb
    by_cases hlt : i < l.length
    · have hlt' : (i : Int) < l.length := by omega
      rcases nrow_below (unhide Hrow) hbel (Nat.le_refl _) with h0 | ⟨g, off, rfl, hgl, hc⟩
      · subst h0; simp at hlt
      have ci := hc i hlt
      have HW := hide (with_any (.slice va L.length vc) L hLl hupL (l.getD i 0) (w.heap.size + 2) wr.drew hs2 hri)
      have Hmem : Hid (∀ L' : List Int, (∀ m, m ∈ L' ↔ m = l.getD i 0 ∨ m ∈ L) → ∀ m, m ∈ L' ↔ m ∈ l.take (i + 1)) := hide (fun L' h m => by
        rw [h, hmem, List.take_add_one, List.getElem?_eq_getElem hlt, List.getD_eq_getElem?_getD, List.getElem?_eq_getElem hlt, List.mem_append, or_comm]
        simp)
      have Hbel := hide hbel; have Hwb := hide hwb
      have HK : Hid (∀ W2, Below wr.drew.heap.size wr.drew W2 → Below w.heap.size w W2 ∧ WBl W2 w.heap.size (.slice va L.length vc)) := hide (fun W2 hb => ⟨hbel.drew.trans (hb.mono hbel.size), wbl_kept hwb (fun j hj => hb.block j (by show j < wr.heap.size; omega))⟩)
      clear hbel hwb hri hupL hmem hvL hLl hc
      generalize l.getD i 0 = y at *
      go_wp2
      go_region_with (go_at_call 26; refine (unhide HW).mono ?_; rintro e W2 ⟨v2, L2, rfl, hri2, hup2, hm2, hb2⟩; obtain ⟨hbw2, hwb2⟩ := unhide HK W2 hb2; obtain ⟨va2, vc2, rfl⟩ := rowI_form hri2; have d0 := cell_block hwb2.b0 0 _ rfl; have e0 := frozen_block hwb2.b0 0)
      all_goals
        have hb3 : Below w.heap.size w (W2.setCell ⟨w.heap.size, 0, none⟩ (.slice va2 L2.length vc2)) := hbw2.setCell (p := ⟨w.heap.size, 0, none⟩) (Nat.le_refl _) _
        have hwb3 : WBl (W2.setCell ⟨w.heap.size, 0, none⟩ (.slice va2 L2.length vc2)) w.heap.size (.slice va2 L2.length vc2) := ⟨block_set (i := 0) hwb2.b0 _, (Below.heap_setCell W2 ⟨w.heap.size, 0, none⟩ _ _ (by simp)).trans hwb2.b1⟩
        have hri3 : RowI (W2.setCell ⟨w.heap.size, 0, none⟩ (.slice va2 L2.length vc2)) (w.heap.size + 2) (.slice va2 L2.length vc2) L2 := rowI_off (O := fun k => k = w.heap.size) hri2 (off_set (O := fun k => k = w.heap.size) (off_refl _ _) (p := ⟨w.heap.size, 0, none⟩) (.inl rfl) _) (fun k hk e => by
          rcases hri2 with ⟨-, h⟩ | ⟨-, h⟩
          · rw [h] at hk; simp [Value.ownBlock] at hk
          · have := (h.lt k hk).1; omega)
        have Hrel := hide (And.intro hb3 (And.intro hwb3 (And.intro hri3 (And.intro hup2 (unhide Hmem L2 hm2)))))
        clear hb3 hwb3 hri3 hup2 hm2 hri2 hwb2 hbw2 hb2 d0 e0 HK HW Hbel Hwb Hmem
        generalize W2.setCell ⟨w.heap.size, 0, none⟩ (.slice va2 L2.length vc2) = W3 at *
        go_wp2
        go_roundw
        case rel =>
          obtain ⟨r1, r2, r3, r4, r5⟩ := unhide Hrel
          exact ⟨i + 1, _, L2, by go_num, by omega, r1, r2, r3, r4, r5⟩
        case measure => simp [intOf]; omega
    · obtain rfl : i = l.length := by omega
      have hlt' : ¬ ((l.length : Int) < l.length) := by omega
      rw [List.take_length] at hmem
      have y0 := cell_block hwb.b1 0 _ rfl
      have yf := frozen_block hwb.b1 0
      have hfin : RowI (wr.drew.setCell ⟨w.heap.size + 1, 0, none⟩ (.slice va L.length vc)) w.heap.size (.slice va L.length vc) L := rowI_mono (rowI_off (w := wr) (O := fun k => k = w.heap.size + 1) hri (off_set (O := fun k => k = w.heap.size + 1) (off_drew (off_refl _ _)) (p := ⟨w.heap.size + 1, 0, none⟩) (.inl rfl) _) (fun k hk e => by
          rcases hri with ⟨-, h⟩ | ⟨-, h⟩
          · rw [h] at hk; simp [Value.ownBlock] at hk
          · have := (h.lt k hk).1; omega)) (by omega)
      have Hfin := hide hfin
      have Hup := hide hupL; have Hmem := hide hmem
      have Hb3 := hide (hbel.drew.setCell (p := ⟨w.heap.size + 1, 0, none⟩) (by simp) (.slice va L.length vc))
      have Hrc := hide (box30 hwb.b1 (.slice va L.length vc))
      clear hfin hupL hmem hbel hwb hri hvL
      go_wp2
      go_region
      all_goals
        go_wp2
        refine bodyPost_ret (v := .tuple #[.agg #[.slice va L.length vc], .int .i64 L.length, .int .i64 0]) (by have rc := unhide Hrc; simp [results, Tryd.results8, go_sem, rc]) rfl ⟨_, L, _, rfl, unhide Hfin, unhide Hup, unhide Hmem, unhide Hb3⟩
end Go.Proofs.YtdpphjedjhjdgaaDoor

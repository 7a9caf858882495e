/- The document's sets: Add to any set, Drop, with how many; Meets, Within. -/
import Derived.Test.YtdpphjedjhjdgaaDoorF3
namespace Go.Proofs.YtdpphjedjhjdgaaDoor
open Go.RowKit Go.Maps

set_option maxHeartbeats 8000000 in
set_option maxRecDepth 100000 in
theorem refDrop_k (v : Value) (L : List Int) (hlen : L.length ≤ 1048576) (hup : Up L) (B : Nat) (a : Option Addr) (c : Nat) (l : List Int) (hl : l.length ≤ 281474976710656) (w : World) (hr : RowI w B v L) (hrow : NRow w a l) :
    Calls Tryd.prog 27 #[.agg #[v], .slice a l.length c] w fun e w' => ∃ v' L', e = .returned (.tuple #[.agg #[v'], .int .i64 ((L.length : Int) - L'.length)]) ∧ RowI w' w.heap.size v' L' ∧ Up L' ∧ (∀ m, m ∈ L' ↔ m ∈ L ∧ m ∉ l) ∧ Below w.heap.size w w' := by
  obtain ⟨i0, hi, hz0, hz1, hz2⟩ := info_parts hint
  obtain ⟨va, vc, rfl⟩ := rowI_form hr
  have hnL := rowI_nrow hr rfl
  have hb0 : Below w.heap.size w ((w.alloc (.cells #[.slice va L.length vc] 32)).alloc (.cells #[.slice none 0 0] 32)) := ((Below.refl _ w).alloc (Nat.le_refl _) _).alloc (by simp) _
  have hw0 : WBl ((w.alloc (.cells #[.slice va L.length vc] 32)).alloc (.cells #[.slice none 0 0] 32)) w.heap.size (.slice va L.length vc) := ⟨(Below.heap_alloc _ _ _ (by simp)).trans (MapKept.heap_alloc w _).1, by
    have := (MapKept.heap_alloc (w.alloc (.cells #[.slice va L.length vc] 32)) (.cells #[.slice none 0 0] 32)).1
    simpa using this⟩
  have Hb0 := hide hb0; have Hw0 := hide hw0; have Hrow := hide hrow; have HnL := hide hnL
  have Hend : Hid (Up (fil L l) ∧ ∀ m, m ∈ fil L l ↔ m ∈ L ∧ m ∉ l) := hide ⟨hup.filter _, fun m => by unfold fil; rw [List.mem_filter]; simp⟩
  clear hb0 hw0 hrow hnL hr hup
  go_enter Tryd.func27, Tryd.ntmps27
  go_wp2
  go_loopw [7, 6] (fun x v W => ∃ i : Nat, x = .int .i64 i ∧ i ≤ L.length ∧ Below w.heap.size w W ∧ WBl W w.heap.size (.slice va L.length vc) ∧ RowI W (w.heap.size + 2) v (fil (L.take i) l)) (fun x _ _ => L.length - (intOf x).toNat)
  case atStart => exact ⟨0, rfl, Nat.zero_le _, unhide Hb0, unhide Hw0, .inl ⟨rfl, rfl⟩⟩
  case round =>
    obtain ⟨i, rfl, hil, hbel, hwb, hri⟩ := hrel
    clear Hb0 Hw0
    obtain ⟨vb, vd, rfl⟩ := rowI_form hri
    have x0 := cell_block hwb.b0 0 _ rfl
    have hs2 := wbl_lt hwb
    have hfl : (fil (L.take i) l).length ≤ 1048576 := by
      have := List.length_filter_le (fun m => decide (m ∉ l)) (L.take i)
      rw [List.length_take] at this
      unfold fil
      omega
    by_cases hlt : i < L.length
    · have hlt' : (i : Int) < L.length := by omega
      rcases nrow_below (unhide HnL) hbel (Nat.le_refl _) with h0 | ⟨g, off, rfl, hgl, hc⟩
      · subst h0; simp at hlt
      have ci := hc i hlt
      have HS := hide (fil_succ L l i hlt)
      have HH := hide (refHas_any a c l hl (L.getD i 0) wr (nrow_below (unhide Hrow) hbel (Nat.le_refl _)))
      have HK : Hid (∀ W2, Below wr.heap.size wr W2 → Below w.heap.size w W2 ∧ WBl W2 w.heap.size (.slice (some ⟨g, off, none⟩) L.length vc) ∧ RowI W2 (w.heap.size + 2) (.slice vb (fil (L.take i) l).length vd) (fil (L.take i) l) ∧ W2.cell? ⟨g, off + i, none⟩ = some (.int .i64 (L.getD i 0))) := hide (fun W2 hb => ⟨hbel.trans (hb.mono hbel.size), wbl_kept hwb (fun j hj => hb.block j (by omega)), rowI_below hri hb, (hb.cell (p := ⟨g, off + i, none⟩) hgl).trans ci⟩)
      clear hbel hwb hri hc
      generalize fil (L.take i) l = F at *
      generalize L.getD i 0 = y at *
      by_cases hy : y ∈ l
      · rw [show decide (y ∈ l) = true by simpa using hy] at HH
        rw [if_pos hy, List.append_nil] at HS
        clear hy
        go_wp2_with (go_at_call 29; refine (unhide HH).mono ?_; rintro e W2 ⟨rfl, hb2⟩; obtain ⟨hb3, hwb3, hri3, ci3⟩ := unhide HK W2 hb2; have Hrel := hide (And.intro hb3 (And.intro hwb3 hri3)); clear hb3 hwb3 hri3 ci3 hb2)
        go_roundw
        case rel => exact ⟨i + 1, by go_num, by omega, (unhide Hrel).1, (unhide Hrel).2.1, by rw [unhide HS]; exact (unhide Hrel).2.2⟩
        case measure => simp [intOf]; omega
      · rw [show decide (y ∈ l) = false by simpa using hy] at HH
        rw [if_neg hy] at HS
        clear hy
        go_wp2_with fail
        refine (unhide HH).mono ?_
        rintro e W2 ⟨rfl, hb2⟩
        obtain ⟨hb3, hwb3, hri3, ci3⟩ := unhide HK W2 hb2
        have x3 := cell_block hwb3.b0 0 _ rfl
        have hs3 := wbl_lt hwb3
        have Hb3 := hide hb3; have Hwb3 := hide hwb3; have Hown3 := hide (rowI_own hri3)
        clear hb3 hwb3 hri3 hb2 HK HH x0 ci
        go_wp2_with (at_builtin; refine wpList_append_own _ rfl _ _ 22 rfl (w.heap.size + 2) 3 i0 (.int .i64 0) 1 8 Tryd.underlying22 hi hz0 hz1 hz2 rfl (by decide) _ _ _ rfl ((unhide Hown3).alloc _) ⟨W2.heap.size, 0, none⟩ 1 1 [.int .i64 y] rfl rfl (World.news_of_block (MapKept.heap_alloc W2 (.cells #[.int .i64 y] 3)).1) (by simp [Value.oneCell']) (by unfold maxLen; omega) (by omega) (by simp; omega) ?_)
        intro v4 W4 hown4 hg4 hv4
        have hb4 : Below w.heap.size w W4 := ((unhide Hb3).alloc (unhide Hb3).size _).grown hg4 (by have := (unhide Hb3).size; simp; omega) (fun k hk => by have := ((unhide Hown3).lt k hk).1; omega)
        have hwb4 : WBl W4 w.heap.size (.slice (some ⟨g, off, none⟩) L.length vc) := wbl_kept (unhide Hwb3) (fun j hj => (hg4.block j (by simp; omega) (fun e => by have := ((unhide Hown3).lt j e.symm).1; omega)).trans (Below.heap_alloc W2 _ j (by omega)))
        obtain ⟨vb4, vd4, rfl⟩ := own_form hown4
        have hri4 : RowI W4 (w.heap.size + 2) (.slice vb4 (F.length + 1) vd4) (F ++ [y]) := .inr ⟨by simp, by rw [List.length_append, intV_append]; exact hown4⟩
        have Hrel := hide (And.intro hb4 (And.intro hwb4 hri4))
        clear hb4 hwb4 hri4 hown4 hg4 hv4
        go_wp2
        go_roundw
        case rel => exact ⟨i + 1, by go_num, by omega, (unhide Hrel).1, (unhide Hrel).2.1, by rw [unhide HS]; exact (unhide Hrel).2.2⟩
        case measure => simp [intOf]; omega
    · obtain rfl : i = L.length := by omega
      have hlt' : ¬ ((L.length : Int) < L.length) := by omega
      rw [List.take_length] at *
      have y0 := cell_block hwb.b1 0 _ rfl
      have yf := frozen_block hwb.b1 0
      have hfin : RowI (wr.setCell ⟨w.heap.size + 1, 0, none⟩ (.slice vb (fil L l).length vd)) w.heap.size (.slice vb (fil L l).length vd) (fil L l) := rowI_mono (rowI_off (O := fun k => k = w.heap.size + 1) hri (off_set (O := fun k => k = w.heap.size + 1) (off_refl _ _) (p := ⟨w.heap.size + 1, 0, none⟩) (.inl rfl) _) (fun k hk e => by
          have := ((rowI_own hri).lt k hk).1; omega)) (by omega)
      have Hfin := hide hfin
      have Hb3 := hide (hbel.setCell (p := ⟨w.heap.size + 1, 0, none⟩) (by simp) (.slice vb (fil L l).length vd))
      have Hrc := hide (box30 hwb.b1 (.slice vb (fil L l).length vd))
      clear hfin hbel hwb hri
      generalize fil L l = F at *
      go_wp2
      go_region
      all_goals
        go_wp2
        refine bodyPost_ret (v := .tuple #[.agg #[.slice vb F.length vd], .int .i64 ((L.length : Int) - F.length)]) (by have rc := unhide Hrc; simp [results, Tryd.results27, go_sem, rc]) rfl ⟨_, F, rfl, unhide Hfin, (unhide Hend).1, (unhide Hend).2, (unhide Hb3).drew⟩
set_option maxHeartbeats 8000000 in
set_option maxRecDepth 100000 in
/-- The document's Add, of numbers. -/
theorem refAdd_gen (v0 : Value) (L0 : List Int) (hup0 : Up L0) (hv0 : ∀ m ∈ L0, 0 ≤ m ∧ m < 1048576) (a : Option Addr) (c : Nat) (l : List Int) (hl : l.length ≤ 281474976710656) (hnum : numsB l = true) (w : World) (hr0 : RowI w 0 v0 L0) (hrow : NRow w a l) :
    Calls Tryd.prog 8 #[.agg #[v0], .slice a l.length c] w fun e w' => ∃ v' L', e = .returned (.tuple #[.agg #[v'], .int .i64 ((L'.length : Int) - L0.length), .int .i64 0]) ∧ RowI w' 0 v' L' ∧ Up L' ∧ (∀ m, m ∈ L' ↔ m ∈ L0 ∨ m ∈ l) ∧ Below w.heap.size w w' := by
  obtain ⟨va0, vc0, rfl⟩ := rowI_form hr0
  have hL0 := up_short hup0 hv0
  have hb0 : Below w.heap.size w ((w.alloc (.cells #[.slice va0 L0.length vc0] 32)).alloc (.cells #[.slice none 0 0] 32)) := ((Below.refl _ w).alloc (Nat.le_refl _) _).alloc (by simp) _
  have hw0 : WBl ((w.alloc (.cells #[.slice va0 L0.length vc0] 32)).alloc (.cells #[.slice none 0 0] 32)) w.heap.size (.slice va0 L0.length vc0) := ⟨(Below.heap_alloc _ _ _ (by simp)).trans (MapKept.heap_alloc w _).1, by
    have := (MapKept.heap_alloc (w.alloc (.cells #[.slice va0 L0.length vc0] 32)) (.cells #[.slice none 0 0] 32)).1
    simpa using this⟩
  have HN := hide (refNumbers_any a c l hl _ (nrow_below hrow hb0 (Nat.le_refl _)))
  rw [hnum] at HN
  have hri0 := rowI_below hr0 hb0
  have hv : ∀ m ∈ l, 0 ≤ m ∧ m < 1048576 := fun m hm => by
    have := List.all_eq_true.1 hnum m hm
    simpa using this
  have Hv := hide hv
  have Hb0 := hide hb0; have Hw0 := hide hw0; have Hrow := hide hrow; have Hri0 := hide hri0; have Hup0 := hide hup0; have Hv0 := hide hv0
  have x00 := cell_block hw0.b0 0 _ rfl
  clear hb0 hw0 hrow hnum hv hri0 hr0 hup0 hv0
  go_enter Tryd.func8, Tryd.ntmps8
  go_wp2_with (go_at_call 6; refine (unhide HN).mono ?_; rintro e w1 ⟨rfl, hw⟩; obtain rfl := hw.symm)
  go_loopw [8] (fun x W => ∃ (i : Nat) (v : Value) (L : List Int), x = .int .i64 i ∧ i ≤ l.length ∧ Below w.heap.size w W ∧ WBl W w.heap.size v ∧ RowI W 0 v L ∧ Up L ∧ ∀ m, m ∈ L ↔ m ∈ L0 ∨ m ∈ l.take i) (fun x _ => l.length - (intOf x).toNat)
  case atStart => exact ⟨0, _, L0, rfl, Nat.zero_le _, unhide Hb0, unhide Hw0, unhide Hri0, unhide Hup0, by simp⟩
  case round =>
    obtain ⟨i, v, L, rfl, hil, hbel, hwb, hri, hupL, hmem⟩ := hrel
    clear HN Hb0 Hw0 Hri0 Hup0
    clear x00
    have hvL : ∀ m ∈ L, 0 ≤ m ∧ m < 1048576 := fun m hm => ((hmem m).1 hm).elim (unhide Hv0 m) fun h => unhide Hv m (List.mem_of_mem_take h)
    have hLl := up_short hupL hvL
    obtain ⟨va, vc, rfl⟩ := rowI_form hri
    have x0 := cell_block hwb.b0 0 _ rfl
    have hs2 := wbl_lt hwb
    by_cases hlt : i < l.length
    · have hlt' : (i : Int) < l.length := by omega
      rcases nrow_below (unhide Hrow) hbel (Nat.le_refl _) with h0 | ⟨g, off, rfl, hgl, hc⟩
      · subst h0; simp at hlt
      have ci := hc i hlt
      have HW := hide (with_any (.slice va L.length vc) L hLl hupL (l.getD i 0) 0 wr.drew (Nat.zero_le _) hri)
      have Hmem : Hid (∀ L' : List Int, (∀ m, m ∈ L' ↔ m = l.getD i 0 ∨ m ∈ L) → ∀ m, m ∈ L' ↔ m ∈ L0 ∨ m ∈ l.take (i + 1)) := hide (fun L' h m => by
        rw [h, hmem, List.take_add_one, List.getElem?_eq_getElem hlt, List.getD_eq_getElem?_getD, List.getElem?_eq_getElem hlt, List.mem_append, or_comm, or_assoc]
        simp)
      have Hbel := hide hbel; have Hwb := hide hwb
      have HK : Hid (∀ W2, Below wr.drew.heap.size wr.drew W2 → Below w.heap.size w W2 ∧ WBl W2 w.heap.size (.slice va L.length vc)) := hide (fun W2 hb => ⟨hbel.drew.trans (hb.mono hbel.size), wbl_kept hwb (fun j hj => hb.block j (by show j < wr.heap.size; omega))⟩)
      clear hbel hwb hri hupL hmem hvL hLl hc
      generalize l.getD i 0 = y at *
      go_wp2
      go_region_with (go_at_call 26; refine (unhide HW).mono ?_; rintro e W2 ⟨v2, L2, rfl, hri2, hup2, hm2, hb2⟩; obtain ⟨hbw2, hwb2⟩ := unhide HK W2 hb2; obtain ⟨va2, vc2, rfl⟩ := rowI_form hri2; have d0 := cell_block hwb2.b0 0 _ rfl; have e0 := frozen_block hwb2.b0 0)
      all_goals
        have hb3 : Below w.heap.size w (W2.setCell ⟨w.heap.size, 0, none⟩ (.slice va2 L2.length vc2)) := hbw2.setCell (p := ⟨w.heap.size, 0, none⟩) (Nat.le_refl _) _
        have hwb3 : WBl (W2.setCell ⟨w.heap.size, 0, none⟩ (.slice va2 L2.length vc2)) w.heap.size (.slice va2 L2.length vc2) := ⟨block_set (i := 0) hwb2.b0 _, (Below.heap_setCell W2 ⟨w.heap.size, 0, none⟩ _ _ (by simp)).trans hwb2.b1⟩
        have hri3 : RowI (W2.setCell ⟨w.heap.size, 0, none⟩ (.slice va2 L2.length vc2)) 0 (.slice va2 L2.length vc2) L2 := rowI_off (O := fun k => k = w.heap.size) hri2 (off_set (O := fun k => k = w.heap.size) (off_refl _ _) (p := ⟨w.heap.size, 0, none⟩) (.inl rfl) _) (fun k hk e => row_not hwb2.b0 (rowI_own hri2) (by decide) (by rw [hk, e]))
        have Hrel := hide (And.intro hb3 (And.intro hwb3 (And.intro hri3 (And.intro hup2 (unhide Hmem L2 hm2)))))
        clear hb3 hwb3 hri3 hup2 hm2 hri2 hwb2 hbw2 hb2 d0 e0 HK HW Hbel Hwb Hmem
        generalize W2.setCell ⟨w.heap.size, 0, none⟩ (.slice va2 L2.length vc2) = W3 at *
        go_wp2
        go_roundw
        case rel =>
          obtain ⟨r1, r2, r3, r4, r5⟩ := unhide Hrel
          exact ⟨i + 1, _, L2, by go_num, by omega, r1, r2, r3, r4, r5⟩
        case measure => simp [intOf]; omega
    · obtain rfl : i = l.length := by omega
      have hlt' : ¬ ((l.length : Int) < l.length) := by omega
      rw [List.take_length] at hmem
      have y0 := cell_block hwb.b1 0 _ rfl
      have yf := frozen_block hwb.b1 0
      have hfin : RowI (wr.drew.setCell ⟨w.heap.size + 1, 0, none⟩ (.slice va L.length vc)) 0 (.slice va L.length vc) L := (rowI_off (w := wr) (O := fun k => k = w.heap.size + 1) hri (off_set (O := fun k => k = w.heap.size + 1) (off_drew (off_refl _ _)) (p := ⟨w.heap.size + 1, 0, none⟩) (.inl rfl) _) (fun k hk e => row_not hwb.b1 (rowI_own hri) (by decide) (by rw [hk, e])))
      have Hfin := hide hfin
      have Hup := hide hupL; have Hmem := hide hmem
      have Hb3 := hide (hbel.drew.setCell (p := ⟨w.heap.size + 1, 0, none⟩) (by simp) (.slice va L.length vc))
      have Hrc := hide (box30 hwb.b1 (.slice va L.length vc))
      clear hfin hupL hmem hbel hwb hri hvL
      go_wp2
      go_region
      all_goals
        go_wp2
        refine bodyPost_ret (v := .tuple #[.agg #[.slice va L.length vc], .int .i64 ((L.length : Int) - L0.length), .int .i64 0]) (by have rc := unhide Hrc; simp [results, Tryd.results8, go_sem, rc]) rfl ⟨_, L, rfl, unhide Hfin, unhide Hup, unhide Hmem, unhide Hb3⟩
set_option maxHeartbeats 8000000 in
set_option maxRecDepth 100000 in
theorem refAdd_wrong (v0 : Value) (L0 : List Int) (a : Option Addr) (c : Nat) (l : List Int) (hl : l.length ≤ 281474976710656) (hnum : numsB l = false) (w : World) (hr0 : RowI w 0 v0 L0) (hrow : NRow w a l) :
    Calls Tryd.prog 8 #[.agg #[v0], .slice a l.length c] w fun e w' => e = .returned (.tuple #[.agg #[v0], .int .i64 0, .int .i64 1]) ∧ Below w.heap.size w w' := by
  obtain ⟨va0, vc0, rfl⟩ := rowI_form hr0
  have hb0 : Below w.heap.size w ((w.alloc (.cells #[.slice va0 L0.length vc0] 32)).alloc (.cells #[.slice none 0 0] 32)) := ((Below.refl _ w).alloc (Nat.le_refl _) _).alloc (by simp) _
  have HN := hide (refNumbers_any a c l hl _ (nrow_below hrow hb0 (Nat.le_refl _)))
  rw [hnum] at HN
  have hw0 : WBl ((w.alloc (.cells #[.slice va0 L0.length vc0] 32)).alloc (.cells #[.slice none 0 0] 32)) w.heap.size (.slice va0 L0.length vc0) := ⟨(Below.heap_alloc _ _ _ (by simp)).trans (MapKept.heap_alloc w _).1, by
    have := (MapKept.heap_alloc (w.alloc (.cells #[.slice va0 L0.length vc0] 32)) (.cells #[.slice none 0 0] 32)).1
    simpa using this⟩
  have x0 := cell_block hw0.b0 0 _ rfl
  have y0 := cell_block hw0.b1 0 _ rfl
  have yf := frozen_block hw0.b1 0
  have Hb3 := hide (show Below w.heap.size w ((w.alloc (.cells #[.slice va0 L0.length vc0] 32)).alloc (.cells #[.slice va0 L0.length vc0] 32)) from ((Below.refl _ w).alloc (Nat.le_refl _) _).alloc (by simp) _)
  clear hb0 hrow hnum hr0 hw0
  go_enter Tryd.func8, Tryd.ntmps8
  go_wp2_with (go_at_call 6; refine (unhide HN).mono ?_; rintro e w1 ⟨rfl, hw⟩; obtain rfl := hw.symm)
  refine bodyPost_ret (v := .tuple #[.agg #[.slice va0 L0.length vc0], .int .i64 0, .int .i64 1]) (by simp [results, Tryd.results8, go_sem]) rfl ⟨rfl, unhide Hb3⟩
theorem anyI_take (f : Int → Bool) (l : List Int) (k : Nat) (hk : k < l.length) : (l.take (k + 1)).any f = ((l.take k).any f || f (l.getD k 0)) := by
  rw [List.take_add_one, List.getElem?_eq_getElem hk, List.any_append, List.getD_eq_getElem?_getD, List.getElem?_eq_getElem hk]
  simp
theorem anyI_yes (f : Int → Bool) (l : List Int) (k : Nat) (hk : k < l.length) (h : f (l.getD k 0) = true) : l.any f = true := by
  rw [List.any_eq_true]
  refine ⟨l.getD k 0, ?_, h⟩
  rw [List.getD_eq_getElem?_getD, List.getElem?_eq_getElem hk]
  exact List.getElem_mem _
theorem allI_take (f : Int → Bool) (l : List Int) (k : Nat) (hk : k < l.length) : (l.take (k + 1)).all f = ((l.take k).all f && f (l.getD k 0)) := by
  rw [List.take_add_one, List.getElem?_eq_getElem hk, List.all_append, List.getD_eq_getElem?_getD, List.getElem?_eq_getElem hk]
  simp
theorem allI_no (f : Int → Bool) (l : List Int) (k : Nat) (hk : k < l.length) (h : f (l.getD k 0) = false) : l.all f = false := by
  rw [List.all_eq_false]
  refine ⟨l.getD k 0, ?_, by rw [h]; decide⟩
  rw [List.getD_eq_getElem?_getD, List.getElem?_eq_getElem hk]
  exact List.getElem_mem _
set_option maxHeartbeats 8000000 in
set_option maxRecDepth 100000 in
theorem refMeets_any (a b : Option Addr) (c d : Nat) (x y : List Int) (hx : x.length ≤ 281474976710656) (hy : y.length ≤ 281474976710656) (w : World) (hrx : NRow w a x) (hry : NRow w b y) :
    Calls Tryd.prog 30 #[.agg #[.slice a x.length c], .agg #[.slice b y.length d]] w fun e w' => e = .returned (.bool (x.any fun m => decide (m ∈ y))) ∧ Below w.heap.size w w' := by
  have hb0 : Below w.heap.size w ((w.alloc (.cells #[.slice a x.length c] 32)).alloc (.cells #[.slice b y.length d] 32)) := ((Below.refl _ w).alloc (Nat.le_refl _) _).alloc (by simp) _
  have h00 := (Below.heap_alloc (w.alloc (.cells #[.slice a x.length c] 32)) (.cells #[.slice b y.length d] 32) _ (by simp)).trans (MapKept.heap_alloc w (.cells #[.slice a x.length c] 32)).1
  have h01 := (MapKept.heap_alloc (w.alloc (.cells #[.slice a x.length c] 32)) (.cells #[.slice b y.length d] 32)).1
  rw [World.size_alloc] at h01
  have Hb0 := hide hb0; have H00 := hide h00; have H01 := hide h01; have Hrx := hide hrx; have Hry := hide hry
  clear hb0 h00 h01 hrx hry
  go_enter Tryd.func30, Tryd.ntmps30
  go_wp2
  go_loopw [5] (fun z W => ∃ i : Nat, z = .int .i64 i ∧ i ≤ x.length ∧ (x.take i).any (fun m => decide (m ∈ y)) = false ∧ Below w.heap.size w W ∧ W.heap[w.heap.size]? = some (.cells #[.slice a x.length c] 32 (0, 0)) ∧ W.heap[w.heap.size + 1]? = some (.cells #[.slice b y.length d] 32 (0, 0))) (fun z _ => x.length - (intOf z).toNat)
  case atStart => exact ⟨0, rfl, Nat.zero_le _, rfl, unhide Hb0, unhide H00, unhide H01⟩
  case round =>
    obtain ⟨i, rfl, hi, hany, hbw, h0, h1⟩ := hrel
    have x0 := cell_block h0 0 _ rfl
    have x1 := cell_block h1 0 _ rfl
    clear Hb0 H00 H01
    by_cases hlt : i < x.length
    · have hlt' : (i : Int) < x.length := by omega
      rcases unhide Hrx with h | ⟨g, off, rfl, hgl, hc⟩
      · subst h; simp at hlt
      have ci : wr.cell? ⟨g, off + i, none⟩ = some (.int .i64 (x.getD i 0)) := (hbw.cell (p := ⟨g, off + i, none⟩) hgl).trans (hc i hlt)
      have HT := hide (anyI_take (fun m => decide (m ∈ y)) x i hlt)
      rw [hany] at HT
      have HN := hide (anyI_yes (fun m => decide (m ∈ y)) x i hlt)
      have HH := hide (refHas_any b d y hy (x.getD i 0) wr.drew (nrow_below (unhide Hry) hbw.drew (Nat.le_refl _)))
      have hk : ∀ W2, Below wr.drew.heap.size wr.drew W2 → Below w.heap.size w W2 ∧ W2.heap[w.heap.size]? = some (.cells #[.slice (some ⟨g, off, none⟩) x.length c] 32 (0, 0)) ∧ W2.heap[w.heap.size + 1]? = some (.cells #[.slice b y.length d] 32 (0, 0)) := fun W2 hb => ⟨hbw.drew.trans (hb.mono hbw.size), (hb.block _ (lt_of_some h0)).trans h0, (hb.block _ (lt_of_some h1)).trans h1⟩
      have HK := hide hk
      clear hc hbw h0 h1 hany hk
      generalize x.getD i 0 = v at *
      cases hv : decide (v ∈ y)
      · simp only [hv] at HT HH
        clear hv HN
        go_wp2
        go_region_with (go_at_call 29; refine (unhide HH).mono ?_; rintro e W2 ⟨rfl, hb2⟩; have Hb2 := hide hb2; clear hb2)
        all_goals
          go_wp2
          go_roundw
          case rel =>
            obtain ⟨r1, r2, r3⟩ := unhide HK _ (unhide Hb2)
            exact ⟨i + 1, by go_num, by omega, by rw [unhide HT]; rfl, r1, r2, r3⟩
          case measure => simp [intOf]; omega
      · simp only [hv] at HN HH
        have HF := hide (unhide HN trivial)
        clear hv HT HN
        go_wp2
        go_region_with (go_at_call 29; refine (unhide HH).mono ?_; rintro e W2 ⟨rfl, hb2⟩; have Hb2 := hide hb2; clear hb2)
        all_goals
          go_wp2
          go_ret
          exact ⟨by rw [unhide HF]; rfl, (unhide HK _ (unhide Hb2)).1⟩
    · obtain rfl : i = x.length := by omega
      have hlt' : ¬ ((x.length : Int) < x.length) := by omega
      rw [List.take_length] at hany
      have Hany := hide hany; have Hbw := hide hbw
      clear hany hbw h0 h1
      go_wp2
      go_ret
      exact ⟨by rw [unhide Hany]; rfl, unhide Hbw⟩
set_option maxHeartbeats 8000000 in
set_option maxRecDepth 100000 in
theorem refWithin_any (a b : Option Addr) (c d : Nat) (x y : List Int) (hx : x.length ≤ 281474976710656) (hy : y.length ≤ 281474976710656) (w : World) (hrx : NRow w a x) (hry : NRow w b y) :
    Calls Tryd.prog 31 #[.agg #[.slice a x.length c], .agg #[.slice b y.length d]] w fun e w' => e = .returned (.bool (x.all fun m => decide (m ∈ y))) ∧ Below w.heap.size w w' := by
  have hb0 : Below w.heap.size w ((w.alloc (.cells #[.slice a x.length c] 32)).alloc (.cells #[.slice b y.length d] 32)) := ((Below.refl _ w).alloc (Nat.le_refl _) _).alloc (by simp) _
  have h00 := (Below.heap_alloc (w.alloc (.cells #[.slice a x.length c] 32)) (.cells #[.slice b y.length d] 32) _ (by simp)).trans (MapKept.heap_alloc w (.cells #[.slice a x.length c] 32)).1
  have h01 := (MapKept.heap_alloc (w.alloc (.cells #[.slice a x.length c] 32)) (.cells #[.slice b y.length d] 32)).1
  rw [World.size_alloc] at h01
  have Hb0 := hide hb0; have H00 := hide h00; have H01 := hide h01; have Hrx := hide hrx; have Hry := hide hry
  clear hb0 h00 h01 hrx hry
  go_enter Tryd.func31, Tryd.ntmps31
  go_wp2
  go_loopw [5] (fun z W => ∃ i : Nat, z = .int .i64 i ∧ i ≤ x.length ∧ (x.take i).all (fun m => decide (m ∈ y)) = true ∧ Below w.heap.size w W ∧ W.heap[w.heap.size]? = some (.cells #[.slice a x.length c] 32 (0, 0)) ∧ W.heap[w.heap.size + 1]? = some (.cells #[.slice b y.length d] 32 (0, 0))) (fun z _ => x.length - (intOf z).toNat)
  case atStart => exact ⟨0, rfl, Nat.zero_le _, rfl, unhide Hb0, unhide H00, unhide H01⟩
  case round =>
    obtain ⟨i, rfl, hi, hany, hbw, h0, h1⟩ := hrel
    have x0 := cell_block h0 0 _ rfl
    have x1 := cell_block h1 0 _ rfl
    clear Hb0 H00 H01
    by_cases hlt : i < x.length
    · have hlt' : (i : Int) < x.length := by omega
      rcases unhide Hrx with h | ⟨g, off, rfl, hgl, hc⟩
      · subst h; simp at hlt
      have ci : wr.cell? ⟨g, off + i, none⟩ = some (.int .i64 (x.getD i 0)) := (hbw.cell (p := ⟨g, off + i, none⟩) hgl).trans (hc i hlt)
      have HT := hide (allI_take (fun m => decide (m ∈ y)) x i hlt)
      rw [hany] at HT
      have HN := hide (allI_no (fun m => decide (m ∈ y)) x i hlt)
      have HH := hide (refHas_any b d y hy (x.getD i 0) wr.drew (nrow_below (unhide Hry) hbw.drew (Nat.le_refl _)))
      have hk : ∀ W2, Below wr.drew.heap.size wr.drew W2 → Below w.heap.size w W2 ∧ W2.heap[w.heap.size]? = some (.cells #[.slice (some ⟨g, off, none⟩) x.length c] 32 (0, 0)) ∧ W2.heap[w.heap.size + 1]? = some (.cells #[.slice b y.length d] 32 (0, 0)) := fun W2 hb => ⟨hbw.drew.trans (hb.mono hbw.size), (hb.block _ (lt_of_some h0)).trans h0, (hb.block _ (lt_of_some h1)).trans h1⟩
      have HK := hide hk
      clear hc hbw h0 h1 hany hk
      generalize x.getD i 0 = v at *
      cases hv : decide (v ∈ y)
      · simp only [hv] at HN HH
        have HF := hide (unhide HN trivial)
        clear hv HT HN
        go_wp2
        go_region_with (go_at_call 29; refine (unhide HH).mono ?_; rintro e W2 ⟨rfl, hb2⟩; have Hb2 := hide hb2; clear hb2)
        all_goals
          go_wp2
          go_ret
          exact ⟨by rw [unhide HF]; rfl, (unhide HK _ (unhide Hb2)).1⟩
      · simp only [hv] at HT HH
        clear hv HN
        go_wp2
        go_region_with (go_at_call 29; refine (unhide HH).mono ?_; rintro e W2 ⟨rfl, hb2⟩; have Hb2 := hide hb2; clear hb2)
        all_goals
          go_wp2
          go_roundw
          case rel =>
            obtain ⟨r1, r2, r3⟩ := unhide HK _ (unhide Hb2)
            exact ⟨i + 1, by go_num, by omega, by rw [unhide HT]; rfl, r1, r2, r3⟩
          case measure => simp [intOf]; omega
    · obtain rfl : i = x.length := by omega
      have hlt' : ¬ ((x.length : Int) < x.length) := by omega
      rw [List.take_length] at hany
      have Hany := hide hany; have Hbw := hide hbw
      clear hany hbw h0 h1
      go_wp2
      go_ret
      exact ⟨by rw [unhide Hany]; rfl, unhide Hbw⟩
end Go.Proofs.YtdpphjedjhjdgaaDoor

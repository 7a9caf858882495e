/- The document's Drop. -/
import Derived.Test.YtdpphjedjhjdgaaDoorF1
namespace Go.Proofs.YtdpphjedjhjdgaaDoor
open Go.RowKit Go.Maps

theorem rowI_own {w : World} {B : Nat} {v : Value} {L : List Int} (h : RowI w B v L) : w.ownsRow B 3 1 v L.length (intV L) := by
  rcases h with ⟨rfl, rfl⟩ | ⟨_, h⟩
  · exact ⟨rfl, .inl ⟨rfl, rfl⟩⟩
  · exact h
def fil (L l : List Int) : List Int := L.filter fun m => decide (m ∉ l)
theorem fil_succ (L l : List Int) (i : Nat) (hi : i < L.length) : fil (L.take (i + 1)) l = fil (L.take i) l ++ (if L.getD i 0 ∈ l then [] else [L.getD i 0]) := by
  unfold fil
  rw [List.take_add_one, List.getElem?_eq_getElem hi, List.filter_append, List.getD_eq_getElem?_getD, List.getElem?_eq_getElem hi]
  congr 1
  show [L[i]].filter _ = if L[i] ∈ l then [] else [L[i]]
  rw [List.filter_cons]
  by_cases h : L[i] ∈ l
  · rw [if_neg (by simpa using h), if_pos h]; rfl
  · rw [if_pos (by simpa using h), if_neg h]; rfl

set_option maxHeartbeats 8000000 in
set_option maxRecDepth 100000 in
theorem refDrop_any (v : Value) (L : List Int) (hlen : L.length ≤ 1048576) (hup : Up L) (B : Nat) (a : Option Addr) (c : Nat) (l : List Int) (hl : l.length ≤ 281474976710656) (w : World) (hr : RowI w B v L) (hrow : NRow w a l) :
    Calls Tryd.prog 27 #[.agg #[v], .slice a l.length c] w fun e w' => ∃ v' L' k, e = .returned (.tuple #[.agg #[v'], .int .i64 k]) ∧ RowI w' w.heap.size v' L' ∧ Up L' ∧ (∀ m, m ∈ L' ↔ m ∈ L ∧ m ∉ l) ∧ Below w.heap.size w w' := by
  obtain ⟨i0, hi, hz0, hz1, hz2⟩ := info_parts hint
  obtain ⟨va, vc, rfl⟩ := rowI_form hr
  have hnL := rowI_nrow hr rfl
  have hb0 : Below w.heap.size w ((w.alloc (.cells #[.slice va L.length vc] 32)).alloc (.cells #[.slice none 0 0] 32)) := ((Below.refl _ w).alloc (Nat.le_refl _) _).alloc (by simp) _
  have hw0 : WBl ((w.alloc (.cells #[.slice va L.length vc] 32)).alloc (.cells #[.slice none 0 0] 32)) w.heap.size (.slice va L.length vc) := ⟨(Below.heap_alloc _ _ _ (by simp)).trans (MapKept.heap_alloc w _).1, by
    have := (MapKept.heap_alloc (w.alloc (.cells #[.slice va L.length vc] 32)) (.cells #[.slice none 0 0] 32)).1
    simpa using this⟩
  have Hb0 := hide hb0; have Hw0 := hide hw0; have Hrow := hide hrow; have HnL := hide hnL
  have Hend : Hid (Up (fil L l) ∧ ∀ m, m ∈ fil L l ↔ m ∈ L ∧ m ∉ l) := hide ⟨hup.filter _, fun m => by unfold fil; rw [List.mem_filter]; simp⟩
  clear hb0 hw0 hrow hnL hr hup
  go_enter Tryd.func27, Tryd.ntmps27
  go_wp2
  go_loopw [7, 6] (fun x v W => ∃ i : Nat, x = .int .i64 i ∧ i ≤ L.length ∧ Below w.heap.size w W ∧ WBl W w.heap.size (.slice va L.length vc) ∧ RowI W (w.heap.size + 2) v (fil (L.take i) l)) (fun x _ _ => L.length - (intOf x).toNat)
  case atStart => exact ⟨0, rfl, Nat.zero_le _, unhide Hb0, unhide Hw0, .inl ⟨rfl, rfl⟩⟩
  case round =>
    obtain ⟨i, rfl, hil, hbel, hwb, hri⟩ := hrel
    clear Hb0 Hw0
    obtain ⟨vb, vd, rfl⟩ := rowI_form hri
    have x0 := cell_block hwb.b0 0 _ rfl
    have hs2 := wbl_lt hwb
    have hfl : (fil (L.take i) l).length ≤ 1048576 := by
      have := List.length_filter_le (fun m => decide (m ∉ l)) (L.take i)
      rw [List.length_take] at this
      unfold fil
      omega
    by_cases hlt : i < L.length
    · have hlt' : (i : Int) < L.length := by omega
      rcases nrow_below (unhide HnL) hbel (Nat.le_refl _) with h0 | ⟨g, off, rfl, hgl, hc⟩
      · subst h0; simp at hlt
      have ci := hc i hlt
      have HS := hide (fil_succ L l i hlt)
      have HH := hide (refHas_any a c l hl (L.getD i 0) wr (nrow_below (unhide Hrow) hbel (Nat.le_refl _)))
      have HK : Hid (∀ W2, Below wr.heap.size wr W2 → Below w.heap.size w W2 ∧ WBl W2 w.heap.size (.slice (some ⟨g, off, none⟩) L.length vc) ∧ RowI W2 (w.heap.size + 2) (.slice vb (fil (L.take i) l).length vd) (fil (L.take i) l) ∧ W2.cell? ⟨g, off + i, none⟩ = some (.int .i64 (L.getD i 0))) := hide (fun W2 hb => ⟨hbel.trans (hb.mono hbel.size), wbl_kept hwb (fun j hj => hb.block j (by omega)), rowI_below hri hb, (hb.cell (p := ⟨g, off + i, none⟩) hgl).trans ci⟩)
      clear hbel hwb hri hc
      generalize fil (L.take i) l = F at *
      generalize L.getD i 0 = y at *
      by_cases hy : y ∈ l
      · rw [show decide (y ∈ l) = true by simpa using hy] at HH
        rw [if_pos hy, List.append_nil] at HS
        clear hy
        go_wp2_with (go_at_call 29; refine (unhide HH).mono ?_; rintro e W2 ⟨rfl, hb2⟩; obtain ⟨hb3, hwb3, hri3, ci3⟩ := unhide HK W2 hb2; have Hrel := hide (And.intro hb3 (And.intro hwb3 hri3)); clear hb3 hwb3 hri3 ci3 hb2)
        go_roundw
        case rel => exact ⟨i + 1, by go_num, by omega, (unhide Hrel).1, (unhide Hrel).2.1, by rw [unhide HS]; exact (unhide Hrel).2.2⟩
        case measure => simp [intOf]; omega
      · rw [show decide (y ∈ l) = false by simpa using hy] at HH
        rw [if_neg hy] at HS
        clear hy
        go_wp2_with fail
        refine (unhide HH).mono ?_
        rintro e W2 ⟨rfl, hb2⟩
        obtain ⟨hb3, hwb3, hri3, ci3⟩ := unhide HK W2 hb2
        have x3 := cell_block hwb3.b0 0 _ rfl
        have hs3 := wbl_lt hwb3
        have Hb3 := hide hb3; have Hwb3 := hide hwb3; have Hown3 := hide (rowI_own hri3)
        clear hb3 hwb3 hri3 hb2 HK HH x0 ci
        go_wp2_with (at_builtin; refine wpList_append_own _ rfl _ _ 22 rfl (w.heap.size + 2) 3 i0 (.int .i64 0) 1 8 Tryd.underlying22 hi hz0 hz1 hz2 rfl (by decide) _ _ _ rfl ((unhide Hown3).alloc _) ⟨W2.heap.size, 0, none⟩ 1 1 [.int .i64 y] rfl rfl (World.news_of_block (MapKept.heap_alloc W2 (.cells #[.int .i64 y] 3)).1) (by simp [Value.oneCell']) (by unfold maxLen; omega) (by omega) (by simp; omega) ?_)
        intro v4 W4 hown4 hg4 hv4
        have hb4 : Below w.heap.size w W4 := ((unhide Hb3).alloc (unhide Hb3).size _).grown hg4 (by have := (unhide Hb3).size; simp; omega) (fun k hk => by have := ((unhide Hown3).lt k hk).1; omega)
        have hwb4 : WBl W4 w.heap.size (.slice (some ⟨g, off, none⟩) L.length vc) := wbl_kept (unhide Hwb3) (fun j hj => (hg4.block j (by simp; omega) (fun e => by have := ((unhide Hown3).lt j e.symm).1; omega)).trans (Below.heap_alloc W2 _ j (by omega)))
        obtain ⟨vb4, vd4, rfl⟩ := own_form hown4
        have hri4 : RowI W4 (w.heap.size + 2) (.slice vb4 (F.length + 1) vd4) (F ++ [y]) := .inr ⟨by simp, by rw [List.length_append, intV_append]; exact hown4⟩
        have Hrel := hide (And.intro hb4 (And.intro hwb4 hri4))
        clear hb4 hwb4 hri4 hown4 hg4 hv4
        go_wp2
        go_roundw
        case rel => exact ⟨i + 1, by go_num, by omega, (unhide Hrel).1, (unhide Hrel).2.1, by rw [unhide HS]; exact (unhide Hrel).2.2⟩
        case measure => simp [intOf]; omega
    · obtain rfl : i = L.length := by omega
      have hlt' : ¬ ((L.length : Int) < L.length) := by omega
      rw [List.take_length] at *
      have y0 := cell_block hwb.b1 0 _ rfl
      have yf := frozen_block hwb.b1 0
      have hfin : RowI (wr.setCell ⟨w.heap.size + 1, 0, none⟩ (.slice vb (fil L l).length vd)) w.heap.size (.slice vb (fil L l).length vd) (fil L l) := rowI_mono (rowI_off (O := fun k => k = w.heap.size + 1) hri (off_set (O := fun k => k = w.heap.size + 1) (off_refl _ _) (p := ⟨w.heap.size + 1, 0, none⟩) (.inl rfl) _) (fun k hk e => by
          have := ((rowI_own hri).lt k hk).1; omega)) (by omega)
      have Hfin := hide hfin
      have Hb3 := hide (hbel.setCell (p := ⟨w.heap.size + 1, 0, none⟩) (by simp) (.slice vb (fil L l).length vd))
      have Hrc := hide (box30 hwb.b1 (.slice vb (fil L l).length vd))
      clear hfin hbel hwb hri
      generalize fil L l = F at *
      go_wp2
      go_region
      all_goals
        go_wp2
        refine bodyPost_ret (v := .tuple #[.agg #[.slice vb F.length vd], .int .i64 ((L.length : Int) - F.length)]) (by have rc := unhide Hrc; simp [results, Tryd.results27, go_sem, rc]) rfl ⟨_, F, _, rfl, unhide Hfin, (unhide Hend).1, (unhide Hend).2, (unhide Hb3).drew⟩
end Go.Proofs.YtdpphjedjhjdgaaDoor

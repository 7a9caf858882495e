/- The document's sets: with, of a number that is not there; Add. -/
import Derived.Test.YtdpphjedjhjdgaaDoorE8
namespace Go.Proofs.YtdpphjedjhjdgaaDoor
open Go.RowKit Go.Maps

/-- The two boxes of with. -/
structure WBl (W : World) (s : Nat) (v : Value) : Prop where
  b0 : W.heap[s]? = some (.cells #[v] 32 (0, 0))
  b1 : W.heap[s + 1]? = some (.cells #[.slice none 0 0] 32 (0, 0))
theorem wbl_kept {W W' : World} {s : Nat} {v : Value} (h : WBl W s v) (hk : ∀ j, j < s + 2 → W'.heap[j]? = W.heap[j]?) : WBl W' s v := ⟨(hk _ (by omega)).trans h.b0, (hk _ (by omega)).trans h.b1⟩
theorem wbl_lt {W : World} {s : Nat} {v : Value} (h : WBl W s v) : s + 2 ≤ W.heap.size := by have := lt_of_some h.b1; omega

set_option maxHeartbeats 8000000 in
set_option maxRecDepth 100000 in
theorem with_some (g c : Nat) (L : List Int) (hpos : 0 < L.length) (hlen : L.length ≤ 1048576) (hup : Up L) (n : Int) (hn : n ∉ L) (B : Nat) (w : World) (hr : w.ownsRow B 3 1 (.slice (some ⟨g, 0, none⟩) L.length c) L.length (intV L)) :
    Calls Tryd.prog 26 #[.agg #[.slice (some ⟨g, 0, none⟩) L.length c], .int .i64 n] w fun e w' => ∃ v' L', e = .returned (.agg #[v']) ∧ RowI w' w.heap.size v' L' ∧ Up L' ∧ (∀ m, m ∈ L' ↔ m = n ∨ m ∈ L) ∧ Below w.heap.size w w' := by
  obtain ⟨i0, hi, hz0, hz1, hz2⟩ := info_parts hint
  have hgl : g < w.heap.size := (hr.lt g rfl).2
  have hcl : L.length ≤ c := by
    obtain ⟨g', c', e, -, -, h1, -⟩ := own_pos hr hpos
    simp only [Value.slice.injEq] at e
    obtain ⟨-, -, rfl⟩ := e
    exact h1
  have hb0 : Below w.heap.size w ((w.alloc (.cells #[.slice (some ⟨g, 0, none⟩) L.length c] 32)).alloc (.cells #[.slice none 0 0] 32)) := ((Below.refl _ w).alloc (Nat.le_refl _) _).alloc (by simp) _
  have hcell : ∀ W, Below w.heap.size w W → ∀ j, j < L.length → W.cell? ⟨g, j, none⟩ = some (.int .i64 (L.getD j 0)) := fun W hW j hj => by
    rw [hW.cell (p := ⟨g, j, none⟩) hgl, own_cell hr rfl j (by rw [intV_length]; exact hj), intV_at L j hj]
  have HH := hide (refHas_any (some ⟨g, 0, none⟩) c L (by omega) n ((w.alloc (.cells #[.slice (some ⟨g, 0, none⟩) L.length c] 32)).alloc (.cells #[.slice none 0 0] 32)) (nrow_below (own_nrow hr) hb0 (Nat.le_refl _)))
  rw [show decide (n ∈ L) = false by simpa using hn] at HH
  have hw0 : WBl ((w.alloc (.cells #[.slice (some ⟨g, 0, none⟩) L.length c] 32)).alloc (.cells #[.slice none 0 0] 32)) w.heap.size (.slice (some ⟨g, 0, none⟩) L.length c) := ⟨(Below.heap_alloc _ _ _ (by simp)).trans (MapKept.heap_alloc w _).1, by
    have := (MapKept.heap_alloc (w.alloc (.cells #[.slice (some ⟨g, 0, none⟩) L.length c] 32)) (.cells #[.slice none 0 0] 32)).1
    simpa using this⟩
  have Hb0 := hide hb0; have Hw0 := hide hw0; have Hcell := hide hcell; have Hup := hide hup; have Hn := hide hn
  clear hr hb0 hw0 hcell hup hn
  go_enter Tryd.func26, Tryd.ntmps26
  go_wp2_with fail
  refine (unhide HH).mono ?_
  rintro e w1 ⟨rfl, hb1⟩
  have hbw1 := (unhide Hb0).trans (hb1.mono (unhide Hb0).size)
  have hw1 := wbl_kept (unhide Hw0) (fun j hj => hb1.block j (Nat.lt_of_lt_of_le hj (wbl_lt (unhide Hw0))))
  have Hbw1 := hide hbw1; have Hw1 := hide hw1
  clear hbw1 hw1 hb1 HH Hw0 Hb0
  go_wp2
  go_loopw [6, 5] (fun x v W => ∃ i : Nat, x = .int .i64 i ∧ i ≤ L.length ∧ (∀ j, j < i → L.getD j 0 < n) ∧ Below w.heap.size w W ∧ WBl W w.heap.size (.slice (some ⟨g, 0, none⟩) L.length c) ∧ W.ownsRow (w.heap.size + 2) 3 1 v i (intV (L.take i))) (fun x _ _ => L.length - (intOf x).toNat)
  case atStart => exact ⟨0, rfl, Nat.zero_le _, fun j hj => by omega, unhide Hbw1, unhide Hw1, ⟨rfl, .inl ⟨rfl, rfl⟩⟩⟩
  case round =>
    obtain ⟨i, rfl, hil, hlow, hbel, hwb, hown⟩ := hrel
    obtain ⟨va, vc, rfl⟩ := own_form hown
    have x0 := cell_block hwb.b0 0 _ rfl
    clear Hbw1 Hw1
    have hgo : (i < L.length ∧ L.getD i 0 < n) ∨ ¬ (i < L.length ∧ L.getD i 0 < n) := Classical.em _
    rcases hgo with ⟨hlt, hln⟩ | hst
    · have hlt' : (i : Int) < L.length := by omega
      have ci := unhide Hcell wr hbel i hlt
      have hlow' : ∀ j, j < i + 1 → L.getD j 0 < n := fun j hj => by
        by_cases e : j = i
        · rw [e]; exact hln
        · exact hlow j (by omega)
      have Hlow := hide hlow'; have Hbel := hide hbel; have Hwb := hide hwb; have Hown := hide hown
      have Htk : Hid (intV (L.take (i + 1)) = intV (L.take i) ++ [.int .i64 (L.getD i 0)]) := hide (by
        rw [List.take_add_one, List.getElem?_eq_getElem hlt, intV_append, List.getD_eq_getElem?_getD, List.getElem?_eq_getElem hlt]; rfl)
      have hs2 := wbl_lt hwb
      clear hlow hlow' hbel hwb hown
      generalize L.getD i 0 = y at *
      go_wp2_with (at_builtin; refine wpList_append_own _ rfl _ _ 22 rfl (w.heap.size + 2) 3 i0 (.int .i64 0) 1 8 Tryd.underlying22 hi hz0 hz1 hz2 rfl (by decide) _ _ _ rfl ((unhide Hown).alloc _) ⟨wr.heap.size, 0, none⟩ 1 1 [.int .i64 y] rfl rfl (World.news_of_block (MapKept.heap_alloc wr (.cells #[.int .i64 y] 3)).1) (by simp [Value.oneCell']) (by unfold maxLen; omega) (by omega) (by simp; omega) ?_)
      intro v2 W2 hown2 hg2 hv2
      have hb2 : Below w.heap.size w W2 := ((unhide Hbel).alloc (unhide Hbel).size _).grown hg2 (by have := (unhide Hbel).size; simp; omega) (fun k hk => by have := ((unhide Hown).lt k hk).1; omega)
      have hwb2 : WBl W2 w.heap.size (.slice (some ⟨g, 0, none⟩) L.length c) := wbl_kept (unhide Hwb) (fun j hj => (hg2.block j (by simp; omega) (fun e => by have := ((unhide Hown).lt j e.symm).1; omega)).trans (Below.heap_alloc wr _ j (by omega)))
      obtain ⟨va2, vc2, rfl⟩ := own_form hown2
      have Hb2 := hide hb2; have Hwb2 := hide hwb2; have Hown2 := hide hown2
      clear hb2 hwb2 hown2 hg2 hv2
      go_wp2
      go_roundw
      case rel => exact ⟨i + 1, by go_num, by omega, unhide Hlow, unhide Hb2, unhide Hwb2, by rw [unhide Htk]; exact unhide Hown2⟩
      case measure => simp [intOf]; omega
    · have h2 : i < L.length → n < L.getD i 0 := fun h => by
        have h3 : ¬ L.getD i 0 < n := fun h4 => hst ⟨h, h4⟩
        have h4 : L.getD i 0 ≠ n := fun e => unhide Hn (by rw [← e, List.getD_eq_getElem?_getD, List.getElem?_eq_getElem h]; exact List.getElem_mem _)
        omega
      obtain ⟨hu1, hu2⟩ := up_ins (unhide Hup) hlow hil h2
      have Hu := hide (And.intro hu1 hu2)
      obtain ⟨A, hA, hAc⟩ : ∃ A : Addr, (if c = i then some (⟨g, 0, none⟩ : Addr) else some ⟨g, i, none⟩) = some A ∧ (L.length = i ∨ A = ⟨g, i, none⟩) := by
        by_cases h : c = i
        · exact ⟨_, if_pos h, .inl (by omega)⟩
        · exact ⟨_, if_neg h, .inr rfl⟩
      have hAi : i < L.length → (⟨g, i, none⟩ : Addr) = A := fun h => by rcases hAc with h1 | h1; omega; exact h1.symm
      have HAi := hide hAi
      clear hAi
      have Hrest : Hid (∀ W, Below w.heap.size w W → ∀ j u, (intV (L.drop i))[j]? = some u → W.cell? (A.add j) = some u) := hide (fun W hW j u hu => by
        rcases hAc with h | rfl
        · rw [List.drop_of_length_le (by omega)] at hu; simp [intV] at hu
        · unfold intV at hu
          rw [List.getElem?_map, List.getElem?_drop] at hu
          by_cases hj : i + j < L.length
          · rw [List.getElem?_eq_getElem hj] at hu
            have h5 := unhide Hcell W hW (i + j) hj
            rw [List.getD_eq_getElem?_getD, List.getElem?_eq_getElem hj] at h5
            have e : (⟨g, i, none⟩ : Addr).add j = ⟨g, i + j, none⟩ := by unfold Addr.add; split <;> simp_all
            rw [e, h5]
            simpa using hu
          · rw [List.getElem?_eq_none (by omega)] at hu; simp at hu)
      have Hci : Hid (i < L.length → wr.cell? ⟨g, i, none⟩ = some (.int .i64 (L.getD i 0)) ∧ decide (L.getD i 0 < n) = false) := hide (fun h => ⟨unhide Hcell wr hbel i h, decide_eq_false (by have := h2 h; omega)⟩)
      have Hrl : Hid ((intV (L.drop i)).length = (L.length - i) * 1) := hide (by rw [intV_length, List.length_drop, Nat.mul_one])
      have Hone := hide (intV_one (L.drop i))
      have Hbel := hide hbel; have Hwb := hide hwb; have Hown := hide hown
      have hs2 := wbl_lt hwb
      have hic : (i : Int) ≤ c := by omega
      have hil' : (i : Int) ≤ L.length := by omega
      clear hst h2 hlow hbel hwb hown hu1 hu2 hAc
      have hcase : i < L.length ∨ ¬ i < L.length := Classical.em _
      rcases hcase with hlt | hlt
      all_goals
        first
          | (have hlt' : (i : Int) < L.length := by omega
             obtain ⟨ci, hdn⟩ := unhide Hci hlt
             generalize L.getD i 0 = y at *)
          | (have hlt' : ¬ (i : Int) < L.length := by omega)
        go_wp2_with (at_builtin; refine wpList_append_own _ rfl _ _ 22 rfl (w.heap.size + 2) 3 i0 (.int .i64 0) 1 8 Tryd.underlying22 hi hz0 hz1 hz2 rfl (by decide) _ _ _ rfl ((unhide Hown).alloc _) ⟨wr.heap.size, 0, none⟩ 1 1 [.int .i64 n] rfl rfl (World.news_of_block (MapKept.heap_alloc wr (.cells #[.int .i64 n] 3)).1) (by simp [Value.oneCell']) (by unfold maxLen; omega) (by omega) (by simp; omega) ?_)
        intro v2 W2 hown2 hg2 hv2
        have hb2 : Below w.heap.size w W2 := ((unhide Hbel).alloc (unhide Hbel).size _).grown hg2 (by have := (unhide Hbel).size; simp; omega) (fun k hk => by have := ((unhide Hown).lt k hk).1; omega)
        have hwb2 : WBl W2 w.heap.size (.slice (some ⟨g, 0, none⟩) L.length c) := wbl_kept (unhide Hwb) (fun j hj => (hg2.block j (by simp; omega) (fun e => by have := ((unhide Hown).lt j e.symm).1; omega)).trans (Below.heap_alloc wr _ j (by omega)))
        obtain ⟨va2, vc2, rfl⟩ := own_form hown2
        have x2 := cell_block hwb2.b0 0 _ rfl
        have Hb2 := hide hb2; have Hwb2 := hide hwb2; have Hown2 := hide hown2
        have hs3 := wbl_lt hwb2
        clear hb2 hwb2 hown2 hg2 hv2
        go_wp2_with (at_builtin; refine wpList_append_own _ rfl _ _ 22 rfl (w.heap.size + 2) 3 i0 (.int .i64 0) 1 8 Tryd.underlying22 hi hz0 hz1 hz2 rfl (by decide) _ _ _ rfl (unhide Hown2) A (L.length - i) (c - i) (intV (L.drop i)) (by first | rfl | (simp [Act.eval]; done) | (simp [Act.eval]; exact unhide HAi hlt)) (unhide Hrl) (unhide Hrest W2 (unhide Hb2)) (unhide Hone) (by unfold maxLen; omega) (by omega) hs3 ?_)
        intro v3 W3 hown3 hg3 hv3
        have hb3 : Below w.heap.size w W3 := (unhide Hb2).grown hg3 (unhide Hb2).size (fun k hk => by have := ((unhide Hown2).lt k hk).1; omega)
        have hwb3 : WBl W3 w.heap.size (.slice (some ⟨g, 0, none⟩) L.length c) := wbl_kept (unhide Hwb2) (fun j hj => hg3.block j (by omega) (fun e => by have := ((unhide Hown2).lt j e.symm).1; omega))
        obtain ⟨va3, vc3, rfl⟩ := own_form hown3
        have x3 := cell_block hwb3.b1 0 _ rfl
        have f3 := frozen_block hwb3.b1 0
        have hxl : (L.take i ++ n :: L.drop i).length = i + 1 + (L.length - i) := by simp; omega
        have hx : RowI (W3.setCell ⟨w.heap.size + 1, 0, none⟩ (.slice va3 (i + 1 + (L.length - i)) vc3)) w.heap.size (.slice va3 (i + 1 + (L.length - i)) vc3) (L.take i ++ n :: L.drop i) := by
          refine .inr ⟨by omega, ?_⟩
          rw [hxl]
          have e : intV (L.take i ++ n :: L.drop i) = intV (L.take i) ++ .int .i64 n :: intV (L.drop i) := by unfold intV; simp
          rw [e]
          have h1 := own_off (O := fun k => k = w.heap.size + 1) hown3 (off_set (O := fun k => k = w.heap.size + 1) (off_refl _ _) (p := ⟨w.heap.size + 1, 0, none⟩) (.inl rfl) (.slice va3 (i + 1 + (L.length - i)) vc3)) (fun k hk e => by have := (hown3.lt k hk).1; omega)
          refine ⟨h1.1, ?_⟩
          rcases h1.2 with h | ⟨g', cap, cur, h6, h7, h8⟩
          · exact .inl h
          · exact .inr ⟨g', cap, cur, h6, by omega, h8⟩
        have Hx := hide hx
        have Hrc := hide (box30 hwb3.b1 (.slice va3 (i + 1 + (L.length - i)) vc3))
        have Hb4 := hide (hb3.setCell (p := ⟨w.heap.size + 1, 0, none⟩) (by simp) (.slice va3 (i + 1 + (L.length - i)) vc3))
        clear hx hb3 hwb3 hown3 hg3 hv3 hxl
        go_wp2
        refine bodyPost_ret (v := .agg #[.slice va3 (i + 1 + (L.length - i)) vc3]) (by have rc := unhide Hrc; simp [results, Tryd.results26, go_sem, rc]) rfl ⟨_, _, rfl, unhide Hx, (unhide Hu).1, (unhide Hu).2, unhide Hb4⟩
end Go.Proofs.YtdpphjedjhjdgaaDoor

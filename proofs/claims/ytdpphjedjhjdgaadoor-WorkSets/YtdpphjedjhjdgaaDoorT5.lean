/- Sets: take. -/
import Derived.Test.YtdpphjedjhjdgaaDoorT4
namespace Go.Proofs.YtdpphjedjhjdgaaDoor
open Go.RowKit Go.Maps

set_option maxHeartbeats 8000000 in
set_option maxRecDepth 100000 in
theorem take_keep (B : Nat) (O : Nat → Prop) (bl : List Blk) (n t x k : Int) (hat : isAt bl t = true) (hn : 0 ≤ n ∧ n ≤ 1099511627776) (hk : 0 ≤ k ∧ k ≤ 64) (hy : ¬ bits .andNot .u64 (bl.getD (loc bl t) (0, 0)).2 x = 0)
    (hones : ∀ w, Calls Tryd.prog 48 #[.int .u64 (bits .and .u64 x (bl.getD (loc bl t) (0, 0)).2)] w fun e w' => e = .returned (.int .i64 k) ∧ w' = w) (w : World) (h : SetIs w B O bl n) :
    Calls Tryd.prog 45 #[.pointer (some ⟨B, 0, none⟩), .agg #[.int .i64 t, .int .u64 x]] w fun e w' => e = .returned (.int .i64 k) ∧ Off O w w' ∧
      SetIs w' B O (bl.set (loc bl t) ((bl.getD (loc bl t) (0, 0)).1, bits .andNot .u64 (bl.getD (loc bl t) (0, 0)).2 x)) (n - k) := by
  have hl := loc_lt hat
  have hb0 : Below w.heap.size w (w.alloc (.cells #[.int .i64 t, .int .u64 x] 73)) := (Below.refl _ _).alloc (Nat.le_refl _) _
  have HF := hide (find_set B O bl n t _ (set_below h hb0))
  rw [hat] at HF
  have HC : Hid (∀ w', Below w.heap.size w w' → ∃ g c, w'.heap[B]? = some (.cells #[.slice (some ⟨g, 0, none⟩) bl.length c, .int .i64 n] 53 (0, 0)) ∧ w'.ownsRow 0 73 2 (.slice (some ⟨g, 0, none⟩) bl.length c) bl.length (flatB bl) ∧ O g ∧ g ≠ B ∧ g < w.heap.size ∧ w'.cell? ⟨g, loc bl t * 2 + 1, none⟩ = some (.int .u64 (bl.getD (loc bl t) (0, 0)).2)) := hide (fun w' hb => by
    obtain ⟨sv, hB, hr, hs⟩ := (set_below h hb).lies
    obtain ⟨a, c, rfl⟩ := own_form hr
    have n1 := row_not hB hr (by decide)
    rcases brow_own hr with h0 | ⟨g, rfl, hgl, hc⟩
    · subst h0; simp at hl
    · exact ⟨g, c, hB, hr, hs g rfl, fun e => n1 (by rw [e]; rfl), h.lt g (hs g rfl), (hc _ hl).2⟩)
  have HB := hide h.own; have HL := hide h.lt; have HU := hide (rises_set h.up (loc bl t) (bits .andNot .u64 (bl.getD (loc bl t) (0, 0)).2 x)); have HS := hide h.short
  have HX := hide (flatB_set bl (loc bl t) hl (bits .andNot .u64 (bl.getD (loc bl t) (0, 0)).2 x))
  have hlt := h.lt B h.own
  have hl' : (loc bl t : Int) < bl.length := by omega
  have HO := hide hones
  have hbl := h.short
  clear h hat hones hb0
  generalize bl.set (loc bl t) ((bl.getD (loc bl t) (0, 0)).1, bits .andNot .u64 (bl.getD (loc bl t) (0, 0)).2 x) = bl' at *
  generalize hyy : bits .andNot .u64 (bl.getD (loc bl t) (0, 0)).2 x = y' at *
  generalize (bl.getD (loc bl t) (0, 0)).2 = y at *
  generalize loc bl t = i at *
  go_enter Tryd.func45, Tryd.ntmps45
  go_wp2_with (go_at_call 46; refine (unhide HF).mono ?_; rintro e w1 ⟨rfl, hb⟩)
  have hbw : Below w.heap.size w w1 := ((Below.refl _ _).alloc (Nat.le_refl _) _).trans (hb.mono (by simp))
  have cx : w1.cell? ⟨w.heap.size, 1, none⟩ = some (.int .u64 x) := (hb.cell (p := ⟨w.heap.size, 1, none⟩) (by simp)).trans (World.cell?_alloc_mark w #[.int .i64 t, .int .u64 x] 73 (0, 0) 1)
  obtain ⟨g, c, hB1, hr1, hOg, hgB, hgl, cg⟩ := unhide HC w1 hbw
  have c0 := cell_block hB1 0 _ rfl
  have c1 := cell_block hB1 1 _ rfl
  have f1 := frozen_block hB1 1
  have fg : w1.frozen? ⟨g, i * 2 + 1, none⟩ = false := hr1.frozenAt _
  have HB1 := hide hB1; have Hr1 := hide hr1; have Hbw := hide hbw
  clear hB1 hr1 hb hbw HC
  have hy0 : (y' == 0) = false := by rw [beq_eq_false_iff_ne]; exact hy
  go_quiet ((go_at_call 48; exact Calls.quiet_of_same (unhide HO _)))
  go_wp2
  go_region
  go_wp2
  go_ret
  have s1 := (ownsRow_drewN (unhide Hr1) (nq + 1)).stored (i * 2 + 1) (.int .u64 y')
  have hB2 : ((w1.drewN (nq + 1)).setCell ⟨g, i * 2 + 1, none⟩ (.int .u64 y')).heap[B]? = some (.cells #[.slice (some ⟨g, 0, none⟩) bl.length c, .int .i64 n] 53 (0, 0)) := (Below.heap_setCell (w1.drewN (nq + 1)) ⟨g, i * 2 + 1, none⟩ _ B (fun e => hgB e.symm)).trans (unhide HB1)
  have ho : Off O w (((w1.drewN (nq + 1)).setCell ⟨g, i * 2 + 1, none⟩ (.int .u64 y')).setCell ⟨B, 1, none⟩ (.int .i64 (n - k))) :=
    off_set (off_set (off_drewN (off_below (unhide Hbw)) _) (p := ⟨g, i * 2 + 1, none⟩) (.inl hOg) _) (p := ⟨B, 1, none⟩) (.inl (unhide HB)) _
  refine ⟨rfl, ho, unhide HB, fun k hk => Nat.lt_of_lt_of_le (unhide HL k hk) ho.size, unhide HU, ?_, .slice (some ⟨g, 0, none⟩) bl.length c, block_set hB2 _, ?_, ?_⟩
  · have := congrArg List.length (unhide HX)
    rw [flatB_length, List.length_set, flatB_length] at this
    omega
  · have hl := congrArg List.length (unhide HX)
    rw [flatB_length, List.length_set, flatB_length] at hl
    rw [unhide HX, show bl'.length = bl.length by omega]
    exact own_off (O := fun k => k = B) s1.1 (off_set (O := fun k => k = B) (off_refl _ _) (p := ⟨B, 1, none⟩) (.inl rfl) _) (fun k hk e => by simp only [Value.ownBlock, Option.some.injEq] at hk; omega)
  · intro k hk
    simp only [Value.ownBlock, Option.some.injEq] at hk
    exact hk ▸ hOg

set_option maxHeartbeats 8000000 in
set_option maxRecDepth 100000 in
theorem take_del (B : Nat) (O : Nat → Prop) (bl : List Blk) (n t x k : Int) (hat : isAt bl t = true) (hn : 0 ≤ n ∧ n ≤ 1099511627776) (hk : 0 ≤ k ∧ k ≤ 64) (hy : bits .andNot .u64 (bl.getD (loc bl t) (0, 0)).2 x = 0)
    (hones : ∀ w, Calls Tryd.prog 48 #[.int .u64 (bits .and .u64 x (bl.getD (loc bl t) (0, 0)).2)] w fun e w' => e = .returned (.int .i64 k) ∧ w' = w) (w : World) (h : SetIs w B O bl n) :
    Calls Tryd.prog 45 #[.pointer (some ⟨B, 0, none⟩), .agg #[.int .i64 t, .int .u64 x]] w fun e w' => e = .returned (.int .i64 k) ∧ Off O w w' ∧
      SetIs w' B O (bl.eraseIdx (loc bl t)) (n - k) := by
  have hl := loc_lt hat
  have hb0 : Below w.heap.size w (w.alloc (.cells #[.int .i64 t, .int .u64 x] 73)) := (Below.refl _ _).alloc (Nat.le_refl _) _
  have HF := hide (find_set B O bl n t _ (set_below h hb0))
  rw [hat] at HF
  have HC : Hid (∀ w', Below w.heap.size w w' → ∃ g c, w'.heap[B]? = some (.cells #[.slice (some ⟨g, 0, none⟩) bl.length c, .int .i64 n] 53 (0, 0)) ∧ w'.ownsRow 0 73 2 (.slice (some ⟨g, 0, none⟩) bl.length c) bl.length (flatB bl) ∧ O g ∧ g ≠ B ∧ g < w.heap.size ∧ w'.cell? ⟨g, loc bl t * 2 + 1, none⟩ = some (.int .u64 (bl.getD (loc bl t) (0, 0)).2)) := hide (fun w' hb => by
    obtain ⟨sv, hB, hr, hs⟩ := (set_below h hb).lies
    obtain ⟨a, c, rfl⟩ := own_form hr
    have n1 := row_not hB hr (by decide)
    rcases brow_own hr with h0 | ⟨g, rfl, hgl, hc⟩
    · subst h0; simp at hl
    · exact ⟨g, c, hB, hr, hs g rfl, fun e => n1 (by rw [e]; rfl), h.lt g (hs g rfl), (hc _ hl).2⟩)
  have HB := hide h.own; have HL := hide h.lt; have HU := hide (rises_set h.up (loc bl t) (bits .andNot .u64 (bl.getD (loc bl t) (0, 0)).2 x)); have HS := hide h.short
  have HX := hide (flatB_set bl (loc bl t) hl (bits .andNot .u64 (bl.getD (loc bl t) (0, 0)).2 x))
  have HUe : Hid (Rises (bl.eraseIdx (loc bl t))) := hide (h.up.sublist (List.eraseIdx_sublist _ _))
  have HEr : Hid ((bl.set (loc bl t) ((bl.getD (loc bl t) (0, 0)).1, bits .andNot .u64 (bl.getD (loc bl t) (0, 0)).2 x)).eraseIdx (loc bl t) = bl.eraseIdx (loc bl t)) := hide (List.eraseIdx_set_eq)
  have hlt := h.lt B h.own
  have hl' : (loc bl t : Int) < bl.length := by omega
  have HO := hide hones
  have hbl := h.short
  clear h hat hones hb0
  generalize bl.set (loc bl t) ((bl.getD (loc bl t) (0, 0)).1, bits .andNot .u64 (bl.getD (loc bl t) (0, 0)).2 x) = bl' at *
  generalize hyy : bits .andNot .u64 (bl.getD (loc bl t) (0, 0)).2 x = y' at *
  generalize (bl.getD (loc bl t) (0, 0)).2 = y at *
  generalize loc bl t = i at *
  go_enter Tryd.func45, Tryd.ntmps45
  go_wp2_with (go_at_call 46; refine (unhide HF).mono ?_; rintro e w1 ⟨rfl, hb⟩)
  have hbw : Below w.heap.size w w1 := ((Below.refl _ _).alloc (Nat.le_refl _) _).trans (hb.mono (by simp))
  have cx : w1.cell? ⟨w.heap.size, 1, none⟩ = some (.int .u64 x) := (hb.cell (p := ⟨w.heap.size, 1, none⟩) (by simp)).trans (World.cell?_alloc_mark w #[.int .i64 t, .int .u64 x] 73 (0, 0) 1)
  obtain ⟨g, c, hB1, hr1, hOg, hgB, hgl, cg⟩ := unhide HC w1 hbw
  have c0 := cell_block hB1 0 _ rfl
  have c1 := cell_block hB1 1 _ rfl
  have f1 := frozen_block hB1 1
  have fg : w1.frozen? ⟨g, i * 2 + 1, none⟩ = false := hr1.frozenAt _
  have HB1 := hide hB1; have Hr1 := hide hr1; have Hbw := hide hbw
  clear hB1 hr1 hb hbw HC
  subst hy
  obtain ⟨M, hM⟩ : ∃ M, bl.length = M + 1 := ⟨bl.length - 1, by omega⟩
  have hbl' : bl'.length = bl.length := by
    have := congrArg List.length (unhide HX)
    rw [flatB_length, List.length_set, flatB_length] at this
    omega
  have hwi : IntKind.i64.wrap ((i : Int) + 1) = (i : Int) + 1 := by rw [IntKind.wrap_i64]; omega
  have HM := hide hM
  clear hM
  go_quiet ((go_at_call 48; exact Calls.quiet_of_same (unhide HO _)))
  go_wp2
  go_region
  have s1 := (ownsRow_drewN (unhide Hr1) (nq + 1)).stored (i * 2 + 1) (.int .u64 0)
  have hB2 : ((w1.drewN (nq + 1)).setCell ⟨g, i * 2 + 1, none⟩ (.int .u64 0)).heap[B]? = some (.cells #[.slice (some ⟨g, 0, none⟩) bl.length c, .int .i64 n] 53 (0, 0)) := (Below.heap_setCell (w1.drewN (nq + 1)) ⟨g, i * 2 + 1, none⟩ _ B (fun e => hgB e.symm)).trans (unhide HB1)
  have cg2 : ((w1.drewN (nq + 1)).setCell ⟨g, i * 2 + 1, none⟩ (.int .u64 0)).cell? ⟨g, i * 2 + 1, none⟩ = some (.int .u64 0) := by
    rw [own_cell s1.1 rfl (i * 2 + 1) (by rw [List.length_set, flatB_length]; omega), List.getD_eq_getElem?_getD, List.getElem?_set_self (by rw [flatB_length]; omega)]; rfl
  have ho2 : Off O w ((w1.drewN (nq + 1)).setCell ⟨g, i * 2 + 1, none⟩ (.int .u64 0)) := off_set (off_drewN (off_below (unhide Hbw)) _) (p := ⟨g, i * 2 + 1, none⟩) (.inl hOg) _
  have hr2 := s1.1
  rw [← unhide HX] at hr2
  clear s1 cg c0 c1 f1 fg cx Hr1 HB1
  generalize (w1.drewN (nq + 1)).setCell ⟨g, i * 2 + 1, none⟩ (.int .u64 0) = W2 at *
  rcases hr2.2 with ⟨h, -⟩ | ⟨g', cap, cur, hv, -, hg2, h1, h2, h3, h4⟩
  · simp at h
  simp only [Value.slice.injEq, Option.some.injEq, Addr.mk.injEq, and_true, true_and] at hv
  obtain ⟨rfl, rfl⟩ := hv
  have hM := unhide HM
  have HD := hide (delete_one g c i M bl' cur.toList (by omega) (by omega) (by omega) h2 W2 (by simpa using hg2) (by simpa using h3) (by rw [hbl']; exact h4))
  rw [← hM] at HD
  have c0 := cell_block hB2 0 _ rfl
  have HB2 := hide hB2; have Ho2 := hide ho2; have H1 := hide h1; have H2 := hide h2
  clear hM hr2 hg2 h1 h2 h3 h4 hB2 ho2
  go_wp2_with fail
  refine (unhide HD).mono ?_
  rintro e W3 ⟨rfl, ho3, cur', e3, e4, e5⟩
  have hB3 : W3.heap[B]? = some (.cells #[.slice (some ⟨g, 0, none⟩) bl.length c, .int .i64 n] 53 (0, 0)) := (ho3.block B (lt_of_some (unhide HB2)) (fun e => hgB e.symm)).trans (unhide HB2)
  have d0 := cell_block hB3 0 _ rfl
  have d1 := cell_block hB3 1 _ rfl
  have e0 := frozen_block hB3 0
  have e1 := frozen_block hB3 1
  have HB3 := hide hB3; have Ho3 := hide ho3; have E3 := hide e3; have E4 := hide e4; have E5 := hide e5
  clear hB3 ho3 e3 e4 e5 c0 cg2 HD
  go_wp2
  go_ret
  have hM := unhide HM
  have hB4 := block_set (i := 0) (unhide HB3) (.slice (some ⟨g, 0, none⟩) M c)
  have ho4 : Off O w W3 := off_t' (unhide Ho2) (unhide Ho3) (fun j hj => .inl (hj ▸ hOg))
  have ho5 : Off O w ((W3.setCell ⟨B, 0, none⟩ (.slice (some ⟨g, 0, none⟩) M c)).setCell ⟨B, 1, none⟩ (.int .i64 (n - k))) := off_set (off_set ho4 (p := ⟨B, 0, none⟩) (.inl (unhide HB)) _) (p := ⟨B, 1, none⟩) (.inl (unhide HB)) _
  have hel : (bl.eraseIdx i).length = M := by rw [List.length_eraseIdx]; split <;> omega
  refine ⟨rfl, ho5, unhide HB, fun k hk => Nat.lt_of_lt_of_le (unhide HL k hk) ho5.size, unhide HUe, by omega, .slice (some ⟨g, 0, none⟩) M c, block_set (i := 1) hB4 _, ?_, ?_⟩
  · rw [hel, ← unhide HEr]
    have hr3 : W3.ownsRow 0 73 2 (.slice (some ⟨g, 0, none⟩) M c) M (flatB (bl'.eraseIdx i)) := ⟨by rw [flatB_length, unhide HEr, hel], .inr ⟨g, c, cur'.toArray, rfl, Nat.zero_le _, unhide E3, by have := unhide H1; omega, unhide H2, by simpa using unhide E4, by simpa using unhide E5⟩⟩
    exact own_off (O := fun k => k = B) hr3 (off_set (O := fun k => k = B) (off_set (O := fun k => k = B) (off_refl _ _) (p := ⟨B, 0, none⟩) (.inl rfl) _) (p := ⟨B, 1, none⟩) (.inl rfl) _) (fun k hk e => by simp only [Value.ownBlock, Option.some.injEq] at hk; omega)
  · intro k hk
    simp only [Value.ownBlock, Option.some.injEq] at hk
    exact hk ▸ hOg

end Go.Proofs.YtdpphjedjhjdgaaDoor

/- Sets: lay where the block is not there. -/
import Derived.Test.YtdpphjedjhjdgaaDoorT2
namespace Go.Proofs.YtdpphjedjhjdgaaDoor
open Go.RowKit Go.Maps

theorem loc_spec {bl : List Blk} (h : Rises bl) (t : Int) : (∀ k, k < loc bl t → (bl.getD k (0, 0)).1 < t) ∧ ∀ k, loc bl t ≤ k → k < bl.length → t ≤ (bl.getD k (0, 0)).1 := by
  induction bl with
  | nil => exact ⟨fun k hk => by simp [loc] at hk, fun k _ hk => by simp at hk⟩
  | cons b l ih =>
    have h2 := List.pairwise_cons.1 h
    obtain ⟨i1, i2⟩ := ih h2.2
    by_cases hb : b.1 < t
    · have e : loc (b :: l) t = loc l t + 1 := by unfold loc; rw [List.filter_cons, if_pos (by simpa using hb)]; rfl
      rw [e]
      refine ⟨fun k hk => ?_, fun k hk hl => ?_⟩
      · cases k with
        | zero => exact hb
        | succ k => exact i1 k (by omega)
      · cases k with
        | zero => omega
        | succ k => exact i2 k (by omega) (by simpa using hl)
    · have e : loc (b :: l) t = 0 := by
        unfold loc
        rw [List.filter_cons, if_neg (by simpa using hb), List.filter_eq_nil_iff.2]
        · rfl
        · intro x hx
          have := h2.1 x hx
          simp only [decide_eq_true_eq]
          omega
      rw [e]
      refine ⟨fun k hk => by omega, fun k _ hl => ?_⟩
      cases k with
      | zero => show t ≤ b.1; omega
      | succ k =>
        have hk' : k < l.length := by simpa using hl
        have : l.getD k (0, 0) ∈ l := by rw [getD_of _ _ hk']; exact List.getElem_mem _
        have := h2.1 _ this
        show t ≤ (l.getD k (0, 0)).1
        omega
theorem loc_le (bl : List Blk) (t : Int) : loc bl t ≤ bl.length := by unfold loc; exact List.length_filter_le _ _
theorem isAt_iff {bl : List Blk} (h : Rises bl) (t : Int) : isAt bl t = true ↔ loc bl t < bl.length ∧ (bl.getD (loc bl t) (0, 0)).1 = t := by
  have := isAt_of (i := loc bl t) h (loc_spec h t).1 (loc_spec h t).2
  rw [this, decide_eq_true_eq]
theorem insB_at (bl : List Blk) (i : Nat) (b : Blk) (hi : i ≤ bl.length) : (insB bl i b).getD i (0, 0) = b := by
  unfold insB
  rw [List.getD_eq_getElem?_getD, List.getElem?_append_right (by simp; omega), List.length_take, Nat.min_eq_left hi, Nat.sub_self]; rfl
theorem insB_set (bl : List Blk) (i : Nat) (b b' : Blk) (hi : i ≤ bl.length) : (insB bl i b).set i b' = insB bl i b' := by
  unfold insB
  rw [List.set_append_right _ _ (by simp; omega), List.length_take, Nat.min_eq_left hi, Nat.sub_self]; rfl
theorem rises_ins {bl : List Blk} (h : Rises bl) {t : Int} (hat : isAt bl t = false) (y : Int) : Rises (insB bl (loc bl t) (t, y)) := by
  obtain ⟨h1, h2⟩ := loc_spec h t
  unfold insB Rises
  rw [List.pairwise_append]
  refine ⟨h.sublist (List.take_sublist _ _), List.pairwise_cons.2 ⟨fun x hx => ?_, h.sublist (List.drop_sublist _ _)⟩, fun x hx z hz => ?_⟩
  · obtain ⟨k, hk, rfl⟩ := List.mem_iff_getElem.1 hx
    rw [List.length_drop] at hk
    have := h2 (loc bl t + k) (by omega) (by omega)
    rw [getD_of _ _ (by omega)] at this
    rw [List.getElem_drop]
    have hne : bl[loc bl t + k].1 ≠ t := fun e => by
      have : isAt bl t = true := by
        simp only [isAt, List.any_eq_true, beq_iff_eq]
        exact ⟨_, List.getElem_mem _, e⟩
      rw [this] at hat; cases hat
    show t < _
    omega
  · obtain ⟨k, hk, rfl⟩ := List.mem_iff_getElem.1 hx
    rw [List.length_take] at hk
    have hk1 := h1 k (by omega)
    rw [getD_of _ _ (by omega)] at hk1
    rw [List.getElem_take]
    rcases List.mem_cons.1 hz with rfl | hz
    · exact hk1
    · obtain ⟨j, hj, rfl⟩ := List.mem_iff_getElem.1 hz
      rw [List.length_drop] at hj
      have := h2 (loc bl t + j) (by omega) (by omega)
      rw [getD_of _ _ (by omega)] at this
      rw [List.getElem_drop]
      omega

set_option maxHeartbeats 8000000 in
set_option maxRecDepth 100000 in
theorem lay_new (B : Nat) (O : Nat → Prop) (bl : List Blk) (n t x k : Int) (hat : isAt bl t = false) (hlen : bl.length + 1 ≤ 1099511627776) (hn : 0 ≤ n ∧ n ≤ 1099511627776) (hk : 0 ≤ k ∧ k ≤ 64)
    (hones : ∀ w, Calls Tryd.prog 48 #[.int .u64 (bits .andNot .u64 x 0)] w fun e w' => e = .returned (.int .i64 k) ∧ w' = w) (w : World) (h : SetIs w B O bl n) :
    Calls Tryd.prog 34 #[.pointer (some ⟨B, 0, none⟩), .agg #[.int .i64 t, .int .u64 x]] w fun e w' => e = .returned (.int .i64 k) ∧ Off O w w' ∧
      SetIs w' B (fun j => O j ∨ w.heap.size ≤ j ∧ j < w'.heap.size) (insB bl (loc bl t) (t, bits .or .u64 0 x)) (n + k) := by
  have hb0 : Below w.heap.size w (w.alloc (.cells #[.int .i64 t, .int .u64 x] 73)) := (Below.refl _ _).alloc (Nat.le_refl _) _
  have HF := hide (find_set B O bl n t _ (set_below h hb0))
  rw [hat] at HF
  have hl := loc_le bl t
  have HU := hide (rises_ins h.up hat (bits .or .u64 0 x))
  have HX := hide (flatB_set (insB bl (loc bl t) (t, 0)) (loc bl t) (by rw [insB_length _ _ _ hl]; omega) (bits .or .u64 0 x))
  rw [insB_at _ _ _ hl, insB_set _ _ _ _ hl] at HX
  have Hcg : Hid ((flatB (insB bl (loc bl t) (t, 0)))[loc bl t * 2 + 1]? = some (.int .u64 0)) := hide (by
    have := (flatB_at (insB bl (loc bl t) (t, 0)) (loc bl t) (by rw [insB_length _ _ _ hl]; omega)).2
    rw [insB_at _ _ _ hl] at this
    exact this)
  have HL2 := hide (insB_length bl (loc bl t) (t, bits .or .u64 0 x) hl)
  have HI0 := hide (fun b sv W hb hne hr => insert_any t b (loc bl t) sv bl hl (by omega) W hb hne hr)
  have HH := hide h
  have HO := hide hones
  have hlt := h.lt B h.own
  clear h hat hones hb0
  generalize insB bl (loc bl t) (t, bits .or .u64 0 x) = bl2 at *
  generalize insB bl (loc bl t) (t, 0) = bl1 at *
  generalize loc bl t = i at *
  have Hil : Hid (bl1.length = bl.length + 1 ∧ bl2.length = bl.length + 1) := hide ⟨by
    have := congrArg List.length (unhide HX)
    rw [flatB_length, List.length_set, flatB_length] at this
    have h2 := unhide HL2
    omega, unhide HL2⟩
  go_enter Tryd.func34, Tryd.ntmps34
  go_wp2_with (go_at_call 46; refine (unhide HF).mono ?_; rintro e w1 ⟨rfl, hb⟩)
  have hbw : Below w.heap.size w w1 := ((Below.refl _ _).alloc (Nat.le_refl _) _).trans (hb.mono (by simp))
  have ct : w1.cell? ⟨w.heap.size, 0, none⟩ = some (.int .i64 t) := (hb.cell (p := ⟨w.heap.size, 0, none⟩) (by simp)).trans (World.cell?_alloc_mark w #[.int .i64 t, .int .u64 x] 73 (0, 0) 0)
  have cx : w1.cell? ⟨w.heap.size, 1, none⟩ = some (.int .u64 x) := (hb.cell (p := ⟨w.heap.size, 1, none⟩) (by simp)).trans (World.cell?_alloc_mark w #[.int .i64 t, .int .u64 x] 73 (0, 0) 1)
  obtain ⟨sv, hB1, hr1, hs1⟩ := (set_below (unhide HH) hbw).lies
  obtain ⟨va, vc, rfl⟩ := own_form hr1
  have c0 := cell_block hB1 0 _ rfl
  have f0 := frozen_block hB1 0
  have hsz : w.heap.size < w1.heap.size := by have := hb.size; simp at this; omega
  have hOl := (unhide HH).lt
  have n1 := row_not hB1 hr1 (by decide)
  have HI := hide (unhide HI0 w1.heap.size (.slice va bl.length vc) (w1.alloc (.cells #[.int .i64 t, .int .u64 0] 73)).drew (MapKept.heap_alloc w1 _).1 (fun e => by have := hOl _ (hs1 _ e); omega) (hr1.alloc _))
  have HP : Hid (∀ w2 g c, w2.ownsRow 0 73 2 (.slice (some ⟨g, 0, none⟩) (bl.length + 1) c) (bl.length + 1) (flatB bl1) → ((Value.slice va bl.length vc).ownBlock = some g ∨ (w1.alloc (.cells #[.int .i64 t, .int .u64 0] 73)).drew.heap.size ≤ g) → Off (fun k => (Value.slice va bl.length vc).ownBlock = some k) (w1.alloc (.cells #[.int .i64 t, .int .u64 0] 73)).drew w2 →
      w2.heap[B]? = some (.cells #[.slice va bl.length vc, .int .i64 n] 53 (0, 0)) ∧ w2.cell? ⟨w.heap.size, 1, none⟩ = some (.int .u64 x) ∧ Off O w w2 ∧ (O g ∨ w.heap.size ≤ g) ∧ g ≠ w.heap.size) := hide (fun w2 g c hown hgv ho => by
    have hB1' : (w1.alloc (.cells #[.int .i64 t, .int .u64 0] 73)).drew.heap[B]? = _ := (Below.heap_alloc w1 _ B (by omega)).trans hB1
    have cx' : (w1.alloc (.cells #[.int .i64 t, .int .u64 0] 73)).drew.cell? ⟨w.heap.size, 1, none⟩ = _ := (World.cell?_of_block (w := w1) (Below.heap_alloc w1 (.cells #[.int .i64 t, .int .u64 0] 73) w.heap.size hsz)).trans cx
    have hoW : Off O w (w1.alloc (.cells #[.int .i64 t, .int .u64 0] 73)).drew := off_drew (off_alloc (off_below hbw) _)
    refine ⟨(ho.block B (lt_of_some hB1') n1).trans hB1', (off_cell ho (p := ⟨w.heap.size, 1, none⟩) (by show w.heap.size < (w1.alloc _).heap.size; rw [World.size_alloc]; omega) (fun e => absurd (hOl _ (hs1 _ e)) (Nat.lt_irrefl _))).trans cx', off_t' hoW ho (fun k hk => .inl (hs1 k hk)), ?_, ?_⟩
    · rcases hgv with h | h
      · exact .inl (hs1 g h)
      · exact .inr (by simp at h; omega)
    · rcases hgv with h | h
      · have := hOl g (hs1 g h); omega
      · simp at h; omega)
  have hBl : B < w1.heap.size := by omega
  clear hB1 hb hbw hs1 hr1 n1 hOl HI0
  go_region_with (go_at_call 47; refine (unhide HI).mono ?_; rintro e w2 ⟨g, c, rfl, hown, hgv, ho2⟩; obtain ⟨hB2, cx2, hoff2, hgO, hgs⟩ := unhide HP w2 g c hown hgv ho2; have d0 := cell_block hB2 0 _ rfl; have e0 := frozen_block hB2 0)
  all_goals
    have n2 := row_not hB2 hown (by decide)
    have hgB : g ≠ B := fun e => n2 (by rw [e]; rfl)
    have hB3 : (w2.setCell ⟨B, 0, none⟩ (.slice (some ⟨g, 0, none⟩) (bl.length + 1) c)).heap[B]? = some (.cells #[.slice (some ⟨g, 0, none⟩) (bl.length + 1) c, .int .i64 n] 53 (0, 0)) := block_set (i := 0) hB2 _
    have hr3 : (w2.setCell ⟨B, 0, none⟩ (.slice (some ⟨g, 0, none⟩) (bl.length + 1) c)).ownsRow 0 73 2 (.slice (some ⟨g, 0, none⟩) (bl.length + 1) c) (bl.length + 1) (flatB bl1) :=
      own_off (O := fun k => k = B) hown (off_set (O := fun k => k = B) (off_refl _ _) (p := ⟨B, 0, none⟩) (.inl rfl) _) (fun k hk e => by simp only [Value.ownBlock, Option.some.injEq] at hk; omega)
    have cx3 : (w2.setCell ⟨B, 0, none⟩ (.slice (some ⟨g, 0, none⟩) (bl.length + 1) c)).cell? ⟨w.heap.size, 1, none⟩ = some (.int .u64 x) :=
      (World.cell?_of_block (w := w2) (Below.heap_setCell _ _ _ w.heap.size (by show w.heap.size ≠ B; omega))).trans cx2
    have ho3 : Off O w (w2.setCell ⟨B, 0, none⟩ (.slice (some ⟨g, 0, none⟩) (bl.length + 1) c)) := off_set hoff2 (p := ⟨B, 0, none⟩) (.inl (unhide HH).own) _
    clear hown hB2 cx2 hoff2 d0 e0 ho2 hgv HI HP c0 f0 ct cx n2
    generalize w2.setCell ⟨B, 0, none⟩ (.slice (some ⟨g, 0, none⟩) (bl.length + 1) c) = W3 at *
    have c0 := cell_block hB3 0 _ rfl
    have c1 := cell_block hB3 1 _ rfl
    have f1 := frozen_block hB3 1
    have cg : W3.cell? ⟨g, i * 2 + 1, none⟩ = some (.int .u64 0) := by
      rw [own_cell hr3 rfl (i * 2 + 1) (by rw [flatB_length, (unhide Hil).1]; omega), List.getD_eq_getElem?_getD, unhide Hcg]; rfl
    have fg : W3.frozen? ⟨g, i * 2 + 1, none⟩ = false := hr3.frozenAt _
    have HB3 := hide hB3; have Hr3 := hide hr3; have Ho3 := hide ho3
    have hi' : (i : Int) < (bl.length : Int) + 1 := by omega
    clear hB3 hr3 ho3
    go_wp2
    go_quiet ((go_at_call 48; exact Calls.quiet_of_same (unhide HO _)))
    go_wp2
    go_region
    go_wp2
    go_ret
    have s1 := (ownsRow_drewN (unhide Hr3) (nq + 1)).stored (i * 2 + 1) (.int .u64 (bits .or .u64 0 x))
    have hB4 : ((W3.drewN (nq + 1)).setCell ⟨g, i * 2 + 1, none⟩ (.int .u64 (bits .or .u64 0 x))).heap[B]? = some (.cells #[.slice (some ⟨g, 0, none⟩) (bl.length + 1) c, .int .i64 n] 53 (0, 0)) := (Below.heap_setCell (W3.drewN (nq + 1)) ⟨g, i * 2 + 1, none⟩ _ B (fun e => hgB e.symm)).trans (unhide HB3)
    have ho : Off O w (((W3.drewN (nq + 1)).setCell ⟨g, i * 2 + 1, none⟩ (.int .u64 (bits .or .u64 0 x))).setCell ⟨B, 1, none⟩ (.int .i64 (n + k))) :=
      off_set (off_set (off_drewN (unhide Ho3) _) (p := ⟨g, i * 2 + 1, none⟩) hgO _) (p := ⟨B, 1, none⟩) (.inl (unhide HH).own) _
    have hr4 : (((W3.drewN (nq + 1)).setCell ⟨g, i * 2 + 1, none⟩ (.int .u64 (bits .or .u64 0 x))).setCell ⟨B, 1, none⟩ (.int .i64 (n + k))).ownsRow 0 73 2 (.slice (some ⟨g, 0, none⟩) (bl.length + 1) c) (bl.length + 1) (flatB bl2) := by
      rw [unhide HX]
      exact own_off (O := fun k => k = B) s1.1 (off_set (O := fun k => k = B) (off_refl _ _) (p := ⟨B, 1, none⟩) (.inl rfl) _) (fun k hk e => by simp only [Value.ownBlock, Option.some.injEq] at hk; omega)
    have hgl := (hr4.lt g rfl).2
    refine ⟨rfl, ho, .inl (unhide HH).own, ?_, unhide HU, by have := (unhide Hil).2; omega, .slice (some ⟨g, 0, none⟩) (bl.length + 1) c, block_set hB4 _, by rw [(unhide Hil).2]; exact hr4, ?_⟩
    · rintro j (h | h)
      · have := (unhide HH).lt j h; have := ho.size; omega
      · exact h.2
    · intro j hj
      simp only [Value.ownBlock, Option.some.injEq] at hj
      subst hj
      rcases hgO with h | h
      · exact .inl h
      · exact .inr ⟨h, hgl⟩
end Go.Proofs.YtdpphjedjhjdgaaDoor

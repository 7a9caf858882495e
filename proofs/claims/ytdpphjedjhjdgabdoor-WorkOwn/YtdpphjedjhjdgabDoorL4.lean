/- Lists of work: the heap's Push. -/
import Derived.Test.YtdpphjedjhjdgabDoorL3
namespace Go.Proofs.YtdpphjedjhjdgabDoor
open Go.RowKit Go.Maps

theorem hptr : (Tryd.prog.info? 83).map (fun i => (i.zero, i.size, i.bytes)) = some (some (.pointer none), 1, 8) := by kernel_rfl
theorem entry_snoc {ts : List Tk} {t : Tk} (h : t.n ∉ ts.map Tk.n) (n : Int) : entryOf (ts ++ [t]) n = if n = t.n then (t.at_ : Int) + 1 else entryOf ts n := by
  unfold entryOf
  rw [List.find?_append]
  by_cases hn : n = t.n
  · subst hn
    rw [if_pos rfl, List.find?_eq_none.2]
    · simp
    · intro x hx; simp only [beq_iff_eq]; exact fun e => h (e ▸ List.mem_map_of_mem hx)
  · rw [if_neg hn]
    have : ([t].find? fun t => t.n == n) = none := by simp; omega
    rw [this]
    cases ts.find? (fun t => t.n == n) <;> rfl
theorem getD_snoc {ts : List Tk} {t : Tk} {i : Nat} (hi : i < (ts ++ [t]).length) : (ts ++ [t]).getD i tk0 = if i = ts.length then t else ts.getD i tk0 := by
  rw [List.length_append, List.length_singleton] at hi
  by_cases h : i = ts.length
  · subst h; simp
  · rw [if_neg h, List.getD_eq_getElem?_getD, List.getD_eq_getElem?_getD, List.getElem?_append_left (by omega)]

theorem assert76 (v : Value) (w : World) : (Instr.typeAssert (.iface 83 v) 20 83 false).run Tryd.prog w = .ok v w := by kernel_rfl

/-- The list behind Push. -/
theorem lst_grow {w W W1 W3 : World} {B g cap mb T N : Nat} {O : Nat → Prop} {ts : List Tk} {n wt : Int} {sv : Value} {D : DataW Unit} {o : Obj}
    (h : LstIs w B O ts) (hTO : ¬ O T) (hTl : T < w.heap.size) (hn : 0 ≤ n ∧ n < 1048576 ∧ -9223372036854775808 ≤ wt ∧ wt ≤ 9223372036854775807) (hnew : n ∉ ts.map Tk.n)
    (hoW : Off (fun k => k = B ∨ k = T) w W) (hB : W.heap[B]? = some (.cells #[sv, .map (some mb)] 71 (0, 0))) (hr : W.ownsRow 0 83 1 sv ts.length (ts.map ptrV)) (hsv : ∀ k, sv.ownBlock = some k → O k)
    (hT : W.heap[T]? = some (.cells #[.int .i64 n, .int .i64 wt, .int .i64 ts.length] 88 (0, 0)))
    (hmb : O mb ∨ w.heap.size ≤ mb) (hN : N < 1048576) (hm : W.ownsMap (H := Unit) Tryd.prog 3 ptrE mb N D) (hTd : Tidy D) (hSz : Maps.size D = ts.length)
    (hD : ∀ n, Maps.has D (.int .i64 n) = decide (n ∈ ts.map Tk.n) ∧ D.atKey (.int .i64 n) (.lit (.int .i64 0)) = .lit (.int .i64 (entryOf ts n)))
    (hown : W1.ownsRow 0 83 1 (.slice (some ⟨g, 0, none⟩) (ts.length + 1) cap) (ts.length + 1) (ts.map ptrV ++ [.pointer (some ⟨T, 0, none⟩)])) (hg : (W.alloc o).grownBy W1 sv.ownBlock) (hgv : sv.ownBlock = some g ∨ g = W.heap.size + 1) :
    ((W1.cell? ⟨B, 0, none⟩ = some sv ∧ W1.frozen? ⟨B, 0, none⟩ = false) ∧ (W1.setCell ⟨B, 0, none⟩ (.slice (some ⟨g, 0, none⟩) (ts.length + 1) cap)).cell? ⟨B, 1, none⟩ = some (.map (some mb)) ∧
      (W1.setCell ⟨B, 0, none⟩ (.slice (some ⟨g, 0, none⟩) (ts.length + 1) cap)).cell? ⟨T, 0, none⟩ = some (.int .i64 n) ∧
      (W1.setCell ⟨B, 0, none⟩ (.slice (some ⟨g, 0, none⟩) (ts.length + 1) cap)).ownsMap (H := Unit) Tryd.prog 3 ptrE mb N D) ∧
    (W3.ownsMap (H := Unit) Tryd.prog 3 ptrE mb (N + 1) (D.put (.int .i64 n) (.lit (.int .i64 ((T : Int) + 1)))) → (W1.setCell ⟨B, 0, none⟩ (.slice (some ⟨g, 0, none⟩) (ts.length + 1) cap)).grownBy W3 (some mb) →
      Off (fun k => O k ∨ k = T) w W3 ∧ LstIs W3 B (fun k => (O k ∨ k = T) ∨ w.heap.size ≤ k ∧ k < W3.heap.size) (ts ++ [⟨T, n, wt⟩])) := by
  have n1 := row_not hB hr (by decide)
  have n2 := map_not hB hm
  have n3 := row_map hr hm
  have n6 := row_not hT hr (by decide)
  have n7 := map_not hT hm
  have nTB : T ≠ B := fun e => hTO (e ▸ h.own)
  have hBl := lt_of_some hB
  have hTlW := lt_of_some hT
  have hml := hm.lt
  have hB1 : W1.heap[B]? = some (.cells #[sv, .map (some mb)] 71 (0, 0)) := (hg.block B (by simp; omega) (fun e => n1 e.symm)).trans ((Below.heap_alloc W o B hBl).trans hB)
  have hT1 : W1.heap[T]? = some (.cells #[.int .i64 n, .int .i64 wt, .int .i64 ts.length] 88 (0, 0)) := (hg.block T (by simp; omega) (fun e => n6 e.symm)).trans ((Below.heap_alloc W o T hTlW).trans hT)
  have hm1 : W1.ownsMap (H := Unit) Tryd.prog 3 ptrE mb N D := (hm.alloc o).kept hg (fun e => n3 e.symm)
  have n4 := row_not hB1 hown (by decide)
  have hB2 := block_set (i := 0) hB1 (.slice (some ⟨g, 0, none⟩) (ts.length + 1) cap)
  have hT2 : (W1.setCell ⟨B, 0, none⟩ (.slice (some ⟨g, 0, none⟩) (ts.length + 1) cap)).heap[T]? = _ := (Below.heap_setCell W1 ⟨B, 0, none⟩ _ T nTB).trans hT1
  have hm2 := hm1.setCell (a := ⟨B, 0, none⟩) n2 (.slice (some ⟨g, 0, none⟩) (ts.length + 1) cap)
  have hoff1 : Off (fun k => O k ∨ k = T) w W1 := off_grown (off_alloc (off_mono hoW (fun i hi => by rcases hi with rfl | rfl; exact .inl (.inl h.own); exact .inl (.inr rfl))) o) hg (fun k hk => .inl (.inl (hsv k hk)))
  have hoff2 := off_set hoff1 (p := ⟨B, 0, none⟩) (.inl (.inl h.own)) (.slice (some ⟨g, 0, none⟩) (ts.length + 1) cap)
  refine ⟨⟨⟨cell_block hB1 0 _ rfl, frozen_block hB1 0⟩, cell_block hB2 1 _ rfl, cell_block hT2 0 _ rfl, hm2⟩, fun hm3 hg3 => ?_⟩
  have hoff3 := off_grown hoff2 hg3 (fun k hk => by cases hk; rcases hmb with h | h; exact .inl (.inl h); exact .inr h)
  have hown2 : (W1.setCell ⟨B, 0, none⟩ (.slice (some ⟨g, 0, none⟩) (ts.length + 1) cap)).ownsRow 0 83 1 (.slice (some ⟨g, 0, none⟩) (ts.length + 1) cap) (ts.length + 1) (ts.map ptrV ++ [.pointer (some ⟨T, 0, none⟩)]) :=
    own_off (O := fun k => k = B) hown (off_set (O := fun k => k = B) (off_refl _ _) (p := ⟨B, 0, none⟩) (.inl rfl) _) (fun k hk e => n4 (e ▸ hk))
  have n5 := row_map hown2 hm2
  have hown3 := hown2.kept hg3 (kept_or (fun k hk => by cases hk; exact n5))
  have hgl : g < W3.heap.size := (hown3.lt g rfl).2
  have hT3 : W3.heap[T]? = some (.cells #[.int .i64 n, .int .i64 wt, .int .i64 ts.length] 88 (0, 0)) := (hg3.block T (lt_of_some hT2) (fun e => by cases e; exact n7 rfl)).trans hT2
  have htask : ∀ i, i < ts.length → W3.heap[(ts.getD i tk0).at_]? = some (.cells #[.int .i64 (ts.getD i tk0).n, .int .i64 (ts.getD i tk0).wt, .int .i64 i] 88 (0, 0)) := fun i hi => by
    have hb := (h.tasks i hi).2
    have hO := (h.tasks i hi).1
    have hlw := lt_of_some hb
    have e0 : (ts.getD i tk0).at_ ≠ T := fun e => hTO (e ▸ hO)
    have e1 : (ts.getD i tk0).at_ ≠ B := by
      obtain ⟨sv', mo', hB', -⟩ := h.lies
      exact cells_ne hb hB' (by decide)
    have hW : W.heap[(ts.getD i tk0).at_]? = _ := (hoW.block _ hlw (fun e => by rcases e with e | e; exact e1 e; exact e0 e)).trans hb
    have m1 := row_not hW hr (by decide)
    have m2 := map_not hW hm
    have hW1 : W1.heap[(ts.getD i tk0).at_]? = _ := (hg.block _ (Nat.lt_of_lt_of_le (lt_of_some hW) (by simp)) (fun e => m1 e.symm)).trans ((Below.heap_alloc W o _ (lt_of_some hW)).trans hW)
    have hW2 : (W1.setCell ⟨B, 0, none⟩ (.slice (some ⟨g, 0, none⟩) (ts.length + 1) cap)).heap[(ts.getD i tk0).at_]? = _ := (Below.heap_setCell W1 ⟨B, 0, none⟩ _ _ e1).trans hW1
    exact (hg3.block _ (lt_of_some hW2) (fun e => by cases e; exact m2 rfl)).trans hW2
  refine ⟨hoff3, .inl (.inl h.own), ?_, ?_, ?_, ?_, ?_, .slice (some ⟨g, 0, none⟩) (ts.length + 1) cap, some mb, ?_, ?_, ?_, .inr ⟨mb, D.put (.int .i64 n) (.lit (.int .i64 ((T : Int) + 1))), N + 1, rfl, ?_, by omega, hm3, hTd.put (show WideAt.IsKeyLit (.int .i64 n) from trivial) _, ?_, ?_⟩⟩
  · rintro k ((hk | hk) | hk)
    · have := h.lt k hk; have := hoff3.size; omega
    · have := hoff3.size; omega
    · exact hk.2
  · intro t ht
    rcases List.mem_append.1 ht with ht | ht
    · exact h.nums t ht
    · simp at ht; subst ht; exact hn
  · rw [List.map_append, List.nodup_append]
    exact ⟨h.apart, by simp, fun a ha b hb e => hnew (by simp at hb; rw [← hb, ← e]; exact ha)⟩
  · rw [List.map_append, List.nodup_append]
    refine ⟨h.blocks, by simp, fun a ha b hb e => ?_⟩
    simp at hb
    subst hb e
    obtain ⟨t, ht, rfl⟩ := List.mem_map.1 ha
    obtain ⟨i, hi, rfl⟩ := List.mem_iff_getElem.1 ht
    rw [← tkD hi] at hTO
    exact hTO (h.tasks i hi).1
  · intro i hi
    rw [getD_snoc hi]
    by_cases he : i = ts.length
    · subst he; rw [if_pos rfl]; exact ⟨.inl (.inr rfl), hT3⟩
    · rw [if_neg he]
      have hi' : i < ts.length := by rw [List.length_append, List.length_singleton] at hi; omega
      exact ⟨.inl (.inl (h.tasks i hi').1), htask i hi'⟩
  · exact (hg3.block B (lt_of_some hB2) (fun e => by cases e; exact n2 rfl)).trans hB2
  · simpa [ptrV] using hown3
  · intro k hk
    simp only [Value.ownBlock, Option.some.injEq] at hk
    subst hk
    rcases hgv with h | h
    · exact .inl (.inl (hsv _ h))
    · exact .inr ⟨by have := hoW.size; omega, hgl⟩
  · rcases hmb with h | h
    · exact .inl (.inl h)
    · exact .inr ⟨h, hm3.lt⟩
  · rw [size_put hTd, (hD n).1, hSz]
    simp [hnew]
  · intro x
    by_cases hx : x = n
    · subst hx
      have hkl : WideAt.IsKeyLit (.int .i64 x) := trivial
      rw [has_put_same hm.isMap hkl, atKey_put_same hm.isMap hkl, entry_snoc hnew, if_pos rfl]
      simp
    · have hne : (Lit.int .i64 x) ≠ .int .i64 n := by simpa using hx
      rw [has_put_other hne, atKey_put_other hne, (hD x).1, (hD x).2, entry_snoc hnew, if_neg hx]
      simp [hx]

set_option maxHeartbeats 8000000 in
set_option maxRecDepth 100000 in
theorem tpush_made (B T : Nat) (O : Nat → Prop) (ts : List Tk) (n wt : Int) (hn : 0 ≤ n ∧ n < 1048576 ∧ -9223372036854775808 ≤ wt ∧ wt ≤ 9223372036854775807) (hnew : n ∉ ts.map Tk.n) (hlen : ts.length < 1048576) (w : World)
    (h : LstIs w B O ts) (hTO : ¬ O T) (hT : w.heap[T]? = some (.cells #[.int .i64 n, .int .i64 wt, .int .i64 0] 88 (0, 0))) (sv : Value) (mb N : Nat) (D : DataW Unit)
    (hB : w.heap[B]? = some (.cells #[sv, .map (some mb)] 71 (0, 0))) (hr : w.ownsRow 0 83 1 sv ts.length (ts.map ptrV)) (hsv : ∀ k, sv.ownBlock = some k → O k)
    (hmb : O mb) (hN : N < 1048576) (hm : w.ownsMap (H := Unit) Tryd.prog 3 ptrE mb N D) (hTd : Tidy D) (hSz : Maps.size D = ts.length)
    (hD : ∀ n, Maps.has D (.int .i64 n) = decide (n ∈ ts.map Tk.n) ∧ D.atKey (.int .i64 n) (.lit (.int .i64 0)) = .lit (.int .i64 (entryOf ts n))) :
    Calls Tryd.prog 89 #[.pointer (some ⟨B, 0, none⟩), .iface 83 (.pointer (some ⟨T, 0, none⟩))] w fun e w' => e = .returned (.tuple #[]) ∧ Off (fun k => O k ∨ k = T) w w' ∧ LstIs w' B (fun k => (O k ∨ k = T) ∨ w.heap.size ≤ k ∧ k < w'.heap.size) (ts ++ [⟨T, n, wt⟩]) := by
  obtain ⟨i0, hi, hz0, hz1, hz2⟩ := info_parts hptr
  have hlt := lt_of_some hB
  have hTl := lt_of_some hT
  have nTB : ¬ T = B := fun e => hTO (e ▸ h.own)
  have c0 := cell_block hB 0 _ rfl
  have c1 := cell_block hB 1 _ rfl
  have f0 := frozen_block hB 0
  have f1 := frozen_block hB 1
  have ct := cell_block hT 2 _ rfl
  have ft := frozen_block hT 2
  have qm : ∀ (w : World) (r : Option Nat), (binOp .eql 67 (.map r) (.map none)).run Tryd.prog w = .ok (.bool r.isNone) w := fun w r => run_eql_map_nil w _ _ _ r Tryd.underlying67
  have qk := fun w : World => run_makeMap (P := Tryd.prog) 67 w
  have qa := fun (v : Value) (w : World) => assert76 v w
  have hB' : (w.setCell ⟨T, 2, none⟩ (.int .i64 ts.length)).heap[B]? = _ := (Below.heap_setCell w ⟨T, 2, none⟩ (.int .i64 ts.length) B (fun e => nTB e.symm)).trans hB
  have hT' := block_set (i := 2) hT (.int .i64 ts.length)
  have nr := row_not hT hr (by decide)
  have nm := map_not hT hm
  have hr' : World.ownsRow (w.setCell ⟨T, 2, none⟩ (.int .i64 ts.length)) 0 83 1 sv ts.length (ts.map ptrV) := own_off (O := fun k => k = T) hr (off_set (O := fun k => k = T) (off_refl _ _) (p := ⟨T, 2, none⟩) (.inl rfl) _) (fun k hk e => nr (e ▸ hk))
  have hm' := hm.setCell (a := ⟨T, 2, none⟩) nm (.int .i64 ts.length)
  have Hg := hide (fun W1 W3 g cap => lst_grow (w := w) (W := w.setCell ⟨T, 2, none⟩ (.int .i64 ts.length)) (W1 := W1) (W3 := W3) (g := g) (cap := cap) (mb := mb) (sv := sv) (o := .cells #[.pointer (some ⟨T, 0, none⟩)] 83) h hTO hTl hn hnew (off_set (O := fun k => k = B ∨ k = T) (off_refl _ _) (p := ⟨T, 2, none⟩) (.inl (.inr rfl)) _) hB' hr' hsv hT' (.inl hmb) hN hm' hTd hSz hD)
  have Ho := hide (hr' : World.ownsRow (w.setCell ⟨T, 2, none⟩ (.int .i64 ts.length)) 0 83 1 sv ts.length (ts.map ptrV))
  obtain ⟨va, vc, rfl⟩ := own_form hr
  have Hk := hide (keyOf_int_mk Tryd.underlying3 (WalkArith.wf_i64 (n := n) (by omega)))
  clear hB hr hsv h hT hnew hB' hT' hr' hm' hm hTd hSz hD hmb
  have hn' : (ts.length : Int) < 1048576 := by omega
  go_enter Tryd.func89, Tryd.ntmps89
  go_wp2_with (at_builtin; refine wpList_append_lies _ rfl _ _ 66 rfl 0 83 i0 (.pointer none) 1 8 Tryd.underlying66 hi hz0 hz1 hz2 rfl (by decide) _ ts.length (ts.map ptrV) rfl ((unhide Ho).alloc _) ⟨w.heap.size, 0, none⟩ 1 1 [.pointer (some ⟨T, 0, none⟩)] rfl rfl ?c1 ?c2 (by decide) ?c3 ?c4 (Nat.zero_le _) (w.heap.size + 1) ?c5 ?_)
  case c1 =>
    have h := World.news_of_block (MapKept.heap_alloc (w.setCell ⟨T, 2, none⟩ (.int .i64 ts.length)) (.cells #[.pointer (some ⟨T, 0, none⟩)] 83)).1
    simpa using h
  case c2 => simp [Value.oneCell']
  case c3 => unfold maxLen; omega
  case c4 => omega
  case c5 => simp
  intro g cap W1 hown hgr hgv hgl
  obtain ⟨⟨⟨d0, e0⟩, d1, dt, hm2⟩, -⟩ := unhide Hg W1 W1 g cap hown hgr (by simpa using hgv)
  obtain ⟨W3, hrun, hm3, hg3⟩ := (hm2.drew).update law3 Tryd.underlying67 (by unfold maxLen; omega) (unhide Hk) (val := .pointer (some ⟨T, 0, none⟩)) (d := .lit (.int .i64 ((T : Int) + 1))) (ps := []) rfl
  have Hh := hide ((unhide Hg W1 W3 g cap hown hgr (by simpa using hgv)).2 hm3 ⟨hg3.os, hg3.tape, hg3.output, hg3.size, hg3.block⟩)
  clear hown hgr hm2 hm3 hg3 c0 c1 f0 f1 ct ft
  go_wp2
  go_region
  all_goals
    go_wp2
    go_end0
    exact ⟨rfl, unhide Hh⟩

set_option maxHeartbeats 8000000 in
set_option maxRecDepth 100000 in
theorem tpush_nil (B T : Nat) (O : Nat → Prop) (ts : List Tk) (n wt : Int) (hn : 0 ≤ n ∧ n < 1048576 ∧ -9223372036854775808 ≤ wt ∧ wt ≤ 9223372036854775807) (hnew : n ∉ ts.map Tk.n) (hlen : ts.length < 1048576) (w : World)
    (h : LstIs w B O ts) (hTO : ¬ O T) (hT : w.heap[T]? = some (.cells #[.int .i64 n, .int .i64 wt, .int .i64 0] 88 (0, 0))) (sv : Value) (hks : ts = [])
    (hB : w.heap[B]? = some (.cells #[sv, .map none] 71 (0, 0))) (hr : w.ownsRow 0 83 1 sv ts.length (ts.map ptrV)) (hsv : ∀ k, sv.ownBlock = some k → O k) :
    Calls Tryd.prog 89 #[.pointer (some ⟨B, 0, none⟩), .iface 83 (.pointer (some ⟨T, 0, none⟩))] w fun e w' => e = .returned (.tuple #[]) ∧ Off (fun k => O k ∨ k = T) w w' ∧ LstIs w' B (fun k => (O k ∨ k = T) ∨ w.heap.size ≤ k ∧ k < w'.heap.size) (ts ++ [⟨T, n, wt⟩]) := by
  obtain ⟨i0, hi, hz0, hz1, hz2⟩ := info_parts hptr
  have hlt := lt_of_some hB
  have hTl := lt_of_some hT
  have nTB : ¬ T = B := fun e => hTO (e ▸ h.own)
  have c0 := cell_block hB 0 _ rfl
  have c1 := cell_block hB 1 _ rfl
  have f0 := frozen_block hB 0
  have f1 := frozen_block hB 1
  have ct := cell_block hT 2 _ rfl
  have ft := frozen_block hT 2
  have qm : ∀ (w : World) (r : Option Nat), (binOp .eql 67 (.map r) (.map none)).run Tryd.prog w = .ok (.bool r.isNone) w := fun w r => run_eql_map_nil w _ _ _ r Tryd.underlying67
  have qk := fun w : World => run_makeMap (P := Tryd.prog) 67 w
  have qa := fun (v : Value) (w : World) => assert76 v w
  have hs1 : ((w.setCell ⟨B, 1, none⟩ (.map (some w.heap.size))).setCell ⟨T, 2, none⟩ (.int .i64 ts.length)).heap.size = w.heap.size := by simp
  have hB' : (((w.setCell ⟨B, 1, none⟩ (.map (some w.heap.size))).setCell ⟨T, 2, none⟩ (.int .i64 ts.length)).alloc (.map #[] 0)).heap[B]? = some (.cells #[sv, .map (some w.heap.size)] 71 (0, 0)) :=
    (Below.heap_alloc _ _ B (by omega)).trans ((Below.heap_setCell _ ⟨T, 2, none⟩ _ B (fun e => nTB e.symm)).trans (block_set (i := 1) hB (.map (some w.heap.size))))
  have hT' : (((w.setCell ⟨B, 1, none⟩ (.map (some w.heap.size))).setCell ⟨T, 2, none⟩ (.int .i64 ts.length)).alloc (.map #[] 0)).heap[T]? = some (.cells #[.int .i64 n, .int .i64 wt, .int .i64 ts.length] 88 (0, 0)) :=
    (Below.heap_alloc _ _ T (by omega)).trans (block_set (i := 2) ((Below.heap_setCell w ⟨B, 1, none⟩ _ T nTB).trans hT) (.int .i64 ts.length))
  have nr := row_not hT hr (by decide)
  have nb := row_not hB hr (by decide)
  have hr' : World.ownsRow (((w.setCell ⟨B, 1, none⟩ (.map (some w.heap.size))).setCell ⟨T, 2, none⟩ (.int .i64 ts.length)).alloc (.map #[] 0)) 0 83 1 sv ts.length (ts.map ptrV) :=
    (own_off (O := fun k => k = B ∨ k = T) hr (off_set (O := fun k => k = B ∨ k = T) (off_set (off_refl _ _) (p := ⟨B, 1, none⟩) (.inl (.inl rfl)) _) (p := ⟨T, 2, none⟩) (.inl (.inr rfl)) _) (fun k hk e => by rcases e with e | e; exact nb (e ▸ hk); exact nr (e ▸ hk))).alloc _
  have hm' : World.ownsMap (H := Unit) (((w.setCell ⟨B, 1, none⟩ (.map (some w.heap.size))).setCell ⟨T, 2, none⟩ (.int .i64 ts.length)).alloc (.map #[] 0)) Tryd.prog 3 ptrE w.heap.size 0 (.map []) := by
    have h := World.ownsMap_made (H := Unit) ((w.setCell ⟨B, 1, none⟩ (.map (some w.heap.size))).setCell ⟨T, 2, none⟩ (.int .i64 ts.length)) Tryd.prog 3 ptrE
    rw [hs1] at h
    exact h
  have hD' : ∀ n, Maps.has (.map [] : DataW Unit) (.int .i64 n) = decide (n ∈ ts.map Tk.n) ∧ (DataW.map [] : DataW Unit).atKey (.int .i64 n) (.lit (.int .i64 0)) = .lit (.int .i64 (entryOf ts n)) := fun x => by
    subst hks; exact ⟨rfl, rfl⟩
  have hS' : Maps.size (.map [] : DataW Unit) = ts.length := by subst hks; rfl
  have Hg := hide (fun W1 W3 g cap => lst_grow (w := w) (W := ((w.setCell ⟨B, 1, none⟩ (.map (some w.heap.size))).setCell ⟨T, 2, none⟩ (.int .i64 ts.length)).alloc (.map #[] 0)) (W1 := W1) (W3 := W3) (g := g) (cap := cap) (mb := w.heap.size) (sv := sv) (o := .cells #[.pointer (some ⟨T, 0, none⟩)] 83) h hTO hTl hn hnew (off_alloc (off_set (O := fun k => k = B ∨ k = T) (off_set (off_refl _ _) (p := ⟨B, 1, none⟩) (.inl (.inl rfl)) _) (p := ⟨T, 2, none⟩) (.inl (.inr rfl)) _) _) hB' hr' hsv hT' (.inr (Nat.le_refl _)) (by decide) hm' tidy_empty hS' hD' )
  have Ho := hide (hr' : World.ownsRow (((w.setCell ⟨B, 1, none⟩ (.map (some w.heap.size))).setCell ⟨T, 2, none⟩ (.int .i64 ts.length)).alloc (.map #[] 0)) 0 83 1 sv ts.length (ts.map ptrV))
  obtain ⟨va, vc, rfl⟩ := own_form hr
  have Hk := hide (keyOf_int_mk Tryd.underlying3 (WalkArith.wf_i64 (n := n) (by omega)))
  clear hB hr hsv h hT hnew hB' hT' hr' hm' hD' hS' hks hs1
  have hn' : (ts.length : Int) < 1048576 := by omega
  go_enter Tryd.func89, Tryd.ntmps89
  go_wp2_with (at_builtin; refine wpList_append_lies _ rfl _ _ 66 rfl 0 83 i0 (.pointer none) 1 8 Tryd.underlying66 hi hz0 hz1 hz2 rfl (by decide) _ ts.length (ts.map ptrV) rfl ((unhide Ho).alloc _) ⟨w.heap.size + 1, 0, none⟩ 1 1 [.pointer (some ⟨T, 0, none⟩)] rfl rfl ?c1 ?c2 (by decide) ?c3 ?c4 (Nat.zero_le _) (w.heap.size + 1 + 1) ?c5 ?_)
  case c1 =>
    have h := World.news_of_block (MapKept.heap_alloc (((w.setCell ⟨B, 1, none⟩ (.map (some w.heap.size))).setCell ⟨T, 2, none⟩ (.int .i64 ts.length)).alloc (.map #[] 0)) (.cells #[.pointer (some ⟨T, 0, none⟩)] 83)).1
    simpa using h
  case c2 => simp [Value.oneCell']
  case c3 => unfold maxLen; omega
  case c4 => omega
  case c5 => simp
  intro g cap W1 hown hgr hgv hgl
  obtain ⟨⟨⟨d0, e0⟩, d1, dt, hm2⟩, -⟩ := unhide Hg W1 W1 g cap hown hgr (by simpa using hgv)
  obtain ⟨W3, hrun, hm3, hg3⟩ := (hm2.drew).update law3 Tryd.underlying67 (by unfold maxLen; omega) (unhide Hk) (val := .pointer (some ⟨T, 0, none⟩)) (d := .lit (.int .i64 ((T : Int) + 1))) (ps := []) rfl
  have Hh := hide ((unhide Hg W1 W3 g cap hown hgr (by simpa using hgv)).2 hm3 ⟨hg3.os, hg3.tape, hg3.output, hg3.size, hg3.block⟩)
  clear hown hgr hm2 hm3 hg3 c0 c1 f0 f1 ct ft
  go_wp2
  go_region
  all_goals
    go_wp2
    go_end0
    exact ⟨rfl, unhide Hh⟩

end Go.Proofs.YtdpphjedjhjdgabDoor

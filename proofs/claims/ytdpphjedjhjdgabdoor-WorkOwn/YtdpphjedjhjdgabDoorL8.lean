/- Lists of work: the heap's Pop. -/
import Derived.Test.YtdpphjedjhjdgabDoorL7
namespace Go.Proofs.YtdpphjedjhjdgabDoor
open Go.RowKit Go.Maps

theorem own_cut {w : World} {B : Nat} {e : TypeId} {g n c : Nat} {xs : List Value} (h : w.ownsRow B e 1 (.slice (some ⟨g, 0, none⟩) n c) n xs) (k : Nat) (hk : k ≤ n) : w.ownsRow B e 1 (.slice (some ⟨g, 0, none⟩) k c) k (xs.take k) := by
  have hl := h.1
  refine ⟨by simp at hl ⊢; omega, ?_⟩
  rcases h.2 with ⟨h0, _⟩ | ⟨g', c', cur, hv, hb, hh, h1, h2, h3, h4⟩
  · simp at h0
  · simp only [Value.slice.injEq, Option.some.injEq, Addr.mk.injEq, and_true, true_and] at hv
    obtain ⟨rfl, rfl⟩ := hv
    refine .inr ⟨g, c, cur, rfl, hb, hh, by omega, h2, h3, ?_⟩
    rw [← h4, List.take_take]
    congr 1
    omega

/-- The list behind Pop. -/
theorem lst_cut {w W3 : World} {B g c mb N : Nat} {O : Nat → Prop} {ts : List Tk} {t : Tk} {D : DataW Unit}
    (h : LstIs w B O (ts ++ [t])) (hB : w.heap[B]? = some (.cells #[.slice (some ⟨g, 0, none⟩) (ts.length + 1) c, .map (some mb)] 71 (0, 0))) (hr : w.ownsRow 0 83 1 (.slice (some ⟨g, 0, none⟩) (ts.length + 1) c) (ts.length + 1) ((ts ++ [t]).map ptrV)) (hOg : O g)
    (hO : O mb) (hN : N ≤ 1048576) (hmap : w.ownsMap (H := Unit) Tryd.prog 3 ptrE mb N D) (hTd : Tidy D) (hSz : Maps.size D = (ts ++ [t]).length) (hD : ∀ n, Maps.has D (.int .i64 n) = decide (n ∈ (ts ++ [t]).map Tk.n) ∧ D.atKey (.int .i64 n) (.lit (.int .i64 0)) = .lit (.int .i64 (entryOf (ts ++ [t]) n))) :
    (((w.setCell ⟨g, ts.length, none⟩ (.pointer none)).setCell ⟨B, 0, none⟩ (.slice (some ⟨g, 0, none⟩) ts.length c)).ownsMap (H := Unit) Tryd.prog 3 ptrE mb N D) ∧
    (W3.ownsMap (H := Unit) Tryd.prog 3 ptrE mb N (D.del (.int .i64 t.n)) → ((w.setCell ⟨g, ts.length, none⟩ (.pointer none)).setCell ⟨B, 0, none⟩ (.slice (some ⟨g, 0, none⟩) ts.length c)).grownBy W3 (some mb) →
      Off O w W3 ∧ W3.heap[t.at_]? = some (.cells #[.int .i64 t.n, .int .i64 t.wt, .int .i64 ts.length] 88 (0, 0)) ∧ LstIs W3 B O ts) := by
  have hgc : ∃ cur, w.heap[g]? = some (.cells cur 83 (0, 0)) := by
    rcases hr.2 with ⟨e, _⟩ | ⟨g', cap, cur, e, _, hh, _⟩
    · simp at e
    · simp only [Value.slice.injEq, Option.some.injEq, Addr.mk.injEq, and_true, true_and] at e
      exact ⟨cur, e.1 ▸ hh⟩
  obtain ⟨cur, hgc⟩ := hgc
  have n1 := map_not hgc hmap
  have n2 := map_not hB hmap
  have hgB : g ≠ B := cells_ne hgc hB (by decide)
  have hm2 := (hmap.setCell (a := ⟨g, ts.length, none⟩) n1 (.pointer none)).setCell (a := ⟨B, 0, none⟩) n2 (.slice (some ⟨g, 0, none⟩) ts.length c)
  refine ⟨hm2, fun hm3 hg3 => ?_⟩
  have hB2 : ((w.setCell ⟨g, ts.length, none⟩ (.pointer none)).setCell ⟨B, 0, none⟩ (.slice (some ⟨g, 0, none⟩) ts.length c)).heap[B]? = some (.cells #[.slice (some ⟨g, 0, none⟩) ts.length c, .map (some mb)] 71 (0, 0)) :=
    block_set (i := 0) ((Below.heap_setCell w ⟨g, ts.length, none⟩ _ B (fun e => hgB e.symm)).trans hB) _
  have ho2 : Off O w ((w.setCell ⟨g, ts.length, none⟩ (.pointer none)).setCell ⟨B, 0, none⟩ (.slice (some ⟨g, 0, none⟩) ts.length c)) := off_set (off_set (off_refl _ _) (p := ⟨g, ts.length, none⟩) (.inl hOg) _) (p := ⟨B, 0, none⟩) (.inl h.own) _
  have ho3 := off_grown ho2 hg3 (fun k hk => by cases hk; exact .inl hO)
  have s1 := hr.stored ts.length (.pointer none)
  have hrow2 : ((w.setCell ⟨g, ts.length, none⟩ (.pointer none)).setCell ⟨B, 0, none⟩ (.slice (some ⟨g, 0, none⟩) ts.length c)).ownsRow 0 83 1 (.slice (some ⟨g, 0, none⟩) ts.length c) ts.length (ts.map ptrV) := by
    have hx := own_cut (own_off (O := fun k => k = B) s1.1 (off_set (O := fun k => k = B) (off_refl _ _) (p := ⟨B, 0, none⟩) (.inl rfl) (.slice (some ⟨g, 0, none⟩) ts.length c)) (fun k hk e => by simp only [Value.ownBlock, Option.some.injEq] at hk; omega)) ts.length (by omega)
    have e : (((ts ++ [t]).map ptrV).set ts.length (.pointer none)).take ts.length = ts.map ptrV := by
      rw [List.take_set_of_le (Nat.le_refl _), List.map_append, List.take_append_of_le_length (by simp), List.take_of_length_le (by simp)]
    rw [e] at hx
    exact hx
  have n5 := row_map hrow2 hm2
  have hrow3 := hrow2.kept hg3 (kept_or (fun k hk => by cases hk; exact n5))
  have task3 : ∀ i, i < (ts ++ [t]).length → W3.heap[((ts ++ [t]).getD i tk0).at_]? = some (.cells #[.int .i64 ((ts ++ [t]).getD i tk0).n, .int .i64 ((ts ++ [t]).getD i tk0).wt, .int .i64 i] 88 (0, 0)) := fun i hi => by
    have hb := (h.tasks i hi).2
    have e1 := cells_ne hb hgc (by decide)
    have e2 := cells_ne hb hB (by decide)
    have e3 := map_not hb hmap
    have hb2 : ((w.setCell ⟨g, ts.length, none⟩ (.pointer none)).setCell ⟨B, 0, none⟩ (.slice (some ⟨g, 0, none⟩) ts.length c)).heap[((ts ++ [t]).getD i tk0).at_]? = _ := (Below.heap_setCell _ ⟨B, 0, none⟩ _ _ e2).trans ((Below.heap_setCell w ⟨g, ts.length, none⟩ _ _ e1).trans hb)
    exact (hg3.block _ (lt_of_some hb2) (fun e => by cases e; exact e3 rfl)).trans hb2
  have apt := h.apart
  rw [List.map_append, List.nodup_append] at apt
  have hnt : t.n ∉ ts.map Tk.n := fun hc => apt.2.2 t.n hc t.n (by simp) rfl
  refine ⟨ho3, ?_, ⟨h.own, fun k hk => Nat.lt_of_lt_of_le (h.lt k hk) ho3.size, fun x hx => h.nums x (List.mem_append_left _ hx), apt.1, ?_, ?_, .slice (some ⟨g, 0, none⟩) ts.length c, some mb, ?_, hrow3, ?_, .inr ⟨mb, _, N, rfl, hO, hN, hm3, hTd.del _, ?_, ?_⟩⟩⟩
  · have := task3 ts.length (by simp)
    rw [getD_snoc (by simp), if_pos rfl] at this
    exact this
  · have hb := h.blocks
    rw [List.map_append, List.nodup_append] at hb
    exact hb.1
  · intro i hi
    have hi' : i < (ts ++ [t]).length := by simp; omega
    have h1 := task3 i hi'
    have h2 := (h.tasks i hi').1
    rw [getD_snoc hi', if_neg (by omega)] at h1 h2
    exact ⟨h2, h1⟩
  · exact (hg3.block B (lt_of_some hB2) (fun e => by cases e; exact n2 rfl)).trans hB2
  · intro k hk
    simp only [Value.ownBlock, Option.some.injEq] at hk
    exact hk ▸ hOg
  · have := size_del (k := .int .i64 t.n) hTd
    rw [(hD t.n).1] at this
    simp at this hSz
    omega
  · intro x
    by_cases hx : x = t.n
    · subst hx
      rw [has_del_same, atKey_del_same, entry_not hnt]
      simp only [decide_eq_false hnt, and_self]
    · have hne : (Lit.int .i64 x) ≠ .int .i64 t.n := by simpa using hx
      rw [has_del_other hne, atKey_del_other hne, (hD x).1, (hD x).2, entry_snoc hnt, if_neg hx]
      simp [hx]

set_option maxHeartbeats 8000000 in
set_option maxRecDepth 100000 in
theorem tpop_any (B : Nat) (O : Nat → Prop) (ts : List Tk) (t : Tk) (hlen : ts.length < 1048576) (w : World) (h : LstIs w B O (ts ++ [t])) :
    Calls Tryd.prog 88 #[.pointer (some ⟨B, 0, none⟩)] w fun e w' => e = .returned (.iface 83 (.pointer (some ⟨t.at_, 0, none⟩))) ∧ Off O w w' ∧ w'.heap[t.at_]? = some (.cells #[.int .i64 t.n, .int .i64 t.wt, .int .i64 ts.length] 88 (0, 0)) ∧ LstIs w' B O ts := by
  have hnum := h.nums t (by simp)
  obtain ⟨sv, mo, hB, hr, hsv, hm⟩ := h.lies
  rcases hm with ⟨-, h0⟩ | ⟨mb, D, N, rfl, hO, hN, hmap, hTd, hSz, hD⟩
  · simp at h0
  rw [List.length_append, List.length_singleton] at hr
  obtain ⟨g, c, rfl, -, hgl, hc1, hc2⟩ := own_pos hr (by omega)
  have Hg := hide (fun W3 => lst_cut (W3 := W3) h hB hr (hsv g rfl) hO hN hmap hTd hSz hD)
  have hbt := (h.tasks ts.length (by simp)).2
  rw [getD_snoc (by simp), if_pos rfl] at hbt
  have ct : w.cell? ⟨t.at_, 0, none⟩ = some (.int .i64 t.n) := cell_block hbt 0 _ rfl
  have c0 := cell_block hB 0 _ rfl
  have c1 := cell_block hB 1 _ rfl
  have f0 := frozen_block hB 0
  have cg : w.cell? ⟨g, ts.length, none⟩ = some (.pointer (some ⟨t.at_, 0, none⟩)) := by
    rw [own_cell hr rfl ts.length (by simp), List.getD_eq_getElem?_getD, List.getElem?_map, List.getElem?_append_right (Nat.le_refl _), Nat.sub_self]; rfl
  have fg : w.frozen? ⟨g, ts.length, none⟩ = false := hr.frozenAt _
  have hgB : ¬ g = B := fun e => row_not hB hr (by decide) (by rw [e]; rfl)
  have htg : ¬ t.at_ = g := fun e => row_not hbt hr (by decide) (by rw [e]; rfl)
  have htB : ¬ t.at_ = B := cells_ne hbt hB (by decide)
  have Hk := hide (keyOf_int_mk Tryd.underlying3 (WalkArith.wf_i64 (n := t.n) (by omega)))
  obtain ⟨W3, hrun, hm3, hg3⟩ := ((unhide Hg w).1.drew).drop law3 Tryd.underlying67 (unhide Hk) 0
  have hg3' := hg3.grown
  have Hh := hide ((unhide Hg W3).2 hm3 ⟨hg3'.os, hg3'.tape, hg3'.output, hg3'.size, hg3'.block⟩)
  clear hB hr hsv h hmap hD hSz hTd hm3 hg3 hg3' hbt Hg
  have hsub : ((ts.length + 1 : Nat) : Int) - 1 = ts.length := by omega
  have hl' : (ts.length : Int) < 1048576 := by omega
  have hcc : (ts.length : Int) + 1 ≤ c := by omega
  go_enter Tryd.func88, Tryd.ntmps88
  go_wp2
  go_region
  all_goals
    go_wp2
    go_ret
    exact ⟨rfl, unhide Hh⟩

/-- What is left, and what goes, where the first one is taken. -/
def popL (ts : List Tk) : List Tk := (downL (swapT ts 0 (ts.length - 1)) (ts.length - 1) 0).1
theorem downF_length (f : Nat) : ∀ (ts : List Tk) (n i : Nat), (downF f ts n i).1.length = ts.length := by
  induction f with
  | zero => intro ts n i; rfl
  | succ f ih =>
    intro ts n i
    show (if 2 * i + 1 < n then (if lessT (ts.getD (kidL ts n i) tk0) (ts.getD i tk0) then downF f (swapT ts i (kidL ts n i)) n (kidL ts n i) else (ts, i)) else (ts, i)).1.length = _
    split
    · split
      · rw [ih, swapT_length]
      · rfl
    · rfl
theorem downL_length (ts : List Tk) (n i : Nat) : (downL ts n i).1.length = ts.length := downF_length _ ts n i
theorem upF_length (f : Nat) : ∀ (ts : List Tk) (j : Nat), (upF f ts j).length = ts.length := by
  induction f with
  | zero => intro ts j; rfl
  | succ f ih =>
    intro ts j
    show (if j = 0 then ts else if lessT (ts.getD j tk0) (ts.getD ((j - 1) / 2) tk0) then upF f (swapT ts ((j - 1) / 2) j) ((j - 1) / 2) else ts).length = _
    split
    · rfl
    · split
      · rw [ih, swapT_length]
      · rfl
theorem upL_length (ts : List Tk) (j : Nat) : (upL ts j).length = ts.length := upF_length _ ts j

set_option maxHeartbeats 4000000 in
set_option maxRecDepth 100000 in
theorem hpop_any (B : Nat) (O : Nat → Prop) (ts : List Tk) (hpos : 0 < ts.length) (hlen : ts.length ≤ 1048576) (w : World) (h : LstIs w B O ts) :
    Calls Tryd.prog 54 #[.iface 85 (.pointer (some ⟨B, 0, none⟩))] w fun e w' => ∃ rest t, popL ts = rest ++ [t] ∧ e = .returned (.iface 83 (.pointer (some ⟨t.at_, 0, none⟩))) ∧ Off O w w' ∧ w'.heap[t.at_]? = some (.cells #[.int .i64 t.n, .int .i64 t.wt, .int .i64 rest.length] 88 (0, 0)) ∧ LstIs w' B O rest := by
  have HLn := hide (tlen_any B O ts w h)
  obtain ⟨m, hm⟩ : ∃ m : Nat, (ts.length : Int) - 1 = m := ⟨ts.length - 1, by omega⟩
  have hm2 : ts.length - 1 = m := by omega
  have HSw := hide (swap_any B O ts 0 m hpos (by omega) w h)
  have HD := hide (fun w1 hl => down_any B O (swapT ts 0 m) m 0 (by rw [swapT_length]; omega) (by rw [swapT_length]; omega) (by rw [swapT_length]; omega) w1 hl)
  obtain ⟨rest, t, hrt⟩ : ∃ rest t, popL ts = rest ++ [t] := by
    have hl : (popL ts).length = ts.length := by unfold popL; rw [downL_length, swapT_length]
    rcases List.eq_nil_or_concat (popL ts) with h0 | ⟨r, t, h1⟩
    · rw [h0] at hl; simp at hl; omega
    · exact ⟨r, t, by rw [h1]; simp⟩
  have hrl : rest.length < 1048576 := by
    have hl : (popL ts).length = ts.length := by unfold popL; rw [downL_length, swapT_length]
    rw [hrt] at hl; simp at hl; omega
  have hrt' : (downL (swapT ts 0 m) m 0).1 = rest ++ [t] := by rw [← hrt, popL, hm2]
  have HP := hide (fun w2 hl => tpop_any B O rest t hrl w2 hl)
  rw [hrt'] at HD
  have Hrt := hide hrt
  clear h hrt hrt' hrl
  generalize decide (((0 : Nat) : Int) < (downL (swapT ts 0 m) m 0).2) = bb at *
  go_enter Tryd.func54, Tryd.ntmps54
  go_wp2_with fail
  refine (unhide HLn).mono ?_
  rintro e w1 ⟨rfl, hw⟩
  obtain rfl := hw.symm
  go_wp2_with fail
  refine (unhide HSw).mono ?_
  rintro e w1 ⟨rfl, ho1, hs1, hl1⟩
  have HD1 := hide (unhide HD w1 hl1)
  have Ho1 := hide ho1
  clear ho1 hl1 HD HSw
  go_wp2_with fail
  refine (unhide HD1).mono ?_
  rintro e w2 ⟨rfl, ho2, hs2, hl2⟩
  have HP1 := hide (unhide HP w2 hl2)
  have Ho2 := hide ho2
  clear ho2 hl2 HP HD1
  go_wp2_with fail
  refine (unhide HP1).mono ?_
  rintro e w3 ⟨rfl, ho3, hb3, hl3⟩
  have Ho3 := hide ho3; have Hb3 := hide hb3; have Hl3 := hide hl3
  clear ho3 hb3 hl3 HP1
  go_wp2
  go_ret
  exact ⟨rest, t, unhide Hrt, rfl, off_t (unhide Ho1) (off_t (unhide Ho2) (unhide Ho3)), unhide Hb3, unhide Hl3⟩

set_option maxHeartbeats 4000000 in
set_option maxRecDepth 100000 in
theorem takeFirst_any (B : Nat) (O : Nat → Prop) (ts : List Tk) (hpos : 0 < ts.length) (hlen : ts.length ≤ 1048576) (w : World) (h : LstIs w B O ts) :
    Calls Tryd.prog 40 #[.iface 85 (.pointer (some ⟨B, 0, none⟩))] w fun e w' => ∃ rest t, popL ts = rest ++ [t] ∧ e = .returned (.pointer (some ⟨t.at_, 0, none⟩)) ∧ Off O w w' ∧ w'.heap[t.at_]? = some (.cells #[.int .i64 t.n, .int .i64 t.wt, .int .i64 rest.length] 88 (0, 0)) ∧ LstIs w' B O rest := by
  have HP := hide (hpop_any B O ts hpos hlen w h)
  have qa := fun (v : Value) (w : World) => assert76 v w
  clear h
  go_enter Tryd.func40, Tryd.ntmps40
  go_wp2_with fail
  refine (unhide HP).mono ?_
  rintro e w1 ⟨rest, t, h1, rfl, h2, h3, h4⟩
  have H1 := hide h1; have H2 := hide h2; have H3 := hide h3; have H4 := hide h4
  clear h1 h2 h3 h4
  go_wp2
  go_ret
  exact ⟨rest, t, unhide H1, rfl, unhide H2, unhide H3, unhide H4⟩

set_option maxHeartbeats 4000000 in
set_option maxRecDepth 100000 in
theorem llen_any (B : Nat) (O : Nat → Prop) (ts : List Tk) (w : World) (h : LstIs w B O ts) :
    Calls Tryd.prog 22 #[.pointer (some ⟨B, 0, none⟩)] w fun e w' => e = .returned (.int .i64 ts.length) ∧ w' = w := by
  have HLn := hide (tlen_any B O ts w h)
  clear h
  go_enter Tryd.func22, Tryd.ntmps22
  go_wp2_with (first | (go_at_call 45; go_in) | (go_at_call 86; refine (unhide HLn).mono ?_; rintro e w1 ⟨rfl, hw⟩; obtain rfl := hw.symm))
  go_ret
  exact ⟨rfl, rfl⟩

set_option maxHeartbeats 4000000 in
set_option maxRecDepth 100000 in
theorem pop_none (B : Nat) (O : Nat → Prop) (w : World) (h : LstIs w B O []) :
    Calls Tryd.prog 15 #[.pointer (some ⟨B, 0, none⟩)] w fun e w' => e = .returned (.tuple #[.int .i64 0, .int .i64 0, .bool false]) ∧ w' = w := by
  have HLn := hide (llen_any B O [] w h)
  clear h
  go_enter Tryd.func15, Tryd.ntmps15
  go_wp2_with (go_at_call 22; refine (unhide HLn).mono ?_; rintro e w1 ⟨rfl, hw⟩; obtain rfl := hw.symm)
  go_ret3
  exact ⟨rfl, rfl⟩

set_option maxHeartbeats 4000000 in
set_option maxRecDepth 100000 in
theorem pop_some (B : Nat) (O : Nat → Prop) (ts : List Tk) (hpos : 0 < ts.length) (hlen : ts.length ≤ 1048576) (w : World) (h : LstIs w B O ts) :
    Calls Tryd.prog 15 #[.pointer (some ⟨B, 0, none⟩)] w fun e w' => ∃ rest t, popL ts = rest ++ [t] ∧ e = .returned (.tuple #[.int .i64 t.n, .int .i64 t.wt, .bool true]) ∧ Off O w w' ∧ LstIs w' B O rest := by
  have HLn := hide (llen_any B O ts w h)
  have HP := hide (takeFirst_any B O ts hpos hlen w h)
  have hne : ((ts.length : Int) == 0) = false := by rw [beq_eq_false_iff_ne]; omega
  clear h
  go_enter Tryd.func15, Tryd.ntmps15
  go_wp2_with fail
  refine (unhide HLn).mono ?_
  rintro e w1 ⟨rfl, hw⟩
  obtain rfl := hw.symm
  go_wp2_with fail
  refine (unhide HP).mono ?_
  rintro e w1 ⟨rest, t, h1, rfl, h2, h3, h4⟩
  have a0 : w1.cell? ⟨t.at_, 0, none⟩ = some (.int .i64 t.n) := cell_block h3 0 _ rfl
  have a1 : w1.cell? ⟨t.at_, 1, none⟩ = some (.int .i64 t.wt) := cell_block h3 1 _ rfl
  have H1 := hide h1; have H2 := hide h2; have H4 := hide h4
  clear h1 h2 h3 h4
  go_wp2
  go_quiet (fail)
  go_wp2
  go_ret3
  exact ⟨rest, t, unhide H1, rfl, off_drewN (unhide H2) _, lst_drewN (unhide H4) _⟩
end Go.Proofs.YtdpphjedjhjdgabDoor

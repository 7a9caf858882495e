/- Lists of work: what Swap leaves. -/
import Derived.Test.YtdpphjedjhjdgabDoorL2
namespace Go.Proofs.YtdpphjedjhjdgabDoor
open Go.RowKit Go.Maps

theorem tkD {ts : List Tk} {k : Nat} (h : k < ts.length) : ts.getD k tk0 = ts[k] := by rw [List.getD_eq_getElem?_getD, List.getElem?_eq_getElem h]; rfl
theorem swapT_length (ts : List Tk) (i j : Nat) : (swapT ts i j).length = ts.length := by simp [swapT]
theorem swapT_perm (ts : List Tk) (i j : Nat) (hi : i < ts.length) (hj : j < ts.length) : (swapT ts i j).Perm ts := by
  unfold swapT; rw [tkD hi, tkD hj]; exact List.set_set_perm hi hj
theorem swapT_at (ts : List Tk) (i j k : Nat) (hk : k < ts.length) : (swapT ts i j).getD k tk0 = if k = j then ts.getD i tk0 else if k = i then ts.getD j tk0 else ts.getD k tk0 := by
  have hl : k < ((ts.set i (ts.getD j tk0)).set j (ts.getD i tk0)).length := by simpa using hk
  show ((ts.set i (ts.getD j tk0)).set j (ts.getD i tk0)).getD k tk0 = _
  rw [tkD hl, List.getElem_set]
  by_cases h1 : k = j
  · rw [if_pos h1.symm, if_pos h1]
  · rw [if_neg (fun e => h1 e.symm), if_neg h1, List.getElem_set]
    by_cases h2 : k = i
    · rw [if_pos h2.symm, if_pos h2]
    · rw [if_neg (fun e => h2 e.symm), if_neg h2, tkD hk]
theorem entry_mem {ts : List Tk} (hn : (ts.map Tk.n).Nodup) {t : Tk} (ht : t ∈ ts) : entryOf ts t.n = (t.at_ : Int) + 1 := by
  induction ts with
  | nil => simp at ht
  | cons a ts ih =>
    simp only [List.map_cons, List.nodup_cons] at hn
    unfold entryOf
    rw [List.find?_cons]
    by_cases h : a.n = t.n
    · rcases List.mem_cons.1 ht with rfl | ht
      · simp
      · exact absurd (h ▸ List.mem_map_of_mem ht) hn.1
    · have : (a.n == t.n) = false := by simpa using h
      rw [this]
      rcases List.mem_cons.1 ht with rfl | ht
      · exact absurd rfl h
      · exact ih hn.2 ht
theorem entry_not {ts : List Tk} {n : Int} (h : n ∉ ts.map Tk.n) : entryOf ts n = 0 := by
  unfold entryOf
  rw [List.find?_eq_none.2]
  intro t ht
  simp only [beq_iff_eq]
  exact fun e => h (e ▸ List.mem_map_of_mem ht)
theorem entry_perm {ts ts' : List Tk} (hp : ts'.Perm ts) (hn : (ts.map Tk.n).Nodup) (n : Int) : entryOf ts' n = entryOf ts n := by
  by_cases h : n ∈ ts.map Tk.n
  · obtain ⟨t, ht, rfl⟩ := List.mem_map.1 h
    rw [entry_mem hn ht, entry_mem ((hp.map Tk.n).nodup_iff.2 hn) (hp.mem_iff.2 ht)]
  · rw [entry_not h, entry_not (fun h' => h ((hp.map Tk.n).mem_iff.1 h'))]
theorem at_inj {ts : List Tk} (hb : (ts.map Tk.at_).Nodup) {i j : Nat} (hi : i < ts.length) (hj : j < ts.length) (h : (ts.getD i tk0).at_ = (ts.getD j tk0).at_) : i = j := by
  rw [tkD hi, tkD hj] at h
  have := (List.nodup_iff_pairwise_ne.1 hb)
  rw [List.pairwise_iff_getElem] at this
  rcases Nat.lt_trichotomy i j with hlt | heq | hgt
  · exact absurd (by rw [List.getElem_map, List.getElem_map]; exact h) (this i j (by simpa using hi) (by simpa using hj) hlt)
  · exact heq
  · exact absurd (by rw [List.getElem_map, List.getElem_map]; exact h.symm) (this j i (by simpa using hj) (by simpa using hi) hgt)
theorem cells_ne {w : World} {a b : Nat} {x y : Array Value} {s t : TypeId} {f f' : Nat × Nat} (ha : w.heap[a]? = some (.cells x s f)) (hb : w.heap[b]? = some (.cells y t f')) (hne : s ≠ t) : a ≠ b := fun e => by
  subst e
  rw [ha] at hb
  simp only [Option.some.injEq, Obj.cells.injEq] at hb
  exact hne hb.2.1

set_option maxHeartbeats 1000000 in
theorem swap_any (B : Nat) (O : Nat → Prop) (ts : List Tk) (i j : Nat) (hi : i < ts.length) (hj : j < ts.length) (w : World) (h : LstIs w B O ts) :
    Calls Tryd.prog 90 #[.pointer (some ⟨B, 0, none⟩), .int .i64 i, .int .i64 j] w fun e w' => e = .returned (.tuple #[]) ∧ Off O w w' ∧ w'.heap.size = w.heap.size ∧ LstIs w' B O (swapT ts i j) := by
  obtain ⟨g, c, m, hB, hr, hOg, hgl, hgB, hc1, hc2, hc⟩ := lst_row h (by omega)
  have hgcell : ∃ cur, w.heap[g]? = some (.cells cur 83 (0, 0)) := by
    rcases hr.2 with ⟨e, _⟩ | ⟨g', cap, cur, e, _, hh, _⟩
    · simp at e
    · simp only [Value.slice.injEq, Option.some.injEq, Addr.mk.injEq, and_true, true_and] at e
      exact ⟨cur, e.1 ▸ hh⟩
  obtain ⟨cur, hgc⟩ := hgcell
  have tne : ∀ k, k < ts.length → (ts.getD k tk0).at_ ≠ g ∧ (ts.getD k tk0).at_ ≠ B := fun k hk => ⟨cells_ne (h.tasks k hk).2 hgc (by decide), cells_ne (h.tasks k hk).2 hB (by decide)⟩
  have key : ∀ (W : World) (q : Nat), (i = j → W = (((w.setCell ⟨g, i, none⟩ (ptrV (ts.getD j tk0))).setCell ⟨g, j, none⟩ (ptrV (ts.getD i tk0))).setCell ⟨(ts.getD j tk0).at_, 2, none⟩ (.int .i64 i)).setCell ⟨(ts.getD i tk0).at_, 2, none⟩ (.int .i64 j)) →
      W = (((w.setCell ⟨g, i, none⟩ (ptrV (ts.getD j tk0))).setCell ⟨g, j, none⟩ (ptrV (ts.getD i tk0))).setCell ⟨(ts.getD j tk0).at_, 2, none⟩ (.int .i64 i)).setCell ⟨(ts.getD i tk0).at_, 2, none⟩ (.int .i64 j) →
      Off O w (W.drewN q) ∧ (W.drewN q).heap.size = w.heap.size ∧ LstIs (W.drewN q) B O (swapT ts i j) := by
    rintro W q - rfl
    have ho : Off O w ((((w.setCell ⟨g, i, none⟩ (ptrV (ts.getD j tk0))).setCell ⟨g, j, none⟩ (ptrV (ts.getD i tk0))).setCell ⟨(ts.getD j tk0).at_, 2, none⟩ (.int .i64 i)).setCell ⟨(ts.getD i tk0).at_, 2, none⟩ (.int .i64 j)) :=
      off_set (off_set (off_set (off_set (off_refl _ _) (p := ⟨g, i, none⟩) (.inl hOg) _) (p := ⟨g, j, none⟩) (.inl hOg) _) (p := ⟨(ts.getD j tk0).at_, 2, none⟩) (.inl (h.tasks j hj).1) _) (p := ⟨(ts.getD i tk0).at_, 2, none⟩) (.inl (h.tasks i hi).1) _
    have hs : ((((w.setCell ⟨g, i, none⟩ (ptrV (ts.getD j tk0))).setCell ⟨g, j, none⟩ (ptrV (ts.getD i tk0))).setCell ⟨(ts.getD j tk0).at_, 2, none⟩ (.int .i64 i)).setCell ⟨(ts.getD i tk0).at_, 2, none⟩ (.int .i64 j)).heap.size = w.heap.size := by simp
    have blk : ∀ k, k ≠ g → k ≠ (ts.getD i tk0).at_ → k ≠ (ts.getD j tk0).at_ → ((((w.setCell ⟨g, i, none⟩ (ptrV (ts.getD j tk0))).setCell ⟨g, j, none⟩ (ptrV (ts.getD i tk0))).setCell ⟨(ts.getD j tk0).at_, 2, none⟩ (.int .i64 i)).setCell ⟨(ts.getD i tk0).at_, 2, none⟩ (.int .i64 j)).heap[k]? = w.heap[k]? := fun k h1 h2 h3 =>
      (Below.heap_setCell _ _ _ k h2).trans ((Below.heap_setCell _ _ _ k h3).trans ((Below.heap_setCell _ _ _ k h1).trans (Below.heap_setCell _ _ _ k h1)))
    have hperm := swapT_perm ts i j hi hj
    have s1 := hr.stored i (ptrV (ts.getD j tk0))
    have s2 := s1.1.stored j (ptrV (ts.getD i tk0))
    have hmap : (swapT ts i j).map ptrV = ((ts.map ptrV).set i (ptrV (ts.getD j tk0))).set j (ptrV (ts.getD i tk0)) := by simp [swapT]
    have hrow : ((((w.setCell ⟨g, i, none⟩ (ptrV (ts.getD j tk0))).setCell ⟨g, j, none⟩ (ptrV (ts.getD i tk0))).setCell ⟨(ts.getD j tk0).at_, 2, none⟩ (.int .i64 i)).setCell ⟨(ts.getD i tk0).at_, 2, none⟩ (.int .i64 j)).ownsRow 0 83 1 (.slice (some ⟨g, 0, none⟩) ts.length c) ts.length ((swapT ts i j).map ptrV) := by
      rw [hmap]
      refine own_off (O := fun k => k = (ts.getD i tk0).at_ ∨ k = (ts.getD j tk0).at_) s2.1 (off_set (O := fun k => k = (ts.getD i tk0).at_ ∨ k = (ts.getD j tk0).at_) (off_set (off_refl _ _) (p := ⟨(ts.getD j tk0).at_, 2, none⟩) (.inl (.inr rfl)) _) (p := ⟨(ts.getD i tk0).at_, 2, none⟩) (.inl (.inl rfl)) _) (fun k hk e => ?_)
      simp only [Value.ownBlock, Option.some.injEq] at hk
      rcases e with e | e
      · exact (tne i hi).1 (by omega)
      · exact (tne j hj).1 (by omega)
    have hbi := (h.tasks i hi).2
    have hbj := (h.tasks j hj).2
    refine ⟨off_drewN ho q, hs, ⟨h.own, fun k hk => Nat.lt_of_lt_of_le (h.lt k hk) ho.size, fun t ht => h.nums t (hperm.mem_iff.1 ht), (hperm.map Tk.n).nodup_iff.2 h.apart, (hperm.map Tk.at_).nodup_iff.2 h.blocks, ?_, ?_⟩⟩
    · intro k hk
      rw [swapT_length] at hk
      rw [swapT_at ts i j k hk]
      show _ ∧ ((((w.setCell ⟨g, i, none⟩ (ptrV (ts.getD j tk0))).setCell ⟨g, j, none⟩ (ptrV (ts.getD i tk0))).setCell ⟨(ts.getD j tk0).at_, 2, none⟩ (.int .i64 i)).setCell ⟨(ts.getD i tk0).at_, 2, none⟩ (.int .i64 j)).heap[_]? = _
      by_cases h1 : k = j
      · subst h1
        rw [if_pos rfl]
        refine ⟨(h.tasks i hi).1, ?_⟩
        by_cases hij : i = k
        · subst hij
          have e1 : (((w.setCell ⟨g, i, none⟩ (ptrV (ts.getD i tk0))).setCell ⟨g, i, none⟩ (ptrV (ts.getD i tk0))).setCell ⟨(ts.getD i tk0).at_, 2, none⟩ (.int .i64 i)).heap[(ts.getD i tk0).at_]? = _ := block_set (i := 2) ((Below.heap_setCell _ _ _ _ (tne i hi).1).trans ((Below.heap_setCell _ _ _ _ (tne i hi).1).trans hbi)) (.int .i64 i)
          exact block_set (i := 2) e1 (.int .i64 i)
        · have hne : (ts.getD i tk0).at_ ≠ (ts.getD k tk0).at_ := fun e => hij (at_inj h.blocks hi hk e)
          exact block_set (i := 2) ((Below.heap_setCell _ _ _ _ hne).trans ((Below.heap_setCell _ _ _ _ (tne i hi).1).trans ((Below.heap_setCell _ _ _ _ (tne i hi).1).trans hbi))) (.int .i64 k)
      · rw [if_neg h1]
        by_cases h2 : k = i
        · subst h2
          rw [if_pos rfl]
          refine ⟨(h.tasks j hj).1, ?_⟩
          have hne : (ts.getD j tk0).at_ ≠ (ts.getD k tk0).at_ := fun e => h1 (at_inj h.blocks hj hk e).symm
          exact (Below.heap_setCell _ _ _ _ hne).trans (block_set (i := 2) ((Below.heap_setCell _ _ _ _ (tne j hj).1).trans ((Below.heap_setCell _ _ _ _ (tne j hj).1).trans hbj)) (.int .i64 k))
        · rw [if_neg h2]
          exact ⟨(h.tasks k hk).1, (blk _ (tne k hk).1 (fun e => h2 (at_inj h.blocks hk hi e)) (fun e => h1 (at_inj h.blocks hk hj e))).trans (h.tasks k hk).2⟩
    · obtain ⟨sv, mo, hB', hr', hs', hm'⟩ := h.lies
      rw [hB] at hB'
      simp only [Option.some.injEq, Obj.cells.injEq, and_true] at hB'
      have e1 : Value.slice (some ⟨g, 0, none⟩) ts.length c = sv := by have := congrArg (fun a : Array Value => a[0]?) hB'; simpa using this
      have e2 : m = mo := by have := congrArg (fun a : Array Value => a[1]?) hB'; simpa using this
      subst e1 e2
      refine ⟨.slice (some ⟨g, 0, none⟩) ts.length c, m, (blk B (fun e => hgB e.symm) (fun e => (tne i hi).2 e.symm) (fun e => (tne j hj).2 e.symm)).trans hB, ?_, hs', ?_⟩
      · rw [swapT_length]; exact hrow
      · rcases hm' with ⟨e, h0⟩ | ⟨mb, D, N, rfl, hO, hN, hmp, hT, hS, hD⟩
        · subst h0; simp at hi
        · refine .inr ⟨mb, D, N, rfl, hO, hN, ?_, hT, by rw [swapT_length]; exact hS, fun n => ?_⟩
          · have n1 := map_not hgc hmp
            have n2 := map_not hbi hmp
            have n3 := map_not hbj hmp
            exact (((hmp.setCell (a := ⟨g, i, none⟩) n1 _).setCell (a := ⟨g, j, none⟩) n1 _).setCell (a := ⟨(ts.getD j tk0).at_, 2, none⟩) n3 _).setCell (a := ⟨(ts.getD i tk0).at_, 2, none⟩) n2 _
          · rw [(hD n).1, (hD n).2, entry_perm hperm h.apart]
            refine ⟨?_, rfl⟩
            rw [decide_eq_decide]
            exact ((hperm.map Tk.n).mem_iff).symm
  have c0 := cell_block hB 0 _ rfl
  have ti := lst_task h i hi
  have tj := lst_task h j hj
  have fr : ∀ k, k < ts.length → w.frozen? ⟨(ts.getD k tk0).at_, 2, none⟩ = false := fun k hk => frozen_block (h.tasks k hk).2 2
  by_cases hij : i = j
  · subst hij
    refine (swap_same B g c ts.length i hi (ts.getD i tk0).at_ (tne i hi).1 w c0 hgB (tne i hi).2 (hc i hi) (hr.frozenAt _) ti.2.2 (fr i hi)).mono ?_
    rintro e w' ⟨rfl, q, rfl⟩
    exact ⟨rfl, key _ q (fun _ => rfl) rfl⟩
  · refine (swap_walk B g c ts.length i j hi hj hij (ts.getD i tk0).at_ (ts.getD j tk0).at_ (fun e => hij (at_inj h.blocks hi hj e)) (tne i hi).1 (tne j hj).1 w c0 hgB (tne i hi).2 (tne j hj).2 (hc i hi) (hc j hj) (hr.frozenAt _) (hr.frozenAt _) ti.2.2 tj.2.2 (fr i hi) (fr j hj)).mono ?_
    rintro e w' ⟨rfl, q, rfl⟩
    exact ⟨rfl, key _ q (fun h => absurd h hij) rfl⟩
end Go.Proofs.YtdpphjedjhjdgabDoor

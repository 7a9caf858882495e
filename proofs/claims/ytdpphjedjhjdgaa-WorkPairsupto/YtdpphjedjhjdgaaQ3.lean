/- The numbering of pairs: enter. -/
import Derived.Test.YtdpphjedjhjdgaaQ2
namespace Go.Proofs.Ytdpphjedjhjdgaa
open Go.RowKit Go.Maps

theorem hpair : (Try.prog.info? 65).map (fun i => (i.zero, i.size, i.bytes)) = some (some (.agg #[.int .i64 0, .int .i64 0]), 2, 16) := by kernel_rfl
/-- The numbering behind enter. -/
theorem idxP_grow {w W W1 W3 : World} {B g cap mb : Nat} {O : Nat → Prop} {ks : List Pr} {s : Pr} {sv : Value} {D : DataW Unit} {o : Obj}
    (hI : O B ∧ (∀ k, O k → k < w.heap.size) ∧ ks.Nodup ∧ ∀ s ∈ ks, wfP s) (hs : wfP s) (hnew : s ∉ ks)
    (hoW : Off O w W) (hB : W.heap[B]? = some (.cells #[sv, .map (some mb)] 100 (0, 0))) (hr : W.ownsRow 0 65 2 sv ks.length (flatP ks)) (hsv : ∀ k, sv.ownBlock = some k → O k) (hmb : O mb ∨ w.heap.size ≤ mb)
    (hm : W.ownsMap (H := Unit) Try.prog 65 (plainElem Try.prog 3) mb ks.length D)
    (hD : ∀ x, wfP x → Maps.has D (pk x) = decide (x ∈ ks) ∧ D.atKey (pk x) (.lit (.int .i64 0)) = .lit (.int .i64 (posP ks x)))
    (hown : W1.ownsRow 0 65 2 (.slice (some ⟨g, 0, none⟩) (ks.length + 1) cap) (ks.length + 1) ((flatP ks) ++ [.int .i64 s.1, .int .i64 s.2])) (hg : (W.alloc o).grownBy W1 sv.ownBlock) (hgv : sv.ownBlock = some g ∨ g = W.heap.size + 1) :
    ((W1.cell? ⟨B, 0, none⟩ = some sv ∧ W1.frozen? ⟨B, 0, none⟩ = false) ∧ (W1.setCell ⟨B, 0, none⟩ (.slice (some ⟨g, 0, none⟩) (ks.length + 1) cap)).cell? ⟨B, 1, none⟩ = some (.map (some mb)) ∧
      (W1.setCell ⟨B, 0, none⟩ (.slice (some ⟨g, 0, none⟩) (ks.length + 1) cap)).ownsMap (H := Unit) Try.prog 65 (plainElem Try.prog 3) mb ks.length D) ∧
    (W3.ownsMap (H := Unit) Try.prog 65 (plainElem Try.prog 3) mb (ks.length + 1) (D.put (pk s) (.lit (.int .i64 ks.length))) → (W1.setCell ⟨B, 0, none⟩ (.slice (some ⟨g, 0, none⟩) (ks.length + 1) cap)).grownBy W3 (some mb) →
      Off O w W3 ∧ IdxP W3 B (fun k => O k ∨ w.heap.size ≤ k ∧ k < W3.heap.size) (ks ++ [s])) := by
  obtain ⟨h1, h2, h3, h4⟩ := hI
  have n1 := row_not hB hr (by decide)
  have n2 := map_not hB hm
  have n3 := row_map hr hm
  have hBl := lt_of_some hB
  have hml := hm.lt
  have hB1 : W1.heap[B]? = some (.cells #[sv, .map (some mb)] 100 (0, 0)) := (hg.block B (by simp; omega) (fun e => n1 e.symm)).trans ((Below.heap_alloc W o B hBl).trans hB)
  have hm1 : W1.ownsMap (H := Unit) Try.prog 65 (plainElem Try.prog 3) mb ks.length D := (hm.alloc o).kept hg (fun e => n3 e.symm)
  have n4 := row_not hB1 hown (by decide)
  have hB2 := block_set (i := 0) hB1 (.slice (some ⟨g, 0, none⟩) (ks.length + 1) cap)
  have hm2 := hm1.setCell (a := ⟨B, 0, none⟩) n2 (.slice (some ⟨g, 0, none⟩) (ks.length + 1) cap)
  have hoff1 : Off O w W1 := off_grown (off_alloc hoW o) hg (fun k hk => .inl (hsv k hk))
  have hoff2 := off_set hoff1 (p := ⟨B, 0, none⟩) (.inl h1) (.slice (some ⟨g, 0, none⟩) (ks.length + 1) cap)
  refine ⟨⟨⟨cell_block hB1 0 _ rfl, frozen_block hB1 0⟩, cell_block hB2 1 _ rfl, hm2⟩, fun hm3 hg3 => ?_⟩
  have hoff3 := off_grown hoff2 hg3 (fun k hk => by cases hk; exact hmb)
  have hown2 : (W1.setCell ⟨B, 0, none⟩ (.slice (some ⟨g, 0, none⟩) (ks.length + 1) cap)).ownsRow 0 65 2 (.slice (some ⟨g, 0, none⟩) (ks.length + 1) cap) (ks.length + 1) ((flatP ks) ++ [.int .i64 s.1, .int .i64 s.2]) :=
    own_off (O := fun k => k = B) hown (off_set (O := fun k => k = B) (off_refl _ _) (p := ⟨B, 0, none⟩) (.inl rfl) _) (fun k hk e => n4 (e ▸ hk))
  have n5 := row_map hown2 hm2
  have hown3 := hown2.kept hg3 (kept_or (fun k hk => by cases hk; exact n5))
  have hgl : g < W3.heap.size := (hown3.lt g rfl).2
  refine ⟨hoff3, .inl h1, ?_, ?_, ?_, .slice (some ⟨g, 0, none⟩) (ks.length + 1) cap, some mb, ?_, ?_, ?_, .inr ⟨mb, D.put (pk s) (.lit (.int .i64 ks.length)), rfl, ?_, ?_, ?_⟩⟩
  · rintro k (hk | hk)
    · have := h2 k hk; have := hoff3.size; omega
    · exact hk.2
  · rw [List.nodup_append]
    exact ⟨h3, by simp, fun a ha b hb e => hnew (by simp at hb; rw [← hb, ← e]; exact ha)⟩
  · intro x hx
    rcases List.mem_append.1 hx with hx | hx
    · exact h4 x hx
    · simp at hx; rw [hx]; exact hs
  · exact (hg3.block B (by have := lt_of_some hB2; exact this) (fun e => by cases e; exact n2 rfl)).trans hB2
  · rw [flatP_append, List.length_append]; exact hown3
  · intro k hk
    simp only [Value.ownBlock, Option.some.injEq] at hk
    subst hk
    rcases hgv with h | h
    · exact .inl (hsv _ h)
    · exact .inr ⟨by have := hoW.size; omega, hgl⟩
  · rcases hmb with h | h
    · exact .inl h
    · exact .inr ⟨h, hm3.lt⟩
  · simpa using hm3
  · intro x hwx
    by_cases hx : x = s
    · subst hx
      have hkl : WideAt.IsKeyLit (pk x) := trivial
      rw [has_put_same hm.isMap hkl, atKey_put_same hm.isMap hkl]
      simp [posP, List.idxOf_append, hnew]
    · have hne : pk x ≠ pk s := fun e => hx (pk_inj hwx hs e)
      rw [has_put_other hne, atKey_put_other hne, (hD x hwx).1, (hD x hwx).2]
      refine ⟨by simp [hx], ?_⟩
      unfold posP
      by_cases hk : x ∈ ks
      · simp [hk, List.idxOf_append]
      · simp [hk, hx]

set_option maxHeartbeats 4000000 in
set_option maxRecDepth 100000 in
theorem enterP_made (B : Nat) (O : Nat → Prop) (ks : List Pr) (s : Pr) (hs : wfP s) (hnew : s ∉ ks) (hn : ks.length < 1048576) (w : World)
    (hI : O B ∧ (∀ k, O k → k < w.heap.size) ∧ ks.Nodup ∧ ∀ s ∈ ks, wfP s) (sv : Value) (mb : Nat) (D : DataW Unit)
    (hB : w.heap[B]? = some (.cells #[sv, .map (some mb)] 100 (0, 0))) (hr : w.ownsRow 0 65 2 sv ks.length (flatP ks)) (hsv : ∀ k, sv.ownBlock = some k → O k)
    (hmb : O mb) (hm : w.ownsMap (H := Unit) Try.prog 65 (plainElem Try.prog 3) mb ks.length D)
    (hD : ∀ x, wfP x → Maps.has D (pk x) = decide (x ∈ ks) ∧ D.atKey (pk x) (.lit (.int .i64 0)) = .lit (.int .i64 (posP ks x))) :
    Calls Try.prog 40 #[.pointer (some ⟨B, 0, none⟩), .agg #[.int .i64 s.1, .int .i64 s.2]] w fun e w' => e = .returned (.int .i64 ks.length) ∧ Off O w w' ∧ IdxP w' B (fun k => O k ∨ w.heap.size ≤ k ∧ k < w'.heap.size) (ks ++ [s]) := by
  obtain ⟨i0, hi, hz0, hz1, hz2⟩ := info_parts hpair
  have hlt := lt_of_some hB
  have qm : ∀ (w : World) (r : Option Nat), (binOp .eql 98 (.map r) (.map none)).run Try.prog w = .ok (.bool r.isNone) w := fun w r => run_eql_map_nil w _ _ _ r Try.underlying98
  have qk := fun w : World => run_makeMap (P := Try.prog) 98 w
  have hbox : (w.alloc (.cells #[.int .i64 s.1, .int .i64 s.2] 65)).heap[w.heap.size]? = some (.cells #[.int .i64 s.1, .int .i64 s.2] 65 (0, 0)) := (MapKept.heap_alloc w _).1
  have hb0 : Off O w (w.alloc (.cells #[.int .i64 s.1, .int .i64 s.2] 65)) := off_alloc (off_refl _ _) _
  have hB' : (w.alloc (.cells #[.int .i64 s.1, .int .i64 s.2] 65)).heap[B]? = _ := (Below.heap_alloc w _ B hlt).trans hB
  have Hg := hide (fun W1 W3 g cap => idxP_grow (w := w) (W := w.alloc (.cells #[.int .i64 s.1, .int .i64 s.2] 65)) (W1 := W1) (W3 := W3) (g := g) (cap := cap) (mb := mb) (sv := sv) (o := .cells #[.int .i64 s.1, .int .i64 s.2] 65) hI hs hnew hb0 hB' (hr.alloc _) hsv (.inl hmb) (hm.alloc _) hD)
  have hd0 : ∀ o, ((w.alloc (.cells #[.int .i64 s.1, .int .i64 s.2] 65)).alloc o).cell? ⟨B, 0, none⟩ = some sv := fun o => cell_block ((Below.heap_alloc (w.alloc (.cells #[.int .i64 s.1, .int .i64 s.2] 65)) o B (lt_of_some hB')).trans hB') 0 _ rfl
  have Ho := hide (hr.alloc _ : World.ownsRow (w.alloc (.cells #[.int .i64 s.1, .int .i64 s.2] 65)) 0 65 2 sv ks.length (flatP ks))
  obtain ⟨va, vc, rfl⟩ := own_form hr
  have Hk := hide (key65 s hs)
  have Hx : Hid (∀ W1, World.grownBy ((w.alloc (.cells #[.int .i64 s.1, .int .i64 s.2] 65)).alloc (.cells #[.int .i64 s.1, .int .i64 s.2] 65)) W1 (Value.slice va ks.length vc).ownBlock → W1.cell? ⟨w.heap.size, 0, none⟩ = some (.int .i64 s.1) ∧ W1.cell? ⟨w.heap.size, 1, none⟩ = some (.int .i64 s.2)) := hide (fun W1 hg => by
    have hb : W1.heap[w.heap.size]? = some (.cells #[.int .i64 s.1, .int .i64 s.2] 65 (0, 0)) := by
      have h1 := hbox
      have h2 := (Below.heap_alloc (w.alloc (.cells #[.int .i64 s.1, .int .i64 s.2] 65)) (.cells #[.int .i64 s.1, .int .i64 s.2] 65) w.heap.size (lt_of_some h1)).trans h1
      exact (hg.block w.heap.size (lt_of_some h2) (fun e => by have := hI.2.1 _ (hsv _ e.symm); omega)).trans h2
    exact ⟨cell_block hb 0 _ rfl, cell_block hb 1 _ rfl⟩)
  have c0 := cell_block hB 0 _ rfl
  have c1 := cell_block hB 1 _ rfl
  have f0 := frozen_block hB 0
  have f1 := frozen_block hB 1
  clear hB hr hsv hI hnew hm hD hmb hb0 hB' hbox
  have hn' : (ks.length : Int) < 1048576 := by omega
  have Hc1 : Hid (∀ j u, [Value.int .i64 s.1, .int .i64 s.2][j]? = some u → ((w.alloc (.cells #[.int .i64 s.1, .int .i64 s.2] 65)).alloc (.cells #[.int .i64 s.1, .int .i64 s.2] 65)).drew.cell? ((⟨w.heap.size + 1, 0, none⟩ : Addr).add j) = some u) := hide (by
    have h := World.news_of_block (MapKept.heap_alloc (w.alloc (.cells #[.int .i64 s.1, .int .i64 s.2] 65)) (.cells #[.int .i64 s.1, .int .i64 s.2] 65)).1
    simpa using h)
  go_enter Try.func40, Try.ntmps40
  go_wp2
  go_region_law (refine step_append_lies _ rfl (.tmp 24) (.tmp 26) 62 rfl 0 65 i0 (.agg #[.int .i64 0, .int .i64 0]) 2 16 Try.underlying62 hi hz0 hz1 hz2 rfl (by decide) _ ks.length (flatP ks) (by simp [Act.eval]) ((unhide Ho).alloc _) ⟨w.heap.size + 1, 0, none⟩ 1 1 [.int .i64 s.1, .int .i64 s.2] (by simp [Act.eval]) rfl (unhide Hc1) (by simp [Value.oneCell']) (by decide) (by unfold maxLen; omega) (by omega) (Nat.zero_le _) (w.heap.size + 1 + 1) (by simp) ?_; intro g cap W1 hown hgr hgv hgl; have hgr' : World.grownBy ((w.alloc (.cells #[.int .i64 s.1, .int .i64 s.2] 65)).alloc (.cells #[.int .i64 s.1, .int .i64 s.2] 65)) W1 (Value.slice va ks.length vc).ownBlock := ⟨hgr.os, hgr.tape, hgr.output, hgr.size, hgr.block⟩; obtain ⟨⟨⟨d0, e0⟩, d1, hm2⟩, -⟩ := unhide Hg W1 W1 g cap hown hgr' (by simpa using hgv); obtain ⟨x0, x1⟩ := unhide Hx W1 hgr'; have Hm2 := hide hm2; have Hown := hide hown; have Hgr := hide hgr'; clear hm2 hown hgr hgr')
  all_goals
    obtain ⟨W3, hrun, hm3, hg3⟩ := ((unhide Hm2).drew).update law65 Try.underlying98 (by unfold maxLen; omega) (unhide Hk) (val := .int .i64 ks.length) (d := .lit (.int .i64 ks.length)) (ps := []) (plainElem_int Try.underlying3 (WalkArith.wf_i64 (by omega)))
    have Hh := hide ((unhide Hg W1 W3 g cap (unhide Hown) (unhide Hgr) (by simpa using hgv)).2 hm3 ⟨hg3.os, hg3.tape, hg3.output, hg3.size, hg3.block⟩)
    unfold pairV at hrun
    clear hm3 hg3 c0 c1 f0 f1
    go_wp2
    go_region
    all_goals
      go_wp2
      go_ret
      exact ⟨rfl, unhide Hh⟩

set_option maxHeartbeats 4000000 in
set_option maxRecDepth 100000 in
theorem enterP_nil (B : Nat) (O : Nat → Prop) (ks : List Pr) (s : Pr) (hs : wfP s) (hnew : s ∉ ks) (hn : ks.length < 1048576) (w : World)
    (hI : O B ∧ (∀ k, O k → k < w.heap.size) ∧ ks.Nodup ∧ ∀ s ∈ ks, wfP s) (sv : Value) (hks : ks = [])
    (hB : w.heap[B]? = some (.cells #[sv, .map none] 100 (0, 0))) (hr : w.ownsRow 0 65 2 sv ks.length (flatP ks)) (hsv : ∀ k, sv.ownBlock = some k → O k) :
    Calls Try.prog 40 #[.pointer (some ⟨B, 0, none⟩), .agg #[.int .i64 s.1, .int .i64 s.2]] w fun e w' => e = .returned (.int .i64 ks.length) ∧ Off O w w' ∧ IdxP w' B (fun k => O k ∨ w.heap.size ≤ k ∧ k < w'.heap.size) (ks ++ [s]) := by
  obtain ⟨i0, hi, hz0, hz1, hz2⟩ := info_parts hpair
  have hlt := lt_of_some hB
  have qm : ∀ (w : World) (r : Option Nat), (binOp .eql 98 (.map r) (.map none)).run Try.prog w = .ok (.bool r.isNone) w := fun w r => run_eql_map_nil w _ _ _ r Try.underlying98
  have qk := fun w : World => run_makeMap (P := Try.prog) 98 w
  have hs0 : (w.setCell ⟨B, 1, none⟩ (.map (some (w.heap.size + 1)))).heap.size = w.heap.size := by simp
  have hs1 : ((w.setCell ⟨B, 1, none⟩ (.map (some (w.heap.size + 1)))).alloc (.cells #[.int .i64 s.1, .int .i64 s.2] 65)).heap.size = w.heap.size + 1 := by simp
  have hbox : (((w.setCell ⟨B, 1, none⟩ (.map (some (w.heap.size + 1)))).alloc (.cells #[.int .i64 s.1, .int .i64 s.2] 65)).alloc (.map #[] 0)).heap[w.heap.size]? = some (.cells #[.int .i64 s.1, .int .i64 s.2] 65 (0, 0)) := by
    have h := (MapKept.heap_alloc (w.setCell ⟨B, 1, none⟩ (.map (some (w.heap.size + 1)))) (.cells #[.int .i64 s.1, .int .i64 s.2] 65)).1
    rw [hs0] at h
    exact (Below.heap_alloc _ _ _ (by omega)).trans h
  have hb0 : Off O w (((w.setCell ⟨B, 1, none⟩ (.map (some (w.heap.size + 1)))).alloc (.cells #[.int .i64 s.1, .int .i64 s.2] 65)).alloc (.map #[] 0)) := off_alloc (off_alloc (off_set (off_refl _ _) (p := ⟨B, 1, none⟩) (.inl hI.1) _) _) _
  have hB' : (((w.setCell ⟨B, 1, none⟩ (.map (some (w.heap.size + 1)))).alloc (.cells #[.int .i64 s.1, .int .i64 s.2] 65)).alloc (.map #[] 0)).heap[B]? = some (.cells #[sv, .map (some (w.heap.size + 1))] 100 (0, 0)) := (Below.heap_alloc _ _ B (by omega)).trans ((Below.heap_alloc _ _ B (by omega)).trans (block_set (i := 1) hB (.map (some (w.heap.size + 1)))))
  have n1 := row_not hB hr (by decide)
  have hr' : World.ownsRow (((w.setCell ⟨B, 1, none⟩ (.map (some (w.heap.size + 1)))).alloc (.cells #[.int .i64 s.1, .int .i64 s.2] 65)).alloc (.map #[] 0)) 0 65 2 sv ks.length (flatP ks) := ((own_off (O := fun k => k = B) hr (off_set (O := fun k => k = B) (off_refl _ _) (p := ⟨B, 1, none⟩) (.inl rfl) _) (fun k hk e => n1 (e ▸ hk))).alloc _).alloc _
  have hm' : World.ownsMap (H := Unit) (((w.setCell ⟨B, 1, none⟩ (.map (some (w.heap.size + 1)))).alloc (.cells #[.int .i64 s.1, .int .i64 s.2] 65)).alloc (.map #[] 0)) Try.prog 65 (plainElem Try.prog 3) (w.heap.size + 1) ks.length (.map []) := by
    have h := World.ownsMap_made (H := Unit) ((w.setCell ⟨B, 1, none⟩ (.map (some (w.heap.size + 1)))).alloc (.cells #[.int .i64 s.1, .int .i64 s.2] 65)) Try.prog 65 (plainElem Try.prog 3)
    rw [hs1] at h
    exact h.mono (Nat.zero_le _)
  have hD' : ∀ x, wfP x → Maps.has (.map [] : DataW Unit) (pk x) = decide (x ∈ ks) ∧ (DataW.map [] : DataW Unit).atKey (pk x) (.lit (.int .i64 0)) = .lit (.int .i64 (posP ks x)) := fun x _ => by
    subst hks; exact ⟨rfl, rfl⟩
  have Hg := hide (fun W1 W3 g cap => idxP_grow (w := w) (W := ((w.setCell ⟨B, 1, none⟩ (.map (some (w.heap.size + 1)))).alloc (.cells #[.int .i64 s.1, .int .i64 s.2] 65)).alloc (.map #[] 0)) (W1 := W1) (W3 := W3) (g := g) (cap := cap) (mb := (w.heap.size + 1)) (sv := sv) (o := .cells #[.int .i64 s.1, .int .i64 s.2] 65) hI hs hnew hb0 hB' hr' hsv (.inr (by omega)) hm' hD')
  have hd0 : ∀ o, ((((w.setCell ⟨B, 1, none⟩ (.map (some (w.heap.size + 1)))).alloc (.cells #[.int .i64 s.1, .int .i64 s.2] 65)).alloc (.map #[] 0)).alloc o).cell? ⟨B, 0, none⟩ = some sv := fun o => cell_block ((Below.heap_alloc (((w.setCell ⟨B, 1, none⟩ (.map (some (w.heap.size + 1)))).alloc (.cells #[.int .i64 s.1, .int .i64 s.2] 65)).alloc (.map #[] 0)) o B (lt_of_some hB')).trans hB') 0 _ rfl
  have Ho := hide (hr' : World.ownsRow (((w.setCell ⟨B, 1, none⟩ (.map (some (w.heap.size + 1)))).alloc (.cells #[.int .i64 s.1, .int .i64 s.2] 65)).alloc (.map #[] 0)) 0 65 2 sv ks.length (flatP ks))
  obtain ⟨va, vc, rfl⟩ := own_form hr
  have Hk := hide (key65 s hs)
  have Hx : Hid (∀ W1, World.grownBy ((((w.setCell ⟨B, 1, none⟩ (.map (some (w.heap.size + 1)))).alloc (.cells #[.int .i64 s.1, .int .i64 s.2] 65)).alloc (.map #[] 0)).alloc (.cells #[.int .i64 s.1, .int .i64 s.2] 65)) W1 (Value.slice va ks.length vc).ownBlock → W1.cell? ⟨w.heap.size, 0, none⟩ = some (.int .i64 s.1) ∧ W1.cell? ⟨w.heap.size, 1, none⟩ = some (.int .i64 s.2)) := hide (fun W1 hg => by
    have hb : W1.heap[w.heap.size]? = some (.cells #[.int .i64 s.1, .int .i64 s.2] 65 (0, 0)) := by
      have h1 := hbox
      have h2 := (Below.heap_alloc (((w.setCell ⟨B, 1, none⟩ (.map (some (w.heap.size + 1)))).alloc (.cells #[.int .i64 s.1, .int .i64 s.2] 65)).alloc (.map #[] 0)) (.cells #[.int .i64 s.1, .int .i64 s.2] 65) w.heap.size (lt_of_some h1)).trans h1
      exact (hg.block w.heap.size (lt_of_some h2) (fun e => by have := hI.2.1 _ (hsv _ e.symm); omega)).trans h2
    exact ⟨cell_block hb 0 _ rfl, cell_block hb 1 _ rfl⟩)
  have c0 := cell_block hB 0 _ rfl
  have c1 := cell_block hB 1 _ rfl
  have f0 := frozen_block hB 0
  have f1 := frozen_block hB 1
  clear hB hr hsv hI hnew hks hm' hD' hr' hb0 hB' hbox hs0 hs1
  have hn' : (ks.length : Int) < 1048576 := by omega
  have Hc1 : Hid (∀ j u, [Value.int .i64 s.1, .int .i64 s.2][j]? = some u → ((((w.setCell ⟨B, 1, none⟩ (.map (some (w.heap.size + 1)))).alloc (.cells #[.int .i64 s.1, .int .i64 s.2] 65)).alloc (.map #[] 0)).alloc (.cells #[.int .i64 s.1, .int .i64 s.2] 65)).drew.cell? ((⟨w.heap.size + 1 + 1, 0, none⟩ : Addr).add j) = some u) := hide (by
    have h := World.news_of_block (MapKept.heap_alloc (((w.setCell ⟨B, 1, none⟩ (.map (some (w.heap.size + 1)))).alloc (.cells #[.int .i64 s.1, .int .i64 s.2] 65)).alloc (.map #[] 0)) (.cells #[.int .i64 s.1, .int .i64 s.2] 65)).1
    simpa using h)
  go_enter Try.func40, Try.ntmps40
  go_wp2
  go_region_law (refine step_append_lies _ rfl (.tmp 24) (.tmp 26) 62 rfl 0 65 i0 (.agg #[.int .i64 0, .int .i64 0]) 2 16 Try.underlying62 hi hz0 hz1 hz2 rfl (by decide) _ ks.length (flatP ks) (by simp [Act.eval]) ((unhide Ho).alloc _) ⟨w.heap.size + 1 + 1, 0, none⟩ 1 1 [.int .i64 s.1, .int .i64 s.2] (by simp [Act.eval]) rfl (unhide Hc1) (by simp [Value.oneCell']) (by decide) (by unfold maxLen; omega) (by omega) (Nat.zero_le _) (w.heap.size + 1 + 1 + 1) (by simp) ?_; intro g cap W1 hown hgr hgv hgl; have hgr' : World.grownBy ((((w.setCell ⟨B, 1, none⟩ (.map (some (w.heap.size + 1)))).alloc (.cells #[.int .i64 s.1, .int .i64 s.2] 65)).alloc (.map #[] 0)).alloc (.cells #[.int .i64 s.1, .int .i64 s.2] 65)) W1 (Value.slice va ks.length vc).ownBlock := ⟨hgr.os, hgr.tape, hgr.output, hgr.size, hgr.block⟩; obtain ⟨⟨⟨d0, e0⟩, d1, hm2⟩, -⟩ := unhide Hg W1 W1 g cap hown hgr' (by simpa using hgv); obtain ⟨x0, x1⟩ := unhide Hx W1 hgr'; have Hm2 := hide hm2; have Hown := hide hown; have Hgr := hide hgr'; clear hm2 hown hgr hgr')
  all_goals
    obtain ⟨W3, hrun, hm3, hg3⟩ := ((unhide Hm2).drew).update law65 Try.underlying98 (by unfold maxLen; omega) (unhide Hk) (val := .int .i64 ks.length) (d := .lit (.int .i64 ks.length)) (ps := []) (plainElem_int Try.underlying3 (WalkArith.wf_i64 (by omega)))
    have Hh := hide ((unhide Hg W1 W3 g cap (unhide Hown) (unhide Hgr) (by simpa using hgv)).2 hm3 ⟨hg3.os, hg3.tape, hg3.output, hg3.size, hg3.block⟩)
    unfold pairV at hrun
    clear hm3 hg3 c0 c1 f0 f1
    go_wp2
    go_region
    all_goals
      go_wp2
      go_ret
      exact ⟨rfl, unhide Hh⟩

theorem enterP_any (B : Nat) (O : Nat → Prop) (ks : List Pr) (s : Pr) (hs : wfP s) (hnew : s ∉ ks) (hn : ks.length < 1048576) (w : World) (h : IdxP w B O ks) :
    Calls Try.prog 40 #[.pointer (some ⟨B, 0, none⟩), .agg #[.int .i64 s.1, .int .i64 s.2]] w fun e w' => e = .returned (.int .i64 ks.length) ∧ Off O w w' ∧ IdxP w' B (fun k => O k ∨ w.heap.size ≤ k ∧ k < w'.heap.size) (ks ++ [s]) := by
  obtain ⟨h1, h2, h3, h4, sv, mo, hB, hr, hsv, hm⟩ := h
  rcases hm with ⟨rfl, hk⟩ | ⟨mb, D, rfl, hO, hmap, hD⟩
  · exact enterP_nil B O ks s hs hnew hn w ⟨h1, h2, h3, h4⟩ sv hk hB hr hsv
  · exact enterP_made B O ks s hs hnew hn w ⟨h1, h2, h3, h4⟩ sv mb D hB hr hsv hO hmap hD

set_option maxHeartbeats 4000000 in
set_option maxRecDepth 100000 in
theorem atP_old (B : Nat) (O : Nat → Prop) (ks : List Pr) (s : Pr) (hs : wfP s) (hold : s ∈ ks) (w : World) (h : IdxP w B O ks) :
    Calls Try.prog 25 #[.pointer (some ⟨B, 0, none⟩), .agg #[.int .i64 s.1, .int .i64 s.2]] w fun e w' => e = .returned (.tuple #[.int .i64 (posP ks s), .bool false, .int .i64 0]) ∧ Below w.heap.size w w' := by
  have hb0 : Below w.heap.size w (w.alloc (.cells #[.int .i64 s.1, .int .i64 s.2] 65)) := (Below.refl _ _).alloc (Nat.le_refl _) _
  have HL := hide (lookP_any B O ks s hs _ (idxP_below h hb0))
  rw [show decide (s ∈ ks) = true by simpa using hold] at HL
  have Hb0 := hide hb0
  clear h hold hb0
  generalize posP ks s = x at *
  go_enter Try.func25, Try.ntmps25
  go_wp2_with (go_at_call 39; refine (unhide HL).mono ?_; rintro e w' ⟨rfl, hb⟩)
  go_ret3
  exact ⟨rfl, (unhide Hb0).trans (hb.mono (by simp))⟩

set_option maxHeartbeats 4000000 in
set_option maxRecDepth 100000 in
theorem atP_new (B : Nat) (O : Nat → Prop) (ks : List Pr) (s : Pr) (hs : wfP s) (hnew : s ∉ ks) (hn : ks.length < 1048576) (w : World) (h : IdxP w B O ks) :
    Calls Try.prog 25 #[.pointer (some ⟨B, 0, none⟩), .agg #[.int .i64 s.1, .int .i64 s.2]] w fun e w' => e = .returned (.tuple #[.int .i64 ks.length, .bool true, .int .i64 0]) ∧ Off O w w' ∧ IdxP w' B (fun k => O k ∨ w.heap.size ≤ k ∧ k < w'.heap.size) (ks ++ [s]) := by
  have hb0 : Below w.heap.size w (w.alloc (.cells #[.int .i64 s.1, .int .i64 s.2] 65)) := (Below.refl _ _).alloc (Nat.le_refl _) _
  have HL := hide (lookP_any B O ks s hs _ (idxP_below h hb0))
  rw [show decide (s ∈ ks) = false by simpa using hnew, show posP ks s = 0 by simp [posP, hnew]] at HL
  have HB : Hid (∀ w', Below (w.alloc (.cells #[.int .i64 s.1, .int .i64 s.2] 65)).heap.size (w.alloc (.cells #[.int .i64 s.1, .int .i64 s.2] 65)) w' → Below w.heap.size w w' ∧ w'.cell? ⟨w.heap.size, 0, none⟩ = some (.int .i64 s.1) ∧ w'.cell? ⟨w.heap.size, 1, none⟩ = some (.int .i64 s.2)) := hide (fun w' hb =>
    ⟨hb0.trans (hb.mono (by simp)), (hb.cell (p := ⟨w.heap.size, 0, none⟩) (by simp)).trans (World.cell?_alloc_mark w #[.int .i64 s.1, .int .i64 s.2] 65 (0, 0) 0), (hb.cell (p := ⟨w.heap.size, 1, none⟩) (by simp)).trans (World.cell?_alloc_mark w #[.int .i64 s.1, .int .i64 s.2] 65 (0, 0) 1)⟩)
  have HE := hide (fun w' hb => enterP_any B O ks s hs hnew hn w' (idxP_below h hb))
  have HC : Hid (∀ w', Below w.heap.size w w' → ∃ a c, w'.cell? ⟨B, 0, none⟩ = some (.slice a ks.length c)) := hide (fun w' hb => by
    obtain ⟨sv, mo, hB, hr, -⟩ := (idxP_below h hb).lies
    obtain ⟨a, c, rfl⟩ := own_form hr
    exact ⟨a, c, cell_block hB 0 _ rfl⟩)
  have HO := hide h.lt
  have hq : ((ks.length : Int) == 1048576) = false := by simp; omega
  clear h hnew hb0
  go_enter Try.func25, Try.ntmps25
  go_wp2_with (go_at_call 39; refine (unhide HL).mono ?_; rintro e w' ⟨rfl, hb'⟩; obtain ⟨hb, x0, x1⟩ := unhide HB w' hb'; obtain ⟨a, c, hc0⟩ := unhide HC w' hb)
  refine (unhide HE w' hb).mono ?_
  rintro e w'' ⟨rfl, ho, hx⟩
  have Hb := hide hb; have Ho := hide ho; have Hx := hide hx
  clear hb ho hx hc0 hb' x0 x1
  go_wp2
  go_ret3
  have hs1 := (unhide Hb).size; have hs2 := (unhide Ho).size
  refine ⟨rfl, off_t (off_below (unhide Hb)) (unhide Ho), idxP_mono (unhide Hx) ?_ ?_⟩
  · rintro k (h | h)
    · exact .inl h
    · exact .inr ⟨by omega, h.2⟩
  · rintro k (h | h)
    · have := unhide HO k h; omega
    · exact h.2
end Go.Proofs.Ytdpphjedjhjdgaa

/- The numbering of texts: enter, At. -/
import Derived.Test.YtdpphjedjhjdgaaDoorK2
namespace Go.Proofs.YtdpphjedjhjdgaaDoor
open Go.RowKit Go.Maps

theorem info_parts {P : Program} {e : TypeId} {z : Option Value} {n b : Nat} (h : (P.info? e).map (fun i => (i.zero, i.size, i.bytes)) = some (z, n, b)) : ∃ i, P.info? e = some i ∧ i.zero = z ∧ i.size = n ∧ i.bytes = b := by
  rw [Option.map_eq_some_iff] at h
  obtain ⟨i, hi, h⟩ := h
  simp only [Prod.mk.injEq] at h
  exact ⟨i, hi, h.1, h.2.1, h.2.2⟩
theorem hstr : (Tryd.prog.info? 9).map (fun i => (i.zero, i.size, i.bytes)) = some (some (.string ⟨#[]⟩), 1, 16) := by kernel_rfl

theorem block_set {w : World} {g i : Nat} {cs : Array Value} {t : TypeId} {fr : Nat × Nat} (h : w.heap[g]? = some (.cells cs t fr)) (v : Value) : (w.setCell ⟨g, i, none⟩ v).heap[g]? = some (.cells (cs.setIfInBounds i v) t fr) := by
  rw [setCell_eq_setRow w g i cs t fr v h]
  exact setRow_heap w g _ _ t _ h
theorem row_not {w : World} {B base : Nat} {cs : Array Value} {t e : TypeId} {f : Nat × Nat} {size n : Nat} {v : Value} {xs : List Value} (hB : w.heap[B]? = some (.cells cs t f)) (hr : w.ownsRow base e size v n xs) (ht : e ≠ t) : v.ownBlock ≠ some B := fun h => by
  rcases hr.2 with ⟨rfl, _⟩ | ⟨g, cap, cur, rfl, _, hh, _⟩
  · simp [Value.ownBlock] at h
  · simp only [Value.ownBlock, Option.some.injEq] at h
    subst h
    rw [hB] at hh
    simp only [Option.some.injEq, Obj.cells.injEq] at hh
    exact ht hh.2.1.symm
theorem map_not {w : World} {B b n : Nat} {cs : Array Value} {t : TypeId} {f : Nat × Nat} {H : Type} {P : Program} {k : TypeId} {R : Value → Option (DataW H × List MemPlace)} {D : DataW H} (hB : w.heap[B]? = some (.cells cs t f)) (hm : w.ownsMap P k R b n D) : b ≠ B := fun h => by
  obtain ⟨es, c, hb, _⟩ := hm
  rw [h, hB] at hb
  simp at hb
theorem row_map {w : World} {base b n m : Nat} {e : TypeId} {size : Nat} {v : Value} {xs : List Value} {H : Type} {P : Program} {k : TypeId} {R : Value → Option (DataW H × List MemPlace)} {D : DataW H} (hr : w.ownsRow base e size v n xs) (hm : w.ownsMap P k R b m D) : v.ownBlock ≠ some b := fun h => by
  rcases hr.2 with ⟨rfl, _⟩ | ⟨g, cap, cur, rfl, _, hh, _⟩
  · simp [Value.ownBlock] at h
  · simp only [Value.ownBlock, Option.some.injEq] at h
    exact map_not hh hm h.symm
theorem kept_or {v : Value} {row : Option Nat} (h : ∀ k, row = some k → v.ownBlock ≠ some k) : v.ownBlock = none ∨ v.ownBlock ≠ row := by
  cases hv : v.ownBlock with
  | none => exact .inl rfl
  | some g => exact .inr (fun e => h g e.symm hv)

/-- The numbering behind enter. -/
theorem idx_grow {w W W1 W3 : World} {B g cap mb : Nat} {O : Nat → Prop} {ks : List (List UInt8)} {s : List UInt8} {sv : Value} {D : DataW Unit} {o : Obj}
    (hI : O B ∧ (∀ k, O k → k < w.heap.size) ∧ ks.Nodup ∧ ∀ s ∈ ks, s.length ≤ maxLen) (hs : s.length ≤ maxLen) (hnew : s ∉ ks)
    (hoW : Off O w W) (hB : W.heap[B]? = some (.cells #[sv, .map (some mb)] 97 (0, 0))) (hr : W.ownsRow 0 9 1 sv ks.length (ks.map fun s => .string (bs s))) (hsv : ∀ k, sv.ownBlock = some k → O k) (hmb : O mb ∨ w.heap.size ≤ mb)
    (hm : W.ownsMap (H := Unit) Tryd.prog 9 (plainElem Tryd.prog 3) mb ks.length D)
    (hD : ∀ s, Maps.has D (.string s) = decide (s ∈ ks) ∧ D.atKey (.string s) (.lit (.int .i64 0)) = .lit (.int .i64 (posB ks s)))
    (hown : W1.ownsRow 0 9 1 (.slice (some ⟨g, 0, none⟩) (ks.length + 1) cap) (ks.length + 1) ((ks.map fun s => .string (bs s)) ++ [.string (bs s)])) (hg : (W.alloc o).grownBy W1 sv.ownBlock) (hgv : sv.ownBlock = some g ∨ g = W.heap.size + 1) :
    ((W1.cell? ⟨B, 0, none⟩ = some sv ∧ W1.frozen? ⟨B, 0, none⟩ = false) ∧ (W1.setCell ⟨B, 0, none⟩ (.slice (some ⟨g, 0, none⟩) (ks.length + 1) cap)).cell? ⟨B, 1, none⟩ = some (.map (some mb)) ∧
      (W1.setCell ⟨B, 0, none⟩ (.slice (some ⟨g, 0, none⟩) (ks.length + 1) cap)).ownsMap (H := Unit) Tryd.prog 9 (plainElem Tryd.prog 3) mb ks.length D) ∧
    (W3.ownsMap (H := Unit) Tryd.prog 9 (plainElem Tryd.prog 3) mb (ks.length + 1) (D.put (.string s) (.lit (.int .i64 ks.length))) → (W1.setCell ⟨B, 0, none⟩ (.slice (some ⟨g, 0, none⟩) (ks.length + 1) cap)).grownBy W3 (some mb) →
      Off O w W3 ∧ Idx W3 B (fun k => O k ∨ w.heap.size ≤ k ∧ k < W3.heap.size) (ks ++ [s])) := by
  obtain ⟨h1, h2, h3, h4⟩ := hI
  have n1 := row_not hB hr (by decide)
  have n2 := map_not hB hm
  have n3 := row_map hr hm
  have hBl := lt_of_some hB
  have hml := hm.lt
  have hB1 : W1.heap[B]? = some (.cells #[sv, .map (some mb)] 97 (0, 0)) := (hg.block B (by simp; omega) (fun e => n1 e.symm)).trans ((Below.heap_alloc W o B hBl).trans hB)
  have hm1 : W1.ownsMap (H := Unit) Tryd.prog 9 (plainElem Tryd.prog 3) mb ks.length D := (hm.alloc o).kept hg (fun e => n3 e.symm)
  have n4 := row_not hB1 hown (by decide)
  have hB2 := block_set (i := 0) hB1 (.slice (some ⟨g, 0, none⟩) (ks.length + 1) cap)
  have hm2 := hm1.setCell (a := ⟨B, 0, none⟩) n2 (.slice (some ⟨g, 0, none⟩) (ks.length + 1) cap)
  have hoff1 : Off O w W1 := off_grown (off_alloc hoW o) hg (fun k hk => .inl (hsv k hk))
  have hoff2 := off_set hoff1 (p := ⟨B, 0, none⟩) (.inl h1) (.slice (some ⟨g, 0, none⟩) (ks.length + 1) cap)
  refine ⟨⟨⟨cell_block hB1 0 _ rfl, frozen_block hB1 0⟩, cell_block hB2 1 _ rfl, hm2⟩, fun hm3 hg3 => ?_⟩
  have hoff3 := off_grown hoff2 hg3 (fun k hk => by cases hk; exact hmb)
  have hown2 : (W1.setCell ⟨B, 0, none⟩ (.slice (some ⟨g, 0, none⟩) (ks.length + 1) cap)).ownsRow 0 9 1 (.slice (some ⟨g, 0, none⟩) (ks.length + 1) cap) (ks.length + 1) ((ks.map fun s => .string (bs s)) ++ [.string (bs s)]) :=
    own_off (O := fun k => k = B) hown (off_set (O := fun k => k = B) (off_refl _ _) (p := ⟨B, 0, none⟩) (.inl rfl) _) (fun k hk e => n4 (e ▸ hk))
  have n5 := row_map hown2 hm2
  have hown3 := hown2.kept hg3 (kept_or (fun k hk => by cases hk; exact n5))
  have hgl : g < W3.heap.size := (hown3.lt g rfl).2
  refine ⟨hoff3, .inl h1, ?_, ?_, ?_, .slice (some ⟨g, 0, none⟩) (ks.length + 1) cap, some mb, ?_, ?_, ?_, .inr ⟨mb, D.put (.string s) (.lit (.int .i64 ks.length)), rfl, ?_, ?_, ?_⟩⟩
  · rintro k (hk | hk)
    · have := h2 k hk; have := hoff3.size; omega
    · exact hk.2
  · rw [List.nodup_append]
    exact ⟨h3, by simp, fun a ha b hb e => hnew (by simp at hb; rw [← hb, ← e]; exact ha)⟩
  · intro x hx
    rcases List.mem_append.1 hx with hx | hx
    · exact h4 x hx
    · simp at hx; rw [hx]; exact hs
  · exact (hg3.block B (by have := lt_of_some hB2; exact this) (fun e => by cases e; exact n2 rfl)).trans hB2
  · simpa using hown3
  · intro k hk
    simp only [Value.ownBlock, Option.some.injEq] at hk
    subst hk
    rcases hgv with h | h
    · exact .inl (hsv _ h)
    · exact .inr ⟨by have := hoW.size; omega, hgl⟩
  · rcases hmb with h | h
    · exact .inl h
    · exact .inr ⟨h, hm3.lt⟩
  · simpa using hm3
  · intro x
    by_cases hx : x = s
    · subst hx
      have hkl : WideAt.IsKeyLit (.string x) := trivial
      rw [has_put_same hm.isMap hkl, atKey_put_same hm.isMap hkl]
      simp [posB, List.idxOf_append, hnew]
    · have hne : (Lit.string x) ≠ .string s := by simpa using hx
      rw [has_put_other hne, atKey_put_other hne, (hD x).1, (hD x).2]
      refine ⟨by simp [hx], ?_⟩
      unfold posB
      by_cases hk : x ∈ ks
      · simp [hk, List.idxOf_append]
      · simp [hk, hx]

set_option maxHeartbeats 4000000 in
set_option maxRecDepth 100000 in
theorem enter_made (B : Nat) (O : Nat → Prop) (ks : List (List UInt8)) (s : List UInt8) (hs : s.length ≤ maxLen) (hnew : s ∉ ks) (hn : ks.length < 1048576) (w : World)
    (hI : O B ∧ (∀ k, O k → k < w.heap.size) ∧ ks.Nodup ∧ ∀ s ∈ ks, s.length ≤ maxLen) (sv : Value) (mb : Nat) (D : DataW Unit)
    (hB : w.heap[B]? = some (.cells #[sv, .map (some mb)] 97 (0, 0))) (hr : w.ownsRow 0 9 1 sv ks.length (ks.map fun s => .string (bs s))) (hsv : ∀ k, sv.ownBlock = some k → O k)
    (hmb : O mb) (hm : w.ownsMap (H := Unit) Tryd.prog 9 (plainElem Tryd.prog 3) mb ks.length D)
    (hD : ∀ s, Maps.has D (.string s) = decide (s ∈ ks) ∧ D.atKey (.string s) (.lit (.int .i64 0)) = .lit (.int .i64 (posB ks s))) :
    Calls Tryd.prog 44 #[.pointer (some ⟨B, 0, none⟩), .string (bs s)] w fun e w' => e = .returned (.int .i64 ks.length) ∧ Off O w w' ∧ Idx w' B (fun k => O k ∨ w.heap.size ≤ k ∧ k < w'.heap.size) (ks ++ [s]) := by
  obtain ⟨i0, hi, hz0, hz1, hz2⟩ := info_parts hstr
  have hlt := lt_of_some hB
  have c0 := cell_block hB 0 _ rfl
  have c1 := cell_block hB 1 _ rfl
  have f0 := frozen_block hB 0
  have f1 := frozen_block hB 1
  have qm : ∀ (w : World) (r : Option Nat), (binOp .eql 95 (.map r) (.map none)).run Tryd.prog w = .ok (.bool r.isNone) w := fun w r => run_eql_map_nil w _ _ _ r Tryd.underlying95
  have qk := fun w : World => run_makeMap (P := Tryd.prog) 95 w
  have Hg := hide (fun W1 W3 g cap => idx_grow (w := w) (W := w) (W1 := W1) (W3 := W3) (g := g) (cap := cap) (mb := mb) (sv := sv) (o := .cells #[.string (bs s)] 9) hI hs hnew (off_refl _ _) hB hr hsv (.inl hmb) hm hD)
  have Ho := hide (hr : World.ownsRow (w) 0 9 1 sv ks.length (ks.map fun s => .string (bs s)))
  obtain ⟨va, vc, rfl⟩ := own_form hr
  have Hk := hide (keyS s hs)
  clear hB hr hsv hI hm hD hmb
  have hn' : (ks.length : Int) < 1048576 := by omega
  go_enter Tryd.func44, Tryd.ntmps44
  go_wp2_with (at_builtin; refine wpList_append_lies _ rfl _ _ 94 rfl 0 9 i0 (.string ⟨#[]⟩) 1 16 Tryd.underlying94 hi hz0 hz1 hz2 rfl (by decide) _ ks.length (ks.map fun s => .string (bs s)) rfl ((unhide Ho).alloc _) ⟨w.heap.size, 0, none⟩ 1 1 [.string (bs s)] rfl rfl ?c1 ?c2 (by decide) ?c3 ?c4 (Nat.zero_le _) (w.heap.size + 1) ?c5 ?_)
  case c1 =>
    have h := World.news_of_block (MapKept.heap_alloc (w) (.cells #[.string (bs s)] 9)).1
    simpa using h
  case c2 => simp [Value.oneCell']
  case c3 => unfold maxLen; omega
  case c4 => omega
  case c5 => simp
  intro g cap W1 hown hgr hgv hgl
  obtain ⟨⟨⟨d0, e0⟩, d1, hm2⟩, -⟩ := unhide Hg W1 W1 g cap hown hgr (by simpa using hgv)
  have Hm2 := hide hm2
  have Hown := hide hown; have Hgr := hide hgr
  clear hown hgr hm2 c0 c1 f0 f1
  go_wp2_with (at_mapUpdate; refine wpList_mapUpdate_own _ rfl _ _ _ 95 rfl 9 3 law9 Tryd.underlying95 _ _ ks.length _ rfl (unhide Hm2) ?d1 _ _ (.string s) rfl rfl (unhide Hk) (.lit (.int .i64 ks.length)) [] ?d2 ?_)
  case d1 => unfold maxLen; omega
  case d2 => exact plainElem_int Tryd.underlying3 (WalkArith.wf_i64 (by omega))
  intro W3 hm3 hg3
  have h := (unhide Hg W1 W3 g cap (unhide Hown) (unhide Hgr) (by simpa using hgv)).2 hm3 hg3
  have Hh := hide h
  clear h hm3 hg3
  go_wp2
  go_ret
  exact ⟨rfl, unhide Hh⟩

set_option maxHeartbeats 4000000 in
set_option maxRecDepth 100000 in
theorem enter_nil (B : Nat) (O : Nat → Prop) (ks : List (List UInt8)) (s : List UInt8) (hs : s.length ≤ maxLen) (hnew : s ∉ ks) (hn : ks.length < 1048576) (w : World)
    (hI : O B ∧ (∀ k, O k → k < w.heap.size) ∧ ks.Nodup ∧ ∀ s ∈ ks, s.length ≤ maxLen) (sv : Value) (hks : ks = [])
    (hB : w.heap[B]? = some (.cells #[sv, .map none] 97 (0, 0))) (hr : w.ownsRow 0 9 1 sv ks.length (ks.map fun s => .string (bs s))) (hsv : ∀ k, sv.ownBlock = some k → O k) :
    Calls Tryd.prog 44 #[.pointer (some ⟨B, 0, none⟩), .string (bs s)] w fun e w' => e = .returned (.int .i64 ks.length) ∧ Off O w w' ∧ Idx w' B (fun k => O k ∨ w.heap.size ≤ k ∧ k < w'.heap.size) (ks ++ [s]) := by
  obtain ⟨i0, hi, hz0, hz1, hz2⟩ := info_parts hstr
  have hlt := lt_of_some hB
  have c0 := cell_block hB 0 _ rfl
  have c1 := cell_block hB 1 _ rfl
  have f0 := frozen_block hB 0
  have f1 := frozen_block hB 1
  have qm : ∀ (w : World) (r : Option Nat), (binOp .eql 95 (.map r) (.map none)).run Tryd.prog w = .ok (.bool r.isNone) w := fun w r => run_eql_map_nil w _ _ _ r Tryd.underlying95
  have qk := fun w : World => run_makeMap (P := Tryd.prog) 95 w
  have hB' : ((w.setCell ⟨B, 1, none⟩ (.map (some w.heap.size))).alloc (.map #[] 0)).heap[B]? = some (.cells #[sv, .map (some w.heap.size)] 97 (0, 0)) := by
    have hs1 : (w.setCell ⟨B, 1, none⟩ (.map (some w.heap.size))).heap.size = w.heap.size := by simp
    exact (Below.heap_alloc _ _ B (by omega)).trans (block_set (i := 1) hB (.map (some w.heap.size)))
  have hr' : World.ownsRow ((w.setCell ⟨B, 1, none⟩ (.map (some w.heap.size))).alloc (.map #[] 0)) 0 9 1 sv ks.length (ks.map fun s => .string (bs s)) := by
    have n1 := row_not hB hr (by decide)
    exact (own_off (O := fun k => k = B) hr (off_set (O := fun k => k = B) (off_refl _ _) (p := ⟨B, 1, none⟩) (.inl rfl) _) (fun k hk e => n1 (e ▸ hk))).alloc _
  have hm' : World.ownsMap (H := Unit) ((w.setCell ⟨B, 1, none⟩ (.map (some w.heap.size))).alloc (.map #[] 0)) Tryd.prog 9 (plainElem Tryd.prog 3) w.heap.size ks.length (.map []) := by
    have h := World.ownsMap_made (H := Unit) (w.setCell ⟨B, 1, none⟩ (.map (some w.heap.size))) Tryd.prog 9 (plainElem Tryd.prog 3)
    have hs1 : (w.setCell ⟨B, 1, none⟩ (.map (some w.heap.size))).heap.size = w.heap.size := by simp
    rw [hs1] at h
    exact h.mono (Nat.zero_le _)
  have hD' : ∀ s, Maps.has (.map [] : DataW Unit) (.string s) = decide (s ∈ ks) ∧ (DataW.map [] : DataW Unit).atKey (.string s) (.lit (.int .i64 0)) = .lit (.int .i64 (posB ks s)) := fun x => by
    subst hks; exact ⟨rfl, rfl⟩
  have Hg := hide (fun W1 W3 g cap => idx_grow (w := w) (W := (w.setCell ⟨B, 1, none⟩ (.map (some w.heap.size))).alloc (.map #[] 0)) (W1 := W1) (W3 := W3) (g := g) (cap := cap) (mb := w.heap.size) (sv := sv) (o := .cells #[.string (bs s)] 9) hI hs hnew (off_alloc (off_set (off_refl _ _) (p := ⟨B, 1, none⟩) (.inl hI.1) _) _) hB' hr' hsv (.inr (Nat.le_refl _)) hm' hD' )
  have Ho := hide (hr' : World.ownsRow ((w.setCell ⟨B, 1, none⟩ (.map (some w.heap.size))).alloc (.map #[] 0)) 0 9 1 sv ks.length (ks.map fun s => .string (bs s)))
  obtain ⟨va, vc, rfl⟩ := own_form hr
  have Hk := hide (keyS s hs)
  clear hB hr hsv hI hB' hr' hm' hD' hks
  have hn' : (ks.length : Int) < 1048576 := by omega
  go_enter Tryd.func44, Tryd.ntmps44
  go_wp2_with (at_builtin; refine wpList_append_lies _ rfl _ _ 94 rfl 0 9 i0 (.string ⟨#[]⟩) 1 16 Tryd.underlying94 hi hz0 hz1 hz2 rfl (by decide) _ ks.length (ks.map fun s => .string (bs s)) rfl ((unhide Ho).alloc _) ⟨w.heap.size + 1, 0, none⟩ 1 1 [.string (bs s)] rfl rfl ?c1 ?c2 (by decide) ?c3 ?c4 (Nat.zero_le _) (w.heap.size + 1 + 1) ?c5 ?_)
  case c1 =>
    have h := World.news_of_block (MapKept.heap_alloc ((w.setCell ⟨B, 1, none⟩ (.map (some w.heap.size))).alloc (.map #[] 0)) (.cells #[.string (bs s)] 9)).1
    simpa using h
  case c2 => simp [Value.oneCell']
  case c3 => unfold maxLen; omega
  case c4 => omega
  case c5 => simp
  intro g cap W1 hown hgr hgv hgl
  obtain ⟨⟨⟨d0, e0⟩, d1, hm2⟩, -⟩ := unhide Hg W1 W1 g cap hown hgr (by simpa using hgv)
  have Hm2 := hide hm2
  have Hown := hide hown; have Hgr := hide hgr
  clear hown hgr hm2 c0 c1 f0 f1
  go_wp2_with (at_mapUpdate; refine wpList_mapUpdate_own _ rfl _ _ _ 95 rfl 9 3 law9 Tryd.underlying95 _ _ ks.length _ rfl (unhide Hm2) ?d1 _ _ (.string s) rfl rfl (unhide Hk) (.lit (.int .i64 ks.length)) [] ?d2 ?_)
  case d1 => unfold maxLen; omega
  case d2 => exact plainElem_int Tryd.underlying3 (WalkArith.wf_i64 (by omega))
  intro W3 hm3 hg3
  have h := (unhide Hg W1 W3 g cap (unhide Hown) (unhide Hgr) (by simpa using hgv)).2 hm3 hg3
  have Hh := hide h
  clear h hm3 hg3
  go_wp2
  go_ret
  exact ⟨rfl, unhide Hh⟩

theorem enter_any (B : Nat) (O : Nat → Prop) (ks : List (List UInt8)) (s : List UInt8) (hs : s.length ≤ maxLen) (hnew : s ∉ ks) (hn : ks.length < 1048576) (w : World) (h : Idx w B O ks) :
    Calls Tryd.prog 44 #[.pointer (some ⟨B, 0, none⟩), .string (bs s)] w fun e w' => e = .returned (.int .i64 ks.length) ∧ Off O w w' ∧ Idx w' B (fun k => O k ∨ w.heap.size ≤ k ∧ k < w'.heap.size) (ks ++ [s]) := by
  obtain ⟨h1, h2, h3, h4, sv, mo, hB, hr, hsv, hm⟩ := h
  rcases hm with ⟨rfl, hk⟩ | ⟨mb, D, rfl, hO, hmap, hD⟩
  · exact enter_nil B O ks s hs hnew hn w ⟨h1, h2, h3, h4⟩ sv hk hB hr hsv
  · exact enter_made B O ks s hs hnew hn w ⟨h1, h2, h3, h4⟩ sv mb D hB hr hsv hO hmap hD

theorem idx_mono {w : World} {B : Nat} {O O' : Nat → Prop} {ks : List (List UInt8)} (h : Idx w B O ks) (hO : ∀ k, O k → O' k) (hl : ∀ k, O' k → k < w.heap.size) : Idx w B O' ks := by
  obtain ⟨h1, h2, h3, h4, sv, mo, hB, hr, hs, hm⟩ := h
  refine ⟨hO _ h1, hl, h3, h4, sv, mo, hB, hr, fun k hk => hO k (hs k hk), ?_⟩
  rcases hm with h0 | ⟨mb, D, rfl, ho, r⟩
  · exact .inl h0
  · exact .inr ⟨mb, D, rfl, hO _ ho, r⟩
set_option maxHeartbeats 4000000 in
set_option maxRecDepth 100000 in
theorem at_old (B : Nat) (O : Nat → Prop) (ks : List (List UInt8)) (s : List UInt8) (hs : s.length ≤ maxLen) (hold : s ∈ ks) (w : World) (h : Idx w B O ks) :
    Calls Tryd.prog 25 #[.pointer (some ⟨B, 0, none⟩), .string (bs s)] w fun e w' => e = .returned (.tuple #[.int .i64 (posB ks s), .bool false, .int .i64 0]) ∧ Below w.heap.size w w' := by
  have HL := hide (look_any B O ks s hs w h)
  rw [show decide (s ∈ ks) = true by simpa using hold] at HL
  clear h hold
  generalize posB ks s = x at *
  go_enter Tryd.func25, Tryd.ntmps25
  go_wp2_with (go_at_call 43; refine (unhide HL).mono ?_; rintro e w' ⟨rfl, hb⟩)
  go_ret3
  exact ⟨rfl, hb⟩

set_option maxHeartbeats 4000000 in
set_option maxRecDepth 100000 in
theorem at_new (B : Nat) (O : Nat → Prop) (ks : List (List UInt8)) (s : List UInt8) (hs : s.length ≤ maxLen) (hnew : s ∉ ks) (hn : ks.length < 1048576) (w : World) (h : Idx w B O ks) :
    Calls Tryd.prog 25 #[.pointer (some ⟨B, 0, none⟩), .string (bs s)] w fun e w' => e = .returned (.tuple #[.int .i64 ks.length, .bool true, .int .i64 0]) ∧ Off O w w' ∧ Idx w' B (fun k => O k ∨ w.heap.size ≤ k ∧ k < w'.heap.size) (ks ++ [s]) := by
  have HL := hide (look_any B O ks s hs w h)
  rw [show decide (s ∈ ks) = false by simpa using hnew, show posB ks s = 0 by simp [posB, hnew]] at HL
  have HE := hide (fun w' hb => enter_any B O ks s hs hnew hn w' (idx_below h hb))
  have HC : Hid (∀ w', Below w.heap.size w w' → ∃ a c, w'.cell? ⟨B, 0, none⟩ = some (.slice a ks.length c)) := hide (fun w' hb => by
    obtain ⟨sv, mo, hB, hr, -⟩ := (idx_below h hb).lies
    obtain ⟨a, c, rfl⟩ := own_form hr
    exact ⟨a, c, cell_block hB 0 _ rfl⟩)
  have HO := hide h.lt
  have hq : ((ks.length : Int) == 1048576) = false := by simp; omega
  clear h hnew
  go_enter Tryd.func25, Tryd.ntmps25
  go_wp2_with (go_at_call 43; refine (unhide HL).mono ?_; rintro e w' ⟨rfl, hb⟩; obtain ⟨a, c, hc0⟩ := unhide HC w' hb)
  refine (unhide HE w' hb).mono ?_
  rintro e w'' ⟨rfl, ho, hx⟩
  have Hb := hide hb; have Ho := hide ho; have Hx := hide hx
  clear hb ho hx hc0
  go_wp2
  go_ret3
  have hs1 := (unhide Hb).size; have hs2 := (unhide Ho).size
  refine ⟨rfl, off_t (off_below (unhide Hb)) (unhide Ho), idx_mono (unhide Hx) ?_ ?_⟩
  · rintro k (h | h)
    · exact .inl h
    · exact .inr ⟨by omega, h.2⟩
  · rintro k (h | h)
    · have := unhide HO k h; omega
    · exact h.2
end Go.Proofs.YtdpphjedjhjdgaaDoor

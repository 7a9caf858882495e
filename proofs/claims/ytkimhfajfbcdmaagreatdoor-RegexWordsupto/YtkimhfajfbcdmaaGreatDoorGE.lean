/- Pools: what has a number, written out. -/
import Derived.Test.YtkimhfajfbcdmaaGreatDoorQG
import Derived.Deep.Cut
import Derived.Deep.CutRange
namespace Go.Proofs.YtkimhfajfbcdmaaGreatDoor
open Go.RowKit Go.Maps

variable {av : Nat → Prop}

/-- The box of what is written out, with its set. -/
def TreeCut (w W1 wx : World) (kind : Int) (set : List Rg) (p : Value) : Prop := ∃ rb b c, p = .pointer (some ⟨rb, 0, none⟩) ∧ w.heap.size ≤ rb ∧ wx.heap[rb]? = some (.cells #[.int .i64 kind, .slice b set.length c, .slice none 0 0] 26 (0, 0)) ∧ wx.ownsRow w.heap.size 45 2 (.slice b set.length c) set.length (flatR set) ∧ Below W1.heap.size W1 wx
theorem ownsRow_le {w : World} {B B' : Nat} {e : TypeId} {s n : Nat} {v : Value} {xs : List Value} (h : w.ownsRow B e s v n xs) (hb : B' ≤ B) : w.ownsRow B' e s v n xs := by
  refine ⟨h.1, ?_⟩
  rcases h.2 with h0 | ⟨g, cap, cur, hv, hg, rest⟩
  · exact .inl h0
  · exact .inr ⟨g, cap, cur, hv, Nat.le_trans hb hg, rest⟩
theorem treeCut_new {w W1 w9 : World} {kind : Int} {set : List Rg} {b : Option Addr} {c : Nat} (hw : w.heap.size ≤ W1.heap.size) (hb : Below W1.heap.size W1 w9) (ho : w9.ownsRow W1.heap.size 45 2 (.slice b set.length c) set.length (flatR set)) :
    TreeCut w W1 (w9.alloc (.cells #[.int .i64 kind, .slice b set.length c, .slice none 0 0] 26)) kind set (.pointer (some ⟨w9.heap.size, 0, none⟩)) :=
  ⟨w9.heap.size, b, c, rfl, Nat.le_trans hw hb.size, (MapKept.heap_alloc w9 _).1, ownsRow_le (ho.alloc _) hw, hb.alloc hb.size _⟩
theorem treeCut_old {w W1 w9 : World} {kind : Int} {set : List Rg} {b : Option Addr} {c : Nat} {o : Obj} (hw : w.heap.size ≤ W1.heap.size) (hb : Below (W1.alloc o).heap.size (W1.alloc o) w9) (ho : w9.ownsRow (W1.alloc o).heap.size 45 2 (.slice b set.length c) set.length (flatR set)) (hx : w9.heap[W1.heap.size]? = some (.cells #[.int .i64 0, .slice none 0 0, .slice none 0 0] 26 (0, 0))) :
    TreeCut w W1 (((w9.setCell ⟨W1.heap.size, 0, none⟩ (.int .i64 kind)).setCell ⟨W1.heap.size, 1, none⟩ (.slice b set.length c)).setCell ⟨W1.heap.size, 2, none⟩ (.slice none 0 0)) kind set (.pointer (some ⟨W1.heap.size, 0, none⟩)) := by
  have hs : (W1.alloc o).heap.size = W1.heap.size + 1 := World.size_alloc _ _
  have hb1 : Below W1.heap.size W1 w9 := ((Below.refl _ _).alloc (Nat.le_refl _) o).trans (below_le hb (by omega))
  have hb2 : Below W1.heap.size w9 (((w9.setCell ⟨W1.heap.size, 0, none⟩ (.int .i64 kind)).setCell ⟨W1.heap.size, 1, none⟩ (.slice b set.length c)).setCell ⟨W1.heap.size, 2, none⟩ (.slice none 0 0)) := (((Below.refl _ w9).setCell (p := ⟨W1.heap.size, 0, none⟩) (Nat.le_refl _) _).setCell (p := ⟨W1.heap.size, 1, none⟩) (Nat.le_refl _) _).setCell (p := ⟨W1.heap.size, 2, none⟩) (Nat.le_refl _) _
  have ho2 : Off (fun k => k = W1.heap.size) w9 (((w9.setCell ⟨W1.heap.size, 0, none⟩ (.int .i64 kind)).setCell ⟨W1.heap.size, 1, none⟩ (.slice b set.length c)).setCell ⟨W1.heap.size, 2, none⟩ (.slice none 0 0)) := off_set (O := fun k => k = W1.heap.size) (off_set (O := fun k => k = W1.heap.size) (off_set (O := fun k => k = W1.heap.size) (off_refl _ _) (p := ⟨W1.heap.size, 0, none⟩) (.inl rfl) _) (p := ⟨W1.heap.size, 1, none⟩) (.inl rfl) _) (p := ⟨W1.heap.size, 2, none⟩) (.inl rfl) _
  exact ⟨W1.heap.size, b, c, rfl, hw, block_set (i := 2) (block_set (i := 1) (block_set (i := 0) hx _) _) _, ownsRow_le (own_off ho ho2 (fun k hk e => by have := (row_lt ho hk).1; omega)) (by omega), hb1.trans hb2⟩
/-- 'wpAnyH_take' with the slot that is written told outright. -/
theorem take_dst {P : Program} {md : Region.Mode} {ops : Array Oper} {Q : Exit → Act → World → Prop} {S : World → Prop} {i : Nat} {oi : Oper} {v : Value} {dst : Option Nat} {fuel : Nat} {listed : Array Bool} {a : Act} {w : World} (hi : ops[i]? = some oi) (hd : oi.dst = dst)
    (hs : Region.noSelect ops = true) (hf : Region.free md ops listed i = true) (hr : (Region.ready md ops listed).contains i = true)
    (hQ : ∀ c a w, Q (.panic c) (a.put dst v) w → Q (.panic c) a w) (hy : YieldsIf P ops S oi v a) (hS : S w)
    (h : wpAnyH P md ops Q S fuel (listed.setIfInBounds i true) (a.put dst v) w) : wpAnyH P md ops Q S (fuel + 1) listed a w := by
  subst hd; exact wpAnyH_take hi hs hf hr hQ hy hS h
theorem set3_cell {w9 : World} {g : Nat} {u0 u1 u2 v : Value} {p : Addr} (hn : p.block ≠ g) (h : w9.cell? p = some v) : (((w9.setCell ⟨g, 0, none⟩ u0).setCell ⟨g, 1, none⟩ u1).setCell ⟨g, 2, none⟩ u2).cell? p = some v := by
  rw [World.cell?_of_block (Below.heap_setCell _ ⟨g, 2, none⟩ u2 p.block (fun e => hn (by simpa using e))), World.cell?_of_block (Below.heap_setCell _ ⟨g, 1, none⟩ u1 p.block (fun e => hn (by simpa using e))), World.cell?_of_block (Below.heap_setCell _ ⟨g, 0, none⟩ u0 p.block (fun e => hn (by simpa using e)))]
  exact h
/-- Written out so far: the box, the row of the kids, each in its own memory. -/
structure TSt (w w2 wr : World) (rb : Nat) (kind : Int) (set : List Rg) (b : Option Addr) (c : Nat) (ts : List Rx) (ka : Option Addr) (kc : Nat) (vs : List Value) : Prop where
  off : Off (fun k => k = rb) w2 wr
  rb1 : w.heap.size ≤ rb
  rb2 : rb < w2.heap.size
  ww : w.heap.size ≤ w2.heap.size
  box : wr.heap[rb]? = some (.cells #[.int .i64 kind, .slice b set.length c, .slice ka ts.length kc] 26 (0, 0))
  row : wr.ownsRow w2.heap.size 26 3 (.slice ka ts.length kc) ts.length vs
  rxs : RxTs (fun k => w.heap.size ≤ k ∧ k ≠ rb ∧ (Value.slice ka ts.length kc).ownBlock ≠ some k) wr ts vs
  set : wr.ownsRow w.heap.size 45 2 (.slice b set.length c) set.length (flatR set)
theorem tst_step {w w2 wr W9 W10 : World} {rb : Nat} {kind : Int} {set : List Rg} {b : Option Addr} {c : Nat} {ts : List Rx} {ka : Option Addr} {kc : Nat} {vs : List Value} {t : Rx} {v0 v1 v2 : Value} {g cap : Nat} {o : Obj}
    (h : TSt w w2 wr rb kind set b c ts ka kc vs) (hb : Below wr.heap.size wr W9) (hrx : RxAt (fun k => wr.heap.size ≤ k) W9 t v0 v1 v2)
    (hown : W10.ownsRow w2.heap.size 26 3 (.slice (some ⟨g, 0, none⟩) (ts.length + 1) cap) (ts.length + 1) (vs ++ [v0, v1, v2])) (hg : (W9.alloc o).grownBy W10 (Value.slice ka ts.length kc).ownBlock) (hgv : (Value.slice ka ts.length kc).ownBlock = some g ∨ g = W9.heap.size + 1) :
    (W10.cell? ⟨rb, 2, none⟩ = some (.slice ka ts.length kc) ∧ W10.frozen? ⟨rb, 2, none⟩ = false) ∧ TSt w w2 (W10.setCell ⟨rb, 2, none⟩ (.slice (some ⟨g, 0, none⟩) (ts.length + 1) cap)) rb kind set b c (ts ++ [t]) (some ⟨g, 0, none⟩) cap (vs ++ [v0, v1, v2]) := by
  have hsz := h.off.size
  have hrb := h.rb2
  have hrn : ∀ k, (Value.slice ka ts.length kc).ownBlock = some k → w2.heap.size ≤ k ∧ k < wr.heap.size := fun k hk => row_lt h.row hk
  have hblk : ∀ k, k < wr.heap.size → (Value.slice ka ts.length kc).ownBlock ≠ some k → W10.heap[k]? = wr.heap[k]? := fun k hk hn => (hg.block k (by have := hb.size; simp; omega) (fun e => hn e.symm)).trans ((Below.heap_alloc W9 o k (by have := hb.size; omega)).trans (hb.block k hk))
  have hblk9 : ∀ k, k < W9.heap.size → (Value.slice ka ts.length kc).ownBlock ≠ some k → W10.heap[k]? = W9.heap[k]? := fun k hk hn => (hg.block k (by simp; omega) (fun e => hn e.symm)).trans (Below.heap_alloc W9 o k hk)
  have hne : (Value.slice ka ts.length kc).ownBlock ≠ some rb := fun e => by have := (hrn rb e).1; omega
  have hbox : W10.heap[rb]? = _ := (hblk rb (by omega) hne).trans h.box
  have h9 := hb.size
  have h10 : W9.heap.size + 1 ≤ W10.heap.size := by have := hg.size; simpa using this
  have hgr : g ≠ rb := by
    rcases hgv with e | e
    · exact fun e2 => hne (by rw [e, e2])
    · omega
  have hl : (ts ++ [t]).length = ts.length + 1 := by simp
  refine ⟨⟨cell_block hbox 2 _ rfl, frozen_block hbox 2⟩, ?_, h.rb1, h.rb2, h.ww, ?_, ?_, ?_, ?_⟩
  · have h1 : Off (fun k => k = rb) w2 W10 := ⟨hg.os.trans (hb.os.trans h.off.os), hg.tape.trans (hb.tape.trans h.off.tape), hg.output.trans (hb.output.trans h.off.output), by omega, fun k hk hn => (hblk k (by omega) (fun e => by have := (hrn k e).1; omega)).trans (h.off.block k hk hn)⟩
    exact off_set (O := fun k => k = rb) h1 (p := ⟨rb, 2, none⟩) (.inl rfl) _
  · rw [hl]; exact block_set (i := 2) hbox _
  · rw [hl]
    exact own_off (O := fun k => k = rb) hown (off_set (O := fun k => k = rb) (off_refl _ _) (p := ⟨rb, 2, none⟩) (.inl rfl) _) (fun k hk e => by simp only [Value.ownBlock, Option.some.injEq] at hk; omega)
  · have hset : ∀ k, k ≠ rb → (W10.setCell ⟨rb, 2, none⟩ (.slice (some ⟨g, 0, none⟩) (ts.length + 1) cap)).heap[k]? = W10.heap[k]? := fun k hk => Below.heap_setCell W10 ⟨rb, 2, none⟩ _ k (fun e => hk (by simpa using e))
    have hss : (W10.setCell ⟨rb, 2, none⟩ (.slice (some ⟨g, 0, none⟩) (ts.length + 1) cap)).heap.size = W10.heap.size := by simp
    refine rxTs_append ts [t] vs [v0, v1, v2] ?_ ?_
    · refine rxTs_kept (by omega) (fun k hk hlt => (hset k hk.2.1).trans (hblk k hlt hk.2.2)) (fun k hk hlt => ⟨hk.1, hk.2.1, ?_⟩) ts vs h.rxs
      simp only [Value.ownBlock, ne_eq, Option.some.injEq]
      rintro rfl
      rcases hgv with e | e
      · exact hk.2.2 e
      · omega
    · unfold RxTs
      refine ⟨v0, v1, v2, [], rfl, ?_, by unfold RxTs; rfl⟩
      refine rxAt_kept (by omega) (fun k hk hlt => (hset k (by omega)).trans (hblk9 k hlt (fun e => by have := (hrn k e).2; omega))) (fun k hk hlt => ⟨by have := h.ww; omega, by omega, ?_⟩) t v0 v1 v2 hrx
      simp only [Value.ownBlock, ne_eq, Option.some.injEq]
      rintro rfl
      rcases hgv with e | e
      · have := (hrn g e).2; omega
      · omega
  · have h1 : W10.ownsRow w.heap.size 45 2 (.slice b set.length c) set.length (flatR set) := by
      refine ⟨h.set.1, ?_⟩
      rcases h.set.2 with h0 | ⟨g2, cap2, cur2, hv, hgg, hh, rest⟩
      · exact .inl h0
      · refine .inr ⟨g2, cap2, cur2, hv, hgg, (hblk g2 (lt_of_some hh) (fun e => ?_)).trans hh, rest⟩
        exact row_not hh h.row (by decide) e
    exact own_off (O := fun k => k = rb) h1 (off_set (O := fun k => k = rb) (off_refl _ _) (p := ⟨rb, 2, none⟩) (.inl rfl) _) (fun k hk e => row_not hbox h1 (by decide) (e ▸ hk))
theorem hregex : (Tryz.prog.info? 26).map (fun i => (i.zero, i.size, i.bytes)) = some (some (.agg #[.int .i64 0, .slice none 0 0, .slice none 0 0]), 3, 56) := by kernel_rfl
set_option maxHeartbeats 4000000 in
set_option maxRecDepth 100000 in
theorem tree_step (B pb mb sb : Nat) (L : List Ab) (ov : Value) (e : Int) (sn : Nat) (DS : DataW Unit) (h2 : 2 ≤ L.length) (hL : L.length ≤ 1500000000000) (x : Nat) (hx : x < L.length)
    (ih : ∀ y, y < x → ∀ w, Pool av w B pb mb sb L ov e sn DS → (∀ k, av k → k < w.heap.size) → Calls Tryz.prog 28 #[.pointer (some ⟨pb, 0, none⟩), .int .i64 y] w fun e' w' => ∃ v0 v1 v2, e' = .returned (.agg #[v0, v1, v2]) ∧ RxAt (fun k => w.heap.size ≤ k) w' (treeA L y) v0 v1 v2 ∧ Below w.heap.size w w')
    (w : World) (hP : Pool av w B pb mb sb L ov e sn DS) (hav : ∀ k, av k → k < w.heap.size) :
    Calls Tryz.prog 28 #[.pointer (some ⟨pb, 0, none⟩), .int .i64 x] w fun e' w' => ∃ v0 v1 v2, e' = .returned (.agg #[v0, v1, v2]) ∧ RxAt (fun k => w.heap.size ≤ k) w' (treeA L x) v0 v1 v2 ∧ Below w.heap.size w w' := by
  have hb0 : Below w.heap.size w (w.alloc (.cells #[.int .i64 0, .slice none 0 0, .slice none 0 0] 26)) := (Below.refl _ _).alloc (Nat.le_refl _) _
  have hP0 := pool_below hP hb0
  obtain ⟨g, nc, p0, hn⟩ := pool_node hP0
  obtain ⟨d, hd, hN⟩ := hn x hx
  have hxi : (x : Int) < L.length := by omega
  have r0 := hN.c0
  have r1 := hN.c1
  have r2 := hN.c2
  have r3 := hN.c3
  have r4 := hN.c4
  have r5 := hN.c5
  have HI := hide ih; have HP := hide hP; have HN := hide hN
  clear ih hP hN hn
  go_enter Tryz.func28, Tryz.ntmps28
  go_wp2_with fail
  have hN2 := unhide HN
  have hsl : d.set.length * 8 ≤ 140737488355328 := by
    have hm : L.getD x ab0 ∈ L := by rw [List.getD_eq_getElem?_getD, List.getElem?_eq_getElem hx]; exact List.getElem_mem _
    have := (hP0.wf.short _ hm).1
    rw [← hd] at this
    have h3 : d.ab.set = d.set := rfl
    rw [h3] at this
    omega
  have hW1 : Below (w.alloc (.cells #[.int .i64 0, .slice none 0 0, .slice none 0 0] 26)).heap.size (w.alloc (.cells #[.int .i64 0, .slice none 0 0, .slice none 0 0] 26)) ((w.alloc (.cells #[.int .i64 0, .slice none 0 0, .slice none 0 0] 26)).alloc (.cells #[.int .i64 d.kind, .slice d.sa d.set.length d.sc, .slice d.ka d.kids.length d.kc, .int .i64 d.parts, .int .i64 d.levels, .bool d.nul] 65)) := (Below.refl _ _).alloc (Nat.le_refl _) _
  have hbn := (MapKept.heap_alloc (w.alloc (.cells #[.int .i64 0, .slice none 0 0, .slice none 0 0] 26)) (.cells #[.int .i64 d.kind, .slice d.sa d.set.length d.sc, .slice d.ka d.kids.length d.kc, .int .i64 d.parts, .int .i64 d.levels, .bool d.nul] 65)).1
  have hsz : (w.alloc (.cells #[.int .i64 0, .slice none 0 0, .slice none 0 0] 26)).heap.size = w.heap.size + 1 := World.size_alloc _ _
  have hsz1 : ((w.alloc (.cells #[.int .i64 0, .slice none 0 0, .slice none 0 0] 26)).alloc (.cells #[.int .i64 d.kind, .slice d.sa d.set.length d.sc, .slice d.ka d.kids.length d.kc, .int .i64 d.parts, .int .i64 d.levels, .bool d.nul] 65)).heap.size = w.heap.size + 1 + 1 := by simp
  rw [hsz] at hbn
  have hb1 : Below w.heap.size w ((w.alloc (.cells #[.int .i64 0, .slice none 0 0, .slice none 0 0] 26)).alloc (.cells #[.int .i64 d.kind, .slice d.sa d.set.length d.sc, .slice d.ka d.kids.length d.kc, .int .i64 d.parts, .int .i64 d.levels, .bool d.nul] 65)) := hb0.trans (below_le hW1 (by omega))
  have hsr1 := rrow_fr (hN2.sr) hN2.sh (fr_below hW1)
  have hsh1 := held_fr hN2.sh (fr_below hW1)
  have hres : ((w.alloc (.cells #[.int .i64 0, .slice none 0 0, .slice none 0 0] 26)).alloc (.cells #[.int .i64 d.kind, .slice d.sa d.set.length d.sc, .slice d.ka d.kids.length d.kc, .int .i64 d.parts, .int .i64 d.levels, .bool d.nul] 65)).heap[w.heap.size]? = some (.cells #[.int .i64 0, .slice none 0 0, .slice none 0 0] 26 (0, 0)) := (Below.heap_alloc _ _ _ (by simp)).trans (MapKept.heap_alloc w _).1
  generalize (w.alloc (.cells #[.int .i64 0, .slice none 0 0, .slice none 0 0] 26)).alloc (.cells #[.int .i64 d.kind, .slice d.sa d.set.length d.sc, .slice d.ka d.kids.length d.kc, .int .i64 d.parts, .int .i64 d.levels, .bool d.nul] 65) = W1 at *
  have HC := hide (fun w' (hb : Below W1.heap.size W1 w') => clone_any d.sa d.sc d.set hsl w' (rrow_fr hsr1 hsh1 (fr_below hb)))
  have n0 := cell_block hbn 0 _ rfl
  have n1 := cell_block hbn 1 _ rfl
  have hlt1 : w.heap.size + 1 < W1.heap.size := by omega
  have hba : (W1.alloc (.cells #[.int .i64 0, .slice none 0 0, .slice none 0 0] 26)).heap[w.heap.size + 1]? = _ := (Below.heap_alloc W1 _ _ hlt1).trans hbn
  have n0a := cell_block hba 0 _ rfl
  have n1a := cell_block hba 1 _ rfl
  have Hba := hide hba
  clear hba
  have Hsz1 := hide hsz1; have Hb1 := hide hb1; have Hbn := hide hbn; have Hres := hide hres
  clear hres
  clear r0 r1 r2 r3 r4 r5 p0 hN2 hP0 HN hb0 hW1 hsr1 hsh1 hsz hsz1 hb1 hbn
  go_cut [6] from 16 to 21 (fun p wx => TreeCut W1 W1 wx d.kind d.set p)
  case first =>
    go_region_held3 (fun w' : World => w'.cell? ⟨w.heap.size + 1, 0, none⟩ = some (.int .i64 d.kind) ∧ w'.cell? ⟨w.heap.size + 1, 1, none⟩ = some (.slice d.sa d.set.length d.sc))
      (first | exact ⟨n0, n1⟩ | exact ⟨n0a, n1a⟩ | exact ⟨m0, m1⟩ | exact ⟨m0a, m1a⟩ | exact ⟨set3_cell (p := ⟨w.heap.size + 1, 0, none⟩) (by simp only; omega) m0, set3_cell (p := ⟨w.heap.size + 1, 1, none⟩) (by simp only; omega) m1⟩ | exact ⟨(World.cell?_alloc_lt _ _ _ (lt_of_some hn9)).trans m0, (World.cell?_alloc_lt _ _ _ (lt_of_some hn9)).trans m1⟩ | go_keep)
      ((go_at_call 46; refine (unhide HC _ (by first | exact (Below.refl _ _).drew | exact ((Below.refl _ _).alloc (Nat.le_refl _) _).drew)).mono ?_; rintro e9 w9 ⟨b9, c9, rfl, hown9, hb9⟩; have hn9 : w9.heap[w.heap.size + 1]? = _ := (hb9.block _ (by first | exact hlt1 | (simp; omega))).trans (by first | exact unhide Hbn | exact unhide Hba); have m0 := cell_block hn9 0 _ rfl; have m1 := cell_block hn9 1 _ rfl; have m0a : (w9.alloc (.cells #[.int .i64 0, .slice none 0 0, .slice none 0 0] 26)).cell? ⟨w.heap.size + 1, 0, none⟩ = some (.int .i64 d.kind) := cell_block ((Below.heap_alloc w9 _ _ (lt_of_some hn9)).trans hn9) 0 _ rfl; have m1a : (w9.alloc (.cells #[.int .i64 0, .slice none 0 0, .slice none 0 0] 26)).cell? ⟨w.heap.size + 1, 1, none⟩ = some (.slice d.sa d.set.length d.sc) := cell_block ((Below.heap_alloc w9 _ _ (lt_of_some hn9)).trans hn9) 1 _ rfl; first | (have hx9 : w9.heap[W1.heap.size]? = some (.cells #[.int .i64 0, .slice none 0 0, .slice none 0 0] 26 (0, 0)) := (hb9.block _ (by simp)).trans (MapKept.heap_alloc W1 _).1; have z0 := cell_block hx9 0 _ rfl; have z1 := cell_block hx9 1 _ rfl; have z2 := cell_block hx9 2 _ rfl; have y0 := frozen_block hx9 0; have y1 := frozen_block hx9 1; have y2 := frozen_block hx9 2) | skip))
    all_goals
      go_wp2_with fail
      go_meet
      case rel => first | exact treeCut_old (Nat.le_refl _) ⟨hb9.os, hb9.tape, hb9.output, hb9.size, hb9.block⟩ hown9 hx9 | exact treeCut_new (Nat.le_refl _) ⟨hb9.os, hb9.tape, hb9.output, hb9.size, hb9.block⟩ hown9
  case rest =>
    obtain ⟨rb, b, c, rfl, hrb, hbox, hset, hbc⟩ := hcut
    have hsz := unhide Hsz1
    have hbw : Below w.heap.size w wc := (unhide Hb1).trans (below_le hbc (by omega))
    have hPc := pool_below (unhide HP) hbw
    have hBw : B ≤ w.heap.size := by
      obtain ⟨v0, v2, hpb⟩ := pool_pb (unhide HP)
      have := lt_of_some hpb
      have := (unhide HP).bp
      omega
    have HK := hide (kids_any wc B pb mb sb L ov e sn DS hPc x hx h2 hL (fun k ha => Nat.lt_of_lt_of_le (hav k ha) hbw.size))
    have Hbox := hide hbox; have Hset := hide hset; have Hbw := hide hbw; have Hbc := hide hbc; have Hwf := hide hPc.wf
    clear hbox hset hbc hbw hPc HC n0 n1 n0a n1a hsz
    go_wp2_with fail
    refine (unhide HK).mono ?_
    rintro e2 w2 ⟨ka, kc, rfl, hkr, hkh, hb2⟩
    have hbx2 : w2.heap[rb]? = _ := (hb2.block _ (lt_of_some (unhide Hbox))).trans (unhide Hbox)
    have hT0 : TSt W1 w2 w2 rb d.kind d.set b c [] none 0 [] := ⟨off_refl _ _, hrb, lt_of_some hbx2, by have := (unhide Hbc).size; have := hb2.size; omega, hbx2, World.ownsRow_nil _ _ _ _, by unfold RxTs; rfl, own_off (O := fun _ => False) (unhide Hset) (off_below hb2) (fun _ _ h => h)⟩
    have hbw2 : Below w.heap.size w w2 := (unhide Hbw).trans (below_le hb2 (unhide Hbw).size)
    have hw12 : Below W1.heap.size W1 w2 := (unhide Hbc).trans (below_le hb2 (unhide Hbc).size)
    have Hkr := hide hkr; have Hkh := hide hkh; have HT0 := hide hT0; have Hbx2 := hide hbx2; have Hbw2 := hide hbw2; have Hw12 := hide hw12
    clear hw12
    have hlt2 : W1.heap.size ≤ w2.heap.size := hT0.ww
    have hlkk := kidsA_lt (unhide Hwf) h2 hx
    have hte := treeA_eq (unhide Hwf) h2 hx
    clear hkr hkh hb2 HK hT0 hbx2 hbw2 Hbox Hset
    have hlen : (kidsA L x).length ≤ 1500000000001 := by
      unfold kidsA
      have hm : L.getD x ab0 ∈ L := by rw [List.getD_eq_getElem?_getD, List.getElem?_eq_getElem hx]; exact List.getElem_mem _
      split
      · have := rowA_len (unhide Hwf) h2 _ (x : Int) (Nat.le_refl _) (by omega) (by omega)
        have h3 : rowM (x : Int) ≤ 1500000000001 := by unfold rowM; split <;> omega
        omega
      · have := ((unhide Hwf).short _ hm).2
        omega
    generalize kidsA L x = KK at *
    rw [← hd] at hte
    have Hte := hide hte; have Hlkk := hide hlkk
    clear hte hlkk hd
    go_wp2
    go_loopw [26] (fun iv wr => ∃ (i : Nat) (ka' : Option Addr) (kc' : Nat) (vs : List Value), iv = .int .i64 i ∧ i ≤ KK.length ∧ TSt W1 w2 wr rb d.kind d.set b c ((KK.take i).map fun k => treeA L k.toNat) ka' kc' vs) (fun iv _ => KK.length - (intOf iv).toNat)
    case atStart => exact ⟨0, none, 0, [], rfl, Nat.zero_le _, unhide HT0⟩
    case round =>
      obtain ⟨i, ka1, kc1, vs, rfl, hi, hst⟩ := hrel
      clear HT0
      by_cases hlt : i < KK.length
      · have hlt' : (i : Int) < KK.length := by omega
        rcases unhide Hkr with h | ⟨gk, off, rfl, hgl, hc⟩
        · rw [h] at hlt; simp at hlt
        have hgk : gk ≠ rb := fun e => by
          rcases ((unhide Hkh) _ rfl).2.1 with h | ⟨cs, t, f, h, ht⟩
          · have : gk < B := h
            have h1 := unhide Hsz1
            omega
          · have h' : w2.heap[gk]? = some (.cells cs t f) := h
            rw [e, unhide Hbx2] at h'
            simp only [Option.some.injEq, Obj.cells.injEq] at h'
            rcases ht with rfl | rfl <;> exact absurd h'.2.1 (by decide)
        have c0 := (off_cell hst.off (p := ⟨gk, off + i, none⟩) hgl hgk).trans (hc i hlt)
        have hyk := unhide Hlkk (KK.getD i 0) (by rw [List.getD_eq_getElem?_getD, List.getElem?_eq_getElem hlt]; exact List.getElem_mem _)
        have HTk : Hid (KK.take (i + 1) = KK.take i ++ [KK.getD i 0]) := hide (by rw [List.take_add_one, List.getElem?_eq_getElem hlt, List.getD_eq_getElem?_getD, List.getElem?_eq_getElem hlt]; rfl)
        clear hc
        generalize KK.getD i 0 = y at *
        obtain ⟨q, rfl⟩ := Int.eq_ofNat_of_zero_le hyk.1
        rw [Int.toNat_natCast] at hyk
        have hts : ((KK.take i).map fun k => treeA L k.toNat).length = i := by simp; omega
        have HT1 : Hid ((KK.take (i + 1)).map (fun k => treeA L k.toNat) = (KK.take i).map (fun k => treeA L k.toNat) ++ [treeA L q]) := hide (by rw [unhide HTk, List.map_append]; rfl)
        generalize (KK.take i).map (fun k => treeA L k.toNat) = ts at *
        subst hts
        have hbr : Below w.heap.size w wr := (unhide Hbw2).trans (off_to hst.off (fun k hk => by have h1 := unhide Hsz1; omega) (unhide Hbw2).size)
        have HI1 := hide (fun w' (hb : Below wr.heap.size wr w') => unhide HI q hyk.2 w' (pool_below (unhide HP) (hbr.trans (below_le hb hbr.size))) (fun k ha => Nat.lt_of_lt_of_le (hav k ha) (Nat.le_trans hbr.size hb.size)))
        have b2 := cell_block hst.box 2 _ rfl
        have Hst := hide hst
        clear hst hbr HTk
        obtain ⟨i0, hi0, hz0, hz1, hz2⟩ := info_parts hregex
        have HR9 : Hid (∀ (W9 : World) (v0 v1 v2 : Value) (Q : Nat → Prop), Below wr.heap.size wr W9 → RxAt Q W9 (treeA L q) v0 v1 v2 → (W9.ownsRow w2.heap.size 26 3 (.slice ka1 ts.length kc1) ts.length vs ∧ W9.cell? ⟨rb, 2, none⟩ = some (.slice ka1 ts.length kc1) ∧ (∀ u ∈ [v0, v1, v2], u.oneCell' = true) ∧ (∀ j u, [v0, v1, v2][j]? = some u → (W9.alloc (.cells #[v0, v1, v2] 26)).cell? ((⟨W9.heap.size, 0, none⟩ : Addr).add j) = some u) ∧ w2.heap.size ≤ W9.heap.size + 1)) := hide (fun W9 v0 v1 v2 Q hb hrx => ⟨own_off (O := fun _ => False) (unhide Hst).row (off_below hb) (fun _ _ h => h), (hb.cell (p := ⟨rb, 2, none⟩) (lt_of_some (unhide Hst).box)).trans b2, by have := rxAt_one hrx; simp [this], World.news_of_block (MapKept.heap_alloc W9 (.cells #[v0, v1, v2] 26)).1, by have := (unhide Hst).off.size; have := hb.size; omega⟩)
        go_wp2
        refine wp_region_held_drew (S := fun _ => True) (by kernel_rfl) (trivial) (fun hHeld => ?_)
        refine take_dst (i := 0) (dst := some 30) (v := ?_) rfl rfl (by kernel_rfl) (by kernel_rfl) (by kernel_rfl) (fun _ _ _ h => h) (Or.inl ⟨by rfl, ?_⟩) hHeld ?_
        rotate_left
        · intro w hSw; go_simp; try (with_reducible rfl)
        simp only [Act.put, List.setIfInBounds_toArray, List.set_cons_zero, List.set_cons_succ]
        refine take_dst (i := 2) (dst := some 32) (v := ?_) rfl rfl (by kernel_rfl) (by kernel_rfl) (by kernel_rfl) (fun _ _ _ h => h) (Or.inl ⟨by rfl, ?_⟩) hHeld ?_
        rotate_left
        · intro w hSw; go_simp; try (with_reducible rfl)
        simp only [Act.put, List.setIfInBounds_toArray, List.set_cons_zero, List.set_cons_succ]
        refine take_dst (i := 3) (dst := some 33) (v := ?_) rfl rfl (by kernel_rfl) (by kernel_rfl) (by kernel_rfl) (fun _ _ _ h => h) (Or.inl ⟨by rfl, ?_⟩) hHeld ?_
        rotate_left
        · intro w hSw; go_simp; try (with_reducible rfl)
        simp only [Act.put, List.setIfInBounds_toArray, List.set_cons_zero, List.set_cons_succ]
        refine wpAnyH_ready (rs := [1, 4]) (by kernel_rfl) (by simp) ?_
        refine AllReadyH.cons rfl (fun K hK => ?_) (AllReadyH.cons rfl (fun K hK => ?_) AllReadyH.nil)
        · go_simp
          refine hK.out _ _ trivial (fun hHeld => ?_)
          clear hK K
          refine wpAnyH_ready (rs := [4]) (by kernel_rfl) (by simp) ?_
          refine AllReadyH.cons rfl (fun K hK => ?_) AllReadyH.nil
          go_simp
          refine (unhide HI1 _ (by first | exact Below.refl _ _ | exact (Below.refl _ _).drew)).mono ?_
          rintro e9 W9 ⟨v0, v1, v2, rfl, hrx9, hb9⟩
          obtain ⟨hr9, b2', hone9, hcc9, hle9⟩ := unhide HR9 W9 v0 v1 v2 _ ⟨hb9.os, hb9.tape, hb9.output, hb9.size, hb9.block⟩ hrx9
          have b2x : (W9.alloc (.cells #[v0, v1, v2] 26)).cell? ⟨rb, 2, none⟩ = some (.slice ka1 ts.length kc1) := (World.cell?_alloc_lt _ _ _ (World.block_lt_of_cell? W9 _ b2')).trans b2'
          go_wp2_with fail
          refine hK.out _ _ trivial (fun hHeld => ?_)
          clear hK K
          refine wpAnyH_ready (rs := [5]) (by kernel_rfl) (by simp) ?_
          refine AllReadyH.cons rfl (fun K hK => ?_) AllReadyH.nil
          go_simp
          refine hK.out _ _ trivial (fun hHeld => ?_)
          clear hK K
          refine wpAnyH_ready (rs := [6]) (by kernel_rfl) (by simp) ?_
          refine AllReadyH.cons rfl (fun K hK => ?_) AllReadyH.nil
          refine step_append_lies _ rfl (.tmp 31) (.tmp 35) 24 rfl w2.heap.size 26 i0 _ 3 56 Tryz.underlying24 hi0 hz0 hz1 hz2 rfl (by decide) (.slice ka1 ts.length kc1) ts.length vs (by simp [Act.eval]) (hr9.alloc _) ⟨W9.heap.size, 0, none⟩ 1 1 [v0, v1, v2] (by simp [Act.eval]) rfl hcc9 hone9 (by decide) (by unfold maxLen; omega) (by omega) (by simp; omega) (W9.heap.size + 1) (by simp) ?_
          intro g7 cap7 W7 hown7 hgr7 hgv7 hgl7
          obtain ⟨⟨d2, f2⟩, htst⟩ := tst_step (t := treeA L q) (unhide Hst) ⟨hb9.os, hb9.tape, hb9.output, hb9.size, hb9.block⟩ hrx9 hown7 (o := .cells #[v0, v1, v2] 26) ⟨hgr7.os, hgr7.tape, hgr7.output, hgr7.size, hgr7.block⟩ hgv7
          have Htst := hide htst
          clear htst hgr7 hgl7 hr9 hone9 hcc9
          refine hK.out _ _ trivial (fun hHeld => ?_)
          clear hK K
          refine take_dst (i := 7) (dst := some 37) (v := ?_) rfl rfl (by kernel_rfl) (by kernel_rfl) (by kernel_rfl) (fun _ _ _ h => h) (Or.inl ⟨by rfl, ?_⟩) hHeld ?_
          rotate_left
          · intro w hSw; go_simp; try (with_reducible rfl)
          simp only [Act.put, List.setIfInBounds_toArray]
          refine wpAnyH_ready (rs := [8]) (by kernel_rfl) (by simp) ?_
          refine AllReadyH.cons rfl (fun K hK => ?_) AllReadyH.nil
          go_simp
          refine hK.out _ _ trivial (fun hHeld => ?_)
          clear hK K
          refine wpAnyH_done (by kernel_rfl) ?_ _
          go_wp2
          go_roundw
          case rel => exact ⟨ts.length + 1, some ⟨g7, 0, none⟩, cap7, vs ++ [v0, v1, v2], by go_num, by omega, by rw [unhide HT1]; exact unhide Htst⟩
          case measure => simp [intOf]; omega
        · go_simp
          refine (unhide HI1 _ (by first | exact Below.refl _ _ | exact (Below.refl _ _).drew)).mono ?_
          rintro e9 W9 ⟨v0, v1, v2, rfl, hrx9, hb9⟩
          obtain ⟨hr9, b2', hone9, hcc9, hle9⟩ := unhide HR9 W9 v0 v1 v2 _ ⟨hb9.os, hb9.tape, hb9.output, hb9.size, hb9.block⟩ hrx9
          have b2x : (W9.alloc (.cells #[v0, v1, v2] 26)).cell? ⟨rb, 2, none⟩ = some (.slice ka1 ts.length kc1) := (World.cell?_alloc_lt _ _ _ (World.block_lt_of_cell? W9 _ b2')).trans b2'
          go_wp2_with fail
          refine hK.out _ _ trivial (fun hHeld => ?_)
          clear hK K
          refine wpAnyH_ready (rs := [1, 5]) (by kernel_rfl) (by simp) ?_
          refine AllReadyH.cons rfl (fun K hK => ?_) (AllReadyH.cons rfl (fun K hK => ?_) AllReadyH.nil)
          · go_simp
            refine hK.out _ _ trivial (fun hHeld => ?_)
            clear hK K
            refine wpAnyH_ready (rs := [5]) (by kernel_rfl) (by simp) ?_
            refine AllReadyH.cons rfl (fun K hK => ?_) AllReadyH.nil
            go_simp
            refine hK.out _ _ trivial (fun hHeld => ?_)
            clear hK K
            refine wpAnyH_ready (rs := [6]) (by kernel_rfl) (by simp) ?_
            refine AllReadyH.cons rfl (fun K hK => ?_) AllReadyH.nil
            refine step_append_lies _ rfl (.tmp 31) (.tmp 35) 24 rfl w2.heap.size 26 i0 _ 3 56 Tryz.underlying24 hi0 hz0 hz1 hz2 rfl (by decide) (.slice ka1 ts.length kc1) ts.length vs (by simp [Act.eval]) (hr9.alloc _) ⟨W9.heap.size, 0, none⟩ 1 1 [v0, v1, v2] (by simp [Act.eval]) rfl hcc9 hone9 (by decide) (by unfold maxLen; omega) (by omega) (by simp; omega) (W9.heap.size + 1) (by simp) ?_
            intro g7 cap7 W7 hown7 hgr7 hgv7 hgl7
            obtain ⟨⟨d2, f2⟩, htst⟩ := tst_step (t := treeA L q) (unhide Hst) ⟨hb9.os, hb9.tape, hb9.output, hb9.size, hb9.block⟩ hrx9 hown7 (o := .cells #[v0, v1, v2] 26) ⟨hgr7.os, hgr7.tape, hgr7.output, hgr7.size, hgr7.block⟩ hgv7
            have Htst := hide htst
            clear htst hgr7 hgl7 hr9 hone9 hcc9
            refine hK.out _ _ trivial (fun hHeld => ?_)
            clear hK K
            refine take_dst (i := 7) (dst := some 37) (v := ?_) rfl rfl (by kernel_rfl) (by kernel_rfl) (by kernel_rfl) (fun _ _ _ h => h) (Or.inl ⟨by rfl, ?_⟩) hHeld ?_
            rotate_left
            · intro w hSw; go_simp; try (with_reducible rfl)
            simp only [Act.put, List.setIfInBounds_toArray]
            refine wpAnyH_ready (rs := [8]) (by kernel_rfl) (by simp) ?_
            refine AllReadyH.cons rfl (fun K hK => ?_) AllReadyH.nil
            go_simp
            refine hK.out _ _ trivial (fun hHeld => ?_)
            clear hK K
            refine wpAnyH_done (by kernel_rfl) ?_ _
            go_wp2
            go_roundw
            case rel => exact ⟨ts.length + 1, some ⟨g7, 0, none⟩, cap7, vs ++ [v0, v1, v2], by go_num, by omega, by rw [unhide HT1]; exact unhide Htst⟩
            case measure => simp [intOf]; omega
          · go_simp
            refine hK.out _ _ trivial (fun hHeld => ?_)
            clear hK K
            refine wpAnyH_ready (rs := [1]) (by kernel_rfl) (by simp) ?_
            refine AllReadyH.cons rfl (fun K hK => ?_) AllReadyH.nil
            go_simp
            refine hK.out _ _ trivial (fun hHeld => ?_)
            clear hK K
            refine wpAnyH_ready (rs := [6]) (by kernel_rfl) (by simp) ?_
            refine AllReadyH.cons rfl (fun K hK => ?_) AllReadyH.nil
            refine step_append_lies _ rfl (.tmp 31) (.tmp 35) 24 rfl w2.heap.size 26 i0 _ 3 56 Tryz.underlying24 hi0 hz0 hz1 hz2 rfl (by decide) (.slice ka1 ts.length kc1) ts.length vs (by simp [Act.eval]) (hr9.alloc _) ⟨W9.heap.size, 0, none⟩ 1 1 [v0, v1, v2] (by simp [Act.eval]) rfl hcc9 hone9 (by decide) (by unfold maxLen; omega) (by omega) (by simp; omega) (W9.heap.size + 1) (by simp) ?_
            intro g7 cap7 W7 hown7 hgr7 hgv7 hgl7
            obtain ⟨⟨d2, f2⟩, htst⟩ := tst_step (t := treeA L q) (unhide Hst) ⟨hb9.os, hb9.tape, hb9.output, hb9.size, hb9.block⟩ hrx9 hown7 (o := .cells #[v0, v1, v2] 26) ⟨hgr7.os, hgr7.tape, hgr7.output, hgr7.size, hgr7.block⟩ hgv7
            have Htst := hide htst
            clear htst hgr7 hgl7 hr9 hone9 hcc9
            refine hK.out _ _ trivial (fun hHeld => ?_)
            clear hK K
            refine take_dst (i := 7) (dst := some 37) (v := ?_) rfl rfl (by kernel_rfl) (by kernel_rfl) (by kernel_rfl) (fun _ _ _ h => h) (Or.inl ⟨by rfl, ?_⟩) hHeld ?_
            rotate_left
            · intro w hSw; go_simp; try (with_reducible rfl)
            simp only [Act.put, List.setIfInBounds_toArray]
            refine wpAnyH_ready (rs := [8]) (by kernel_rfl) (by simp) ?_
            refine AllReadyH.cons rfl (fun K hK => ?_) AllReadyH.nil
            go_simp
            refine hK.out _ _ trivial (fun hHeld => ?_)
            clear hK K
            refine wpAnyH_done (by kernel_rfl) ?_ _
            go_wp2
            go_roundw
            case rel => exact ⟨ts.length + 1, some ⟨g7, 0, none⟩, cap7, vs ++ [v0, v1, v2], by go_num, by omega, by rw [unhide HT1]; exact unhide Htst⟩
            case measure => simp [intOf]; omega
      · obtain rfl : i = KK.length := by omega
        have hlt' : ¬ ((KK.length : Int) < KK.length) := by omega
        rw [List.take_length] at hst
        have hts : (KK.map fun k => treeA L k.toNat).length = KK.length := by simp
        have hrr : wr.heap[w.heap.size]? = some (.cells #[.int .i64 0, .slice none 0 0, .slice none 0 0] 26 (0, 0)) := by
          have h1 := unhide Hsz1
          have hr2 : w2.heap[w.heap.size]? = _ := ((unhide Hw12).block _ (by omega)).trans (unhide Hres)
          exact (hst.off.block _ (lt_of_some hr2) (by omega)).trans hr2
        have q0 := cell_block hst.box 0 _ rfl
        have q1 := cell_block hst.box 1 _ rfl
        have q2 := cell_block hst.box 2 _ rfl
        have s0 := cell_block hrr 0 _ rfl
        have s1 := cell_block hrr 1 _ rfl
        have s2 := cell_block hrr 2 _ rfl
        have f0 := frozen_block hrr 0
        have f1 := frozen_block hrr 1
        have f2 := frozen_block hrr 2
        have hbr : Below w.heap.size w wr := (unhide Hbw2).trans (off_to hst.off (fun k hk => by have h1 := unhide Hsz1; omega) (unhide Hbw2).size)
        have Hfin : Hid (∀ W : World, wr.heap.size ≤ W.heap.size → (∀ k, k ≠ w.heap.size → k < wr.heap.size → W.heap[k]? = wr.heap[k]?) → RxAt (fun k => w.heap.size ≤ k) W (treeA L x) (.int .i64 d.kind) (.slice b d.set.length c) (.slice ka1 KK.length kc1)) := hide (fun W hs hk => by
          have h1 := unhide Hsz1
          rw [unhide Hte]
          unfold RxAt
          refine ⟨rfl, ⟨b, c, rfl, ?_⟩, ka1, kc1, vs, by rw [hts], ?_, ?_⟩
          · obtain ⟨hr, hq⟩ := rrow_own hst.set
            rcases hr with h | ⟨gs, off, rfl, hlt, hcs⟩
            · exact ⟨.inl h, .inl h⟩
            · have hgs := hq _ rfl
              have hb := hk gs (by have : W1.heap.size ≤ gs := hgs.1; omega) hlt
              exact ⟨.inr ⟨gs, off, rfl, by omega, fun j hj => ⟨(World.cell?_of_block (a := ⟨gs, off + j * 2, none⟩) hb).trans (hcs j hj).1, (World.cell?_of_block (a := ⟨gs, off + j * 2 + 1, none⟩) hb).trans (hcs j hj).2⟩⟩, .inr (fun x hx => by cases hx; have : W1.heap.size ≤ gs := hgs.1; simp only; omega)⟩
          · exact rxTs_kept hs (fun k hq hlt => hk k (by omega) hlt) (fun k hq _ => by omega) _ _ hst.rxs
          · by_cases h0 : KK = []
            · left; rw [h0]; rfl
            · right
              have hp : 0 < (KK.map fun k => treeA L k.toNat).length := by rw [hts]; exact List.length_pos_iff.2 h0
              obtain ⟨gr, cr, hv, hgb, hgl, -⟩ := own_pos hst.row hp
              simp only [Value.slice.injEq] at hv
              have hv1 : ka1 = some ⟨gr, 0, none⟩ := hv.1
              have hww := hst.ww
              refine ⟨gr, 0, hv1, by omega, by omega, fun j u hj => ?_⟩
              have hb := hk gr (by omega) hgl
              rw [World.cell?_of_block (a := ⟨gr, 0 + j, none⟩) hb, Nat.zero_add, own_cell (g := gr) (c := kc1) hst.row (by rw [hv1]) j (List.getElem?_eq_some_iff.1 hj).1, List.getD_eq_getElem?_getD, hj]
              rfl)
        rw [hts] at q2
        have Hbr := hide hbr
        have Hrr := hide hrr
        clear hst hbr hrr hts
        go_wp2
        have hg3 : ((((wr.setCell ⟨w.heap.size, 0, none⟩ (.int .i64 d.kind)).setCell ⟨w.heap.size, 1, none⟩ (.slice b d.set.length c)).setCell ⟨w.heap.size, 2, none⟩ (.slice ka1 KK.length kc1))).heap[w.heap.size]? = some (.cells #[.int .i64 d.kind, .slice b d.set.length c, .slice ka1 KK.length kc1] 26 (0, 0)) := block_set (i := 2) (block_set (i := 1) (block_set (i := 0) (unhide Hrr) _) _) _
        have t0 := cell_block hg3 0 _ rfl
        have t1 := cell_block hg3 1 _ rfl
        have t2 := cell_block hg3 2 _ rfl
        refine bodyPost_ret (v := .agg #[.int .i64 d.kind, .slice b d.set.length c, .slice ka1 KK.length kc1]) (by simp [results, Tryz.results28, go_sem, t0, t1, t2]) rfl ?_
        refine ⟨_, _, _, rfl, unhide Hfin _ (by simp) (fun k hk hlt => ?_), ((((unhide Hbr).setCell (p := ⟨w.heap.size, 0, none⟩) (Nat.le_refl _) _).setCell (p := ⟨w.heap.size, 1, none⟩) (Nat.le_refl _) _).setCell (p := ⟨w.heap.size, 2, none⟩) (Nat.le_refl _) _)⟩
        rw [Below.heap_setCell _ _ _ k (fun e => hk (by simpa using e)), Below.heap_setCell _ _ _ k (fun e => hk (by simpa using e)), Below.heap_setCell _ _ _ k (fun e => hk (by simpa using e))]
theorem tree_any (B pb mb sb : Nat) (L : List Ab) (ov : Value) (e : Int) (sn : Nat) (DS : DataW Unit) (h2 : 2 ≤ L.length) (hL : L.length ≤ 1500000000000) (x : Nat) : x < L.length → ∀ w, Pool av w B pb mb sb L ov e sn DS → (∀ k, av k → k < w.heap.size) →
    Calls Tryz.prog 28 #[.pointer (some ⟨pb, 0, none⟩), .int .i64 x] w fun e' w' => ∃ v0 v1 v2, e' = .returned (.agg #[v0, v1, v2]) ∧ RxAt (fun k => w.heap.size ≤ k) w' (treeA L x) v0 v1 v2 ∧ Below w.heap.size w w' := by
  induction x using Nat.strongRecOn with
  | _ x ih => exact fun hx w hP hav => tree_step B pb mb sb L ov e sn DS h2 hL x hx (fun y hy w hP hav => ih y hy (by omega) w hP hav) w hP hav
end Go.Proofs.YtkimhfajfbcdmaaGreatDoor

/- The document's Word. (and what it leads to) -/
import Derived.Test.YtkimhfajfbcdmaaGreatDoorQX
import Derived.Test.YtkimhfajfbcdmaaGreatDoorJY
import Derived.Test.YtkimhfajfbcdmaaGreatDoorQU
/- The document's Word. -/
namespace Go.Proofs.YtkimhfajfbcdmaaGreatDoor
open Go.RowKit Go.Maps

/-- A row of expressions of one's own. -/
structure WdSt (B : Nat) (w wr : World) (ka : Option Addr) (kc : Nat) (ts : List Rx) (vs : List Value) : Prop where
  row : wr.ownsRow B 26 3 (.slice ka ts.length kc) ts.length vs
  bel : Below B w wr
  rxs : RxTs (fun k => B ≤ k ∧ (Value.slice ka ts.length kc).ownBlock ≠ some k) wr ts vs
theorem wd_step {B : Nat} {w wr W9 W10 : World} {ka : Option Addr} {kc : Nat} {ts : List Rx} {vs : List Value} {t : Rx} {v0 v1 v2 : Value} {g cap : Nat} {o : Obj}
    (h : WdSt B w wr ka kc ts vs) (hB : B ≤ wr.heap.size) (hb : Below wr.heap.size wr W9) (hrx : RxAt (fun k => wr.heap.size ≤ k) W9 t v0 v1 v2)
    (hown : W10.ownsRow B 26 3 (.slice (some ⟨g, 0, none⟩) (ts.length + 1) cap) (ts.length + 1) (vs ++ [v0, v1, v2])) (hg : (W9.alloc o).grownBy W10 (Value.slice ka ts.length kc).ownBlock) (hgv : (Value.slice ka ts.length kc).ownBlock = some g ∨ g = W9.heap.size + 1) :
    WdSt B w W10 (some ⟨g, 0, none⟩) cap (ts ++ [t]) (vs ++ [v0, v1, v2]) := by
  have hrn : ∀ k, (Value.slice ka ts.length kc).ownBlock = some k → B ≤ k ∧ k < wr.heap.size := fun k hk => row_lt h.row hk
  have h9 := hb.size
  have h10 : W9.heap.size + 1 ≤ W10.heap.size := by have := hg.size; simpa using this
  have hblk9 : ∀ k, k < W9.heap.size → (Value.slice ka ts.length kc).ownBlock ≠ some k → W10.heap[k]? = W9.heap[k]? := fun k hk hn => (hg.block k (by simp; omega) (fun e => hn e.symm)).trans (Below.heap_alloc W9 o k hk)
  have hblk : ∀ k, k < wr.heap.size → (Value.slice ka ts.length kc).ownBlock ≠ some k → W10.heap[k]? = wr.heap[k]? := fun k hk hn => (hblk9 k (by omega) hn).trans (hb.block k hk)
  have hl : (ts ++ [t]).length = ts.length + 1 := by simp
  have hbel : Below B w W10 := by
    refine h.bel.trans ⟨hg.os.trans hb.os, hg.tape.trans hb.tape, hg.output.trans hb.output, by omega, fun k hk => ?_⟩
    refine hblk k (by omega) (fun e => ?_)
    have := (hrn k e).1; omega
  refine ⟨by rw [hl]; exact hown, hbel, ?_⟩
  rw [hl]
  refine rxTs_append ts [t] vs [v0, v1, v2] ?_ ?_
  · refine rxTs_kept (by omega) (fun k hk hlt => hblk k hlt hk.2) (fun k hk hlt => ⟨hk.1, ?_⟩) ts vs h.rxs
    simp only [Value.ownBlock, ne_eq, Option.some.injEq]
    rintro rfl
    rcases hgv with e | e
    · exact hk.2 e
    · omega
  · unfold RxTs
    refine ⟨v0, v1, v2, [], rfl, ?_, by unfold RxTs; rfl⟩
    refine rxAt_kept (by omega) (fun k hk hlt => hblk9 k hlt (fun e => by have := (hrn k e).2; omega)) (fun k hk hlt => ⟨by omega, ?_⟩) t v0 v1 v2 hrx
    simp only [Value.ownBlock, ne_eq, Option.some.injEq]
    rintro rfl
    rcases hgv with e | e
    · have := (hrn g e).2; omega
    · omega
/-- A box that is not the expression's is written. -/
theorem rxAt_box3 {w : World} {b : Nat} {t : Rx} {v0 v1 v2 u0 u1 u2 : Value} (h : RxAt (fun k => b + 1 ≤ k) w t v0 v1 v2) : RxAt (fun k => b ≤ k) (((w.setCell ⟨b, 0, none⟩ u0).setCell ⟨b, 1, none⟩ u1).setCell ⟨b, 2, none⟩ u2) t v0 v1 v2 :=
  rxAt_kept (Q := fun k => b + 1 ≤ k) (by simp) (fun k hk _ => by
    rw [Below.heap_setCell _ ⟨b, 2, none⟩ u2 k (fun e => by simp only at e; omega), Below.heap_setCell _ ⟨b, 1, none⟩ u1 k (fun e => by simp only at e; omega), Below.heap_setCell _ ⟨b, 0, none⟩ u0 k (fun e => by simp only at e; omega)]) (fun k hk _ => by omega) _ _ _ _ h
def oneT (c : Int) : Rx := .mk 2 [(c, c)] []
theorem catX_doc (row : List Int) : catX (row.map oneT) = docT row := by
  match row with
  | [] => rfl
  | [c] => rfl
  | c :: d :: cs => rfl
/-- The document's fault of a row. -/
def docE (row : List Int) : Int := if row.all isC = true then (if 2047 < row.length then 41 else 0) else 1
theorem partsTs_ones (row : List Int) : partsTs (row.map oneT) = 2 * row.length := by
  induction row with
  | nil => rfl
  | cons c cs ih => rw [List.map_cons, partsTs, ih, List.length_cons]; simp [oneT, partsT, partsTs]; omega
theorem nestTs_ones (row : List Int) : nestTs (row.map oneT) ≤ 1 := by
  induction row with
  | nil => exact Nat.zero_le _
  | cons c cs ih => rw [List.map_cons, nestTs]; simp only [oneT, nestT, nestTs] at ih ⊢; omega
theorem lim_doc (row : List Int) : limV (docT row) = (if 2047 < row.length then 41 else 0) ∧ partsT (docT row) ≤ 1 + 2 * row.length := by
  match row with
  | [] => exact ⟨by decide, by decide⟩
  | [c] => exact ⟨by simp [docT, limV, partsT, partsTs, nestT, nestTs], by simp [docT, partsT, partsTs]⟩
  | c :: d :: cs =>
    have h1 : partsT (docT (c :: d :: cs)) = 1 + 2 * (c :: d :: cs).length := by
      rw [docT_more (by simp), show (fun c => Rx.mk 2 [(c, c)] []) = oneT from rfl, partsT, partsTs_ones]; rfl
    have h2 : nestT (docT (c :: d :: cs)) ≤ 2 := by
      rw [docT_more (by simp), show (fun c => Rx.mk 2 [(c, c)] []) = oneT from rfl, nestT]
      have := nestTs_ones (c :: d :: cs); omega
    refine ⟨?_, by omega⟩
    unfold limV
    by_cases h : 2047 < (c :: d :: cs).length
    · rw [if_pos (by omega), if_pos h]
    · rw [if_neg (by omega), if_neg (by omega), if_neg h]
theorem not_allD {row : List Int} {j : Nat} (hj : j < row.length) (h : isC (row.getD j 0) = false) : docE row = 1 := by
  have : ¬ row.all isC = true := by
    intro hc
    rw [List.getD_eq_getElem?_getD, List.getElem?_eq_getElem hj] at h
    have := List.all_eq_true.1 hc _ (List.getElem_mem hj)
    simp only [Option.getD_some] at h
    rw [h] at this; cases this
  rw [docE, if_neg this]
set_option maxHeartbeats 2000000 in
set_option maxRecDepth 100000 in
theorem refWord_any (W : World) (a : Option Addr) (cap : Nat) (row : List Int) (hl : row.length ≤ 1048576) (hrow : IRow W a row) :
    Calls Tryz.prog 7 #[.slice a row.length cap] W (TreePost W (docE row) (docT row)) := by
  have hb0 : Below W.heap.size W (W.alloc (.cells #[.int .i64 0, .slice none 0 0, .slice none 0 0] 26)) := (Below.refl _ _).alloc (Nat.le_refl _) _
  have hbx : (W.alloc (.cells #[.int .i64 0, .slice none 0 0, .slice none 0 0] 26)).heap[W.heap.size]? = some (.cells #[.int .i64 0, .slice none 0 0, .slice none 0 0] 26 (0, 0)) := heap_new W _
  have hs0 : (W.alloc (.cells #[.int .i64 0, .slice none 0 0, .slice none 0 0] 26)).heap.size = W.heap.size + 1 := by simp
  have Hrow := hide hrow; have Hb0 := hide hb0; have Hbx := hide hbx; have Hs0 := hide hs0
  clear hrow hb0 hbx hs0
  obtain ⟨i0, hi0, hz0, hz1, hz2⟩ := info_parts hregex
  go_enter Tryz.func7, Tryz.ntmps7
  go_wp2_with fail
  generalize W.alloc (.cells #[.int .i64 0, .slice none 0 0, .slice none 0 0] 26) = W0 at *
  go_loopw [4, 5] (fun lv iv wr => ∃ (i : Nat) (ka : Option Addr) (kc : Nat) (vs : List Value), iv = .int .i64 i ∧ i ≤ row.length ∧ lv = .slice ka i kc ∧ WdSt (W.heap.size + 1) W0 wr ka kc ((row.take i).map oneT) vs ∧ ∀ j, j < i → isC (row.getD j 0) = true) (fun _ iv _ => row.length - (intOf iv).toNat)
  case atStart => exact ⟨0, none, 0, [], rfl, Nat.zero_le _, rfl, ⟨World.ownsRow_nil _ _ _ _, Below.refl _ _, by unfold RxTs; rfl⟩, fun j hj => absurd hj (Nat.not_lt_zero _)⟩
  case round =>
    obtain ⟨i, ka, kc, vs, rfl, hin, rfl, hst, hall⟩ := hrel
    have hsz : W.heap.size + 1 ≤ wr.heap.size := by have := hst.bel.size; rw [unhide Hs0] at this; exact this
    have hbW : Below W.heap.size W wr := (unhide Hb0).trans (hst.bel.mono (by omega))
    by_cases hlt : i < row.length
    · have hlt' : (i : Int) < row.length := by omega
      rcases unhide Hrow with h | ⟨gr, off, rfl, hg, hc⟩
      · rw [h] at hlt; simp at hlt
      have e0 := (hbW.cell (p := ⟨gr, off + i, none⟩) hg).trans (hc i hlt)
      have Hnot := hide (not_allD hlt)
      have Hnext := hide (fun (h : isC (row.getD i 0) = true) j (hj : j < i + 1) => show isC (row.getD j 0) = true from if e : j = i then by rw [e]; exact h else hall j (by omega))
      have HT : Hid ((row.take (i + 1)).map oneT = (row.take i).map oneT ++ [oneT (row.getD i 0)]) := hide (by rw [show row.take (i + 1) = row.take i ++ [row.getD i 0] from (by rw [List.take_add_one, List.getElem?_eq_getElem hlt, List.getD_eq_getElem?_getD, List.getElem?_eq_getElem hlt]; rfl), List.map_append]; rfl)
      have hts : ((row.take i).map oneT).length = i := by simp; omega
      have Hst := hide hst
      have HbW := hide hbW
      clear hall hc hst hbW
      generalize row.getD i 0 = cc at *
      generalize (row.take i).map oneT = ts at *
      cases hcc : isC cc
      · have HE := hide (unhide Hnot hcc)
        have hbx := ((unhide Hst).bel.block W.heap.size (by omega)).trans (unhide Hbx)
        have b0 := cell_block hbx 0 _ rfl
        have b1 := cell_block hbx 1 _ rfl
        have b2 := cell_block hbx 2 _ rfl
        have f0 := frozen_block hbx 0
        have f1 := frozen_block hbx 1
        have f2 := frozen_block hbx 2
        have Hbx1 := hide hbx
        have hcc2 : ¬ (0 ≤ cc ∧ cc ≤ 1114111) := by simpa [isC] using hcc
        clear Hnot Hnext hbx hcc Hst
        rw [unhide HE]
        by_cases hneg : cc < 0
        · have hd : decide (cc < 0) = true := by simpa using hneg
          go_wp2
          have hg3 := block_set (i := 2) (block_set (i := 1) (block_set (i := 0) (unhide Hbx1) (.int .i64 0)) (.slice none 0 0)) (.slice none 0 0)
          have t0 := cell_block hg3 0 (.int .i64 0) rfl
          have t1 := cell_block hg3 1 (.slice none 0 0) rfl
          have t2 := cell_block hg3 2 (.slice none 0 0) rfl
          refine bodyPost_ret (v := .tuple #[.agg #[.int .i64 0, .slice none 0 0, .slice none 0 0], .int .i64 1]) (by simp [results, Tryz.results7, go_sem, t0, t1, t2]) rfl ?_
          exact ⟨_, _, _, rfl, ((((unhide HbW).setCell (p := ⟨W.heap.size, 0, none⟩) (Nat.le_refl _) _).setCell (p := ⟨W.heap.size, 1, none⟩) (Nat.le_refl _) _).setCell (p := ⟨W.heap.size, 2, none⟩) (Nat.le_refl _) _), rfl, rfl, rfl⟩
        · have hd : decide (cc < 0) = false := by simpa using hneg
          have hbig : 1114111 < cc := by omega
          have hd2 : decide (1114111 < cc) = true := by simpa using hbig
          go_wp2
          have hg3 := block_set (i := 2) (block_set (i := 1) (block_set (i := 0) (unhide Hbx1) (.int .i64 0)) (.slice none 0 0)) (.slice none 0 0)
          have t0 := cell_block hg3 0 (.int .i64 0) rfl
          have t1 := cell_block hg3 1 (.slice none 0 0) rfl
          have t2 := cell_block hg3 2 (.slice none 0 0) rfl
          refine bodyPost_ret (v := .tuple #[.agg #[.int .i64 0, .slice none 0 0, .slice none 0 0], .int .i64 1]) (by simp [results, Tryz.results7, go_sem, t0, t1, t2]) rfl ?_
          exact ⟨_, _, _, rfl, ((((unhide HbW).setCell (p := ⟨W.heap.size, 0, none⟩) (Nat.le_refl _) _).setCell (p := ⟨W.heap.size, 1, none⟩) (Nat.le_refl _) _).setCell (p := ⟨W.heap.size, 2, none⟩) (Nat.le_refl _) _), rfl, rfl, rfl⟩
      · have Hn := hide (unhide Hnext hcc)
        have hcc2 : 0 ≤ cc ∧ cc ≤ 1114111 := by simpa [isC] using hcc
        have hd : decide (cc < 0) = false := by simp; omega
        have hd2 : decide (1114111 < cc) = false := by simp; omega
        have hgw : gr < wr.heap.size := by omega
        have HS10 : Hid ((wr.drew.alloc (.cells #[.int .i32 cc, .int .i32 cc] 45)).cell? ⟨gr, off + i, none⟩ = some (.int .i32 cc)) := hide ((World.cell?_alloc_lt wr.drew _ _ hgw).trans e0)
        have HR9 : Hid (∀ W9, Below (wr.heap.size + 1) (wr.drew.alloc (.cells #[.int .i32 cc, .int .i32 cc] 45)) W9 → ((W9.alloc (.cells #[.int .i64 2, .slice (some ⟨wr.heap.size, 0, none⟩) 1 1, .slice none 0 0] 26)).ownsRow (W.heap.size + 1) 26 3 (.slice ka i kc) i vs ∧ RxAt (fun k => wr.heap.size ≤ k) W9 (oneT cc) (.int .i64 2) (.slice (some ⟨wr.heap.size, 0, none⟩) 1 1) (.slice none 0 0) ∧ Below wr.heap.size wr W9 ∧ W9.cell? ⟨gr, off + i, none⟩ = some (.int .i32 cc) ∧ (W9.alloc (.cells #[.int .i64 2, .slice (some ⟨wr.heap.size, 0, none⟩) 1 1, .slice none 0 0] 26)).cell? ⟨gr, off + i, none⟩ = some (.int .i32 cc) ∧ (∀ j u, [Value.int .i64 2, .slice (some ⟨wr.heap.size, 0, none⟩) 1 1, .slice none 0 0][j]? = some u → (W9.alloc (.cells #[.int .i64 2, .slice (some ⟨wr.heap.size, 0, none⟩) 1 1, .slice none 0 0] 26)).cell? ((⟨W9.heap.size, 0, none⟩ : Addr).add j) = some u) ∧ W.heap.size + 1 ≤ W9.heap.size)) := hide (by
          intro W9 hb
          have hbA : Below wr.heap.size wr (wr.drew.alloc (.cells #[.int .i32 cc, .int .i32 cc] 45)) := ((Below.refl wr.heap.size wr).drew).alloc (Nat.le_refl _) _
          have hb1 : Below wr.heap.size wr W9 := hbA.trans (hb.mono (by omega))
          have hblk : W9.heap[wr.heap.size]? = some (.cells #[.int .i32 cc, .int .i32 cc] 45 (0, 0)) := (hb.block wr.heap.size (by omega)).trans (heap_new wr.drew _)
          have hs9 : wr.heap.size + 1 ≤ W9.heap.size := by have := hb.size; simp at this; exact this
          have hce := (hb1.cell (p := ⟨gr, off + i, none⟩) hgw).trans e0
          have hro := own_off (O := fun _ => False) (unhide Hst).row (off_below hb1) (fun _ _ h => h)
          rw [hts] at hro
          refine ⟨hro.alloc _, ?_, hb1, hce, (World.cell?_alloc_lt W9 _ _ (by simp only; omega)).trans hce, World.news_of_block (MapKept.heap_alloc W9 _).1, by omega⟩
          unfold oneT RxAt
          refine ⟨rfl, ⟨some ⟨wr.heap.size, 0, none⟩, 1, rfl, .inr ⟨wr.heap.size, 0, rfl, by omega, fun j hj => ?_⟩, .inr (fun x hx => by cases hx; exact Nat.le_refl _)⟩, none, 0, [], rfl, by unfold RxTs; rfl, .inl rfl⟩
          obtain rfl : j = 0 := by simpa using hj
          exact ⟨cell_block hblk 0 _ rfl, cell_block hblk 1 _ rfl⟩)
        clear Hnot Hnext hcc
        go_wp2_with fail
        refine wp_region_held_drew (S := fun W9 : World => W9.cell? ⟨gr, off + i, none⟩ = some (.int .i32 cc)) (by kernel_rfl) (e0) (fun hHeld => ?_)
        refine take_dst (i := 0) (dst := some 25) (v := ?_) rfl rfl (by kernel_rfl) (by kernel_rfl) (by kernel_rfl) (fun _ _ _ h => h) (Or.inl ⟨by rfl, ?_⟩) hHeld ?_
        rotate_left
        · intro w hSw; obtain hSw := hSw; go_simp; try (with_reducible rfl)
        simp only [Act.put, List.setIfInBounds_toArray, List.set_cons_zero, List.set_cons_succ]
        refine take_dst (i := 1) (dst := some 26) (v := ?_) rfl rfl (by kernel_rfl) (by kernel_rfl) (by kernel_rfl) (fun _ _ _ h => h) (Or.inl ⟨by rfl, ?_⟩) hHeld ?_
        rotate_left
        · intro w hSw; obtain hSw := hSw; go_simp; try (with_reducible rfl)
        simp only [Act.put, List.setIfInBounds_toArray, List.set_cons_zero, List.set_cons_succ]
        refine take_dst (i := 2) (dst := some 27) (v := ?_) rfl rfl (by kernel_rfl) (by kernel_rfl) (by kernel_rfl) (fun _ _ _ h => h) (Or.inl ⟨by rfl, ?_⟩) hHeld ?_
        rotate_left
        · intro w hSw; obtain hSw := hSw; go_simp; try (with_reducible rfl)
        simp only [Act.put, List.setIfInBounds_toArray, List.set_cons_zero, List.set_cons_succ]
        refine take_dst (i := 3) (dst := some 28) (v := ?_) rfl rfl (by kernel_rfl) (by kernel_rfl) (by kernel_rfl) (fun _ _ _ h => h) (Or.inl ⟨by rfl, ?_⟩) hHeld ?_
        rotate_left
        · intro w hSw; obtain hSw := hSw; go_simp; try (with_reducible rfl)
        simp only [Act.put, List.setIfInBounds_toArray, List.set_cons_zero, List.set_cons_succ]
        refine take_dst (i := 4) (dst := some 29) (v := ?_) rfl rfl (by kernel_rfl) (by kernel_rfl) (by kernel_rfl) (fun _ _ _ h => h) (Or.inl ⟨by rfl, ?_⟩) hHeld ?_
        rotate_left
        · intro w hSw; obtain hSw := hSw; go_simp; try (with_reducible rfl)
        simp only [Act.put, List.setIfInBounds_toArray, List.set_cons_zero, List.set_cons_succ]
        refine take_dst (i := 5) (dst := some 30) (v := ?_) rfl rfl (by kernel_rfl) (by kernel_rfl) (by kernel_rfl) (fun _ _ _ h => h) (Or.inl ⟨by rfl, ?_⟩) hHeld ?_
        rotate_left
        · intro w hSw; obtain hSw := hSw; go_simp; try (with_reducible rfl)
        simp only [Act.put, List.setIfInBounds_toArray, List.set_cons_zero, List.set_cons_succ]
        refine take_dst (i := 6) (dst := some 31) (v := ?_) rfl rfl (by kernel_rfl) (by kernel_rfl) (by kernel_rfl) (fun _ _ _ h => h) (Or.inl ⟨by rfl, ?_⟩) hHeld ?_
        rotate_left
        · intro w hSw; obtain hSw := hSw; go_simp; try (with_reducible rfl)
        simp only [Act.put, List.setIfInBounds_toArray, List.set_cons_zero, List.set_cons_succ]
        refine take_dst (i := 7) (dst := some 32) (v := ?_) rfl rfl (by kernel_rfl) (by kernel_rfl) (by kernel_rfl) (fun _ _ _ h => h) (Or.inl ⟨by rfl, ?_⟩) hHeld ?_
        rotate_left
        · intro w hSw; obtain hSw := hSw; go_simp; try (with_reducible rfl)
        simp only [Act.put, List.setIfInBounds_toArray, List.set_cons_zero, List.set_cons_succ]
        refine take_dst (i := 8) (dst := some 33) (v := ?_) rfl rfl (by kernel_rfl) (by kernel_rfl) (by kernel_rfl) (fun _ _ _ h => h) (Or.inl ⟨by rfl, ?_⟩) hHeld ?_
        rotate_left
        · intro w hSw; obtain hSw := hSw; go_simp; try (with_reducible rfl)
        simp only [Act.put, List.setIfInBounds_toArray, List.set_cons_zero, List.set_cons_succ]
        refine take_dst (i := 9) (dst := some 34) (v := ?_) rfl rfl (by kernel_rfl) (by kernel_rfl) (by kernel_rfl) (fun _ _ _ h => h) (Or.inl ⟨by rfl, ?_⟩) hHeld ?_
        rotate_left
        · intro w hSw; obtain hSw := hSw; go_simp; try (with_reducible rfl)
        simp only [Act.put, List.setIfInBounds_toArray, List.set_cons_zero, List.set_cons_succ]
        refine wpAnyH_ready (rs := [10]) (by kernel_rfl) (by simp) ?_
        refine AllReadyH.cons rfl (fun K hK => ?_) AllReadyH.nil
        go_simp
        refine hK.out _ _ (unhide HS10) (fun hHeld => ?_)
        clear hK K
        refine wpAnyH_ready (rs := [11]) (by kernel_rfl) (by simp) ?_
        refine AllReadyH.cons rfl (fun K hK => ?_) AllReadyH.nil
        go_simp
        refine (refOf_some _ (some ⟨wr.heap.size, 0, none⟩) 1 1 (by decide)).mono ?_
        rintro e9 W9 ⟨rfl, hb9⟩
        obtain ⟨hrow9, hrx9, hbel9, hS9, hS9', hcc9, hle9⟩ := unhide HR9 W9 ⟨hb9.os, hb9.tape, hb9.output, hb9.size, fun k hk => hb9.block k (by simp; omega)⟩
        clear hb9
        go_wp2_with fail
        refine hK.out _ _ hS9 (fun hHeld => ?_)
        clear hK K
        refine wpAnyH_ready (rs := [12]) (by kernel_rfl) (by simp) ?_
        refine AllReadyH.cons rfl (fun K hK => ?_) AllReadyH.nil
        go_simp
        refine hK.out _ _ hS9' (fun hHeld => ?_)
        clear hK K
        refine wpAnyH_ready (rs := [13]) (by kernel_rfl) (by simp) ?_
        refine AllReadyH.cons rfl (fun K hK => ?_) AllReadyH.nil
        refine step_append_lies _ rfl (.tmp 25) (.tmp 37) 24 rfl (W.heap.size + 1) 26 i0 _ 3 56 Tryz.underlying24 hi0 hz0 hz1 hz2 rfl (by decide) (.slice ka i kc) i vs (by simp [Act.eval]) hrow9 ⟨W9.heap.size, 0, none⟩ 1 1 [.int .i64 2, .slice (some ⟨wr.heap.size, 0, none⟩) 1 1, .slice none 0 0] (by simp [Act.eval]) rfl hcc9 (by simp [Value.oneCell']) (by decide) (by unfold maxLen; omega) (by omega) (by simp; omega) (W9.heap.size + 1) (by simp) ?_
        intro g7 cap7 W7 hown7 hgr7 hgv7 hgl7
        have hst7 := wd_step (t := oneT cc) (unhide Hst) hsz hbel9 hrx9 (by rw [hts]; exact hown7) (o := .cells #[.int .i64 2, .slice (some ⟨wr.heap.size, 0, none⟩) 1 1, .slice none 0 0] 26) (by rw [hts]; exact ⟨hgr7.os, hgr7.tape, hgr7.output, hgr7.size, hgr7.block⟩) (by rw [hts]; exact hgv7)
        have Hst7 := hide hst7
        clear hst7 hgr7 hgl7 hgv7 hown7 hrow9 hcc9 hrx9 hbel9 HR9 HS10
        have hS7 : W7.cell? ⟨gr, off + i, none⟩ = some (.int .i32 cc) := (((unhide Hb0).trans ((unhide Hst7).bel.mono (by omega))).cell (p := ⟨gr, off + i, none⟩) hg).trans (((unhide HbW).cell (p := ⟨gr, off + i, none⟩) hg).symm.trans e0)
        refine hK.out _ _ hS7 (fun hHeld => ?_)
        clear hK K
        refine wpAnyH_ready (rs := [14]) (by kernel_rfl) (by simp) ?_
        refine AllReadyH.cons rfl (fun K hK => ?_) AllReadyH.nil
        go_simp
        refine hK.out _ _ hS7 (fun hHeld => ?_)
        clear hK K
        refine wpAnyH_done (by kernel_rfl) ?_ _
        go_wp2
        go_roundw
        case rel => exact ⟨i + 1, _, _, _, by go_num, by omega, rfl, by rw [unhide HT]; exact unhide Hst7, unhide Hn⟩
        case measure => simp [intOf]; omega
    · obtain rfl : i = row.length := by omega
      have hok := all_getD hall
      obtain ⟨hlv, hpt⟩ := lim_doc row
      have hE : docE row = limV (docT row) := by rw [docE, if_pos hok, hlv]
      rw [List.take_length] at hst
      have hlen : (row.map oneT).length = row.length := by simp
      have hrx := hst.rxs
      have hcell : (row.map oneT) = [] ∨ ∃ g off, ka = some ⟨g, off, none⟩ ∧ g < wr.heap.size ∧ ∀ j u, vs[j]? = some u → wr.cell? ⟨g, off + j, none⟩ = some u := by
        by_cases h0 : row = []
        · subst h0; exact .inl rfl
        · have hpos : 0 < row.length := List.length_pos_iff.2 h0
          rcases hst.row.2 with ⟨hv, -⟩ | ⟨g9, cap9, cur, hv, hB9, hh, rest⟩
          · simp only [Value.slice.injEq] at hv; omega
          · have hv' := hv
            simp only [Value.slice.injEq] at hv
            refine .inr ⟨g9, 0, hv.1, lt_of_some hh, fun j u hj => ?_⟩
            have := own_cell hst.row (g := g9) (c := kc) (by rw [hv.1]) j (List.getElem?_eq_some_iff.1 hj).1
            rw [Nat.zero_add, this, List.getD_eq_getElem?_getD, hj]; rfl
      have HCat := hide (refCat_any _ wr ka kc (row.map oneT) vs (by omega) (fun t ht => by
        obtain ⟨c, -, rfl⟩ := List.mem_map.1 ht
        exact ⟨by show (2 : Int) ≠ 0; decide, by show (2 : Int) ≠ 1; decide, by show (2 : Int) ≠ 3; decide⟩) hrx hcell)
      rw [hlen, catX_doc] at HCat
      have Hbx1 := hide ((hst.bel.block W.heap.size (by omega)).trans (unhide Hbx))
      have HbW := hide hbW; have HE := hide hE; have Hbel := hide hst.bel
      clear hrx hcell hst hbW hall hok hE hlen hlv
      go_wp2_with fail
      refine (unhide HCat).mono ?_
      rintro e2 w2 ⟨v0, v1, v2, rfl, hb2, hX2⟩
      have hs2 := hb2.size
      have Hbx2 := hide ((hb2.block W.heap.size (by omega)).trans (unhide Hbx1))
      have HbW2 := hide ((unhide HbW).trans (hb2.mono (by omega)))
      have hX3 : RxAt (fun k => W.heap.size + 1 ≤ k) w2 (docT row) v0 v1 v2 := rxAt_kept (Nat.le_refl _) (fun k _ _ => rfl) (fun k hk _ => by
        rcases hk with h | h
        · exact h.1
        · omega) _ _ _ _ hX2
      by_cases hz : limV (docT row) = 0
      · have HLm := hide (limited_ok _ _ (by omega) hz w2 _ _ _ hX3)
        rw [hz] at HE
        obtain ⟨kk, s1, n1, c1, s2, n2, c2, rfl, rfl, rfl⟩ := rxAt_formQ hX3
        have HX3 := hide hX3
        clear hb2 hX2 HCat hX3
        go_wp2_with fail
        refine (unhide HLm).mono ?_
        rintro e3 w3 ⟨rfl, hb3, -⟩
        have hbx3 := (hb3.block W.heap.size (by omega)).trans (unhide Hbx2)
        have b0 := cell_block hbx3 0 _ rfl
        have b1 := cell_block hbx3 1 _ rfl
        have b2 := cell_block hbx3 2 _ rfl
        have f0 := frozen_block hbx3 0
        have f1 := frozen_block hbx3 1
        have f2 := frozen_block hbx3 2
        have Hb3 := hide hb3; have Hbx3 := hide hbx3
        clear hb3 hbx3 HLm
        go_wp2
        have hg3 := block_set (i := 2) (block_set (i := 1) (block_set (i := 0) (unhide Hbx3) (.int .i64 kk)) (.slice s1 n1 c1)) (.slice s2 n2 c2)
        have t0 := cell_block hg3 0 (.int .i64 kk) rfl
        have t1 := cell_block hg3 1 (.slice s1 n1 c1) rfl
        have t2 := cell_block hg3 2 (.slice s2 n2 c2) rfl
        refine bodyPost_ret (v := .tuple #[.agg #[.int .i64 kk, .slice s1 n1 c1, .slice s2 n2 c2], .int .i64 0]) (by simp [results, Tryz.results7, go_sem, t0, t1, t2]) rfl ?_
        refine ⟨_, _, _, by rw [unhide HE], (((((unhide HbW2).trans ((unhide Hb3).mono (by omega))).setCell (p := ⟨W.heap.size, 0, none⟩) (Nat.le_refl _) _).setCell (p := ⟨W.heap.size, 1, none⟩) (Nat.le_refl _) _).setCell (p := ⟨W.heap.size, 2, none⟩) (Nat.le_refl _) _), ?_⟩
        rw [unhide HE, if_pos rfl]
        have hk3 := unhide Hb3
        have hX4 : RxAt (fun k => W.heap.size + 1 ≤ k) w3 (docT row) (.int .i64 kk) (.slice s1 n1 c1) (.slice s2 n2 c2) := rxAt_kept hk3.size (fun k _ hl => hk3.block k hl) (fun _ h _ => h) _ _ _ _ (unhide HX3)
        exact rxAt_box3 hX4
      · have HLm := hide (limited_no _ _ (by omega) hz w2 _ _ _ hX3)
        obtain ⟨kk, s1, n1, c1, s2, n2, c2, rfl, rfl, rfl⟩ := rxAt_formQ hX3
        have Hz := hide hz
        clear hb2 hX2 HCat hX3 hz
        generalize limV (docT row) = V at *
        go_wp2_with fail
        refine (unhide HLm).mono ?_
        rintro e3 w3 ⟨rfl, hb3, -⟩
        have hbx3 := (hb3.block W.heap.size (by omega)).trans (unhide Hbx2)
        have b0 := cell_block hbx3 0 _ rfl
        have b1 := cell_block hbx3 1 _ rfl
        have b2 := cell_block hbx3 2 _ rfl
        have f0 := frozen_block hbx3 0
        have f1 := frozen_block hbx3 1
        have f2 := frozen_block hbx3 2
        have Hb3 := hide hb3; have Hbx3 := hide hbx3
        clear hb3 hbx3 HLm
        go_wp2
        have hg3 := block_set (i := 2) (block_set (i := 1) (block_set (i := 0) (unhide Hbx3) (.int .i64 0)) (.slice none 0 0)) (.slice none 0 0)
        have t0 := cell_block hg3 0 (.int .i64 0) rfl
        have t1 := cell_block hg3 1 (.slice none 0 0) rfl
        have t2 := cell_block hg3 2 (.slice none 0 0) rfl
        refine bodyPost_ret (v := .tuple #[.agg #[.int .i64 0, .slice none 0 0, .slice none 0 0], .int .i64 V]) (by simp [results, Tryz.results7, go_sem, t0, t1, t2]) rfl ?_
        refine ⟨_, _, _, by rw [unhide HE], (((((unhide HbW2).trans ((unhide Hb3).mono (by omega))).setCell (p := ⟨W.heap.size, 0, none⟩) (Nat.le_refl _) _).setCell (p := ⟨W.heap.size, 1, none⟩) (Nat.le_refl _) _).setCell (p := ⟨W.heap.size, 2, none⟩) (Nat.le_refl _) _), ?_⟩
        rw [unhide HE, if_neg (unhide Hz)]
        exact ⟨rfl, rfl, rfl⟩
end Go.Proofs.YtkimhfajfbcdmaaGreatDoor

/- Same of an expression and its like. -/
namespace Go.Proofs.YtkimhfajfbcdmaaGreatDoor
open Go.RowKit Go.Maps

def setLen : Rx → Nat
  | .mk _ s _ => s.length
def kidLen : Rx → Nat
  | .mk _ _ ks => ks.length
set_option maxHeartbeats 1000000 in
set_option maxRecDepth 100000 in
theorem refSame_self (Q Q' : Nat → Prop) (t : Rx) (hp : partsT t < 1000000000000) (W : World) (v0 v1 v2 u0 u1 u2 : Value) (hX : RxAt Q W t v0 v1 v2) (hY : RxAt Q' W t u0 u1 u2) :
    Calls Tryz.prog 20 #[.agg #[v0, v1, v2], .agg #[u0, u1, u2]] W fun e w' => e = .returned (.bool true) ∧ Below W.heap.size W w' := by
  obtain ⟨kk, s1, n1, c1, s2, n2, c2, rfl, rfl, rfl⟩ := rxAt_formQ hX
  obtain ⟨ll, r1, m1, d1, r2, m2, d2, rfl, rfl, rfl⟩ := rxAt_formQ hY
  have hbB : Below W.heap.size W ((W.alloc (.cells #[.int .i64 kk, .slice s1 n1 c1, .slice s2 n2 c2] 26)).alloc (.cells #[.int .i64 ll, .slice r1 m1 d1, .slice r2 m2 d2] 26)) := ((Below.refl _ _).alloc (Nat.le_refl _) _).alloc (by simp) _
  have HO := hide (fun W' (hb : Below W.heap.size W W') => orderT_self Q Q' (partsT t) hp t (Nat.le_refl _) W' _ _ _ _ _ _ (rxAt_kept (Q := Q) (Q' := Q) hb.size (fun q _ hl => hb.block q hl) (fun _ h _ => h) _ _ _ _ hX) (rxAt_kept (Q := Q') (Q' := Q') hb.size (fun q _ hl => hb.block q hl) (fun _ h _ => h) _ _ _ _ hY))
  have HbB := hide hbB
  clear hX hY hp hbB
  go_enter Tryz.func20, Tryz.ntmps20
  go_wp2_with fail
  refine (unhide HO _ (by first | exact unhide HbB | exact Below.refl _ _)).mono ?_
  rintro e1 w1 ⟨rfl, hb1⟩
  have HW1 : Hid (Below W.heap.size W w1) := hide (by first | exact hb1 | exact (unhide HbB).trans (hb1.mono (unhide HbB).size))
  clear hb1 HO
  go_wp2
  go_ret
  exact ⟨rfl, unhide HW1⟩
set_option maxHeartbeats 1000000 in
set_option maxRecDepth 100000 in
theorem same_self (Q Q' : Nat → Prop) (E : Int) (t : Rx) (hp : partsT t < 1000000000000) (W : World) (v0 v1 v2 u0 u1 u2 : Value) (hX : RxAt Q W t v0 v1 v2) (hY : RxAt Q' W t u0 u1 u2) :
    Calls Tryz.prog 8 #[.agg #[v0, v1, v2], .int .i64 E, .agg #[u0, u1, u2], .int .i64 E] W fun e w' => e = .returned (.bool true) ∧ Below W.heap.size W w' := by
  obtain ⟨kk, s1, n1, c1, s2, n2, c2, rfl, rfl, rfl, hn1, hn2⟩ : ∃ (k : Int) (s1 : Option Addr) (n1 c1 : Nat) (s2 : Option Addr) (n2 c2 : Nat), v0 = .int .i64 k ∧ v1 = .slice s1 n1 c1 ∧ v2 = .slice s2 n2 c2 ∧ n1 = setLen t ∧ n2 = kidLen t := by
    cases t; unfold RxAt at hX; obtain ⟨rfl, ⟨sa, sc, rfl, -⟩, ka, kc, vs, rfl, -⟩ := hX; exact ⟨_, _, _, _, _, _, _, rfl, rfl, rfl, rfl, rfl⟩
  obtain ⟨ll, r1, m1, d1, r2, m2, d2, rfl, rfl, rfl, hm1, hm2⟩ : ∃ (k : Int) (s1 : Option Addr) (n1 c1 : Nat) (s2 : Option Addr) (n2 c2 : Nat), u0 = .int .i64 k ∧ u1 = .slice s1 n1 c1 ∧ u2 = .slice s2 n2 c2 ∧ n1 = setLen t ∧ n2 = kidLen t := by
    cases t; unfold RxAt at hY; obtain ⟨rfl, ⟨sa, sc, rfl, -⟩, ka, kc, vs, rfl, -⟩ := hY; exact ⟨_, _, _, _, _, _, _, rfl, rfl, rfl, rfl, rfl⟩
  obtain rfl : m1 = n1 := hm1.trans hn1.symm
  obtain rfl : m2 = n2 := hm2.trans hn2.symm
  clear hn1 hn2 hm1 hm2
  have hbB : Below W.heap.size W ((W.alloc (.cells #[.int .i64 kk, .slice s1 m1 c1, .slice s2 m2 c2] 26)).alloc (.cells #[.int .i64 ll, .slice r1 m1 d1, .slice r2 m2 d2] 26)) := ((Below.refl _ _).alloc (Nat.le_refl _) _).alloc (by simp) _
  have hbx : ((W.alloc (.cells #[.int .i64 kk, .slice s1 m1 c1, .slice s2 m2 c2] 26)).alloc (.cells #[.int .i64 ll, .slice r1 m1 d1, .slice r2 m2 d2] 26)).heap[W.heap.size]? = some (.cells #[.int .i64 kk, .slice s1 m1 c1, .slice s2 m2 c2] 26 (0, 0)) := (Below.heap_alloc _ _ _ (by simp)).trans (heap_new W _)
  have hby : ((W.alloc (.cells #[.int .i64 kk, .slice s1 m1 c1, .slice s2 m2 c2] 26)).alloc (.cells #[.int .i64 ll, .slice r1 m1 d1, .slice r2 m2 d2] 26)).heap[W.heap.size + 1]? = some (.cells #[.int .i64 ll, .slice r1 m1 d1, .slice r2 m2 d2] 26 (0, 0)) := by
    have := heap_new (W.alloc (.cells #[.int .i64 kk, .slice s1 m1 c1, .slice s2 m2 c2] 26)) (.cells #[.int .i64 ll, .slice r1 m1 d1, .slice r2 m2 d2] 26)
    rwa [show (W.alloc (.cells #[.int .i64 kk, .slice s1 m1 c1, .slice s2 m2 c2] 26)).heap.size = W.heap.size + 1 by simp] at this
  have hs0 : ((W.alloc (.cells #[.int .i64 kk, .slice s1 m1 c1, .slice s2 m2 c2] 26)).alloc (.cells #[.int .i64 ll, .slice r1 m1 d1, .slice r2 m2 d2] 26)).heap.size = W.heap.size + 2 := by simp
  have HS := hide (refSame_self Q Q' t hp _ _ _ _ _ _ _ (rxAt_kept (Q := Q) (Q' := Q) hbB.size (fun q _ hl => hbB.block q hl) (fun _ h _ => h) _ _ _ _ hX) (rxAt_kept (Q := Q') (Q' := Q') hbB.size (fun q _ hl => hbB.block q hl) (fun _ h _ => h) _ _ _ _ hY))
  have HbB := hide hbB; have Hs0 := hide hs0; have Hbx := hide hbx; have Hby := hide hby
  clear hX hY hp hbB hs0 hbx hby
  have hE : (E == E) = true := by simp
  go_enter Tryz.func8, Tryz.ntmps8
  go_wp2_with fail
  refine (unhide HS).mono ?_
  rintro e1 w1 ⟨rfl, hb1⟩
  rw [unhide Hs0] at hb1
  have hbx1 := (hb1.block W.heap.size (by omega)).trans (unhide Hbx)
  have hby1 := (hb1.block (W.heap.size + 1) (by omega)).trans (unhide Hby)
  have b1 := cell_block hbx1 1 _ rfl
  have b2 := cell_block hbx1 2 _ rfl
  have y1 := cell_block hby1 1 _ rfl
  have y2 := cell_block hby1 2 _ rfl
  have HW1 := hide ((unhide HbB).trans (hb1.mono (by omega)))
  clear hb1 hbx1 hby1 HS
  go_wp2
  go_ret
  exact ⟨by simp, unhide HW1⟩
end Go.Proofs.YtkimhfajfbcdmaaGreatDoor

/- RegexWords walked. -/
namespace Go.Proofs.YtkimhfajfbcdmaaGreatDoor
open Go.RowKit Go.Maps

theorem wordE_doc {row : List Int} (hl : row.length ≤ 1048576) : wordE row = docE row := by
  by_cases h : row.all isC = true
  · rw [(word_is h hl).2.1, docE, if_pos h]
  · rw [wordE, if_neg h, docE, if_neg h]
theorem wordT_doc {row : List Int} (hl : row.length ≤ 1048576) (h : docE row = 0) : wordT row = docT row := by
  by_cases h2 : row.all isC = true
  · refine (word_is h2 hl).2.2 ?_
    rw [docE, if_pos h2] at h
    by_cases h3 : 2047 < row.length
    · rw [if_pos h3] at h; cases h
    · omega
  · rw [docE, if_neg h2] at h; cases h
/-- What is told: an expression, or nothing. -/
def toldT (E : Int) (T : Rx) : Rx := if E = 0 then T else .mk 0 [] []
theorem told_at {Q : Nat → Prop} {w : World} {E : Int} {T : Rx} {v0 v1 v2 : Value} (h : if E = 0 then RxAt Q w T v0 v1 v2 else (v0 = .int .i64 0 ∧ v1 = .slice none 0 0 ∧ v2 = .slice none 0 0)) : RxAt Q w (toldT E T) v0 v1 v2 := by
  unfold toldT
  split at h
  · rename_i he; rw [if_pos he]; exact h
  · rename_i he
    rw [if_neg he]
    obtain ⟨rfl, rfl, rfl⟩ := h
    unfold RxAt
    exact ⟨rfl, ⟨none, 0, rfl, .inl rfl, .inl rfl⟩, none, 0, [], rfl, rfl, .inl rfl⟩
/-- A box with an expression. -/
structure Bx (W : World) (b : Nat) (t : Rx) (v0 v1 v2 : Value) : Prop where
  blk : W.heap[b]? = some (.cells #[v0, v1, v2] 26 (0, 0))
  at_ : RxAt (fun _ => True) W t v0 v1 v2
theorem rxAt_true {Q : Nat → Prop} {W : World} {t : Rx} {v0 v1 v2 : Value} (h : RxAt Q W t v0 v1 v2) : RxAt (fun _ => True) W t v0 v1 v2 := rxAt_kept (Nat.le_refl _) (fun _ _ _ => rfl) (fun _ _ _ => trivial) _ _ _ _ h
theorem bx_new {W : World} {t : Rx} {v0 v1 v2 : Value} (h : RxAt (fun _ => True) W t v0 v1 v2) : Bx (W.alloc (.cells #[v0, v1, v2] 26)) W.heap.size t v0 v1 v2 :=
  ⟨heap_new W _, by
    have hb : Below W.heap.size W (W.alloc (.cells #[v0, v1, v2] 26)) := (Below.refl _ _).alloc (Nat.le_refl _) _
    exact rxAt_kept hb.size (fun k _ hl => hb.block k hl) (fun _ _ _ => trivial) _ _ _ _ h⟩
theorem bx_below {W W' : World} {b : Nat} {t : Rx} {v0 v1 v2 : Value} (h : Bx W b t v0 v1 v2) (hb : Below W.heap.size W W') : Bx W' b t v0 v1 v2 :=
  ⟨(hb.block b (lt_of_some h.blk)).trans h.blk, rxAt_kept hb.size (fun k _ hl => hb.block k hl) (fun _ _ _ => trivial) _ _ _ _ h.at_⟩
theorem told_parts {E : Int} {T : Rx} (h : partsT T < 1000000000000) : partsT (toldT E T) < 1000000000000 := by
  unfold toldT; split
  · exact h
  · decide
theorem setT_lt {s : List Rg} (hs : s.length ≤ 1048576) : partsT (setT s) < 1000000000000 := by
  by_cases h : s = []
  · subst h; decide
  · rw [setT, if_neg h]; simp [partsT, partsTs]; omega
theorem irow_below {w w' : World} {a : Option Addr} {l : List Int} (h : IRow w a l) (hb : Below w.heap.size w w') : IRow w' a l := by
  rcases h with h | ⟨g, off, rfl, hg, hc⟩
  · exact .inl h
  · exact .inr ⟨g, off, rfl, Nat.lt_of_lt_of_le hg hb.size, fun j hj => (hb.cell (p := ⟨g, off + j, none⟩) hg).trans (hc j hj)⟩
set_option maxHeartbeats 2000000 in
set_option maxRecDepth 100000 in
theorem regexWords_walk (W : World) (a b : Option Addr) (ca cb : Nat) (s : List Rg) (row : List Int) (hs : s.length ≤ 1048576) (hr : row.length ≤ 1048576) (hrs : RowAt W a s) (ha : ∀ y, a = some y → y.block < W.heap.size) (hrr : IRow W b row) (hb : ∀ y, b = some y → y.block < W.heap.size) :
    Calls Tryz.prog 3 #[.slice a s.length ca, .slice b row.length cb] W fun e w' => e = .returned (.bool true) ∧ Below W.heap.size W w' := by
  have HC1 := hide (regexSet_any W a ca s (by omega) hrs ha)
  have HC2 := hide (fun W' (hB : Below W.heap.size W W') => refSet_any W' a ca s (by omega) (rowAt_below hrs (Nat.le_refl _) hB) W'.heap.size (.inr (fun y hy => Nat.lt_of_lt_of_le (ha y hy) hB.size)) (Nat.le_refl _))
  have HC3 := hide (fun W' (hB : Below W.heap.size W W') => regexWord_any W' b cb row hr (irow_below hrr hB) (fun y hy => Nat.lt_of_lt_of_le (hb y hy) hB.size) (fun h => (word_is h hr).1))
  have HC4 := hide (fun W' (hB : Below W.heap.size W W') => refWord_any W' b cb row hr (irow_below hrr hB))
  have HE := hide (wordE_doc hr)
  have HT := hide (fun h => wordT_doc hr h)
  have HP1 := hide (told_parts (E := checkV s) (setT_lt hs))
  have HP2 := hide (told_parts (E := docE row) (T := docT row) (by have := (lim_doc row).2; omega))
  clear hrs ha hrr hb
  go_enter Tryz.func3, Tryz.ntmps3
  go_wp2_with fail
  refine (unhide HC1).mono ?_
  rintro e1 w1 ⟨v0, v1, v2, rfl, hb1, hX1⟩
  have hx1 := rxAt_true (told_at hX1)
  clear hX1
  generalize checkV s = E1 at *
  obtain ⟨k1, a1, n1, c1, d1, m1, f1, rfl, rfl, rfl⟩ := rxAt_formQ hx1
  have hx1' := bx_new hx1
  have hb1' : Below W.heap.size W (w1.alloc (.cells #[.int .i64 k1, .slice a1 n1 c1, .slice d1 m1 f1] 26)) := hb1.alloc hb1.size _
  have HX1 := hide hx1'; have HB1 := hide hb1'
  have HC2' := hide (unhide HC2 _ hb1')
  clear hx1 hb1 hx1' hb1' HC1 HC2
  go_wp2_with fail
  generalize w1.heap.size = x1 at *
  generalize w1.alloc (.cells #[.int .i64 k1, .slice a1 n1 c1, .slice d1 m1 f1] 26) = W1 at *
  refine (unhide HC2').mono ?_
  rintro e2 w2 ⟨v0, v1, v2, rfl, hb2, hX2⟩
  have hx2 := rxAt_true (told_at hX2)
  clear hX2
  obtain ⟨k2, a2, n2, c2, d2, m2, f2, rfl, rfl, rfl⟩ := rxAt_formQ hx2
  have hx2' := bx_new hx2
  have hbW2 : Below W1.heap.size W1 (w2.alloc (.cells #[.int .i64 k2, .slice a2 n2 c2, .slice d2 m2 f2] 26)) := hb2.alloc hb2.size _
  have hb2' : Below W.heap.size W (w2.alloc (.cells #[.int .i64 k2, .slice a2 n2 c2, .slice d2 m2 f2] 26)) := (unhide HB1).trans (hbW2.mono (unhide HB1).size)
  have HX1' := hide (bx_below (unhide HX1) hbW2)
  have HX2 := hide hx2'; have HB2 := hide hb2'
  have HC3' := hide (unhide HC3 _ hb2')
  clear hx2 hb2 hx2' hb2' HC2' HC3 HX1 HB1 hbW2
  go_wp2_with fail
  generalize w2.heap.size = x2 at *
  generalize w2.alloc (.cells #[.int .i64 k2, .slice a2 n2 c2, .slice d2 m2 f2] 26) = W2 at *
  refine (unhide HC3').mono ?_
  rintro e3 w3 ⟨v0, v1, v2, rfl, hb3, hX3⟩
  rw [unhide HE] at hX3 ⊢
  have hx3 := rxAt_true (told_at hX3)
  clear hX3
  have htt : toldT (docE row) (wordT row) = toldT (docE row) (docT row) := by
    unfold toldT
    by_cases h : docE row = 0
    · rw [if_pos h, if_pos h, unhide HT h]
    · rw [if_neg h, if_neg h]
  rw [htt] at hx3
  clear htt HE HT
  obtain ⟨k3, a3, n3, c3, d3, m3, f3, rfl, rfl, rfl⟩ := rxAt_formQ hx3
  have hx3' := bx_new hx3
  have hbW3 : Below W2.heap.size W2 (w3.alloc (.cells #[.int .i64 k3, .slice a3 n3 c3, .slice d3 m3 f3] 26)) := hb3.alloc hb3.size _
  have hb3' : Below W.heap.size W (w3.alloc (.cells #[.int .i64 k3, .slice a3 n3 c3, .slice d3 m3 f3] 26)) := (unhide HB2).trans (hbW3.mono (unhide HB2).size)
  have HX1 := hide (bx_below (unhide HX1') hbW3)
  have HX2' := hide (bx_below (unhide HX2) hbW3)
  have HX3 := hide hx3'; have HB3 := hide hb3'
  have HC4' := hide (unhide HC4 _ hb3')
  clear hx3 hb3 hx3' hb3' HC3' HC4 HX1' HX2 HB2 hbW3
  generalize docE row = E2 at *
  go_wp2_with fail
  generalize w3.heap.size = x3 at *
  generalize w3.alloc (.cells #[.int .i64 k3, .slice a3 n3 c3, .slice d3 m3 f3] 26) = W3 at *
  refine (unhide HC4').mono ?_
  rintro e4 w4 ⟨v0, v1, v2, rfl, hb4, hX4⟩
  have hx4 := rxAt_true (told_at hX4)
  clear hX4
  obtain ⟨k4, a4, n4, c4, d4, m4, f4, rfl, rfl, rfl⟩ := rxAt_formQ hx4
  have hx4' := bx_new hx4
  have hbW4 : Below W3.heap.size W3 (w4.alloc (.cells #[.int .i64 k4, .slice a4 n4 c4, .slice d4 m4 f4] 26)) := hb4.alloc hb4.size _
  have hb4' : Below W.heap.size W (w4.alloc (.cells #[.int .i64 k4, .slice a4 n4 c4, .slice d4 m4 f4] 26)) := (unhide HB3).trans (hbW4.mono (unhide HB3).size)
  have hX1 := bx_below (unhide HX1) hbW4
  have hX2 := bx_below (unhide HX2') hbW4
  have hX3 := bx_below (unhide HX3) hbW4
  have HS1 := hide (same_self _ _ E1 _ (unhide HP1) _ _ _ _ _ _ _ hX1.at_ hX2.at_)
  have p10 := cell_block hX1.blk 0 _ rfl
  have p11 := cell_block hX1.blk 1 _ rfl
  have p12 := cell_block hX1.blk 2 _ rfl
  have p20 := cell_block hX2.blk 0 _ rfl
  have p21 := cell_block hX2.blk 1 _ rfl
  have p22 := cell_block hX2.blk 2 _ rfl
  have HX3' := hide hX3; have HX4 := hide hx4'; have HB4 := hide hb4'
  clear hx4 hb4 hx4' hb4' HC4' HX1 HX2' HX3 HB3 hbW4 hX1 hX2 hX3 HP1
  go_wp2_with fail
  generalize w4.heap.size = x4 at *
  generalize w4.alloc (.cells #[.int .i64 k4, .slice a4 n4 c4, .slice d4 m4 f4] 26) = W4 at *
  refine (unhide HS1).mono ?_
  rintro e5 w5 ⟨rfl, hb5⟩
  have hX3 := bx_below (unhide HX3') hb5
  have hX4 := bx_below (unhide HX4) hb5
  have HS2 := hide (same_self _ _ E2 _ (unhide HP2) _ _ _ _ _ _ _ hX3.at_ hX4.at_)
  have p30 := cell_block hX3.blk 0 _ rfl
  have p31 := cell_block hX3.blk 1 _ rfl
  have p32 := cell_block hX3.blk 2 _ rfl
  have p40 := cell_block hX4.blk 0 _ rfl
  have p41 := cell_block hX4.blk 1 _ rfl
  have p42 := cell_block hX4.blk 2 _ rfl
  have HB5 := hide ((unhide HB4).trans (hb5.mono (unhide HB4).size))
  clear hb5 HX3' HX4 HB4 hX3 hX4 HP2 HS1 p10 p11 p12 p20 p21 p22
  go_wp2_with fail
  refine (unhide HS2).mono ?_
  rintro e6 w6 ⟨rfl, hb6⟩
  have HB6 := hide ((unhide HB5).trans (hb6.mono (unhide HB5).size))
  clear hb6 HS2 HB5 p30 p31 p32 p40 p41 p42
  go_wp2_with fail
  refine (awake_any w6).mono ?_
  rintro e7 w7 ⟨rfl, hb7⟩
  have HB7 := hide ((unhide HB6).trans (hb7.mono (unhide HB6).size))
  clear hb7 HB6
  go_wp2
  go_ret
  exact ⟨rfl, unhide HB7⟩
end Go.Proofs.YtkimhfajfbcdmaaGreatDoor

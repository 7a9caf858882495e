/- The document's Cat of expressions that stand for themselves. -/
import Derived.Test.YtkimhfajfbcdmaaGreatDoorQG
import Derived.Test.YtkimhfajfbcdmaaGreatDoorQE
import Derived.Test.YtkimhfajfbcdmaaGreatDoorGF
import Derived.Test.YtkimhfajfbcdmaaGreatDoorI2
namespace Go.Proofs.YtkimhfajfbcdmaaGreatDoor
open Go.RowKit Go.Maps

def kindT : Rx → Int
  | .mk k _ _ => k
def catX : List Rx → Rx
  | [] => .mk 1 [] []
  | [t] => t
  | a :: b :: ts => .mk 3 [] (a :: b :: ts)
theorem catX_more {ts : List Rx} (h : 2 ≤ ts.length) : catX ts = .mk 3 [] ts := by
  match ts, h with
  | a :: b :: ts, _ => rfl
theorem rxAt_kind {Q : Nat → Prop} {w : World} {t : Rx} {v0 v1 v2 : Value} (h : RxAt Q w t v0 v1 v2) : v0 = .int .i64 (kindT t) := by
  cases t; unfold RxAt at h; exact h.1
set_option maxHeartbeats 1000000 in
set_option maxRecDepth 100000 in
theorem refEmpty_any (W : World) : Calls Tryz.prog 32 #[] W fun e w' => e = .returned (.agg #[.int .i64 1, .slice none 0 0, .slice none 0 0]) ∧ Below W.heap.size W w' := by
  go_enter Tryz.func32, Tryz.ntmps32
  go_wp2
  refine bodyPost_ret (v := .agg #[.int .i64 1, .slice none 0 0, .slice none 0 0]) (by simp [results, Tryz.results32, go_sem]) rfl ?_
  exact ⟨rfl, by first | exact Below.refl _ _ | exact (Below.refl _ _).alloc (Nat.le_refl _) _ | exact ((Below.refl _ _).alloc (Nat.le_refl _) _).setCell (Nat.le_refl _) _⟩
/-- What is laid behind one another so far. -/
structure CSt (B : Nat) (w wr : World) (ka : Option Addr) (kc i : Nat) (vs : List Value) : Prop where
  row : wr.ownsRow B 26 3 (.slice ka i kc) i vs
  bel : Below B w wr
theorem cst_step {B : Nat} {w wr W10 : World} {ka : Option Addr} {kc i : Nat} {vs vs' : List Value} {o : Obj} {g cap : Nat} (h : CSt B w wr ka kc i vs) (hB : B ≤ wr.heap.size)
    (hown : W10.ownsRow B 26 3 (.slice (some ⟨g, 0, none⟩) (i + 1) cap) (i + 1) vs') (hg : (wr.alloc o).grownBy W10 (Value.slice ka i kc).ownBlock) : CSt B w W10 (some ⟨g, 0, none⟩) cap (i + 1) vs' := by
  refine ⟨hown, h.bel.trans ⟨hg.os, hg.tape, hg.output, by have := hg.size; simp at this; omega, fun k hk => ?_⟩⟩
  refine (hg.block k (by simp; omega) (fun e => ?_)).trans (Below.heap_alloc wr o k (by omega))
  have := (row_lt h.row e.symm).1; omega
set_option maxHeartbeats 2000000 in
set_option maxRecDepth 100000 in
theorem refCat_any (Q : Nat → Prop) (W : World) (a : Option Addr) (cap : Nat) (ts : List Rx) (vs : List Value) (hl : ts.length ≤ 1048576) (hk : ∀ t ∈ ts, kindT t ≠ 0 ∧ kindT t ≠ 1 ∧ kindT t ≠ 3) (hts : RxTs Q W ts vs)
    (hcells : ts = [] ∨ ∃ g off, a = some ⟨g, off, none⟩ ∧ g < W.heap.size ∧ ∀ j u, vs[j]? = some u → W.cell? ⟨g, off + j, none⟩ = some u) :
    Calls Tryz.prog 19 #[.slice a ts.length cap] W fun e w' => ∃ v0 v1 v2, e = .returned (.agg #[v0, v1, v2]) ∧ Below W.heap.size W w' ∧ RxAt (fun k => Q k ∨ W.heap.size ≤ k) w' (catX ts) v0 v1 v2 := by
  have hb0 : Below W.heap.size W (W.alloc (.cells #[.int .i64 0, .slice none 0 0, .slice none 0 0] 26)) := (Below.refl _ _).alloc (Nat.le_refl _) _
  have hbx : (W.alloc (.cells #[.int .i64 0, .slice none 0 0, .slice none 0 0] 26)).heap[W.heap.size]? = some (.cells #[.int .i64 0, .slice none 0 0, .slice none 0 0] 26 (0, 0)) := heap_new W _
  have hs0 : (W.alloc (.cells #[.int .i64 0, .slice none 0 0, .slice none 0 0] 26)).heap.size = W.heap.size + 1 := by simp
  have hvl := rxTs_len ts vs hts
  have Hk := hide hk; have Hts := hide hts; have Hc := hide hcells; have Hb0 := hide hb0; have Hbx := hide hbx; have Hs0 := hide hs0; have Hvl := hide hvl
  clear hk hts hcells hb0 hbx hs0 hvl
  obtain ⟨i0, hi0, hz0, hz1, hz2⟩ := info_parts hregex
  go_enter Tryz.func19, Tryz.ntmps19
  go_wp2_with fail
  generalize W.alloc (.cells #[.int .i64 0, .slice none 0 0, .slice none 0 0] 26) = W0 at *
  go_loopw [3, 4] (fun ov iv wr => ∃ (i : Nat) (ka : Option Addr) (kc : Nat), iv = .int .i64 i ∧ i ≤ ts.length ∧ ov = .slice ka i kc ∧ CSt (W.heap.size + 1) W0 wr ka kc i (vs.take (i * 3))) (fun _ iv _ => ts.length - (intOf iv).toNat)
  case atStart => exact ⟨0, none, 0, rfl, Nat.zero_le _, rfl, ⟨by rw [Nat.zero_mul, List.take_zero]; exact World.ownsRow_nil _ _ _ _, Below.refl _ _⟩⟩
  case round =>
    obtain ⟨i, ka, kc, rfl, hin, rfl, hst⟩ := hrel
    have hsz : W.heap.size + 1 ≤ wr.heap.size := by have := hst.bel.size; rw [unhide Hs0] at this; exact this
    have hbW : Below W.heap.size W wr := (unhide Hb0).trans (hst.bel.mono (by omega))
    by_cases hlt : i < ts.length
    · have hlt' : (i : Int) < ts.length := by omega
      obtain ⟨p0, p1, p2, hp0, hp1, hp2, hkx⟩ := rxTs_get ts vs (unhide Hts) i hlt
      rcases unhide Hc with h0 | ⟨g, off, rfl, hgl, hcs⟩
      · rw [h0] at hlt; simp at hlt
      have hgb := hbW.block g hgl
      have e0 := (World.cell?_of_block (a := ⟨g, off + i * 3, none⟩) hgb).trans (hcs _ _ hp0)
      have e1 := (World.cell?_of_block (a := ⟨g, off + (i * 3 + 1), none⟩) hgb).trans (hcs _ _ hp1)
      have e2 := (World.cell?_of_block (a := ⟨g, off + (i * 3 + 2), none⟩) hgb).trans (hcs _ _ hp2)
      rw [← Nat.add_assoc] at e1 e2
      have hka : ts.getD i rx0 = ts[i] := by rw [List.getD_eq_getElem?_getD, List.getElem?_eq_getElem hlt]; rfl
      rw [hka] at hkx
      have hkk := unhide Hk _ (List.getElem_mem hlt)
      have hk0 := rxAt_kind hkx
      obtain ⟨kk, s1, n1, c1, s2, n2, c2, rfl, rfl, rfl⟩ := rxAt_formQ hkx
      obtain ⟨-, rfl⟩ : IntKind.i64 = IntKind.i64 ∧ kk = kindT ts[i] := by simpa using hk0
      have Ht : Hid (vs.take (i * 3) ++ [.int .i64 (kindT ts[i]), .slice s1 n1 c1, .slice s2 n2 c2] = vs.take ((i + 1) * 3)) := hide (by
        rw [show (i + 1) * 3 = i * 3 + 1 + 1 + 1 by omega, List.take_add_one, List.take_add_one, List.take_add_one, hp0, hp1, hp2]
        simp)
      generalize kindT ts[i] = kk at *
      have q0 : (kk == 0) = false := by simpa using hkk.1
      have q1 : (kk == 1) = false := by simpa using hkk.2.1
      have q3 : (kk == 3) = false := by simpa using hkk.2.2
      have q0' : (0 == kk) = false := by simpa using fun h => hkk.1 h.symm
      have q1' : (1 == kk) = false := by simpa using fun h => hkk.2.1 h.symm
      have q3' : (3 == kk) = false := by simpa using fun h => hkk.2.2 h.symm
      have Hst := hide hst
      clear hgb hp0 hp1 hp2 hkx hcs hka hkk hk0 hst hbW
      go_wp2_with (at_builtin; refine wpList_append_lies _ rfl _ _ 24 rfl (W.heap.size + 1) 26 i0 _ 3 56 Tryz.underlying24 hi0 hz0 hz1 hz2 rfl (by decide) _ _ _ rfl ((unhide Hst).row.alloc _) ⟨wr.heap.size, 0, none⟩ 1 1 [.int .i64 kk, .slice s1 n1 c1, .slice s2 n2 c2] rfl rfl ?q2 ?q3 (by decide) ?q4 ?q5 ?q6 (wr.heap.size + 1) ?q7 ?_)
      case q2 => exact World.news_of_block (MapKept.heap_alloc wr (.cells #[.int .i64 kk, .slice s1 n1 c1, .slice s2 n2 c2] 26)).1
      case q3 => simp [Value.oneCell']
      case q4 => unfold maxLen; omega
      case q5 => omega
      case q6 => simp; omega
      case q7 => simp
      intro g7 cap7 W7 hown7 hgr7 hgv7 hgl7
      rw [unhide Ht] at hown7
      have Hst2 := hide (cst_step (unhide Hst) hsz hown7 hgr7)
      clear hown7 hgr7 hgv7 hgl7 Hst
      go_wp2
      go_roundw
      case rel => exact ⟨i + 1, _, _, by go_num, by omega, rfl, unhide Hst2⟩
      case measure => simp [intOf]; omega
    · obtain rfl : i = ts.length := by omega
      have hvt : vs.take (ts.length * 3) = vs := List.take_of_length_le (Nat.le_of_eq (unhide Hvl))
      rw [hvt] at hst
      have hrx := unhide Hts
      have hbx := (hst.bel.block W.heap.size (by omega)).trans (unhide Hbx)
      by_cases h0 : ts = []
      · subst h0
        have HE := hide (refEmpty_any wr)
        have Hbx1 := hide hbx; have HbW := hide hbW; have hsz1 := hsz
        clear hbx hst hrx hbW hvt
        go_wp2_with fail
        refine (unhide HE).mono ?_
        rintro e9 w9 ⟨rfl, hb9⟩
        have hbx9 := (hb9.block W.heap.size (by omega)).trans (unhide Hbx1)
        have b0 := cell_block hbx9 0 _ rfl
        have b1 := cell_block hbx9 1 _ rfl
        have b2 := cell_block hbx9 2 _ rfl
        have f0 := frozen_block hbx9 0
        have f1 := frozen_block hbx9 1
        have f2 := frozen_block hbx9 2
        have HbW9 := hide ((unhide HbW).trans (hb9.mono (by omega)))
        have Hbx9 := hide hbx9
        clear hb9 hbx9 HE
        go_wp2
        have hg3 := block_set (i := 2) (block_set (i := 1) (block_set (i := 0) (unhide Hbx9) (.int .i64 1)) (.slice none 0 0)) (.slice none 0 0)
        have t0 := cell_block hg3 0 (.int .i64 1) rfl
        have t1 := cell_block hg3 1 (.slice none 0 0) rfl
        have t2 := cell_block hg3 2 (.slice none 0 0) rfl
        refine bodyPost_ret (v := .agg #[.int .i64 1, .slice none 0 0, .slice none 0 0]) (by simp [results, Tryz.results19, go_sem, t0, t1, t2]) rfl ?_
        refine ⟨_, _, _, rfl, ((((unhide HbW9).setCell (p := ⟨W.heap.size, 0, none⟩) (Nat.le_refl _) _).setCell (p := ⟨W.heap.size, 1, none⟩) (Nat.le_refl _) _).setCell (p := ⟨W.heap.size, 2, none⟩) (Nat.le_refl _) _), ?_⟩
        unfold catX RxAt
        exact ⟨rfl, ⟨none, 0, rfl, .inl rfl, .inl rfl⟩, none, 0, [], rfl, rfl, .inl rfl⟩
      · have hpos : 0 < ts.length := List.length_pos_iff.2 h0
        have z0 : ((ts.length : Int) == 0) = false := by simp; omega
        obtain ⟨g9, hg9⟩ : ∃ g9, ka = some ⟨g9, 0, none⟩ ∧ W.heap.size + 1 ≤ g9 ∧ g9 < wr.heap.size := by
          rcases hst.row.2 with ⟨hv, -⟩ | ⟨g9, cap9, cur, hv, hB9, hh, rest⟩
          · simp only [Value.slice.injEq] at hv; omega
          · simp only [Value.slice.injEq] at hv
            exact ⟨g9, hv.1, hB9, lt_of_some hh⟩
        obtain ⟨rfl, hB9, hl9⟩ := hg9
        have hcell : ∀ j u, vs[j]? = some u → wr.cell? ⟨g9, j, none⟩ = some u := fun j u hj => by
          have := own_cell hst.row rfl j (List.getElem?_eq_some_iff.1 hj).1
          rw [this, List.getD_eq_getElem?_getD, hj]; rfl
        by_cases h1 : ts.length = 1
        · obtain ⟨t, rfl⟩ := List.length_eq_one_iff.1 h1
          obtain ⟨p0, p1, p2, hp0, hp1, hp2, hkx⟩ := rxTs_get [t] vs hrx 0 (by simp)
          have e0 := hcell _ _ hp0
          have e1 := hcell _ _ hp1
          have e2 := hcell _ _ hp2
          obtain ⟨kk, s1, n1, c1, s2, n2, c2, rfl, rfl, rfl⟩ := rxAt_formQ hkx
          have hX : RxAt Q W t (.int .i64 kk) (.slice s1 n1 c1) (.slice s2 n2 c2) := hkx
          have HX := hide hX; have HbW := hide hbW; have Hbx1 := hide hbx
          have b0 := cell_block hbx 0 _ rfl
          have b1 := cell_block hbx 1 _ rfl
          have b2 := cell_block hbx 2 _ rfl
          have f0 := frozen_block hbx 0
          have f1 := frozen_block hbx 1
          have f2 := frozen_block hbx 2
          clear hbx hst hrx hbW hvt hp0 hp1 hp2 hkx hX hcell
          simp only [List.length_cons, List.length_nil, Nat.zero_add, Nat.zero_mul] at e0 e1 e2 ⊢
          go_wp2
          have hg3 := block_set (i := 2) (block_set (i := 1) (block_set (i := 0) (unhide Hbx1) (.int .i64 kk)) (.slice s1 n1 c1)) (.slice s2 n2 c2)
          have t0 := cell_block hg3 0 (.int .i64 kk) rfl
          have t1 := cell_block hg3 1 (.slice s1 n1 c1) rfl
          have t2 := cell_block hg3 2 (.slice s2 n2 c2) rfl
          refine bodyPost_ret (v := .agg #[.int .i64 kk, .slice s1 n1 c1, .slice s2 n2 c2]) (by simp [results, Tryz.results19, go_sem, t0, t1, t2]) rfl ?_
          have hB := (((Below.refl W.heap.size wr).setCell (p := ⟨W.heap.size, 0, none⟩) (Nat.le_refl _) (.int .i64 kk)).setCell (p := ⟨W.heap.size, 1, none⟩) (Nat.le_refl _) (.slice s1 n1 c1)).setCell (p := ⟨W.heap.size, 2, none⟩) (Nat.le_refl _) (.slice s2 n2 c2)
          have hB2 := (unhide HbW).trans hB
          exact ⟨_, _, _, rfl, hB2, rxAt_kept (Q := Q) hB2.size (fun k _ hl => hB2.block k hl) (fun _ h _ => .inl h) _ _ _ _ (unhide HX)⟩
        · have z1 : ((ts.length : Int) == 1) = false := by simp; omega
          have Hrx := hide hrx; have HbW := hide hbW; have Hbx1 := hide hbx; have Hcell := hide hcell
          have b0 := cell_block hbx 0 _ rfl
          have b1 := cell_block hbx 1 _ rfl
          have b2 := cell_block hbx 2 _ rfl
          have f0 := frozen_block hbx 0
          have f1 := frozen_block hbx 1
          have f2 := frozen_block hbx 2
          have HT := hide (catX_more (ts := ts) (by omega))
          clear hbx hst hrx hbW hvt hcell
          go_wp2
          have hg3 := block_set (i := 2) (block_set (i := 1) (block_set (i := 0) (unhide Hbx1) (.int .i64 3)) (.slice none 0 0)) (.slice (some ⟨g9, 0, none⟩) ts.length kc)
          have t0 := cell_block hg3 0 (.int .i64 3) rfl
          have t1 := cell_block hg3 1 (.slice none 0 0) rfl
          have t2 := cell_block hg3 2 (.slice (some ⟨g9, 0, none⟩) ts.length kc) rfl
          refine bodyPost_ret (v := .agg #[.int .i64 3, .slice none 0 0, .slice (some ⟨g9, 0, none⟩) ts.length kc]) (by simp [results, Tryz.results19, go_sem, t0, t1, t2]) rfl ?_
          have hB := (((Below.refl W.heap.size wr).setCell (p := ⟨W.heap.size, 0, none⟩) (Nat.le_refl _) (.int .i64 3)).setCell (p := ⟨W.heap.size, 1, none⟩) (Nat.le_refl _) (.slice none 0 0)).setCell (p := ⟨W.heap.size, 2, none⟩) (Nat.le_refl _) (.slice (some ⟨g9, 0, none⟩) ts.length kc)
          have hB2 := (unhide HbW).trans hB
          refine ⟨_, _, _, rfl, hB2, ?_⟩
          rw [unhide HT]
          unfold RxAt
          refine ⟨rfl, ⟨none, 0, rfl, .inl rfl, .inl rfl⟩, some ⟨g9, 0, none⟩, kc, vs, rfl, rxTs_kept (Q := Q) hB2.size (fun k _ hl => hB2.block k hl) (fun _ h _ => .inl h) _ _ (unhide Hrx), .inr ⟨g9, 0, rfl, .inr (by omega), Nat.lt_of_lt_of_le hl9 hB.size, fun j u hj => ?_⟩⟩
          rw [Nat.zero_add]
          exact set3_cell (p := ⟨g9, j, none⟩) (by simp only; omega) (unhide Hcell j u hj)
end Go.Proofs.YtkimhfajfbcdmaaGreatDoor

/- Pools: the answer. -/
import Derived.Test.YtkimhfajfbcdmaaGreatDoorGE
namespace Go.Proofs.YtkimhfajfbcdmaaGreatDoor
open Go.RowKit Go.Maps

variable {av : Nat → Prop}

theorem heldX_lt {L : List Ab} {x : Nat} (hx : x < L.length) : heldX L x < L.length := by
  unfold heldX
  split
  · omega
  · split <;> omega
theorem rxAt_form {Q : Nat → Prop} {w : World} {t : Rx} {v0 v1 v2 : Value} (h : RxAt Q w t v0 v1 v2) : ∃ k sa n sc ka m kc, v0 = .int .i64 k ∧ v1 = .slice sa n sc ∧ v2 = .slice ka m kc := by
  cases t
  unfold RxAt at h
  obtain ⟨rfl, ⟨sa, sc, rfl, -⟩, ka, kc, vs, rfl, -⟩ := h
  exact ⟨_, _, _, _, _, _, _, rfl, rfl, rfl⟩
/-- What is new stays, when a box below it is written. -/
theorem rxAt_set3 {w1 w2 : World} {b : Nat} {t : Rx} {v0 v1 v2 u0 u1 u2 : Value} {B : Nat} (h : RxAt (fun k => w1.heap.size ≤ k) w2 t v0 v1 v2) (hb : b < w1.heap.size) (hB : B ≤ w1.heap.size) : RxAt (fun k => B ≤ k) (((w2.setCell ⟨b, 0, none⟩ u0).setCell ⟨b, 1, none⟩ u1).setCell ⟨b, 2, none⟩ u2) t v0 v1 v2 :=
  rxAt_kept (by simp) (fun k hk _ => by
    rw [Below.heap_setCell _ _ _ k (fun e => by simp only at e; omega), Below.heap_setCell _ _ _ k (fun e => by simp only at e; omega), Below.heap_setCell _ _ _ k (fun e => by simp only at e; omega)]) (fun k hk _ => by omega) t v0 v1 v2 h
set_option maxHeartbeats 4000000 in
set_option maxRecDepth 100000 in
theorem answer_any (w : World) (B pb mb sb : Nat) (L : List Ab) (ov : Value) (e : Int) (sn : Nat) (DS : DataW Unit) (hP : Pool av w B pb mb sb L ov e sn DS) (h2 : 2 ≤ L.length) (hL : L.length ≤ 1500000000000) (x : Nat) (hx : x < L.length) (hav : ∀ k, av k → k < w.heap.size) :
    Calls Tryz.prog 12 #[.pointer (some ⟨pb, 0, none⟩), .int .i64 x] w fun e' w' => ∃ v0 v1 v2, e' = .returned (.tuple #[.agg #[v0, v1, v2], .int .i64 (heldE L e x)]) ∧ Below B w w' ∧
      (if heldE L e x = 0 then RxAt (fun k => w.heap.size ≤ k) w' (treeA L (heldX L x)) v0 v1 v2 else (v0 = .int .i64 0 ∧ v1 = .slice none 0 0 ∧ v2 = .slice none 0 0)) := by
  have hBw : B ≤ w.heap.size := by
    obtain ⟨v0, v2, hpb⟩ := pool_pb hP
    have := lt_of_some hpb
    have := hP.bp
    omega
  have hb0 : Below w.heap.size w (w.alloc (.cells #[.int .i64 0, .slice none 0 0, .slice none 0 0] 26)) := (Below.refl _ _).alloc (Nat.le_refl _) _
  have hres : (w.alloc (.cells #[.int .i64 0, .slice none 0 0, .slice none 0 0] 26)).heap[w.heap.size]? = some (.cells #[.int .i64 0, .slice none 0 0, .slice none 0 0] 26 (0, 0)) := (MapKept.heap_alloc w _).1
  have hP0 := pool_below hP hb0
  have HH := hide (held_any _ B pb mb sb L ov e sn DS hP0 x hx)
  have hxl := heldX_lt hx
  generalize hx' : heldX L x = x' at *
  generalize he' : heldE L e x = e9 at *
  have Hx' := hide hx'; have He' := hide he'
  have Hb0 := hide hb0; have Hres := hide hres
  clear hP hP0 hx' he' hb0 hres
  go_enter Tryz.func12, Tryz.ntmps12
  go_wp2_with fail
  refine (unhide HH).mono ?_
  rintro e1 w1 ⟨rfl, hp1, hf1⟩
  obtain ⟨q0, q2, hpb⟩ := pool_pb hp1
  have c5 := cell_block hpb 5 _ rfl
  have hr1 : w1.heap[w.heap.size]? = some (.cells #[.int .i64 0, .slice none 0 0, .slice none 0 0] 26 (0, 0)) := (hf1.block _ (lt_of_some (unhide Hres)) (.inr (.inl ⟨_, _, _, unhide Hres, by decide, by decide, by decide⟩))).trans (unhide Hres)
  have hbb : Below B w w1 := (below_le (unhide Hb0) hBw).trans (fr_base hf1 (Nat.le_trans hBw (unhide Hb0).size))
  have hs1 : w.heap.size < w1.heap.size := lt_of_some hr1
  have s0 := cell_block hr1 0 _ rfl
  have s1 := cell_block hr1 1 _ rfl
  have s2 := cell_block hr1 2 _ rfl
  have f0 := frozen_block hr1 0
  have f1 := frozen_block hr1 1
  have f2 := frozen_block hr1 2
  have Hr1 := hide hr1; have Hbb := hide hbb
  by_cases h0 : e9 = 0
  · subst h0
    have HT := hide (fun w' (hb : Below w1.heap.size w1 w') => tree_any B pb mb sb L ov 0 sn DS h2 hL x' hxl w' (pool_below hp1 hb) (fun k ha => by have := hav k ha; have := hb.size; omega))
    clear hp1 hf1 hpb hr1 hbb
    go_wp2_with fail
    refine (unhide HT _ (Below.refl _ _)).mono ?_
    rintro e2 w2 ⟨v0, v1, v2, rfl, hrx, hb2⟩
    obtain ⟨k9, sa9, n9, sc9, ka9, m9, kc9, rfl, rfl, rfl⟩ := rxAt_form hrx
    have hr2 : w2.heap[w.heap.size]? = _ := (hb2.block _ hs1).trans (unhide Hr1)
    have u0 := cell_block hr2 0 _ rfl
    have u1 := cell_block hr2 1 _ rfl
    have u2 := cell_block hr2 2 _ rfl
    have g0 := frozen_block hr2 0
    have g1 := frozen_block hr2 1
    have g2 := frozen_block hr2 2
    have hb3 := (unhide Hbb).trans (below_le hb2 (unhide Hbb).size |> fun h => below_le h (by have := (unhide Hbb).size; omega))
    have Hr2 := hide hr2; have Hrx := hide hrx; have Hb3 := hide hb3
    clear hr2 hrx hb2 hb3 HT s0 s1 s2 f0 f1 f2 c5
    go_wp2
    have hg3 := block_set (i := 2) (block_set (i := 1) (block_set (i := 0) (unhide Hr2) (.int .i64 k9)) (.slice sa9 n9 sc9)) (.slice ka9 m9 kc9)
    have t0 := cell_block hg3 0 (.int .i64 k9) rfl
    have t1 := cell_block hg3 1 (.slice sa9 n9 sc9) rfl
    have t2 := cell_block hg3 2 (.slice ka9 m9 kc9) rfl
    refine bodyPost_ret (v := .tuple #[.agg #[.int .i64 k9, .slice sa9 n9 sc9, .slice ka9 m9 kc9], .int .i64 0]) (by simp [results, Tryz.results12, go_sem, t0, t1, t2]) rfl ?_
    refine ⟨_, _, _, rfl, ((((unhide Hb3).setCell (p := ⟨w.heap.size, 0, none⟩) hBw _).setCell (p := ⟨w.heap.size, 1, none⟩) hBw _).setCell (p := ⟨w.heap.size, 2, none⟩) hBw _), ?_⟩
    exact rxAt_set3 (unhide Hrx) hs1 (by omega)
  · have h0b : (e9 != 0) = true := by simpa using h0
    have hpn : pb ≠ w.heap.size := fun e => by rw [e, hr1] at hpb; simp at hpb
    have c5a : (((w1.setCell ⟨w.heap.size, 0, none⟩ (.int .i64 0)).setCell ⟨w.heap.size, 1, none⟩ (.slice none 0 0)).setCell ⟨w.heap.size, 2, none⟩ (.slice none 0 0)).cell? ⟨pb, 5, none⟩ = some (.int .i64 e9) := set3_cell (p := ⟨pb, 5, none⟩) hpn c5
    clear hp1 hf1 hpb hr1 hbb
    go_wp2
    go_region
    all_goals
      go_wp2
      have hg3 := block_set (i := 2) (block_set (i := 1) (block_set (i := 0) (unhide Hr1) (.int .i64 0)) (.slice none 0 0)) (.slice none 0 0)
      have t0 := cell_block hg3 0 (.int .i64 0) rfl
      have t1 := cell_block hg3 1 (.slice none 0 0) rfl
      have t2 := cell_block hg3 2 (.slice none 0 0) rfl
      refine bodyPost_ret (v := .tuple #[.agg #[.int .i64 0, .slice none 0 0, .slice none 0 0], .int .i64 e9]) (by simp [results, Tryz.results12, go_sem, t0, t1, t2]) rfl ?_
      exact ⟨_, _, _, rfl, ((((unhide Hbb).setCell (p := ⟨w.heap.size, 0, none⟩) hBw _).setCell (p := ⟨w.heap.size, 1, none⟩) hBw _).setCell (p := ⟨w.heap.size, 2, none⟩) hBw _).drew, rfl, rfl, rfl⟩
end Go.Proofs.YtkimhfajfbcdmaaGreatDoor

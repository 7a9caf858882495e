/- Pools: the answer. (and what it leads to) -/
import Derived.Test.YtkimhfajfbcdmaaGreatDoorGE
import Derived.RangeFuncNested
import Derived.RangeFuncBound
import Derived.RangeFuncCalls
import Derived.RangeFuncLeaves
import Derived.Shelf.Abstract
import Derived.Shelf.RegionOpen
import Derived.OwnWalkIn
import Derived.TacticsInMore
import Derived.LoopNIn
import Derived.LoopIn
/- Pools: the answer. -/
namespace Go.Proofs.YtkimhfajfbcdmaaGreatDoor
open Go.RowKit Go.Maps

variable {av : Nat → Prop}

theorem heldX_lt {L : List Ab} {x : Nat} (hx : x < L.length) : heldX L x < L.length := by
  unfold heldX
  split
  · omega
  · split <;> omega
theorem rxAt_form {Q : Nat → Prop} {w : World} {t : Rx} {v0 v1 v2 : Value} (h : RxAt Q w t v0 v1 v2) : ∃ k sa n sc ka m kc, v0 = .int .i64 k ∧ v1 = .slice sa n sc ∧ v2 = .slice ka m kc := by
  cases t
  unfold RxAt at h
  obtain ⟨rfl, ⟨sa, sc, rfl, -⟩, ka, kc, vs, rfl, -⟩ := h
  exact ⟨_, _, _, _, _, _, _, rfl, rfl, rfl⟩
/-- What is new stays, when a box below it is written. -/
theorem rxAt_set3 {w1 w2 : World} {b : Nat} {t : Rx} {v0 v1 v2 u0 u1 u2 : Value} {B : Nat} (h : RxAt (fun k => w1.heap.size ≤ k) w2 t v0 v1 v2) (hb : b < w1.heap.size) (hB : B ≤ w1.heap.size) : RxAt (fun k => B ≤ k) (((w2.setCell ⟨b, 0, none⟩ u0).setCell ⟨b, 1, none⟩ u1).setCell ⟨b, 2, none⟩ u2) t v0 v1 v2 :=
  rxAt_kept (by simp) (fun k hk _ => by
    rw [Below.heap_setCell _ _ _ k (fun e => by simp only at e; omega), Below.heap_setCell _ _ _ k (fun e => by simp only at e; omega), Below.heap_setCell _ _ _ k (fun e => by simp only at e; omega)]) (fun k hk _ => by omega) t v0 v1 v2 h
set_option maxHeartbeats 4000000 in
set_option maxRecDepth 100000 in
theorem answer_any (w : World) (B pb mb sb : Nat) (L : List Ab) (ov : Value) (e : Int) (sn : Nat) (DS : DataW Unit) (hP : Pool av w B pb mb sb L ov e sn DS) (h2 : 2 ≤ L.length) (hL : L.length ≤ 1500000000000) (x : Nat) (hx : x < L.length) (hav : ∀ k, av k → k < w.heap.size) :
    Calls Tryz.prog 12 #[.pointer (some ⟨pb, 0, none⟩), .int .i64 x] w fun e' w' => ∃ v0 v1 v2, e' = .returned (.tuple #[.agg #[v0, v1, v2], .int .i64 (heldE L e x)]) ∧ Below B w w' ∧
      (if heldE L e x = 0 then RxAt (fun k => w.heap.size ≤ k) w' (treeA L (heldX L x)) v0 v1 v2 else (v0 = .int .i64 0 ∧ v1 = .slice none 0 0 ∧ v2 = .slice none 0 0)) := by
  have hBw : B ≤ w.heap.size := by
    obtain ⟨v0, v2, hpb⟩ := pool_pb hP
    have := lt_of_some hpb
    have := hP.bp
    omega
  have hb0 : Below w.heap.size w (w.alloc (.cells #[.int .i64 0, .slice none 0 0, .slice none 0 0] 26)) := (Below.refl _ _).alloc (Nat.le_refl _) _
  have hres : (w.alloc (.cells #[.int .i64 0, .slice none 0 0, .slice none 0 0] 26)).heap[w.heap.size]? = some (.cells #[.int .i64 0, .slice none 0 0, .slice none 0 0] 26 (0, 0)) := (MapKept.heap_alloc w _).1
  have hP0 := pool_below hP hb0
  have HH := hide (held_any _ B pb mb sb L ov e sn DS hP0 x hx)
  have hxl := heldX_lt hx
  generalize hx' : heldX L x = x' at *
  generalize he' : heldE L e x = e9 at *
  have Hx' := hide hx'; have He' := hide he'
  have Hb0 := hide hb0; have Hres := hide hres
  clear hP hP0 hx' he' hb0 hres
  go_enter Tryz.func12, Tryz.ntmps12
  go_wp2_with fail
  refine (unhide HH).mono ?_
  rintro e1 w1 ⟨rfl, hp1, hf1⟩
  obtain ⟨q0, q2, hpb⟩ := pool_pb hp1
  have c5 := cell_block hpb 5 _ rfl
  have hr1 : w1.heap[w.heap.size]? = some (.cells #[.int .i64 0, .slice none 0 0, .slice none 0 0] 26 (0, 0)) := (hf1.block _ (lt_of_some (unhide Hres)) (.inr (.inl ⟨_, _, _, unhide Hres, by decide, by decide, by decide⟩))).trans (unhide Hres)
  have hbb : Below B w w1 := (below_le (unhide Hb0) hBw).trans (fr_base hf1 (Nat.le_trans hBw (unhide Hb0).size))
  have hs1 : w.heap.size < w1.heap.size := lt_of_some hr1
  have s0 := cell_block hr1 0 _ rfl
  have s1 := cell_block hr1 1 _ rfl
  have s2 := cell_block hr1 2 _ rfl
  have f0 := frozen_block hr1 0
  have f1 := frozen_block hr1 1
  have f2 := frozen_block hr1 2
  have Hr1 := hide hr1; have Hbb := hide hbb
  by_cases h0 : e9 = 0
  · subst h0
    have HT := hide (fun w' (hb : Below w1.heap.size w1 w') => tree_any B pb mb sb L ov 0 sn DS h2 hL x' hxl w' (pool_below hp1 hb) (fun k ha => by have := hav k ha; have := hb.size; omega))
    clear hp1 hf1 hpb hr1 hbb
    go_wp2_with fail
    refine (unhide HT _ (Below.refl _ _)).mono ?_
    rintro e2 w2 ⟨v0, v1, v2, rfl, hrx, hb2⟩
    obtain ⟨k9, sa9, n9, sc9, ka9, m9, kc9, rfl, rfl, rfl⟩ := rxAt_form hrx
    have hr2 : w2.heap[w.heap.size]? = _ := (hb2.block _ hs1).trans (unhide Hr1)
    have u0 := cell_block hr2 0 _ rfl
    have u1 := cell_block hr2 1 _ rfl
    have u2 := cell_block hr2 2 _ rfl
    have g0 := frozen_block hr2 0
    have g1 := frozen_block hr2 1
    have g2 := frozen_block hr2 2
    have hb3 := (unhide Hbb).trans (below_le hb2 (unhide Hbb).size |> fun h => below_le h (by have := (unhide Hbb).size; omega))
    have Hr2 := hide hr2; have Hrx := hide hrx; have Hb3 := hide hb3
    clear hr2 hrx hb2 hb3 HT s0 s1 s2 f0 f1 f2 c5
    go_wp2
    have hg3 := block_set (i := 2) (block_set (i := 1) (block_set (i := 0) (unhide Hr2) (.int .i64 k9)) (.slice sa9 n9 sc9)) (.slice ka9 m9 kc9)
    have t0 := cell_block hg3 0 (.int .i64 k9) rfl
    have t1 := cell_block hg3 1 (.slice sa9 n9 sc9) rfl
    have t2 := cell_block hg3 2 (.slice ka9 m9 kc9) rfl
    refine bodyPost_ret (v := .tuple #[.agg #[.int .i64 k9, .slice sa9 n9 sc9, .slice ka9 m9 kc9], .int .i64 0]) (by simp [results, Tryz.results12, go_sem, t0, t1, t2]) rfl ?_
    refine ⟨_, _, _, rfl, ((((unhide Hb3).setCell (p := ⟨w.heap.size, 0, none⟩) hBw _).setCell (p := ⟨w.heap.size, 1, none⟩) hBw _).setCell (p := ⟨w.heap.size, 2, none⟩) hBw _), ?_⟩
    exact rxAt_set3 (unhide Hrx) hs1 (by omega)
  · have h0b : (e9 != 0) = true := by simpa using h0
    have hpn : pb ≠ w.heap.size := fun e => by rw [e, hr1] at hpb; simp at hpb
    have c5a : (((w1.setCell ⟨w.heap.size, 0, none⟩ (.int .i64 0)).setCell ⟨w.heap.size, 1, none⟩ (.slice none 0 0)).setCell ⟨w.heap.size, 2, none⟩ (.slice none 0 0)).cell? ⟨pb, 5, none⟩ = some (.int .i64 e9) := set3_cell (p := ⟨pb, 5, none⟩) hpn c5
    clear hp1 hf1 hpb hr1 hbb
    go_wp2
    go_region
    all_goals
      go_wp2
      have hg3 := block_set (i := 2) (block_set (i := 1) (block_set (i := 0) (unhide Hr1) (.int .i64 0)) (.slice none 0 0)) (.slice none 0 0)
      have t0 := cell_block hg3 0 (.int .i64 0) rfl
      have t1 := cell_block hg3 1 (.slice none 0 0) rfl
      have t2 := cell_block hg3 2 (.slice none 0 0) rfl
      refine bodyPost_ret (v := .tuple #[.agg #[.int .i64 0, .slice none 0 0, .slice none 0 0], .int .i64 e9]) (by simp [results, Tryz.results12, go_sem, t0, t1, t2]) rfl ?_
      exact ⟨_, _, _, rfl, ((((unhide Hbb).setCell (p := ⟨w.heap.size, 0, none⟩) hBw _).setCell (p := ⟨w.heap.size, 1, none⟩) hBw _).setCell (p := ⟨w.heap.size, 2, none⟩) hBw _).drew, rfl, rfl, rfl⟩
end Go.Proofs.YtkimhfajfbcdmaaGreatDoor

/- Going over a row of numbers from its end. -/
namespace Go.Proofs.YtkimhfajfbcdmaaGreatDoor
open Go.RowKit Go.Maps Go.Shelf

attribute [local go_sem] Oper.semAt_some

/-- The cells of some blocks are as they were. -/
def KeepC (C : Nat → Prop) (W W' : World) : Prop := W.heap.size ≤ W'.heap.size ∧ ∀ p v, C p.block → W.cell? p = some v → W'.cell? p = some v
theorem keepC_refl (C : Nat → Prop) (W : World) : KeepC C W W := ⟨Nat.le_refl _, fun _ _ _ h => h⟩
theorem keepC_t {C : Nat → Prop} {X Y Z : World} (h : KeepC C X Y) (k : KeepC C Y Z) : KeepC C X Z := ⟨Nat.le_trans h.1 k.1, fun p v ho hv => k.2 p v ho (h.2 p v ho hv)⟩
/-- The numbers of a row with their places, the last one first. -/
def backL (l : List Int) : List (Int × Int) := ((List.range l.length).map fun (i : Nat) => ((i : Int), l.getD i 0)).reverse
def backTo (l : List Int) (k : Nat) : List (Int × Int) := (backL l).take k
theorem backL_length (l : List Int) : (backL l).length = l.length := by simp [backL]
theorem backTo_succ (l : List Int) (k : Nat) (hk : k < l.length) : backTo l (k + 1) = backTo l k ++ [(((l.length - 1 - k : Nat) : Int), l.getD (l.length - 1 - k) 0)] := by
  unfold backTo
  rw [List.take_add_one, List.getElem?_eq_getElem (by rw [backL_length]; exact hk)]
  unfold backL
  rw [List.getElem_reverse]
  simp
set_option maxRecDepth 100000 in
set_option maxHeartbeats 4000000 in
theorem back_in {α : Type} (val : α → Int × Int) (bl : List α) (F : Fence) (n : Nat) (h73 : F.fn 73) (hro : F.round = none) (hn : 1 ≤ n) (l0 Bs : Nat) (a : Option Addr) (cap : Nat) (C : Nat → Prop) (l : List Int) (hbl : bl.map val = backL l) (hlen : l.length ≤ 1500000000000) (J Jx : List α → World → Prop)
    (hY : ∀ pre x W, J pre W → pre.length < l.length → YieldAt F (n - 1) Tryz.prog l0 #[.int .i64 (val x).1, .int .i64 (val x).2] W fun e W' =>
      (e = .returned (.bool true) ∧ J (pre ++ [x]) W' ∧ KeepC C W W') ∨ (e = .returned (.bool false) ∧ Jx (pre ++ [x]) W'))
    (W : World) (hCB : C Bs) (hBs : W.cell? ⟨Bs, 0, none⟩ = some (.slice a l.length cap))
    (hc : l = [] ∨ ∃ b off, a = some ⟨b, off, none⟩ ∧ C b ∧ ∀ j, j < l.length → W.cell? ⟨b, off + j, none⟩ = some (.int .i64 (l.getD j 0))) (h0 : J [] W) :
    CallsIn F n Tryz.prog 73 #[.func (.yield l0) #[] #[], .pointer (some ⟨Bs, 0, none⟩)] W fun e W' => (∃ v, e = .returned v) ∧
      ((∃ ys, ys = bl ∧ J ys W') ∨ (∃ pre, pre <+: bl ∧ Jx pre W')) := by
  have hbll : bl.length = l.length := by rw [← backL_length l, ← hbl, List.length_map]
  refine callsIn_of_wp Tryz.func73 rfl h73 ?_ hro
  simp only [Tryz.ntmps73, List.size_toArray, List.length_cons, List.length_nil, Nat.reduceAdd, Nat.reduceSub, Array.replicate_succ, Array.replicate_zero, List.push_toArray, List.append_toArray, List.nil_append, List.cons_append]
  gi_wp2
  gi_loopw [3] (fun iv wr => ∃ k : Nat, k ≤ l.length ∧ iv = .int .i64 ((l.length : Int) - 1 - k) ∧ J (bl.take k) wr ∧ KeepC C W wr) (fun iv _ => (intOf iv + 1).toNat)
  case atStart => exact ⟨0, Nat.zero_le _, by simp, by simpa using h0, keepC_refl _ _⟩
  case round =>
    obtain ⟨k, hk, rfl, hJs, hkp⟩ := hrel
    by_cases hlt : k < l.length
    · rcases hc with h | ⟨b, off, rfl, hCb, hcs⟩
      · rw [h] at hlt; simp at hlt
      obtain ⟨m, hm⟩ : ∃ m : Nat, (l.length : Int) - 1 - k = m := ⟨l.length - 1 - k, by omega⟩
      have hml : m < l.length := by omega
      have hmi : (m : Int) < l.length := by omega
      have hm0 : (0 : Int) ≤ m := by omega
      have c0 := hkp.2 _ _ hCB hBs
      have c1 := hkp.2 ⟨b, off + m, none⟩ _ hCb (hcs m hml)
      obtain ⟨x, hx⟩ : ∃ x, bl[k]? = some x := ⟨bl[k]'(by omega), List.getElem?_eq_getElem _⟩
      have hvx : val x = ((m : Int), l.getD m 0) := by
        have h1 : (bl.map val)[k]? = some (val x) := by rw [List.getElem?_map, hx]; rfl
        have h2 := backTo_succ l k hlt
        rw [hbl] at h1
        unfold backTo at h2
        rw [List.take_add_one, h1, show l.length - 1 - k = m by omega] at h2
        simpa using h2
      have HS : Hid (bl.take (k + 1) = bl.take k ++ [x]) := hide (by rw [List.take_add_one, hx]; rfl)
      have hpl : (bl.take k).length < l.length := by rw [List.length_take]; omega
      have HP2 : Hid (bl.take (k + 1) <+: bl) := hide (List.take_prefix _ _)
      rw [hm]
      obtain ⟨fn, tmps, assign, body, hy, hR⟩ := hY (bl.take k) x wr hJs hpl
      rw [hvx] at hy
      simp only at hy hR
      have Hkp := hide hkp
      have Hm := hide hm
      clear hJs hpl hkp hm hvx hx
      generalize l.getD m 0 = y at *
      gi_wp2
      refine hR.mono ?_
      rintro e W3 (⟨rfl, hJ3, hk3⟩ | ⟨rfl, hJx3⟩)
      · gi_wp2
        go_roundw
        case rel => exact ⟨k + 1, by omega, by have := unhide Hm; congr 1; omega, by rw [unhide HS]; exact hJ3, keepC_t (unhide Hkp) hk3⟩
        case measure => simp [intOf]
      · gi_wp2
        refine bodyPost_ret (results_none rfl _ _ _) rfl ?_
        exact ⟨⟨_, rfl⟩, .inr ⟨_, unhide HP2, by rw [unhide HS]; exact hJx3⟩⟩
    · obtain rfl : k = l.length := by omega
      have hneg : ¬ (0 : Int) ≤ (l.length : Int) - 1 - l.length := by omega
      have hJ2 : J bl wr := by
        have : bl.take l.length = bl := by rw [← hbll]; exact List.take_length
        rw [this] at hJs
        exact hJs
      have hv : (l.length : Int) - 1 - l.length = -1 := by omega
      rw [hv]
      have HJ2 := hide hJ2
      clear hJs hkp hneg hJ2 hv
      gi_wp2
      go_end0
      exact ⟨⟨_, rfl⟩, .inl ⟨_, rfl, unhide HJ2⟩⟩
/-- As the laws of ranges have it. -/
theorem back_seq {α : Type} (val : α → Int × Int) (bl : List α) (F : Fence) (n : Nat) (h73 : F.fn 73) (hro : F.round = none) (hn : 1 ≤ n) (Bs : Nat) (a : Option Addr) (cap : Nat) (C : Nat → Prop) (l : List Int) (hbl : bl.map val = backL l) (hlen : l.length ≤ 1500000000000) (w : World) (hBl : Bs < w.heap.size) (hCB : C Bs) (hBs : w.cell? ⟨Bs, 0, none⟩ = some (.slice a l.length cap))
    (hr : NRow w a l) (hCa : ∀ x, a = some x → C x.block) :
    SeqStopsK F n Tryz.prog 73 #[.pointer (some ⟨Bs, 0, none⟩)] (fun x : α => #[Value.int .i64 (val x).1, Value.int .i64 (val x).2]) (KeepC C) (fun ys => ys = bl) (fun pre => pre <+: bl) l.length w := fun l0 J Jx W hW _ _ hY h0 => by
  refine back_in val bl F n h73 hro hn l0 Bs a cap C l hbl hlen J Jx hY W hCB ((hW.cell (p := ⟨Bs, 0, none⟩) hBl).trans hBs) ?_ h0
  rcases hr with h | ⟨b, off, rfl, hlt, hcs⟩
  · exact .inl h
  · exact .inr ⟨b, off, rfl, hCa _ rfl, fun j hj => (hW.cell (p := ⟨b, off + j, none⟩) hlt).trans (hcs j hj)⟩
theorem keepC_b {C : Nat → Prop} {w : World} (W : World) (l : Nat) (o o' : Obj) (_ : w.heap.size ≤ l) (h : W.heap[l]? = some o) (hc : o.isCells = false) (_ : o.isWalk = false) : KeepC C W (W.putObj l o') :=
  ⟨(grownBy_putObj' W l o').size, fun p v _ hv => by
    have hne : p.block ≠ l := fun e => by
      simp only [World.cell?] at hv
      rw [e, h] at hv
      cases o <;> simp [Obj.isCells] at hc hv
    have hb := (grownBy_putObj' W l o').block p.block (World.block_lt_of_cell? W p hv) (fun e => hne (by cases e; rfl))
    simp only [World.cell?] at hv ⊢
    rw [hb]; exact hv⟩
theorem backL_snd (l : List Int) : (backL l).map Prod.snd = l.reverse := by
  unfold backL
  rw [List.map_reverse, List.map_map]
  congr 1
  refine List.ext_getElem? fun i => ?_
  rw [List.getElem?_map]
  by_cases h : i < l.length
  · rw [List.getElem?_range h, List.getElem?_eq_getElem h]
    simp [List.getD_eq_getElem?_getD, List.getElem?_eq_getElem h]
  · rw [List.getElem?_eq_none (by simpa using h), List.getElem?_eq_none (by simpa using h)]
    rfl
set_option maxHeartbeats 1000000 in
set_option maxRecDepth 100000 in
theorem backward_any (a : Option Addr) (n c : Nat) (w : World) :
    Calls Tryz.prog 51 #[.slice a n c] w fun e w' => e = .returned (.func (.func 73) #[] #[.pointer (some ⟨w.heap.size, 0, none⟩)]) ∧ w' = w.alloc (.cells #[.slice a n c] 63) := by
  have hmf : ∀ (fn : Fn) (first cap : Array Value) (w : World), (Instr.makeFunc fn first cap).run Tryz.prog w = .ok (.func fn first cap) w := fun _ _ _ _ => rfl
  go_enter Tryz.func51, Tryz.ntmps51
  go_wp2
  go_ret
  exact ⟨rfl, rfl⟩
end Go.Proofs.YtkimhfajfbcdmaaGreatDoor

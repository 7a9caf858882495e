/- The document's list: its Pop. -/
import Derived.Test.YtdpphjedjhjdgaaR1
import Derived.Deep.RegionLaw
import Derived.Deep.RegionHeld3
import Derived.WalkSmall
namespace Go.Proofs.Ytdpphjedjhjdgaa
open Go.RowKit Go.Maps

def lessP (a b : Pr) : Bool := decide (a.2 < b.2) || (decide (a.2 = b.2) && decide (a.1 < b.1))
theorem lessP_iff (a b : Pr) : lessP a b = false ↔ b.2 < a.2 ∨ b.2 = a.2 ∧ b.1 ≤ a.1 := by
  unfold lessP
  rw [Bool.or_eq_false_iff, Bool.and_eq_false_iff]
  simp only [decide_eq_false_iff_not]
  omega
theorem lessP_iff' (a b : Pr) : lessP a b = true ↔ a.2 < b.2 ∨ a.2 = b.2 ∧ a.1 < b.1 := by
  unfold lessP
  rw [Bool.or_eq_true, Bool.and_eq_true]
  simp only [decide_eq_true_eq]
/-- The least so far. -/
def MinTo (rl : List Pr) (i k : Nat) : Prop := k < i ∧ ∀ j, j < i → lessP (rl.getD j (0, 0)) (rl.getD k (0, 0)) = false
theorem min_one (rl : List Pr) : MinTo rl 1 0 := by
  refine ⟨by omega, fun j hj => ?_⟩
  obtain rfl : j = 0 := by omega
  rw [lessP_iff]; omega
theorem min_keeps {rl : List Pr} {i k : Nat} (h : MinTo rl i k) (hl : lessP (rl.getD i (0, 0)) (rl.getD k (0, 0)) = false) : MinTo rl (i + 1) k := by
  refine ⟨by have := h.1; omega, fun j hj => ?_⟩
  by_cases e : j = i
  · rw [e]; exact hl
  · exact h.2 j (by omega)
theorem min_moves {rl : List Pr} {i k : Nat} (h : MinTo rl i k) (hl : lessP (rl.getD i (0, 0)) (rl.getD k (0, 0)) = true) : MinTo rl (i + 1) i := by
  refine ⟨by omega, fun j hj => ?_⟩
  by_cases e : j = i
  · rw [e, lessP_iff]; omega
  · have h1 := h.2 j (by omega)
    rw [lessP_iff] at h1 ⊢
    rw [lessP_iff'] at hl
    omega
theorem flatP_take (rl : List Pr) : ∀ k, (flatP rl).take (k * 2) = flatP (rl.take k) := by
  induction rl with
  | nil => intro k; simp [flatP]
  | cons b l ih =>
    intro k
    cases k with
    | zero => rfl
    | succ k => rw [show (k + 1) * 2 = k * 2 + 1 + 1 by omega, flatP_cons, List.take_succ_cons, List.take_succ_cons, ih, List.take_succ_cons, flatP_cons]
theorem flatP_drop (rl : List Pr) : ∀ k, (flatP rl).drop (k * 2) = flatP (rl.drop k) := by
  induction rl with
  | nil => intro k; simp [flatP]
  | cons b l ih =>
    intro k
    cases k with
    | zero => rfl
    | succ k => rw [show (k + 1) * 2 = k * 2 + 1 + 1 by omega, flatP_cons, List.drop_succ_cons, List.drop_succ_cons, ih, List.drop_succ_cons]

/-- The four blocks of Pop's own. -/
structure PBl (W : World) (s : Nat) (v : Value) (xn xw : Int) : Prop where
  b0 : W.heap[s]? = some (.cells #[v] 27 (0, 0))
  b1 : W.heap[s + 1]? = some (.cells #[.slice none 0 0] 27 (0, 0))
  b2 : W.heap[s + 1 + 1]? = some (.cells #[.int .i64 0, .int .i64 0] 34 (0, 0))
  b3 : W.heap[s + 1 + 1 + 1]? = some (.cells #[.int .i64 xn, .int .i64 xw] 34 (0, 0))
theorem pbl_kept {W W' : World} {s : Nat} {v : Value} {xn xw : Int} (h : PBl W s v xn xw) (hk : ∀ j, j < s + 1 + 1 + 1 + 1 → W'.heap[j]? = W.heap[j]?) : PBl W' s v xn xw :=
  ⟨(hk _ (by omega)).trans h.b0, (hk _ (by omega)).trans h.b1, (hk _ (by omega)).trans h.b2, (hk _ (by omega)).trans h.b3⟩
theorem pbl_cells {W : World} {s : Nat} {v : Value} {xn xw : Int} (h : PBl W s v xn xw) : W.cell? ⟨s, 0, none⟩ = some v ∧ W.cell? ⟨s + 1 + 1 + 1, 0, none⟩ = some (.int .i64 xn) ∧ W.cell? ⟨s + 1 + 1 + 1, 1, none⟩ = some (.int .i64 xw) ∧
    W.cell? ⟨s + 1, 0, none⟩ = some (.slice none 0 0) ∧ W.frozen? ⟨s + 1, 0, none⟩ = false ∧ W.cell? ⟨s + 1 + 1, 0, none⟩ = some (.int .i64 0) ∧ W.cell? ⟨s + 1 + 1, 1, none⟩ = some (.int .i64 0) ∧ W.frozen? ⟨s + 1 + 1, 0, none⟩ = false ∧ W.frozen? ⟨s + 1 + 1, 1, none⟩ = false :=
  ⟨cell_block h.b0 0 _ rfl, cell_block h.b3 0 _ rfl, cell_block h.b3 1 _ rfl, cell_block h.b1 0 _ rfl, frozen_block h.b1 0, cell_block h.b2 0 _ rfl, cell_block h.b2 1 _ rfl, frozen_block h.b2 0, frozen_block h.b2 1⟩
theorem pbl_still {W : World} {s : Nat} {v : Value} {xn xw : Int} (h : PBl W s v xn xw) (x y z : Value) :
    (((W.setCell ⟨s + 1, 0, none⟩ x).setCell ⟨s + 1 + 1, 0, none⟩ y).setCell ⟨s + 1 + 1, 1, none⟩ z).cell? ⟨s, 0, none⟩ = some v ∧ (((W.setCell ⟨s + 1, 0, none⟩ x).setCell ⟨s + 1 + 1, 0, none⟩ y).setCell ⟨s + 1 + 1, 1, none⟩ z).cell? ⟨s + 1 + 1 + 1, 0, none⟩ = some (.int .i64 xn) ∧
    (((W.setCell ⟨s + 1, 0, none⟩ x).setCell ⟨s + 1 + 1, 0, none⟩ y).setCell ⟨s + 1 + 1, 1, none⟩ z).cell? ⟨s + 1 + 1 + 1, 1, none⟩ = some (.int .i64 xw) := by
  have e : ∀ k, k ≠ s + 1 → k ≠ s + 1 + 1 → (((W.setCell ⟨s + 1, 0, none⟩ x).setCell ⟨s + 1 + 1, 0, none⟩ y).setCell ⟨s + 1 + 1, 1, none⟩ z).heap[k]? = W.heap[k]? := fun k h1 h2 =>
    (Below.heap_setCell _ ⟨s + 1 + 1, 1, none⟩ _ _ h2).trans ((Below.heap_setCell _ ⟨s + 1 + 1, 0, none⟩ _ _ h2).trans (Below.heap_setCell _ ⟨s + 1, 0, none⟩ _ _ h1))
  have e0 := (e s (by omega) (by omega)).trans h.b0
  have e3 := (e (s + 1 + 1 + 1) (by omega) (by omega)).trans h.b3
  exact ⟨cell_block e0 0 _ rfl, cell_block e3 0 _ rfl, cell_block e3 1 _ rfl⟩
theorem pbl_ends {W : World} {s : Nat} {v : Value} {xn xw : Int} (h : PBl W s v xn xw) (x y z : Value) :
    (((W.setCell ⟨s + 1, 0, none⟩ x).setCell ⟨s + 1 + 1, 0, none⟩ y).setCell ⟨s + 1 + 1, 1, none⟩ z).cell? ⟨s + 1, 0, none⟩ = some x ∧ (((W.setCell ⟨s + 1, 0, none⟩ x).setCell ⟨s + 1 + 1, 0, none⟩ y).setCell ⟨s + 1 + 1, 1, none⟩ z).cell? ⟨s + 1 + 1, 0, none⟩ = some y ∧
    (((W.setCell ⟨s + 1, 0, none⟩ x).setCell ⟨s + 1 + 1, 0, none⟩ y).setCell ⟨s + 1 + 1, 1, none⟩ z).cell? ⟨s + 1 + 1, 1, none⟩ = some z := by
  have e1 : (((W.setCell ⟨s + 1, 0, none⟩ x).setCell ⟨s + 1 + 1, 0, none⟩ y).setCell ⟨s + 1 + 1, 1, none⟩ z).heap[s + 1]? = _ := (Below.heap_setCell _ ⟨s + 1 + 1, 1, none⟩ _ _ (by simp)).trans ((Below.heap_setCell _ ⟨s + 1 + 1, 0, none⟩ _ _ (by simp)).trans (block_set (i := 0) h.b1 x))
  have e2 : (((W.setCell ⟨s + 1, 0, none⟩ x).setCell ⟨s + 1 + 1, 0, none⟩ y).setCell ⟨s + 1 + 1, 1, none⟩ z).heap[s + 1 + 1]? = _ := block_set (i := 1) (block_set (i := 0) ((Below.heap_setCell _ ⟨s + 1, 0, none⟩ _ _ (by simp)).trans h.b2) y) z
  exact ⟨cell_block e1 0 _ rfl, cell_block e2 0 _ rfl, cell_block e2 1 _ rfl⟩
theorem off_drewQ {O : Nat → Prop} {a w : World} (h : Off O a w) (n : Nat) : Off O a (w.drewN n) := ⟨h.os, h.tape, h.output, h.size, h.block⟩
theorem step_append_own {P : Program} {w : World} {ops : Array Oper} {o : Oper} {a : Act} {K : Act → World → Prop} {Q : Exit → Act → World → Prop} {E : Prop} (hgd : o.guard = none) (s x : Operand) (t : TypeId)
    (ho : o.op = .call { callee := .builtin .append, args := #[s, x], argTypes := #[t, t] })
    (base : Nat) (e : TypeId) (i : TypeInfo) (z : Value) (size bytes : Nat) (ht : P.underlying t = some (.slice e)) (hi : P.info? e = some i) (hz : i.zero = some z)
    (hsize : i.size = size) (hby : i.bytes = bytes) (hzs : z.cells.size = size) (hsz : 0 < size)
    (v : Value) (n : Nat) (xs : List Value) (hs : a.eval s = v) (hown : w.ownsRow base e size v n xs)
    (ad : Addr) (m c : Nat) (news : List Value) (hx : a.eval x = .slice (some ad) m c) (hl : news.length = m * size) (hnews : ∀ j u, news[j]? = some u → w.cell? (ad.add j) = some u) (h1 : ∀ u ∈ news, u.oneCell' = true)
    (h63 : n + m ≤ maxLen) (hbytes : (n + m) * bytes ≤ 140737488355328) (hbase : base ≤ w.heap.size)
    (h : ∀ v' w', w'.ownsRow base e size v' (n + m) (xs ++ news) → w.grownBy w' v.ownBlock → (v' = .slice none 0 0 ↔ v = .slice none 0 0 ∧ m = 0) → K (a.put o.dst v') w') :
    if Region.wanted o (yielded ops a.tmps) = true then Oper.wp P o a w K Q else E := by
  have hw : Region.wanted o (yielded ops a.tmps) = true := by simp [Region.wanted, hgd]
  rw [if_pos hw]
  exact wp_append_own w s x t ho base e i z size bytes ht hi hz hsize hby hzs hsz v n xs hs hown ad m c news hx hl hnews h1 h63 hbytes hbase h

set_option maxHeartbeats 4000000 in
set_option maxRecDepth 100000 in
theorem refPop_nil (w : World) :
    Calls Try.prog 10 #[.agg #[.slice none 0 0]] w fun e w' => e = .returned (.tuple #[.agg #[.slice none 0 0], .agg #[.int .i64 0, .int .i64 0], .bool false]) ∧ Below w.heap.size w w' := by
  have hb : Below w.heap.size w (((w.alloc (.cells #[.slice none 0 0] 27)).alloc (.cells #[.slice none 0 0] 27)).alloc (.cells #[.int .i64 0, .int .i64 0] 34)) := (((Below.refl _ w).alloc (Nat.le_refl _) _).alloc (by simp) _).alloc (by simp; omega) _
  have Hb := hide hb
  clear hb
  go_enter Try.func10, Try.ntmps10
  go_wp2
  refine bodyPost_ret (v := .tuple #[.agg #[.slice none 0 0], .agg #[.int .i64 0, .int .i64 0], .bool false]) ?zz1 rfl ⟨rfl, ?zz2⟩
  case zz2 => exact unhide Hb
  simp [results, Try.results10, go_sem]

set_option maxHeartbeats 8000000 in
set_option maxRecDepth 100000 in
theorem refPop_some (g c : Nat) (rl : List Pr) (hpos : 0 < rl.length) (hlen : rl.length ≤ 1048576) (B : Nat) (w : World) (hr : w.ownsRow B 34 2 (.slice (some ⟨g, 0, none⟩) rl.length c) rl.length (flatP rl)) :
    Calls Try.prog 10 #[.agg #[.slice (some ⟨g, 0, none⟩) rl.length c]] w fun e w' => ∃ (k : Nat) (v' : Value), MinTo rl rl.length k ∧ e = .returned (.tuple #[.agg #[v'], .agg #[.int .i64 (rl.getD k (0, 0)).1, .int .i64 (rl.getD k (0, 0)).2], .bool true]) ∧ RR w' w.heap.size v' (rl.eraseIdx k) ∧ Below w.heap.size w w' := by
  obtain ⟨i0, hi, hz0, hz1, hz2⟩ := info_parts htask
  have hgl : g < w.heap.size := (hr.lt g rfl).2
  obtain ⟨-, -, -, hlc, hcm⟩ : ∃ g' : Nat, ∃ c' : Nat, True ∧ rl.length ≤ c ∧ c ≤ maxLen := by
    obtain ⟨g', c', e, -, -, h1, h2⟩ := own_pos hr hpos
    simp only [Value.slice.injEq] at e
    obtain ⟨-, -, rfl⟩ := e
    exact ⟨0, 0, trivial, by omega, by omega⟩
  have hb0 : Below w.heap.size w (((w.alloc (.cells #[.slice (some ⟨g, 0, none⟩) rl.length c] 27)).alloc (.cells #[.slice none 0 0] 27)).alloc (.cells #[.int .i64 0, .int .i64 0] 34)) := (((Below.refl _ w).alloc (Nat.le_refl _) _).alloc (by simp) _).alloc (by simp; omega) _
  have Hr0 := hide (own_off (O := fun _ => False) hr (off_below hb0) (fun _ _ h => h))
  have Hb0 := hide hb0
  have hl0 : ¬ rl.length = 0 := by omega
  have hl0' : ((rl.length : Int) == 0) = false := by rw [beq_eq_false_iff_ne]; omega
  clear hr hb0
  go_enter Try.func10, Try.ntmps10
  go_wp2
  go_loopw [6, 5] (fun x y W => ∃ (i k q : Nat), x = .int .i64 i ∧ y = .int .i64 k ∧ i ≤ rl.length ∧ MinTo rl i k ∧ W = (((w.alloc (.cells #[.slice (some ⟨g, 0, none⟩) rl.length c] 27)).alloc (.cells #[.slice none 0 0] 27)).alloc (.cells #[.int .i64 0, .int .i64 0] 34)).drewN q) (fun x _ _ => rl.length - (intOf x).toNat)
  case atStart => exact ⟨1, 0, 0, rfl, rfl, hpos, min_one rl, rfl⟩
  case round =>
    obtain ⟨i, k, q, rfl, rfl, hil, hmin, rfl⟩ := hrel
    have hki := hmin.1
    by_cases hlt : i < rl.length
    · have hlt' : (i : Int) < rl.length := by omega
      have hk' : (k : Int) < rl.length := by omega
      obtain ⟨ci0, ci1⟩ := rr_cells (unhide Hr0) i hlt
      obtain ⟨ck0, ck1⟩ := rr_cells (unhide Hr0) k (by omega)
      have HA := hide (fun h => min_keeps hmin h)
      have HB := hide (fun h => min_moves hmin h)
      have Hmin := hide hmin
      clear hmin
      generalize rl.getD i (0, 0) = x at *
      generalize rl.getD k (0, 0) = y at *
      obtain ⟨xn, xw⟩ := x
      obtain ⟨yn, yw⟩ := y
      simp only at ci0 ci1 ck0 ck1
      by_cases h1 : xw < yw
      · have g1 : decide (xw < yw) = true := by simpa using h1
        have HM := hide (unhide HB (by rw [lessP_iff']; exact .inl h1))
        clear HA HB
        go_wp2
        go_quiet (fail)
        go_wp2
        go_roundw
        case rel => exact ⟨i + 1, i, _, by go_num, rfl, by omega, unhide HM, rfl⟩
        case measure => simp [intOf]; omega
      · have g1 : decide (xw < yw) = false := by simpa using h1
        by_cases h2 : xw = yw
        · have g2 : (xw == yw) = true := by simpa using h2
          by_cases h3 : xn < yn
          · have g3 : decide (xn < yn) = true := by simpa using h3
            have HM := hide (unhide HB (by rw [lessP_iff']; exact .inr ⟨h2, h3⟩))
            clear HA HB h2
            go_wp2
            go_quiet (fail)
            go_wp2
            go_roundw
            case rel => exact ⟨i + 1, i, _, by go_num, rfl, by omega, unhide HM, rfl⟩
            case measure => simp [intOf]; omega
          · have g3 : decide (xn < yn) = false := by simpa using h3
            have HM := hide (unhide HA (by rw [lessP_iff]; simp only; omega))
            clear HA HB h2
            go_wp2
            go_quiet (fail)
            go_wp2
            go_roundw
            case rel => exact ⟨i + 1, k, _, by go_num, rfl, by omega, unhide HM, rfl⟩
            case measure => simp [intOf]; omega
        · have g2 : (xw == yw) = false := by simpa using h2
          have HM := hide (unhide HA (by rw [lessP_iff]; simp only; omega))
          clear HA HB h2
          go_wp2
          go_quiet (fail)
          go_wp2
          go_roundw
          case rel => exact ⟨i + 1, k, _, by go_num, rfl, by omega, unhide HM, rfl⟩
          case measure => simp [intOf]; omega
    · obtain rfl : i = rl.length := by omega
      have hlt' : ¬ ((rl.length : Int) < rl.length) := by omega
      have hk' : (k : Int) < rl.length := by omega
      obtain ⟨ck0, ck1⟩ := rr_cells (unhide Hr0) k hki
      have Hmin := hide hmin
      clear hmin
      generalize hxn : (rl.getD k (0, 0)).1 = xn at *
      generalize hxw : (rl.getD k (0, 0)).2 = xw at *
      have Hxn := hide hxn; have Hxw := hide hxw
      clear hxn hxw
      go_wp2
      have hW4 : ∃ W4, W4 = ((((w.alloc (Obj.cells #[Value.slice (some { block := g, off := 0 }) rl.length c] 27)).alloc (Obj.cells #[Value.slice none 0 0] 27)).alloc (Obj.cells #[Value.int IntKind.i64 0, Value.int IntKind.i64 0] 34)).drewN q).alloc (Obj.cells #[Value.int IntKind.i64 xn, Value.int IntKind.i64 xw] 34) := ⟨_, rfl⟩
      obtain ⟨W4, hW4⟩ := hW4
      have b0 : W4.heap[w.heap.size]? = some (.cells #[.slice (some ⟨g, 0, none⟩) rl.length c] 27 (0, 0)) := by
        rw [hW4, Below.heap_alloc _ _ _ (by simp [World.drewN] <;> omega)]
        show (((w.alloc (Obj.cells #[Value.slice (some { block := g, off := 0 }) rl.length c] 27)).alloc (Obj.cells #[Value.slice none 0 0] 27)).alloc (Obj.cells #[Value.int IntKind.i64 0, Value.int IntKind.i64 0] 34)).heap[w.heap.size]? = _
        rw [Below.heap_alloc _ _ _ (by simp; omega), Below.heap_alloc _ _ _ (by simp)]
        exact (MapKept.heap_alloc w _).1
      have b1 : W4.heap[w.heap.size + 1]? = some (.cells #[.slice none 0 0] 27 (0, 0)) := by
        rw [hW4, Below.heap_alloc _ _ _ (by simp [World.drewN] <;> omega)]
        show (((w.alloc (Obj.cells #[Value.slice (some { block := g, off := 0 }) rl.length c] 27)).alloc (Obj.cells #[Value.slice none 0 0] 27)).alloc (Obj.cells #[Value.int IntKind.i64 0, Value.int IntKind.i64 0] 34)).heap[w.heap.size + 1]? = _
        rw [Below.heap_alloc _ _ _ (by simp)]
        have := (MapKept.heap_alloc (w.alloc (Obj.cells #[Value.slice (some { block := g, off := 0 }) rl.length c] 27)) (Obj.cells #[Value.slice none 0 0] 27)).1
        simpa using this
      have b2 : W4.heap[w.heap.size + 1 + 1]? = some (.cells #[.int .i64 0, .int .i64 0] 34 (0, 0)) := by
        rw [hW4, Below.heap_alloc _ _ _ (by simp [World.drewN] <;> omega)]
        have := (MapKept.heap_alloc ((w.alloc (Obj.cells #[Value.slice (some { block := g, off := 0 }) rl.length c] 27)).alloc (Obj.cells #[Value.slice none 0 0] 27)) (Obj.cells #[Value.int IntKind.i64 0, Value.int IntKind.i64 0] 34)).1
        simpa using this
      have b3 : W4.heap[w.heap.size + 1 + 1 + 1]? = some (.cells #[.int .i64 xn, .int .i64 xw] 34 (0, 0)) := by
        rw [hW4]
        have := (MapKept.heap_alloc ((((w.alloc (Obj.cells #[Value.slice (some { block := g, off := 0 }) rl.length c] 27)).alloc (Obj.cells #[Value.slice none 0 0] 27)).alloc (Obj.cells #[Value.int IntKind.i64 0, Value.int IntKind.i64 0] 34)).drewN q) (Obj.cells #[Value.int IntKind.i64 xn, Value.int IntKind.i64 xw] 34)).1
        simpa [World.drewN] using this
      have hs4 : W4.heap.size = w.heap.size + 1 + 1 + 1 + 1 := by rw [hW4]; simp [World.drewN]
      have hb4 : Below w.heap.size w W4 := by
        rw [hW4]
        exact (below_drewN (unhide Hb0) q).alloc (by simp [World.drewN]; omega) _
      have Hr4 : Hid (W4.ownsRow B 34 2 (.slice (some ⟨g, 0, none⟩) rl.length c) rl.length (flatP rl)) := hide (own_off (O := fun _ => False) (unhide Hr0) (by rw [hW4]; exact off_alloc (a := ((w.alloc (Obj.cells #[Value.slice (some { block := g, off := 0 }) rl.length c] 27)).alloc (Obj.cells #[Value.slice none 0 0] 27)).alloc (Obj.cells #[Value.int IntKind.i64 0, Value.int IntKind.i64 0] 34)) (off_drewQ (off_refl _ _) q) _) (fun _ _ h => h))
      rw [← hW4]
      clear hW4 Hr0 Hb0 ck0 ck1
      have x0 := cell_block b0 0 _ rfl
      have t0 := cell_block b3 0 _ rfl
      have t1 := cell_block b3 1 _ rfl
      have r0 := cell_block b1 0 _ rfl
      have rf := frozen_block b1 0
      have q0 := cell_block b2 0 _ rfl
      have q1 := cell_block b2 1 _ rfl
      have qf0 := frozen_block b2 0
      have qf1 := frozen_block b2 1
      have hwrap : IntKind.i64.wrap ((k : Int) + 1) = (k : Int) + 1 := by rw [IntKind.wrap_i64]; omega
      have hk0 : (0 : Int) ≤ (k : Int) + 1 := by omega
      have hkc : (k : Int) ≤ c := by omega
      have hk1 : (k : Int) + 1 ≤ rl.length := by omega
      have hk0' : (0 : Int) ≤ (k : Int) := by omega
      have Hb4 := hide hb4
      have Hbl : Hid (PBl W4 w.heap.size (.slice (some ⟨g, 0, none⟩) rl.length c) xn xw) := hide ⟨b0, b1, b2, b3⟩
      clear hb4 b0 b1 b2 b3
      have Hc1 : Hid (∀ j u, (flatP (rl.take k))[j]? = some u → W4.drew.cell? ((⟨g, 0, none⟩ : Addr).add j) = some u) := hide (fun j u hu => by
        have h := (unhide Hr4).cells (g := g) rfl j u (by rw [← flatP_take] at hu; rw [List.getElem?_take] at hu; split at hu; exact hu; simp at hu)
        simpa using h)
      have Hl1 : Hid ((flatP (rl.take k)).length = k * 2) := hide (by rw [flatP_length, List.length_take, Nat.min_eq_left (by omega)])
      have Hl2 : Hid ((flatP (rl.drop (k + 1))).length = (rl.length - (k + 1)) * 2) := hide (by rw [flatP_length, List.length_drop])
      have Hb1 : Hid (w.heap.size + 1 + 1 + 1 + 1 ≤ W4.drew.heap.size) := hide (by show _ ≤ W4.heap.size; rw [hs4]; exact Nat.le_refl _)
      have Hk1 : Hid (∀ W1, W4.drew.grownBy W1 (Value.slice none 0 0).ownBlock → PBl W1 w.heap.size (.slice (some ⟨g, 0, none⟩) rl.length c) xn xw ∧ w.heap.size + 1 + 1 + 1 + 1 ≤ W1.heap.size) := hide (fun W1 hg => by
        have hsz : w.heap.size + 1 + 1 + 1 + 1 ≤ W1.heap.size := by have := hg.size; have h2 := unhide Hb1; omega
        exact ⟨pbl_kept (unhide Hbl) (fun j hj => hg.block j (by show j < W4.heap.size; omega) (by simp [Value.ownBlock])), hsz⟩)
      obtain ⟨A, hA, hAc⟩ : ∃ A : Addr, (if c = k + 1 then some (⟨g, 0, none⟩ : Addr) else some ⟨g, (k + 1) * 2, none⟩) = some A ∧ (rl.length = k + 1 ∨ A = ⟨g, (k + 1) * 2, none⟩) := by
        by_cases hc : c = k + 1
        · exact ⟨_, if_pos hc, .inl (by omega)⟩
        · exact ⟨_, if_neg hc, .inr rfl⟩
      have Hc2 : Hid (∀ W1, W4.drew.grownBy W1 (Value.slice none 0 0).ownBlock → ∀ j u, (flatP (rl.drop (k + 1)))[j]? = some u → W1.cell? (A.add j) = some u) := hide (fun W1 hg j u hu => by
        rcases hAc with hl | rfl
        · rw [List.drop_of_length_le (by omega)] at hu; simp [flatP] at hu
        · rw [← flatP_drop, List.getElem?_drop] at hu
          have h := (unhide Hr4).cells (g := g) rfl _ u hu
          have e1 : (⟨g, 0, none⟩ : Addr).add ((k + 1) * 2 + j) = ⟨g, (k + 1) * 2 + j, none⟩ := by unfold Addr.add; split <;> simp_all
          have e2 : (⟨g, (k + 1) * 2, none⟩ : Addr).add j = ⟨g, (k + 1) * 2 + j, none⟩ := by unfold Addr.add; split <;> simp_all
          rw [e1] at h
          rw [e2, World.cell?_of_block (hg.block g (by show g < W4.heap.size; omega) (by simp [Value.ownBlock]))]
          exact h)
      have Hk2 : Hid (∀ W1 W2 v1, PBl W1 w.heap.size (.slice (some ⟨g, 0, none⟩) rl.length c) xn xw → w.heap.size + 1 + 1 + 1 + 1 ≤ W1.heap.size → W1.ownsRow (w.heap.size + 1 + 1 + 1 + 1) 34 2 v1 (0 + k) ([] ++ flatP (rl.take k)) → W1.grownBy W2 v1.ownBlock → PBl W2 w.heap.size (.slice (some ⟨g, 0, none⟩) rl.length c) xn xw) := hide (fun W1 W2 v1 hp hs ho hg => pbl_kept hp (fun j hj => hg.block j (by omega) (fun e => by have := (ho.lt j e.symm).1; omega)))
      go_region_held3 (fun w' : World => w'.cell? ⟨w.heap.size, 0, none⟩ = some (.slice (some ⟨g, 0, none⟩) rl.length c) ∧ w'.cell? ⟨w.heap.size + 1 + 1 + 1, 0, none⟩ = some (.int .i64 xn) ∧ w'.cell? ⟨w.heap.size + 1 + 1 + 1, 1, none⟩ = some (.int .i64 xw))
        (first | exact pbl_still (unhide Hp2) _ _ _ | exact ⟨x0'', t0'', t1''⟩ | exact ⟨x0', t0', t1'⟩ | exact ⟨x0, t0, t1⟩ | go_keep)
        ((first | (refine step_append_own rfl (.const (.slice none 0 0)) (.tmp 73) 25 rfl (w.heap.size + 1 + 1 + 1 + 1) 34 i0 (.agg #[.int .i64 0, .int .i64 0]) 2 16 Try.underlying25 hi hz0 hz1 hz2 rfl (by decide) (.slice none 0 0) 0 [] (by simp [Act.eval]) (World.ownsRow_nil _ _ _ _) ⟨g, 0, none⟩ k c (flatP (rl.take k)) (by simp [Act.eval]) (unhide Hl1) (unhide Hc1) (flatP_one _) (by unfold maxLen; omega) (by omega) (unhide Hb1) ?_; intro v1 W1 hown1 hg1 hv1; obtain ⟨hp1, hs1⟩ := unhide Hk1 W1 hg1; obtain ⟨x0', t0', t1', -⟩ := pbl_cells hp1; have Hp1 := hide hp1; have Hs1 := hide hs1; have Hown1 := hide hown1; have Hg1 := hide hg1; have Hv1 := hide hv1; clear hown1 hg1 hv1 hp1 hs1) | (refine step_append_own rfl (.tmp 74) (.tmp 79) 25 rfl (w.heap.size + 1 + 1 + 1 + 1) 34 i0 (.agg #[.int .i64 0, .int .i64 0]) 2 16 Try.underlying25 hi hz0 hz1 hz2 rfl (by decide) v1 (0 + k) ([] ++ flatP (rl.take k)) (by simp [Act.eval]) (unhide Hown1) A (rl.length - (k + 1)) (c - (k + 1)) (flatP (rl.drop (k + 1))) (by simp [Act.eval]) (unhide Hl2) (unhide Hc2 W1 (unhide Hg1)) (flatP_one _) (by unfold maxLen; omega) (by omega) (unhide Hs1) ?_; intro v2 W2 hown2 hg2 hv2; have hp2 := unhide Hk2 W1 W2 v1 (unhide Hp1) (unhide Hs1) (unhide Hown1) hg2; obtain ⟨x0'', t0'', t1'', r0'', rf'', q0'', q1'', qf0'', qf1''⟩ := pbl_cells hp2; obtain ⟨a2, c2, rfl⟩ := own_form hown2; have Hp2 := hide hp2; have Hown2 := hide hown2; have Hg2 := hide hg2; have Hv2 := hide hv2; clear hown2 hg2 hv2 hp2)))
      have hfl : rl.eraseIdx k = rl.take k ++ rl.drop (k + 1) := List.eraseIdx_eq_take_drop_succ rl k
      have hnl : (rl.eraseIdx k).length = k + (rl.length - (k + 1)) := by rw [hfl, List.length_append, List.length_take, List.length_drop]; omega
      have hbW1 : Below w.heap.size w W1 := ((unhide Hb4).trans ⟨rfl, rfl, rfl, Nat.le_refl _, fun _ _ => rfl⟩ : Below w.heap.size w W4.drew).grown (unhide Hg1) (by show w.heap.size ≤ W4.heap.size; omega) (fun j hj => by simp [Value.ownBlock] at hj)
      have hbW2 : Below w.heap.size w W2 := hbW1.grown (unhide Hg2) hbW1.size (fun j hj => by have := ((unhide Hown1).lt j hj).1; omega)
      have hx : RR (((W2.setCell ⟨w.heap.size + 1, 0, none⟩ (.slice a2 (k + (rl.length - (k + 1))) c2)).setCell ⟨w.heap.size + 1 + 1, 0, none⟩ (.int .i64 xn)).setCell ⟨w.heap.size + 1 + 1, 1, none⟩ (.int .i64 xw)) w.heap.size (.slice a2 (k + (rl.length - (k + 1))) c2) (rl.eraseIdx k) ∧ Below w.heap.size w (((W2.setCell ⟨w.heap.size + 1, 0, none⟩ (.slice a2 (k + (rl.length - (k + 1))) c2)).setCell ⟨w.heap.size + 1 + 1, 0, none⟩ (.int .i64 xn)).setCell ⟨w.heap.size + 1 + 1, 1, none⟩ (.int .i64 xw)) := by
        refine ⟨?_, ((hbW2.setCell (p := ⟨w.heap.size + 1, 0, none⟩) (by simp) _).setCell (p := ⟨w.heap.size + 1 + 1, 0, none⟩) (by simp; omega) _).setCell (p := ⟨w.heap.size + 1 + 1, 1, none⟩) (by simp; omega) _⟩
        by_cases h0 : k + (rl.length - (k + 1)) = 0
        · left
          have hv1 := (unhide Hv1).2 ⟨rfl, by omega⟩
          have hv2 := (unhide Hv2).2 ⟨hv1, by omega⟩
          refine ⟨List.eq_nil_of_length_eq_zero (by omega), ?_⟩
          simpa using hv2
        · right
          refine ⟨by omega, ?_⟩
          rw [hnl, hfl, flatP_append]
          have ho := unhide Hown2
          simp only [Nat.zero_add, List.nil_append] at ho
          have hlt2 := fun j hj => (ho.lt j hj).1
          refine own_off (O := fun j => j = w.heap.size + 1 ∨ j = w.heap.size + 1 + 1) ?zz7 (off_set (off_set (off_set (off_refl _ _) (p := ⟨w.heap.size + 1, 0, none⟩) (.inl (.inl rfl)) _) (p := ⟨w.heap.size + 1 + 1, 0, none⟩) (.inl (.inr rfl)) _) (p := ⟨w.heap.size + 1 + 1, 1, none⟩) (.inl (.inr rfl)) _) (fun j hj e => by have := hlt2 j (by simpa using hj); omega)
          case zz7 =>
            refine ⟨ho.1, ?_⟩
            rcases ho.2 with h | ⟨g', cap, cur, h1, h2, h3⟩
            · exact .inl (by simpa using h)
            · exact .inr ⟨g', cap, cur, by simpa using h1, by omega, h3⟩
      have Hx := hide hx
      obtain ⟨rc0, rc1, rc2⟩ := pbl_ends (unhide Hp2) (.slice a2 (k + (rl.length - (k + 1))) c2) (.int .i64 xn) (.int .i64 xw)
      have Hrc0 := hide rc0; have Hrc1 := hide rc1; have Hrc2 := hide rc2
      clear hx rc0 rc1 rc2 hbW1 hbW2 hfl hnl
      go_wp2
      refine bodyPost_ret (v := .tuple #[.agg #[.slice a2 (k + (rl.length - (k + 1))) c2], .agg #[.int .i64 xn, .int .i64 xw], .bool true]) ?zz8 rfl ⟨k, unhide Hmin, _, by have e1 := unhide Hxn; have e2 := unhide Hxw; rw [List.getD_eq_getElem?_getD] at e1 e2; rw [e1, e2], unhide Hx⟩
      have rc0 := unhide Hrc0; have rc1 := unhide Hrc1; have rc2 := unhide Hrc2
      simp [results, Try.results10, go_sem, rc0, rc1, rc2]

theorem refPop_any (v : Value) (rl : List Pr) (hlen : rl.length ≤ 1048576) (B : Nat) (w : World) (hr : RR w B v rl) :
    Calls Try.prog 10 #[.agg #[v]] w fun e w' => (rl = [] ∧ v = .slice none 0 0 ∧ e = .returned (.tuple #[.agg #[v], .agg #[.int .i64 0, .int .i64 0], .bool false]) ∧ Below w.heap.size w w') ∨
      ∃ (k : Nat) (v' : Value), MinTo rl rl.length k ∧ e = .returned (.tuple #[.agg #[v'], .agg #[.int .i64 (rl.getD k (0, 0)).1, .int .i64 (rl.getD k (0, 0)).2], .bool true]) ∧ RR w' w.heap.size v' (rl.eraseIdx k) ∧ Below w.heap.size w w' := by
  rcases hr with ⟨rfl, rfl⟩ | ⟨h0, h⟩
  · exact (refPop_nil w).mono fun e w' ⟨h1, h2⟩ => .inl ⟨rfl, rfl, h1, h2⟩
  · obtain ⟨g, c, rfl, -⟩ := own_pos h h0
    exact (refPop_some g c rl h0 hlen B w h).mono fun e w' h => .inr h
end Go.Proofs.Ytdpphjedjhjdgaa

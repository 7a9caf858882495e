/- TokenOwn: what the walk wants. -/
import Derived.Test.YtkckcnjamlpadabDoorV1
import Derived.Test.YtkckcnjamlpadabDoorF3
import Derived.Laws.AppendOwnNone
import Derived.Laws.OwnMore
namespace Go.Proofs.YtkckcnjamlpadabDoor
open Go.RowKit Go.Maps

theorem grown_refl (w : World) (r : Option Nat) : w.grownBy w r := ⟨rfl, rfl, rfl, Nat.le_refl _, fun _ _ _ => rfl⟩
theorem grown_trans {a b c : World} {r : Option Nat} (h : a.grownBy b r) (k : b.grownBy c r) : a.grownBy c r :=
  ⟨k.os.trans h.os, k.tape.trans h.tape, k.output.trans h.output, Nat.le_trans h.size k.size, fun i hi hn => (k.block i (Nat.lt_of_lt_of_le hi h.size) hn).trans (h.block i hi hn)⟩
theorem grown_below {w w' : World} (h : Below w.heap.size w w') (r : Option Nat) : w.grownBy w' r := ⟨h.os, h.tape, h.output, h.size, fun k hk _ => h.block k hk⟩
theorem grown_drew {w w' : World} {r : Option Nat} (h : w.grownBy w' r) (q : Nat) : w.grownBy (w'.drewN q) r := ⟨h.os, h.tape, h.output, h.size, h.block⟩
/-- append(nil, l...), whatever l is. -/
theorem wpList_append_l {w : World} {ops : Array Oper} {rest : List Oper} {o : Oper} {a : Act} {Q : Exit → Act → World → Prop} (hgd : o.guard = none) (s x : Operand)
    (ho : o.op = .call { callee := .builtin .append, args := #[s, x], argTypes := #[22, 22] }) (base : Nat) (hs : a.eval s = .slice none 0 0)
    (la : Option Addr) (ca : Nat) (l : List T3) (hx : a.eval x = .slice la l.length ca) (hnil : la = none → l = [] ∧ ca = 0) (htr : TRow w la l) (hl : l.length * 24 ≤ 140737488351232) (hbase : base ≤ w.heap.size)
    (h : ∀ v' w', w'.ownsRow base 27 3 v' l.length (flat3 l) → w.grownBy w' none → wpList Tryd.prog ops Q rest (a.put o.dst v') w') : wpList Tryd.prog ops Q (o :: rest) a w := by
  obtain ⟨i0, hi, hz0, hz1, hz2⟩ := info_parts htok
  cases la with
  | none =>
    obtain ⟨rfl, rfl⟩ := hnil rfl
    exact wpList_append_own_none hgd s x 22 ho base 27 i0 3 Tryd.underlying22 hi (.slice none 0 0) 0 [] hs (World.ownsRow_nil _ _ _ _) hx (h _ _ (World.ownsRow_nil _ _ _ _) (grown_refl _ _))
  | some ad =>
    refine wpList_append_own _ hgd s x 22 ho base 27 i0 (.agg #[.int .i64 0, .int .i64 0, .int .i64 0]) 3 24 Tryd.underlying22 hi hz0 hz1 hz2 rfl (by decide) (.slice none 0 0) 0 [] hs (World.ownsRow_nil _ _ _ _) ad l.length ca (flat3 l) hx (flat3_length l) (fun j u hu => ?_) (flat3_one l) (by unfold maxLen; omega) (by omega) hbase (fun v' w' h1 h2 _ => ?_)
    · by_cases hl0 : l = []
      · subst hl0; simp [flat3] at hu
      · exact trow_news htr hl0 j u hu
    · exact h v' w' (by simpa using h1) h2
/-- The same at a single operation. -/
theorem wp_append_l {w : World} {o : Oper} {a : Act} {K : Act → World → Prop} {Q : Exit → Act → World → Prop} (s x : Operand)
    (ho : o.op = .call { callee := .builtin .append, args := #[s, x], argTypes := #[22, 22] }) (base : Nat) (hs : a.eval s = .slice none 0 0)
    (la : Option Addr) (ca : Nat) (l : List T3) (hx : a.eval x = .slice la l.length ca) (hnil : la = none → l = [] ∧ ca = 0) (htr : TRow w la l) (hl : l.length * 24 ≤ 140737488351232) (hbase : base ≤ w.heap.size)
    (h : ∀ v' w', w'.ownsRow base 27 3 v' l.length (flat3 l) → w.grownBy w' none → K (a.put o.dst v') w') : o.wp Tryd.prog a w K Q := by
  obtain ⟨i0, hi, hz0, hz1, hz2⟩ := info_parts htok
  cases la with
  | none =>
    obtain ⟨rfl, rfl⟩ := hnil rfl
    have hrun := run_append_owned_none (P := Tryd.prog) (w := w) base 22 o.type 27 i0 3 Tryd.underlying22 hi (.slice none 0 0) 0 [] (World.ownsRow_nil _ _ _ _)
    have hx' : a.eval x = .slice none 0 0 := hx
    unfold Oper.wp
    simp [execOp, ho, resolve, invoke, builtin, hs, hx', hrun, Result.andThen]
    exact h _ _ (World.ownsRow_nil _ _ _ _) (grown_refl _ _)
  | some ad =>
    refine wp_append_own _ s x 22 ho base 27 i0 (.agg #[.int .i64 0, .int .i64 0, .int .i64 0]) 3 24 Tryd.underlying22 hi hz0 hz1 hz2 rfl (by decide) (.slice none 0 0) 0 [] hs (World.ownsRow_nil _ _ _ _) ad l.length ca (flat3 l) hx (flat3_length l) (fun j u hu => ?_) (flat3_one l) (by unfold maxLen; omega) (by omega) hbase (fun v' w' h1 h2 _ => ?_)
    · by_cases hl0 : l = []
      · subst hl0; simp [flat3] at hu
      · exact trow_news htr hl0 j u hu
    · exact h v' w' (by simpa using h1) h2
theorem cells_six_new (w : World) (a b c d e f : Value) (t : TypeId) : ∀ j u, [a, b, c, d, e, f][j]? = some u → (w.alloc (.cells #[a, b, c, d, e, f] t)).cell? ((⟨w.heap.size, 0, none⟩ : Addr).add j) = some u :=
  fun j u hu => World.news_of_block (heap_new w _) j u (by simpa using hu)
def markT : T3 := (-9, 0, 0)
def markC : List Value := [.int .i64 (-9), .int .i64 0, .int .i64 0]
/-- The mark lies in block B. -/
def MarkAt (B : Nat) (W : World) : Prop := W.cell? ⟨B, 0, none⟩ = some (.int .i64 (-9)) ∧ W.cell? ⟨B, 1, none⟩ = some (.int .i64 0) ∧ W.cell? ⟨B, 2, none⟩ = some (.int .i64 0)
def MarkBlk (B : Nat) (W : World) : Prop := W.heap[B]? = some (.cells #[.int .i64 (-9), .int .i64 0, .int .i64 0] 27 (0, 0))
theorem mark_at {B : Nat} {W : World} (h : MarkBlk B W) : MarkAt B W := ⟨cell_block h 0 _ rfl, cell_block h 1 _ rfl, cell_block h 2 _ rfl⟩
theorem mark_grown {B : Nat} {W W' : World} {r : Option Nat} (h : MarkBlk B W) (hg : W.grownBy W' r) (hne : some B ≠ r) : MarkBlk B W' := (hg.block B (lt_of_some h) hne).trans h
theorem mark_below {B : Nat} {W W' : World} (h : MarkBlk B W) (hb : Below W.heap.size W W') : MarkBlk B W' := (hb.block B (lt_of_some h)).trans h
theorem flat3_marks (l : List T3) : flat3 (l ++ [markT, markT]) = flat3 l ++ [.int .i64 (-9), .int .i64 0, .int .i64 0, .int .i64 (-9), .int .i64 0, .int .i64 0] := by
  rw [show l ++ [markT, markT] = (l ++ [markT]) ++ [markT] by simp, markT, flat3_snoc, flat3_snoc]; simp
/-- Of a row with more tokens behind it. -/
theorem trow_pre {w : World} {a : Option Addr} {l m : List T3} (h : TRow w a (l ++ m)) : TRow w a l := by
  rcases h with h | ⟨b, off, rfl, hlt, hc⟩
  · exact .inl (List.append_eq_nil_iff.1 h).1
  · refine .inr ⟨b, off, rfl, hlt, fun j hj => ?_⟩
    have := hc j (by simp; omega)
    rwa [List.getD_eq_getElem?_getD, List.getElem?_append_left hj, ← List.getD_eq_getElem?_getD] at this
theorem trow_grown {w w' : World} {b : Nat} {l : List T3} {r : Option Nat} (h : TRow w (some ⟨b, 0, none⟩) l) (hg : w.grownBy w' r) (hne : some b ≠ r) : TRow w' (some ⟨b, 0, none⟩) l := by
  rcases h with h | ⟨b', off, e, hlt, hc⟩
  · exact .inl h
  · simp only [Option.some.injEq, Addr.mk.injEq, and_true] at e
    obtain ⟨rfl, rfl⟩ := e
    refine .inr ⟨b, 0, rfl, Nat.lt_of_lt_of_le hlt hg.size, fun j hj => ?_⟩
    obtain ⟨h0, h1, h2⟩ := hc j hj
    exact ⟨hg.cell h0 hne, hg.cell h1 hne, hg.cell h2 hne⟩
theorem cur_grown {w w' : World} {c g cap k : Nat} {l : List T3} {r : Option Nat} (h : CurAt w c g cap l k) (hg : w.grownBy w' r) (h1 : some c ≠ r) (h2 : some g ≠ r) : CurAt w' c g cap l k :=
  ⟨(hg.block c (lt_of_some h.box) h1).trans h.box, trow_grown h.row hg h2, h.ne, Nat.lt_of_lt_of_le h.gl hg.size, h.le⟩
theorem below_grown {w W W' : World} {r : Option Nat} (h : Below w.heap.size w W) (hg : W.grownBy W' r) (hr : ∀ k, r = some k → w.heap.size ≤ k) : Below w.heap.size w W' := h.grown hg h.size hr
theorem own_base {w : World} {B B' : Nat} {e : TypeId} {size : Nat} {v : Value} {n : Nat} {xs : List Value} (h : w.ownsRow B' e size v n xs) (hB : B ≤ B') : w.ownsRow B e size v n xs := by
  refine ⟨h.1, ?_⟩
  rcases h.2 with h0 | ⟨g, cap, cur, h0, hb, rest⟩
  · exact .inl h0
  · exact .inr ⟨g, cap, cur, h0, Nat.le_trans hB hb, rest⟩
theorem getD_last (l : List T3) (x y : T3) : (l ++ [x, y]).getD l.length (0, 0, 0) = x := by
  rw [List.getD_eq_getElem?_getD, List.getElem?_append_right (Nat.le_refl _)]; simp
/-- The room's first mark behind the row. -/
def RoomAt (R n : Nat) (W : World) : Prop := W.cell? ⟨R, n * 3, none⟩ = some (.int .i64 (-9)) ∧ W.cell? ⟨R, n * 3 + 1, none⟩ = some (.int .i64 0) ∧ W.cell? ⟨R, n * 3 + 2, none⟩ = some (.int .i64 0)
theorem room_at {W : World} {R : Nat} {l : List T3} (h : TRow W (some ⟨R, 0, none⟩) (l ++ [markT, markT])) : RoomAt R l.length W := by
  obtain ⟨b, off, e, _, hc⟩ := trow_pos h (k := l.length) (by simp)
  simp only [Option.some.injEq, Addr.mk.injEq, and_true] at e
  obtain ⟨rfl, rfl⟩ := e
  have := hc l.length (by simp)
  rw [getD_last, Nat.zero_add] at this
  exact this
/-- What the law has laid: the mark, the room, a cursor, the second row. -/
structure OI (w : World) (l m : List T3) (R rc c g cap : Nat) (va vb : Value) (k : Nat) (xs : List Value) (W : World) : Prop where
  bel : Below w.heap.size w W
  mark : MarkBlk w.heap.size W
  room : W.ownsRow (w.heap.size + 1) 27 3 (.slice (some ⟨R, 0, none⟩) (l.length + 2) rc) (l.length + 2) xs
  cur : CurAt W c g cap l k
  brow : W.ownsRow w.heap.size 27 3 vb m.length (flat3 m)
  rlt : w.heap.size < R
  rc1 : R < c
  rg1 : R < g
  ca : ∀ x, va.ownBlock = some x → c < x ∧ g < x
  ab : ∀ y, vb.ownBlock = some y → c < y ∧ g < y ∧ ∀ x, va.ownBlock = some x → x < y
section
variable {w : World} {l m : List T3} {R rc c g cap : Nat} {va vb : Value} {k : Nat} {xs : List Value} {W W' : World}
theorem OI.grown_a (h : OI w l m R rc c g cap va vb k xs W) (hg : W.grownBy W' va.ownBlock) : OI w l m R rc c g cap va vb k xs W' := by
  have hR := h.rlt; have h1 := h.rc1; have h2 := h.rg1
  refine ⟨below_grown h.bel hg (fun k hk => by have := (h.ca k hk).1; omega), mark_grown h.mark hg (fun e => by have := (h.ca _ e.symm).1; omega), h.room.kept hg (.inr (fun e => ?_)), cur_grown h.cur hg (fun e => by have := (h.ca _ e.symm).1; omega) (fun e => by have := (h.ca _ e.symm).2; omega), h.brow.kept hg ?_, hR, h1, h2, h.ca, h.ab⟩
  · have := (h.ca R e.symm).1; omega
  · cases hb : vb.ownBlock with
    | none => exact .inl rfl
    | some y => exact .inr (fun e => by have := (h.ab y hb).2.2 y e.symm; omega)
theorem OI.grown_r (h : OI w l m R rc c g cap va vb k xs W) {xs' : List Value} (hg : W.grownBy W' (some R)) (ha : W'.ownsRow (w.heap.size + 1) 27 3 (.slice (some ⟨R, 0, none⟩) (l.length + 2) rc) (l.length + 2) xs') : OI w l m R rc c g cap va vb k xs' W' := by
  have hR := h.rlt; have h1 := h.rc1; have h2 := h.rg1
  refine ⟨below_grown h.bel hg (fun k hk => by cases hk; omega), mark_grown h.mark hg (fun e => by simp at e; omega), ha, cur_grown h.cur hg (fun e => by simp at e; omega) (fun e => by simp at e; omega), h.brow.kept hg ?_, hR, h1, h2, h.ca, h.ab⟩
  cases hb : vb.ownBlock with
  | none => exact .inl rfl
  | some y => exact .inr (fun e => by have := (h.ab y hb).1; simp at e; omega)
theorem OI.below (h : OI w l m R rc c g cap va vb k xs W) (hb : Below W.heap.size W W') : OI w l m R rc c g cap va vb k xs W' :=
  ⟨h.bel.trans (hb.mono h.bel.size), mark_below h.mark hb, ownsRow_below h.room hb (Nat.le_refl _), h.cur.below hb, ownsRow_below h.brow hb (Nat.le_refl _), h.rlt, h.rc1, h.rg1, h.ca, h.ab⟩
theorem OI.next (h : OI w l m R rc c g cap va vb k xs W) {k' : Nat} (ho : OffR c W W') (hc : CurAt W' c g cap l k') : OI w l m R rc c g cap va vb k' xs W' := by
  have hR := h.rlt; have h1 := h.rc1; have h2 := h.rg1
  have hg : W.grownBy W' (some c) := ⟨ho.os, ho.tape, ho.output, ho.size, fun i hi hn => ho.block i hi (fun e => hn (by rw [e]))⟩
  refine ⟨below_grown h.bel hg (fun k hk => by cases hk; omega), mark_grown h.mark hg (fun e => by simp at e; omega), h.room.kept hg (.inr (fun e => by simp [Value.ownBlock] at e; omega)), hc, h.brow.kept hg ?_, hR, h1, h2, h.ca, h.ab⟩
  cases hb : vb.ownBlock with
  | none => exact .inl rfl
  | some y => exact .inr (fun e => by have := (h.ab y hb).1; simp at e; omega)
theorem OI.mine (h : OI w l m R rc c g cap va vb k (flat3 (l ++ [markT, markT])) W) : TRow W (some ⟨R, 0, none⟩) (l ++ [markT, markT]) := by
  have e : (l ++ [markT, markT]).length = l.length + 2 := by simp
  have hroom := h.room
  rw [← e] at hroom
  obtain ⟨a', c', e', ht, -⟩ := trow_own hroom
  simp only [Value.slice.injEq] at e'
  obtain ⟨rfl, -, -⟩ := e'
  exact ht
end
/-- Three cells of a row of one's own, stored. -/
theorem own_store3 {w : World} {B g n cap : Nat} {xs : List Value} (h : w.ownsRow B 27 3 (.slice (some ⟨g, 0, none⟩) n cap) n xs) (j : Nat) (x y z : Value) :
    ∃ xs', (((w.setCell ⟨g, j, none⟩ x).setCell ⟨g, j + 1, none⟩ y).setCell ⟨g, j + 2, none⟩ z).ownsRow B 27 3 (.slice (some ⟨g, 0, none⟩) n cap) n xs' ∧ w.grownBy (((w.setCell ⟨g, j, none⟩ x).setCell ⟨g, j + 1, none⟩ y).setCell ⟨g, j + 2, none⟩ z) (some g) := by
  have s1 := h.stored j x
  have s2 := s1.1.stored (j + 1) y
  have s3 := s2.1.stored (j + 2) z
  exact ⟨_, s3.1, grown_trans (grown_trans s1.2 s2.2) s3.2⟩
/-- Its cells are there, and may be stored into. -/
theorem own_cell3 {w : World} {B g n cap : Nat} {e : TypeId} {xs : List Value} (h : w.ownsRow B e 3 (.slice (some ⟨g, 0, none⟩) n cap) n xs) {j : Nat} (hj : j < n * 3) : (∃ v, w.cell? ⟨g, j, none⟩ = some v) ∧ w.frozen? ⟨g, j, none⟩ = false :=
  ⟨⟨_, (h.cellAt j hj).trans (List.getElem?_eq_getElem (by rw [h.1]; exact hj))⟩, h.frozenAt j⟩
theorem own_cell1 {w : World} {B g n cap : Nat} {e : TypeId} {xs : List Value} (h : w.ownsRow B e 1 (.slice (some ⟨g, 0, none⟩) n cap) n xs) {j : Nat} (hj : j < n) : (∃ v, w.cell? ⟨g, j, none⟩ = some v) ∧ w.frozen? ⟨g, j, none⟩ = false :=
  ⟨⟨_, (h.cellAt j (by omega)).trans (List.getElem?_eq_getElem (by rw [h.1]; omega))⟩, h.frozenAt j⟩
theorem own_some {w : World} {B : Nat} {e : TypeId} {size : Nat} {u : Option Addr} {n cap : Nat} {xs : List Value} (h : w.ownsRow B e size (.slice u n cap) n xs) (hn : 0 < n) : ∃ g, u = some ⟨g, 0, none⟩ := by
  rcases h.2 with ⟨h0, hz⟩ | ⟨g, cap', cur, h0, _⟩
  · omega
  · simp only [Value.slice.injEq] at h0; exact ⟨g, h0.1⟩
end Go.Proofs.YtkckcnjamlpadabDoor

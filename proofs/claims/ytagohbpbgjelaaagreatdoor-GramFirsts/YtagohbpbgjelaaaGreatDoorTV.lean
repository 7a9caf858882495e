/- The code's search for rings: where it lies. -/
import Derived.Test.YtagohbpbgjelaaaGreatDoorGJ
import Derived.Test.YtagohbpbgjelaaaGreatDoorRG
import Derived.Maps.OwnSet
namespace Go.Proofs.YtagohbpbgjelaaaGreatDoor
open Go.RowKit

/-- Where a search lies: its box, its rows, the rings that were made. -/
structure TsV (B : Nat) (w : World) (vb : Nat) (wv : Value) (n mb lb ib : Nat) (ov mv : Value) (vs : List Value) (s : Ts) : Prop where
  box : w.heap[vb]? = some (.cells #[wv, .int .i64 (s.count : Nat), .slice (some ⟨mb, 0, none⟩) n n, .slice (some ⟨lb, 0, none⟩) n n, ov, .slice (some ⟨ib, 0, none⟩) n n, mv] 212 (0, 0))
  met : w.rowIs mb 3 n (fun r => .int .i64 (s.met r : Nat))
  low : w.rowIs lb 3 n (fun r => .int .i64 (s.low r : Nat))
  isO : w.rowIs ib 4 n (fun r => .bool (s.isO r))
  opn : w.ownsRow B 3 1 ov s.opn.length (vints (castL s.opn))
  made : w.ownsRow B 27 1 mv s.made.length vs
  ring : ∀ (i : Nat) (a : List Nat), s.made[i]? = some a → ∃ (g c : Nat) (cs : Array Value), vs[i]? = some (.slice (some ⟨g, 0, none⟩) a.length c) ∧ B ≤ g ∧ g ≠ mb ∧ g ≠ lb ∧ ov.ownBlock ≠ some g ∧ w.heap[g]? = some (.cells cs 3 (0, 0)) ∧ ∀ j x : Nat, a[j]? = some x → cs[j]? = some (Value.int .i64 (x : Nat))
  ml : mb ≠ lb
  om : ov.ownBlock ≠ some mb
  ol : ov.ownBlock ≠ some lb
  b1 : B ≤ vb
  b2 : B ≤ mb
  b3 : B ≤ lb
  b4 : B ≤ ib
theorem blk_ne {w : World} {a b t u : Nat} {cs ds : Array Value} {f g : Nat × Nat} (h : w.heap[a]? = some (.cells cs t f)) (k : w.heap[b]? = some (.cells ds u g)) (hn : t ≠ u) : a ≠ b := fun e => by
  subst e; rw [h] at k; simp only [Option.some.injEq, Obj.cells.injEq] at k; exact hn k.2.1
theorem own_ty {w : World} {B e size n : Nat} {v : Value} {xs : List Value} (h : w.ownsRow B e size v n xs) {k : Nat} (hk : v.ownBlock = some k) : ∃ cs, w.heap[k]? = some (.cells cs e (0, 0)) := by
  rcases h.2 with ⟨rfl, _⟩ | ⟨g, cap, cur, rfl, _, hh, _⟩
  · simp [Value.ownBlock] at hk
  · simp only [Value.ownBlock, Option.some.injEq] at hk
    subst hk; exact ⟨_, hh⟩
theorem rowIs_ty {w : World} {b t n : Nat} {f : Nat → Value} (h : w.rowIs b t n f) : ∃ cs, w.heap[b]? = some (.cells cs t (0, 0)) := by obtain ⟨cs, h1, _⟩ := h; exact ⟨cs, h1⟩
theorem heap_other (w : World) {b o k : Nat} {v : Value} (h : k ≠ b) : (w.setCell ⟨b, o, none⟩ v).heap[k]? = w.heap[k]? := Below.heap_setCell w ⟨b, o, none⟩ v k h
theorem own_blkB {w w' : World} {B e s n : Nat} {v : Value} {xs : List Value} (h : w.ownsRow B e s v n xs) (hb : Below w.heap.size w w') : w'.ownsRow B e s v n xs := by
  refine ⟨h.1, ?_⟩
  rcases h.2 with h1 | ⟨g, cap, cur, hv, hg, hh, rest⟩
  · exact .inl h1
  · exact .inr ⟨g, cap, cur, hv, hg, (hb.block g (Array.getElem?_eq_some_iff.1 hh).1).trans hh, rest⟩
section
variable {B : Nat} {w w' : World} {vb : Nat} {wv : Value} {n mb lb ib : Nat} {ov mv : Value} {vs : List Value} {s : Ts}
/-- What is new leaves it. -/
theorem tsv_below (h : TsV B w vb wv n mb lb ib ov mv vs s) (hb : Below w.heap.size w w') : TsV B w' vb wv n mb lb ib ov mv vs s := by
  have hl : ∀ {k : Nat} {o : Obj}, w.heap[k]? = some o → w'.heap[k]? = some o := fun {k o} hk => (hb.block k (Array.getElem?_eq_some_iff.1 hk).1).trans hk
  refine ⟨hl h.box, h.met.of_block (hb.block _ h.met.lt), h.low.of_block (hb.block _ h.low.lt), h.isO.of_block (hb.block _ h.isO.lt), own_blkB h.opn hb, own_blkB h.made hb, fun i a ha => ?_, h.ml, h.om, h.ol, h.b1, h.b2, h.b3, h.b4⟩
  obtain ⟨g, c, cs, h1, h2, h3, h4, h5, h6, h7⟩ := h.ring i a ha
  exact ⟨g, c, cs, h1, h2, h3, h4, h5, hl h6, h7⟩
/-- The rings, when one block is stored into that is none of theirs. -/
theorem ring_set (h : TsV B w vb wv n mb lb ib ov mv vs s) {b o : Nat} {v : Value} (hn : ∀ g cs, w.heap[g]? = some (.cells cs 3 (0, 0)) → g ≠ mb → g ≠ lb → ov.ownBlock ≠ some g → g ≠ b) (i : Nat) (a : List Nat) (ha : s.made[i]? = some a) : ∃ (g c : Nat) (cs : Array Value), vs[i]? = some (.slice (some ⟨g, 0, none⟩) a.length c) ∧ B ≤ g ∧ g ≠ mb ∧ g ≠ lb ∧ ov.ownBlock ≠ some g ∧ (w.setCell ⟨b, o, none⟩ v).heap[g]? = some (.cells cs 3 (0, 0)) ∧ ∀ j x : Nat, a[j]? = some x → cs[j]? = some (Value.int .i64 (x : Nat)) := by
  obtain ⟨g, c, cs, h1, h2, h3, h4, h5, h6, h7⟩ := h.ring i a ha
  exact ⟨g, c, cs, h1, h2, h3, h4, h5, (heap_other w (hn g cs h6 h3 h4 h5)).trans h6, h7⟩
theorem own_set {w : World} {B e s n : Nat} {v : Value} {xs : List Value} (h : w.ownsRow B e s v n xs) {b o : Nat} {u : Value} (hn : v.ownBlock ≠ some b) : (w.setCell ⟨b, o, none⟩ u).ownsRow B e s v n xs := by
  refine ⟨h.1, ?_⟩
  rcases h.2 with h1 | ⟨g, cap, cur, hv, hg, hh, rest⟩
  · exact .inl h1
  · exact .inr ⟨g, cap, cur, hv, hg, (heap_other w (fun e => hn (by rw [hv, ← e]; rfl))).trans hh, rest⟩
theorem own_other {w : World} {B e s n b t : Nat} {v : Value} {xs : List Value} {cs : Array Value} {f : Nat × Nat} (h : w.ownsRow B e s v n xs) (hb : w.heap[b]? = some (.cells cs t f)) (hn : e ≠ t) : v.ownBlock ≠ some b := fun hk => by
  obtain ⟨ds, hd⟩ := own_ty h hk
  exact blk_ne hd hb hn rfl
/-- A store into the box. -/
theorem tsv_box (h : TsV B w vb wv n mb lb ib ov mv vs s) {i c : Nat} {u : Value} {s' : Ts} (hc : i = 1 ∧ u = .int .i64 (c : Nat) ∧ s' = { s with count := c }) : TsV B (w.setCell ⟨vb, i, none⟩ u) vb wv n mb lb ib ov mv vs s' := by
  obtain ⟨rfl, rfl, rfl⟩ := hc
  obtain ⟨m1, hm⟩ := rowIs_ty h.met
  obtain ⟨l1, hl⟩ := rowIs_ty h.low
  obtain ⟨i1, hi⟩ := rowIs_ty h.isO
  refine ⟨?_, h.met.of_block (heap_other w (blk_ne hm h.box (by decide))), h.low.of_block (heap_other w (blk_ne hl h.box (by decide))), h.isO.of_block (heap_other w (blk_ne hi h.box (by decide))), own_set h.opn (own_other h.opn h.box (by decide)), own_set h.made (own_other h.made h.box (by decide)), ring_set h (fun g cs hg _ _ _ => blk_ne hg h.box (by decide)), h.ml, h.om, h.ol, h.b1, h.b2, h.b3, h.b4⟩
  have := Wk.block_set (i := 1) h.box (.int .i64 (c : Nat))
  simpa using this
theorem tsv_met (h : TsV B w vb wv n mb lb ib ov mv vs s) (r v : Nat) : TsV B (w.setCell ⟨mb, r, none⟩ (.int .i64 (v : Nat))) vb wv n mb lb ib ov mv vs { s with met := upN s.met r v } := by
  obtain ⟨m1, hm⟩ := rowIs_ty h.met
  obtain ⟨l1, hl⟩ := rowIs_ty h.low
  obtain ⟨i1, hi⟩ := rowIs_ty h.isO
  refine ⟨(heap_other w (blk_ne h.box hm (by decide))).trans h.box, (h.met.set r _).congr (fun i _ => ?_), h.low.of_block (heap_other w (fun e => h.ml e.symm)), h.isO.of_block (heap_other w (blk_ne hi hm (by decide))), own_set h.opn h.om, own_set h.made (own_other h.made hm (by decide)), ring_set h (fun g cs hg h1 _ _ => h1), h.ml, h.om, h.ol, h.b1, h.b2, h.b3, h.b4⟩
  show (if i = r then _ else _) = Value.int .i64 ((upN s.met r v i : Nat) : Int)
  unfold upN
  split <;> rfl
theorem tsv_low (h : TsV B w vb wv n mb lb ib ov mv vs s) (r v : Nat) : TsV B (w.setCell ⟨lb, r, none⟩ (.int .i64 (v : Nat))) vb wv n mb lb ib ov mv vs { s with low := upN s.low r v } := by
  obtain ⟨m1, hm⟩ := rowIs_ty h.met
  obtain ⟨l1, hl⟩ := rowIs_ty h.low
  obtain ⟨i1, hi⟩ := rowIs_ty h.isO
  refine ⟨(heap_other w (blk_ne h.box hl (by decide))).trans h.box, h.met.of_block (heap_other w h.ml), (h.low.set r _).congr (fun i _ => ?_), h.isO.of_block (heap_other w (blk_ne hi hl (by decide))), own_set h.opn h.ol, own_set h.made (own_other h.made hl (by decide)), ring_set h (fun g cs hg _ h1 _ => h1), h.ml, h.om, h.ol, h.b1, h.b2, h.b3, h.b4⟩
  show (if i = r then _ else _) = Value.int .i64 ((upN s.low r v i : Nat) : Int)
  unfold upN
  split <;> rfl
theorem tsv_isO (h : TsV B w vb wv n mb lb ib ov mv vs s) (r : Nat) (v : Bool) : TsV B (w.setCell ⟨ib, r, none⟩ (.bool v)) vb wv n mb lb ib ov mv vs { s with isO := upB s.isO r v } := by
  obtain ⟨m1, hm⟩ := rowIs_ty h.met
  obtain ⟨l1, hl⟩ := rowIs_ty h.low
  obtain ⟨i1, hi⟩ := rowIs_ty h.isO
  refine ⟨(heap_other w (blk_ne h.box hi (by decide))).trans h.box, h.met.of_block (heap_other w (blk_ne hm hi (by decide))), h.low.of_block (heap_other w (blk_ne hl hi (by decide))), (h.isO.set r _).congr (fun i _ => ?_), own_set h.opn (own_other h.opn hi (by decide)), own_set h.made (own_other h.made hi (by decide)), ring_set h (fun g cs hg _ _ _ => blk_ne hg hi (by decide)), h.ml, h.om, h.ol, h.b1, h.b2, h.b3, h.b4⟩
  show (if i = r then _ else _) = Value.bool (upB s.isO r v i)
  unfold upB
  split <;> rfl
/-- One more is open: the row was grown, and stored. -/
theorem tsv_push (h : TsV B w vb wv n mb lb ib ov mv vs s) {w1 w2 : World} (hb : Below w.heap.size w w1) {r g cap : Nat} (hg : w1.grownBy w2 ov.ownBlock) (ho : w2.ownsRow B 3 1 (.slice (some ⟨g, 0, none⟩) (s.opn.length + 1) cap) (s.opn.length + 1) (vints (castL s.opn) ++ [.int .i64 (r : Nat)])) (hw : ov.ownBlock = some g ∨ w1.heap.size ≤ g) :
    TsV B (w2.setCell ⟨vb, 4, none⟩ (.slice (some ⟨g, 0, none⟩) (s.opn.length + 1) cap)) vb wv n mb lb ib (.slice (some ⟨g, 0, none⟩) (s.opn.length + 1) cap) mv vs { s with opn := s.opn ++ [r] } := by
  have h1 := tsv_below h hb
  have hk : ∀ k, k < w1.heap.size → ov.ownBlock ≠ some k → w2.heap[k]? = w1.heap[k]? := fun k hk hne => hg.block k hk (fun e => hne e.symm)
  have hl : ∀ {k : Nat} {o : Obj}, w1.heap[k]? = some o → ov.ownBlock ≠ some k → w2.heap[k]? = some o := fun {k o} hk' hne => (hk k (Array.getElem?_eq_some_iff.1 hk').1 hne).trans hk'
  obtain ⟨m1, hm⟩ := rowIs_ty h1.met
  obtain ⟨l1, hlw⟩ := rowIs_ty h1.low
  obtain ⟨i1, hi⟩ := rowIs_ty h1.isO
  have nb := own_other h1.opn h1.box (by decide)
  have ni := own_other h1.opn hi (by decide)
  have hbox := hl h1.box nb
  have hm2 := hl hm h1.om
  have hl2 := hl hlw h1.ol
  have hi2 := hl hi ni
  have hgn : ∀ k, k < w1.heap.size → ov.ownBlock ≠ some k → g ≠ k := fun k hk' hne e => by
    subst e
    rcases hw with hw | hw
    · exact hne hw
    · omega
  have lt1 : ∀ {k : Nat} {o : Obj}, w1.heap[k]? = some o → k < w1.heap.size := fun hk' => (Array.getElem?_eq_some_iff.1 hk').1
  refine ⟨?_, (h1.met.of_block (hk _ (lt1 hm) h1.om)).of_block (heap_other w2 (blk_ne hm2 hbox (by decide))), (h1.low.of_block (hk _ (lt1 hlw) h1.ol)).of_block (heap_other w2 (blk_ne hl2 hbox (by decide))), (h1.isO.of_block (hk _ (lt1 hi) ni)).of_block (heap_other w2 (blk_ne hi2 hbox (by decide))), ?_, ?_, fun i a ha => ?_, h.ml, ?_, ?_, h.b1, h.b2, h.b3, h.b4⟩
  · have := Wk.block_set (i := 4) hbox (.slice (some ⟨g, 0, none⟩) (s.opn.length + 1) cap)
    simpa using this
  · have e1 : (s.opn ++ [r]).length = s.opn.length + 1 := by simp
    have e2 : vints (castL (s.opn ++ [r])) = vints (castL s.opn) ++ [.int .i64 (r : Nat)] := by simp [vints, castL]
    show (w2.setCell _ _).ownsRow B 3 1 _ (s.opn ++ [r]).length (vints (castL (s.opn ++ [r])))
    rw [e1, e2]
    refine own_set ho ?_
    obtain ⟨cs, hcs⟩ := own_ty ho rfl
    intro e
    simp only [Value.ownBlock, Option.some.injEq] at e
    exact blk_ne hcs hbox (by decide) e
  · have hmd : mv.ownBlock ≠ ov.ownBlock ∨ mv.ownBlock = none := by
      cases hmv : mv.ownBlock with
      | none => exact .inr rfl
      | some k =>
        left
        intro e
        obtain ⟨c1, d1⟩ := own_ty h1.made hmv
        obtain ⟨c2, d2⟩ := own_ty h1.opn e.symm
        exact blk_ne d1 d2 (by decide) rfl
    have hm3 : w2.ownsRow B 27 1 mv s.made.length vs := h1.made.kept hg (hmd.elim .inr .inl)
    exact own_set hm3 (own_other hm3 hbox (by decide))
  · obtain ⟨q, c, cs, h3, h4, h5, h6, h7, h8, h9⟩ := h1.ring i a ha
    have h10 := hl h8 h7
    exact ⟨q, c, cs, h3, h4, h5, h6, fun e => hgn q (lt1 h8) h7 (by simpa [Value.ownBlock] using e), (heap_other w2 (blk_ne h10 hbox (by decide))).trans h10, h9⟩
  · intro e
    exact hgn mb (lt1 hm) h1.om (by simpa [Value.ownBlock] using e)
  · intro e
    exact hgn lb (lt1 hlw) h1.ol (by simpa [Value.ownBlock] using e)
/-- Those from a place on are no longer open. -/
theorem tsv_cut (h : TsV B w vb wv n mb lb ib ov mv vs s) {g c p : Nat} (hv : ov = .slice (some ⟨g, 0, none⟩) s.opn.length c) (hp : p ≤ s.opn.length) : TsV B (w.setCell ⟨vb, 4, none⟩ (.slice (some ⟨g, 0, none⟩) p c)) vb wv n mb lb ib (.slice (some ⟨g, 0, none⟩) p c) mv vs { s with opn := s.opn.take p } := by
  subst hv
  obtain ⟨m1, hm⟩ := rowIs_ty h.met
  obtain ⟨l1, hl⟩ := rowIs_ty h.low
  obtain ⟨i1, hi⟩ := rowIs_ty h.isO
  have hob := own_other h.opn h.box (by decide)
  refine ⟨?_, h.met.of_block (heap_other w (blk_ne hm h.box (by decide))), h.low.of_block (heap_other w (blk_ne hl h.box (by decide))), h.isO.of_block (heap_other w (blk_ne hi h.box (by decide))), ?_, own_set h.made (own_other h.made h.box (by decide)), ring_set h (fun g cs hg _ _ _ => blk_ne hg h.box (by decide)), h.ml, h.om, h.ol, h.b1, h.b2, h.b3, h.b4⟩
  · have := Wk.block_set (i := 4) h.box (.slice (some ⟨g, 0, none⟩) p c)
    simpa using this
  · have e1 : (s.opn.take p).length = p := by rw [List.length_take]; omega
    show (w.setCell _ _).ownsRow B 3 1 _ (s.opn.take p).length (vints (castL (s.opn.take p)))
    rw [e1]
    refine own_set (v := .slice (some ⟨g, 0, none⟩) p c) ⟨?_, .inr ?_⟩ hob
    · rw [vints_len, castL_len, e1]; omega
    · rcases h.opn.2 with ⟨h1, -⟩ | ⟨g', cap', cur, hv', hb', hh, h2, h3, h4, h5⟩
      · cases h1
      · cases hv'
        refine ⟨g, c, cur, rfl, hb', hh, by omega, h3, h4, ?_⟩
        have : vints (castL (s.opn.take p)) = (vints (castL s.opn)).take p := by simp [vints, castL, List.map_take]
        rw [this, ← h5, List.take_take]
        congr 1
        omega
/-- A ring is laid behind those that were made. -/
theorem tsv_made (h : TsV B w vb wv n mb lb ib ov mv vs s) {q qc : Nat} {cs : Array Value} {a : List Nat} (hq : w.heap[q]? = some (.cells cs 3 (0, 0))) (hqb : B ≤ q) (q1 : q ≠ mb) (q2 : q ≠ lb) (q3 : ov.ownBlock ≠ some q) (hc : ∀ j x : Nat, a[j]? = some x → cs[j]? = some (Value.int .i64 (x : Nat)))
    {w1 w2 : World} (hb : Below w.heap.size w w1) {mv' : Value} (hg : w1.grownBy w2 mv.ownBlock) (ho : w2.ownsRow B 27 1 mv' (s.made.length + 1) (vs ++ [.slice (some ⟨q, 0, none⟩) a.length qc])) :
    TsV B (w2.setCell ⟨vb, 6, none⟩ mv') vb wv n mb lb ib ov mv' (vs ++ [.slice (some ⟨q, 0, none⟩) a.length qc]) { s with made := s.made ++ [a] } := by
  have h1 := tsv_below h hb
  have hvl : vs.length = s.made.length := by have := h.made.1; omega
  have hl : ∀ {k t : Nat} {c : Array Value}, w1.heap[k]? = some (.cells c t (0, 0)) → t ≠ 27 → w2.heap[k]? = some (.cells c t (0, 0)) := fun {k t c} hk' hne => (hg.block k (Array.getElem?_eq_some_iff.1 hk').1 (fun e => by
    obtain ⟨c1, d1⟩ := own_ty h1.made e.symm
    exact blk_ne hk' d1 hne rfl)).trans hk'
  have hq1 : w1.heap[q]? = some (.cells cs 3 (0, 0)) := (hb.block q (Array.getElem?_eq_some_iff.1 hq).1).trans hq
  obtain ⟨m1, hm⟩ := rowIs_ty h1.met
  obtain ⟨l1, hlw⟩ := rowIs_ty h1.low
  obtain ⟨i1, hi⟩ := rowIs_ty h1.isO
  have hbox := hl h1.box (by decide)
  have hm2 := hl hm (by decide)
  have hl2 := hl hlw (by decide)
  have hi2 := hl hi (by decide)
  have hop : w2.ownsRow B 3 1 ov s.opn.length (vints (castL s.opn)) := by
    refine h1.opn.kept hg ?_
    cases hov : ov.ownBlock with
    | none => exact .inl rfl
    | some k =>
      right
      intro e
      obtain ⟨c1, d1⟩ := own_ty h1.opn hov
      obtain ⟨c2, d2⟩ := own_ty h1.made e.symm
      exact blk_ne d1 d2 (by decide) rfl
  refine ⟨?_, (h1.met.of_block (hm2.trans hm.symm)).of_block (heap_other w2 (blk_ne hm2 hbox (by decide))), (h1.low.of_block (hl2.trans hlw.symm)).of_block (heap_other w2 (blk_ne hl2 hbox (by decide))), (h1.isO.of_block (hi2.trans hi.symm)).of_block (heap_other w2 (blk_ne hi2 hbox (by decide))), own_set hop (own_other hop hbox (by decide)), ?_, fun i b hib => ?_, h.ml, h.om, h.ol, h.b1, h.b2, h.b3, h.b4⟩
  · have := Wk.block_set (i := 6) hbox mv'
    simpa using this
  · have e1 : (s.made ++ [a]).length = s.made.length + 1 := by simp
    show (w2.setCell _ _).ownsRow B 27 1 _ (s.made ++ [a]).length _
    rw [e1]
    exact own_set ho (own_other ho hbox (by decide))
  · have hib : (s.made ++ [a])[i]? = some b := hib
    by_cases hlt : i < s.made.length
    · rw [List.getElem?_append_left hlt] at hib
      obtain ⟨g, c, ds, h3, h4, h5, h6, h7, h8, h9⟩ := h1.ring i b hib
      have h10 := hl h8 (by decide)
      exact ⟨g, c, ds, by rw [List.getElem?_append_left (by omega)]; exact h3, h4, h5, h6, h7, (heap_other w2 (blk_ne h10 hbox (by decide))).trans h10, h9⟩
    · have hi3 : i = s.made.length := by
        have := (List.getElem?_eq_some_iff.1 hib).1
        simp at this
        omega
      subst hi3
      simp at hib
      subst hib
      have h10 := hl hq1 (by decide)
      exact ⟨q, qc, cs, by rw [← hvl]; simp, hqb, q1, q2, q3, (heap_other w2 (blk_ne h10 hbox (by decide))).trans h10, hc⟩
end
end Go.Proofs.YtagohbpbgjelaaaGreatDoor

/- The code's rules that are left: a map. -/
namespace Go.Proofs.YtagohbpbgjelaaaGreatDoor
open Go.RowKit Go.Maps

theorem law3 : Keyed Tryz.prog 3 := int_keyed Tryz.underlying3
abbrev ki (i : Nat) : Lit := .int .i64 i
/-- What is left stands in the map. -/
def LeftAt (w : World) (b n : Nat) (S : Nat → Bool) : Prop := ∃ D : DataW Unit, w.ownsMap Tryz.prog 3 unitElem b n D ∧ ∀ i : Nat, Maps.has D (ki i) = S i
theorem zero172 (w : World) : (zeroValue 172).run Tryz.prog w = .ok (.agg #[]) w := by kernel_rfl
set_option maxHeartbeats 1000000 in
set_option maxRecDepth 100000 in
theorem allLeft_any (gb nr : Nat) (ra : Option Addr) (rc : Nat) (hnr : nr ≤ 2048) (w : World) (hgb : gb < w.heap.size) (c2 : w.cell? ⟨gb, 2, none⟩ = some (.slice ra nr rc)) :
    Calls Tryz.prog 82 #[.pointer (some ⟨gb, 0, none⟩)] w fun e w' => ∃ b, e = .returned (.map (some b)) ∧ LeftAt w' b nr (fun i => decide (i < nr)) ∧ w.heap.size ≤ b ∧ b < w'.heap.size ∧ Below w.heap.size w w' := by
  have hmm := @run_makeMap Tryz.prog
  go_enter Tryz.func82, Tryz.ntmps82
  go_wp2
  go_loopw [12] (fun x W => ∃ (k : Nat) (D : DataW Unit), x = .int .i64 k ∧ k ≤ nr ∧ W.ownsMap Tryz.prog 3 unitElem w.heap.size k D ∧ (∀ i : Nat, Maps.has D (ki i) = decide (i < k)) ∧ Below w.heap.size w W) (fun x _ => nr - (intOf x).toNat)
  case atStart => exact ⟨0, .map [], rfl, Nat.zero_le _, World.ownsMap_made _ _ _ _, fun i => (by simp [Maps.has]), (Below.refl _ _).alloc (Nat.le_refl _) _⟩
  case round =>
    obtain ⟨k, D, rfl, hk, hown, hkt, hb⟩ := hrel
    by_cases hlt : k < nr
    · have hlt' : (k : Int) < nr := by omega
      have hwf : (Lit.int .i64 (k : Int)).wf = true := WalkArith.wf_i64 (by omega)
      have Hkt : Hid (∀ i : Nat, Maps.has (D.put (ki k) (.agg [])) (ki i) = decide (i < k + 1)) := hide (fun i => by
        by_cases e : i = k
        · subst e; rw [has_put_same hown.isMap (show WideAt.IsKeyLit (ki i) from trivial)]; simp
        · rw [has_put_other (fun e' => by simp at e'; omega), hkt i, decide_eq_decide]; omega)
      clear hkt
      go_wp2_with (first | (at_mapUpdate; refine wpList_mapUpdate_own _ rfl _ _ _ 116 rfl 3 172 law3 Tryz.underlying116 _ w.heap.size k D rfl hown (by unfold maxLen; omega) _ _ (ki k) rfl rfl (keyOf_int_mk Tryz.underlying3 hwf) _ [] unitElem_mk ?_; intro w1 hown1 hgrow1; go_frame) | go_in)
      go_roundw
      case rel => exact ⟨k + 1, _, by go_num, by omega, hown1, unhide Hkt, hb.grown hgrow1 hb.size (fun j hj => by cases hj; exact Nat.le_refl _)⟩
      case measure => simp [intOf]; omega
    · obtain rfl : k = nr := by omega
      have hlt2 := hown.lt
      go_wp2
      go_ret
      exact ⟨w.heap.size, rfl, ⟨D, hown, hkt⟩, Nat.le_refl _, hlt2, hb⟩
set_option maxHeartbeats 1000000 in
set_option maxRecDepth 100000 in
theorem take_any (b n r : Nat) (S : Nat → Bool) (hr : r ≤ 1048576) (w : World) (h : LeftAt w b n S) :
    Calls Tryz.prog 83 #[.map (some b), .int .i64 (r : Int)] w fun e w' => e = .returned (.bool (S r)) ∧ LeftAt w' b n (fun i => if i = r then false else S i) ∧ Fr (· = b) w w' := by
  obtain ⟨D, hown, hS⟩ := h
  have hwf : (Lit.int .i64 (r : Int)).wf = true := WalkArith.wf_i64 (by omega)
  have hkey := keyOf_int_mk Tryz.underlying3 hwf
  have hS2 : ∀ i : Nat, Maps.has (D.del (ki r)) (ki i) = if i = r then false else S i := fun i => by
    by_cases e : i = r
    · subst e; rw [has_del_same, if_pos rfl]
    · rw [has_del_other (fun e' => by simp at e'; omega), if_neg e, hS i]
  have hSr := hS r
  have HS2 := hide hS2
  generalize S r = R at *
  clear hS hS2
  have hbl := hown.lt
  have HOwn : Hid (∀ W, Below w.heap.size w W → W.ownsMap Tryz.prog 3 unitElem b n D) := hide (fun W hb => by
    obtain ⟨es, c, hh, rr⟩ := hown
    exact ⟨es, c, (hb.block b hbl).trans hh, rr⟩)
  clear hown
  go_enter Tryz.func83, Tryz.ntmps83
  go_wp2_with (first | (at_lookup; refine wpList_lookup_own_unit _ rfl _ _ 116 rfl 3 172 law3 Tryz.underlying116 (zero172 _) b n D rfl (unhide HOwn _ (by first | exact Below.refl _ _ | exact (Below.refl _ _).alloc (Nat.le_refl _) _)) _ _ rfl hkey ?_) | (at_delete; refine wpList_delete_own _ rfl _ _ 116 3 rfl 172 law3 Tryz.underlying116 _ b n D rfl (unhide HOwn _ (by first | exact Below.refl _ _ | exact (Below.refl _ _).alloc (Nat.le_refl _) _)) _ _ rfl hkey ?_; intro w1 hown1 hturn1; go_frame) | go_in)
  go_ret
  have hg := hturn1.grown
  refine ⟨rfl, ⟨_, hown1, unhide HS2⟩, ?_⟩
  have hb1 : Below w.heap.size w (w.alloc (.cells #[] 172)) := (Below.refl _ _).alloc (Nat.le_refl _) _
  exact ⟨by have := hg.size; have := hb1.size; omega, fun k hk ho => (hg.block k (by have := hb1.size; omega) (fun e => ho (by cases e; rfl))).trans (hb1.block k hk), hg.os.trans hb1.os, hg.tape.trans hb1.tape, hg.output.trans hb1.output⟩
end Go.Proofs.YtagohbpbgjelaaaGreatDoor

/- The document's Lines. -/
import Derived.Test.YtagohbpbgjelaaaGreatDoorA5
import Derived.Test.YtagohbpbgjelaaaGreatDoorM1
namespace Go.Proofs.YtagohbpbgjelaaaGreatDoor
open Go.RowKit

def vstrs (l : List (List UInt8)) : List Value := l.map fun s => Value.string (bs s)
theorem vstrs_snoc (l : List (List UInt8)) (x : List UInt8) : vstrs l ++ [.string (bs x)] = vstrs (l ++ [x]) := by simp [vstrs]
theorem info9 : (Tryz.prog.info? 9).map (fun i => (i.zero, i.size, i.bytes)) = some (some (.string ⟨#[]⟩), 1, 16) := by kernel_rfl
theorem own_srow {w : World} {B : Nat} {v : Value} {l : List (List UInt8)} (h : w.ownsRow B 9 1 v l.length (vstrs l)) : ∃ a c, v = .slice a l.length c ∧ SRow w.heap.size w a l := by
  obtain ⟨a, c, rfl⟩ := own_form h
  refine ⟨a, c, rfl, ?_⟩
  rcases h.2 with ⟨hv, hn⟩ | ⟨g, cap, cur, hv, hg, hh, -⟩
  · exact .inl (List.eq_nil_of_length_eq_zero hn)
  · cases hv
    refine .inr ⟨g, 0, rfl, (Array.getElem?_eq_some_iff.1 hh).1, fun j hj => ?_⟩
    rw [Nat.zero_add, h.cellAt j (by omega)]
    simp [vstrs, List.getD_eq_getElem?_getD, hj]

end Go.Proofs.YtagohbpbgjelaaaGreatDoor

namespace Go.Proofs.YtagohbpbgjelaaaGreatDoor
open Go.RowKit

set_option maxRecDepth 100000 in
theorem slice27h (xb xo n c q : Nat) (h : q ≤ c) (w : World) : (Instr.slice 27 (.slice (some ⟨xb, xo, none⟩) n c) none (some (.int .i64 (q : Int))) none).run Tryz.prog w = .ok (.slice (some ⟨xb, xo, none⟩) q c) w := by
  rw [run_slice_h w 27 (some ⟨xb, xo, none⟩) n c Tryz.underlying27 .i64 (q : Int) (by omega) (by omega)]
  simp [go_sem, Addr.add]
set_option maxRecDepth 100000 in
theorem vints_one (l : List Int) : ∀ u ∈ vints l, u.oneCell' = true := by
  intro u hu
  obtain ⟨x, -, rfl⟩ := List.mem_map.1 hu
  rfl
set_option maxRecDepth 100000 in
theorem step_append_own {P : Program} {w : World} {ops : Array Oper} {o : Oper} {a : Act} {K : Act → World → Prop} {Q : Exit → Act → World → Prop} {E : Prop} (hgd : o.guard = none) (s x : Operand) (t : TypeId)
    (ho : o.op = .call { callee := .builtin .append, args := #[s, x], argTypes := #[t, t] })
    (base : Nat) (e : TypeId) (i : TypeInfo) (z : Value) (size bytes : Nat) (ht : P.underlying t = some (.slice e)) (hi : P.info? e = some i) (hz : i.zero = some z)
    (hsize : i.size = size) (hby : i.bytes = bytes) (hzs : z.cells.size = size) (hsz : 0 < size)
    (v : Value) (n : Nat) (xs : List Value) (hs : a.eval s = v) (hown : w.ownsRow base e size v n xs)
    (ad : Addr) (m c : Nat) (news : List Value) (hx : a.eval x = .slice (some ad) m c) (hl : news.length = m * size) (hnews : ∀ j u, news[j]? = some u → w.cell? (ad.add j) = some u) (h1 : ∀ u ∈ news, u.oneCell' = true)
    (h63 : n + m ≤ maxLen) (hbytes : (n + m) * bytes ≤ 140737488355328) (hbase : base ≤ w.heap.size)
    (h : ∀ v' w', w'.ownsRow base e size v' (n + m) (xs ++ news) → w.grownBy w' v.ownBlock → (v' = .slice none 0 0 ↔ v = .slice none 0 0 ∧ m = 0) → K (a.put o.dst v') w') :
    if Region.wanted o (yielded ops a.tmps) = true then Oper.wp P o a w K Q else E := by
  have hw : Region.wanted o (yielded ops a.tmps) = true := by simp [Region.wanted, hgd]
  rw [if_pos hw]
  exact wp_append_own w s x t ho base e i z size bytes ht hi hz hsize hby hzs hsz v n xs hs hown ad m c news hx hl hnews h1 h63 hbytes hbase h

end Go.Proofs.YtagohbpbgjelaaaGreatDoor

namespace Go.Proofs.YtagohbpbgjelaaaGreatDoor
open Go.RowKit

set_option maxRecDepth 100000 in
theorem rowIs_below {w w' : World} {b t n : Nat} {f : Nat → Value} (h : w.rowIs b t n f) (hb : Below w.heap.size w w') : w'.rowIs b t n f := h.of_block (hb.block _ h.lt)

set_option maxRecDepth 100000 in
theorem look_in {G : Gm} {ka pa ra qa : Option Addr} (kc pc rc qc : Nat) {B : Nat} {w w1 : World} (hB : B ≤ w.heap.size) (hin : GIn B w G ka pa ra qa) (hw : w1 = (w.alloc (.cells #[.slice ka G.kinds.length kc, .slice pa G.precs.length pc, .slice ra G.rules.length rc, .slice qa G.prods.length qc, .int .i64 G.start] 26)).alloc (.cells #[.slice none 0 0, .slice none 0 0, .slice none 0 0, .slice none 0 0, .slice none 0 0, .slice none 0 0] 31)) :
    GSt B w1 G ka kc pa pc ra rc qa qc w.heap.size ∧ Below w.heap.size w w1 ∧ w1.heap.size = w.heap.size + 2 ∧ w1.heap[w.heap.size + 1]? = some (.cells #[.slice none 0 0, .slice none 0 0, .slice none 0 0, .slice none 0 0, .slice none 0 0, .slice none 0 0] 31) := by
  have hst := gst_new (kc := kc) (pc := pc) (rc := rc) (qc := qc) hB hin 26
  have h1 : (w.alloc (.cells #[.slice ka G.kinds.length kc, .slice pa G.precs.length pc, .slice ra G.rules.length rc, .slice qa G.prods.length qc, .int .i64 G.start] 26)).heap.size = w.heap.size + 1 := by simp
  subst hw
  refine ⟨gst_kept ((Below.refl _ _).alloc (by omega) _) hB hst, ((Below.refl _ _).alloc (Nat.le_refl _) _).alloc (by omega) _, by simp, ?_⟩
  rw [← h1]
  exact Go.Deep.blk_alloc_new _ _

end Go.Proofs.YtagohbpbgjelaaaGreatDoor

namespace Go.Proofs.YtagohbpbgjelaaaGreatDoor
open Go.RowKit

set_option maxRecDepth 100000 in
theorem six_cells {w : World} {b : Nat} {t : TypeId} {a0 a1 a2 a3 a4 a5 : Value} (h : w.heap[b]? = some (.cells #[a0, a1, a2, a3, a4, a5] t)) : w.cell? ⟨b, 0, none⟩ = some a0 ∧ w.cell? ⟨b, 1, none⟩ = some a1 ∧ w.cell? ⟨b, 2, none⟩ = some a2 ∧ w.cell? ⟨b, 3, none⟩ = some a3 ∧ w.cell? ⟨b, 4, none⟩ = some a4 ∧ w.cell? ⟨b, 5, none⟩ = some a5 ∧ w.frozen? ⟨b, 0, none⟩ = false ∧ w.frozen? ⟨b, 1, none⟩ = false ∧ w.frozen? ⟨b, 2, none⟩ = false ∧ w.frozen? ⟨b, 3, none⟩ = false ∧ w.frozen? ⟨b, 4, none⟩ = false ∧ w.frozen? ⟨b, 5, none⟩ = false := by
  refine ⟨?_, ?_, ?_, ?_, ?_, ?_, ?_, ?_, ?_, ?_, ?_, ?_⟩ <;> (first | (unfold World.cell?; rw [h]; rfl) | (unfold World.frozen?; rw [h]; rfl))
set_option maxRecDepth 100000 in
theorem set_blk {w : World} {b i : Nat} {t : TypeId} {c : Array Value} (h : w.heap[b]? = some (.cells c t)) (v : Value) : (w.setCell ⟨b, i, none⟩ v).heap[b]? = some (.cells (c.setIfInBounds i v) t) := by
  simp [World.setCell, Array.getElem?_modify, h]
set_option maxRecDepth 100000 in
theorem set6 {w : World} {b : Nat} {t : TypeId} {a0 a1 a2 a3 a4 a5 : Value} (h : w.heap[b]? = some (.cells #[a0, a1, a2, a3, a4, a5] t)) (v0 v1 v2 v3 v4 v5 : Value) :
    ((((((w.setCell ⟨b, 0, none⟩ v0).setCell ⟨b, 1, none⟩ v1).setCell ⟨b, 2, none⟩ v2).setCell ⟨b, 3, none⟩ v3).setCell ⟨b, 4, none⟩ v4).setCell ⟨b, 5, none⟩ v5).heap[b]? = some (.cells #[v0, v1, v2, v3, v4, v5] t) ∧ Fr (· = b) w ((((((w.setCell ⟨b, 0, none⟩ v0).setCell ⟨b, 1, none⟩ v1).setCell ⟨b, 2, none⟩ v2).setCell ⟨b, 3, none⟩ v3).setCell ⟨b, 4, none⟩ v4).setCell ⟨b, 5, none⟩ v5) :=
  ⟨set_blk (set_blk (set_blk (set_blk (set_blk (set_blk h v0) v1) v2) v3) v4) v5, fr_set (fr_set (fr_set (fr_set (fr_set (fr_set (fr_refl (· = b) w) (by rfl) _) (by rfl) _) (by rfl) _) (by rfl) _) (by rfl) _) (by rfl) _⟩
set_option maxRecDepth 100000 in
theorem row_fr {w w' : World} {b k t n : Nat} {f : Nat → Value} (h : w.rowIs b t n f) (hf : Fr (· = k) w w') (hne : b ≠ k) : w'.rowIs b t n f := h.of_block (hf.2.1 _ h.lt hne)
set_option maxRecDepth 100000 in
theorem six_apart {w : World} {b k t e n : Nat} {c : Array Value} {f : Nat → Value} (h : w.heap[b]? = some (.cells c t)) (hr : w.rowIs k e n f) (hne : e ≠ t) : k ≠ b := by
  intro hk
  subst hk
  obtain ⟨c', h', -⟩ := hr
  rw [h] at h'
  simp at h'
  exact hne h'.2.symm

end Go.Proofs.YtagohbpbgjelaaaGreatDoor

namespace Go.Proofs.YtagohbpbgjelaaaGreatDoor
open Go.RowKit

set_option maxRecDepth 100000 in
theorem addr_add0 (b j : Nat) : Addr.add ⟨b, 0, none⟩ j = ⟨b, j, none⟩ := by cases j <;> simp [Addr.add]
end Go.Proofs.YtagohbpbgjelaaaGreatDoor

namespace Go.Proofs.YtagohbpbgjelaaaGreatDoor
open Go.RowKit

set_option maxHeartbeats 1000000 in
set_option maxRecDepth 100000 in
theorem rsameTexts_eq (a b : Option Addr) (ca cb : Nat) (ll : List (List UInt8)) (hl : ll.length ≤ 281474976710656) (w : World) (h1 : SRow w.heap.size w a ll) (h2 : SRow w.heap.size w b ll) :
    Calls Tryz.prog 63 #[.slice a ll.length ca, .slice b ll.length cb] w fun e w' => e = .returned (.bool true) ∧ ∃ q, w' = w.drewN q := by
  have H1 := hide h1; have H2 := hide h2
  clear h1 h2
  go_enter Tryz.func63, Tryz.ntmps63
  go_wp2
  go_loopw [5] (fun x wr => ∃ k : Nat, x = .int .i64 k ∧ k ≤ ll.length ∧ ∃ q, wr = w.drewN q) (fun x _ => ll.length - (intOf x).toNat)
  case atStart => exact ⟨0, rfl, Nat.zero_le _, 0, rfl⟩
  case round =>
    obtain ⟨k, rfl, hk, q, rfl⟩ := hrel
    by_cases hlt : k < ll.length
    · have hlt' : (k : Int) < ll.length := by omega
      obtain ⟨b1, o1, rfl, hb1, c1⟩ := srow_at (unhide H1) hlt
      obtain ⟨b2, o2, rfl, hb2, c2⟩ := srow_at (unhide H2) hlt
      have d1 : (w.drewN q).cell? ⟨b1, o1 + k, none⟩ = some (.string (bs (ll.getD k []))) := c1
      have d2 : (w.drewN q).cell? ⟨b2, o2 + k, none⟩ = some (.string (bs (ll.getD k []))) := c2
      clear c1 c2
      generalize bs (ll.getD k []) = s at *
      generalize hW : w.drewN q = W at *
      go_wp2
      go_quiet (fail)
      go_wp2
      go_roundw
      case rel => exact ⟨k + 1, by go_num, by omega, q + nq, by rw [← hW, World.drewN_drewN]⟩
      case measure => simp [intOf]; omega
    · obtain rfl : k = ll.length := by omega
      go_wp2
      go_ret
      exact ⟨rfl, q, rfl⟩
end Go.Proofs.YtagohbpbgjelaaaGreatDoor

namespace Go.Proofs.YtagohbpbgjelaaaGreatDoor
open Go.RowKit

theorem boxGG (w : World) (v0 v1 v2 v3 v4 u0 u1 u2 u3 u4 : Value) (t s : TypeId) : ∃ w1, w1 = (w.alloc (.cells #[v0, v1, v2, v3, v4] t)).alloc (.cells #[u0, u1, u2, u3, u4] s) ∧ w1.cell? ⟨w.heap.size, 0, none⟩ = some v0 ∧ w1.cell? ⟨w.heap.size, 1, none⟩ = some v1 ∧ w1.cell? ⟨w.heap.size, 2, none⟩ = some v2 ∧ w1.cell? ⟨w.heap.size, 3, none⟩ = some v3 ∧ w1.cell? ⟨w.heap.size, 4, none⟩ = some v4 ∧ w1.cell? ⟨w.heap.size + 1, 0, none⟩ = some u0 ∧ w1.cell? ⟨w.heap.size + 1, 1, none⟩ = some u1 ∧ w1.cell? ⟨w.heap.size + 1, 2, none⟩ = some u2 ∧ w1.cell? ⟨w.heap.size + 1, 3, none⟩ = some u3 ∧ w1.cell? ⟨w.heap.size + 1, 4, none⟩ = some u4 ∧ w1.heap.size = w.heap.size + 2 ∧ Below w.heap.size w w1 := by
  have h0 : (w.alloc (.cells #[v0, v1, v2, v3, v4] t)).heap.size = w.heap.size + 1 := by simp
  have h1 : ((w.alloc (.cells #[v0, v1, v2, v3, v4] t)).alloc (.cells #[u0, u1, u2, u3, u4] s)).heap[w.heap.size]? = some (.cells #[v0, v1, v2, v3, v4] t) := (Below.heap_alloc _ _ _ (by omega)).trans (Go.Deep.blk_alloc_new _ _)
  have h2 : ((w.alloc (.cells #[v0, v1, v2, v3, v4] t)).alloc (.cells #[u0, u1, u2, u3, u4] s)).heap[w.heap.size + 1]? = some (.cells #[u0, u1, u2, u3, u4] s) := by rw [← h0]; exact Go.Deep.blk_alloc_new _ _
  refine ⟨_, rfl, ?_, ?_, ?_, ?_, ?_, ?_, ?_, ?_, ?_, ?_, by simp, ((Below.refl _ _).alloc (Nat.le_refl _) _).alloc (by omega) _⟩ <;> (unfold World.cell?; first | (rw [h1]; rfl) | (rw [h2]; rfl))
theorem two_blocks (w : World) (a b : Obj) : ((w.alloc a).alloc b).drew.heap[w.heap.size]? = some a ∧ ((w.alloc a).alloc b).drew.heap[w.heap.size + 1]? = some b ∧ Below w.heap.size w ((w.alloc a).alloc b).drew := by
  have h0 : (w.alloc a).heap.size = w.heap.size + 1 := by simp
  refine ⟨(Below.heap_alloc _ _ _ (by omega)).trans (Go.Deep.blk_alloc_new _ _), ?_, (((Below.refl _ _).alloc (Nat.le_refl _) _).alloc (by omega) _).drew⟩
  rw [← h0]; exact Go.Deep.blk_alloc_new _ _
theorem seven_cells {w : World} {b : Nat} {t : TypeId} {a0 a1 a2 a3 a4 a5 a6 : Value} (h : w.heap[b]? = some (.cells #[a0, a1, a2, a3, a4, a5, a6] t)) : w.cell? ⟨b, 0, none⟩ = some a0 ∧ w.cell? ⟨b, 1, none⟩ = some a1 ∧ w.cell? ⟨b, 2, none⟩ = some a2 ∧ w.cell? ⟨b, 3, none⟩ = some a3 ∧ w.cell? ⟨b, 4, none⟩ = some a4 ∧ w.cell? ⟨b, 5, none⟩ = some a5 ∧ w.cell? ⟨b, 6, none⟩ = some a6 := by
  refine ⟨?_, ?_, ?_, ?_, ?_, ?_, ?_⟩ <;> (unfold World.cell?; rw [h]; rfl)
theorem nrow_big {B B' : Nat} {w : World} {a : Option Addr} {l : List Int} (hB : B ≤ B') (h : NRow B w a l) : NRow B' w a l := by
  rcases h with h | ⟨b, off, h1, h2, h3⟩
  · exact .inl h
  · exact .inr ⟨b, off, h1, by omega, h3⟩
theorem srow_up {w w' : World} {a : Option Addr} {l : List (List UInt8)} (h : SRow w.heap.size w a l) (hb : Below w.heap.size w w') : SRow w'.heap.size w' a l := by
  rcases srow_kept hb h with h | ⟨b, off, h1, h2, h3⟩
  · exact .inl h
  · exact .inr ⟨b, off, h1, Nat.lt_of_lt_of_le h2 hb.size, h3⟩

set_option maxHeartbeats 2000000 in
set_option maxRecDepth 100000 in
theorem rSame_eq (G : Gm) (ka pa ra qa la ma sa ta : Option Addr) (kc pc rc qc lc mc sc tc : Nat) (w : World) (h1 : GIn w.heap.size w G ka pa ra qa) (h2 : GIn w.heap.size w G la ma sa ta) (hk : G.kinds.length ≤ 281474976710656) (hr : G.rules.length ≤ 281474976710656) (hp : G.precs.length ≤ 281474976710656) (hq : G.prods.length ≤ 281474976710656) (hx : ∀ p, p ∈ G.prods → p.right.length ≤ 281474976710656 ∧ acShort p.act) :
    Calls Tryz.prog 22 #[.agg #[.slice ka G.kinds.length kc, .slice pa G.precs.length pc, .slice ra G.rules.length rc, .slice qa G.prods.length qc, .int .i64 G.start], .agg #[.slice la G.kinds.length lc, .slice ma G.precs.length mc, .slice sa G.rules.length sc, .slice ta G.prods.length tc, .int .i64 G.start]] w fun e w' => e = .returned (.bool true) ∧ Below w.heap.size w w' := by
  obtain ⟨w1, hw1, c0, c1, c2, c3, c4, d0, d1, d2, d3, d4, hs1, hb1⟩ := boxGG w (.slice ka G.kinds.length kc) (.slice pa G.precs.length pc) (.slice ra G.rules.length rc) (.slice qa G.prods.length qc) (.int .i64 G.start) (.slice la G.kinds.length lc) (.slice ma G.precs.length mc) (.slice sa G.rules.length sc) (.slice ta G.prods.length tc) (.int .i64 G.start) 26 26
  have hk1 := srow_up h1.kinds hb1; have hk2 := srow_up h2.kinds hb1; have hr1 := srow_up h1.rules hb1; have hr2 := srow_up h2.rules hb1
  have Hk := hide (show SRow w1.heap.size w1 ka G.kinds ∧ SRow w1.heap.size w1 la G.kinds from ⟨hk1, hk2⟩)
  have Hr := hide (show SRow w1.heap.size w1 ra G.rules ∧ SRow w1.heap.size w1 sa G.rules from ⟨hr1, hr2⟩)
  have HP1 := hide h1.precs; have HP2 := hide h2.precs; have HQ1 := hide h1.prods; have HQ2 := hide h2.prods; have Hx := hide hx; have Hb1 := hide hb1
  clear h1 h2 hx hb1 hk1 hk2 hr1 hr2
  have hnot := run_not
  go_enter Tryz.func22, Tryz.ntmps22
  rw [hw1] at c0 c1 c2 c3 c4 d0 d1 d2 d3 d4
  go_wp2_with fail
  rw [← hw1] at c0 c1 c2 c3 c4 d0 d1 d2 d3 d4 ⊢
  clear hw1
  refine (rsameTexts_eq _ _ _ _ _ hk _ (unhide Hk).1 (unhide Hk).2).mono ?_
  rintro e w2 ⟨rfl, q, rfl⟩
  go_wp2_with fail
  refine (rsameTexts_eq ra sa rc sc G.rules hr (w1.drewN q) (show SRow (w1.drewN q).heap.size (w1.drewN q) ra G.rules from (unhide Hr).1) (show SRow (w1.drewN q).heap.size (w1.drewN q) sa G.rules from (unhide Hr).2)).mono ?_
  rintro e w2 ⟨rfl, q2, rfl⟩
  have Hb2 := hide (below_drewN (below_drewN (unhide Hb1) q) q2)
  have hs2 : ((w1.drewN q).drewN q2).heap.size = w.heap.size + 2 := hs1
  have Hc : Hid (∀ W : World, Below (w.heap.size + 2) ((w1.drewN q).drewN q2) W → W.cell? ⟨w.heap.size, 1, none⟩ = some (.slice pa G.precs.length pc) ∧ W.cell? ⟨w.heap.size, 3, none⟩ = some (.slice qa G.prods.length qc) ∧ W.cell? ⟨w.heap.size + 1, 1, none⟩ = some (.slice ma G.precs.length mc) ∧ W.cell? ⟨w.heap.size + 1, 3, none⟩ = some (.slice ta G.prods.length tc)) := hide (fun W hW => ⟨(hW.cell (p := ⟨w.heap.size, 1, none⟩) (by show w.heap.size < _; omega)).trans c1, (hW.cell (p := ⟨w.heap.size, 3, none⟩) (by show w.heap.size < _; omega)).trans c3, (hW.cell (p := ⟨w.heap.size + 1, 1, none⟩) (by show w.heap.size + 1 < _; omega)).trans d1, (hW.cell (p := ⟨w.heap.size + 1, 3, none⟩) (by show w.heap.size + 1 < _; omega)).trans d3⟩)
  have C1 : ((w1.drewN q).drewN q2).cell? _ = _ := c1
  have C3 : ((w1.drewN q).drewN q2).cell? _ = _ := c3
  have C4 : ((w1.drewN q).drewN q2).cell? _ = _ := c4
  have D1 : ((w1.drewN q).drewN q2).cell? _ = _ := d1
  have D3 : ((w1.drewN q).drewN q2).cell? _ = _ := d3
  have D4 : ((w1.drewN q).drewN q2).cell? _ = _ := d4
  clear c0 c1 c2 c3 c4 d0 d1 d2 d3 d4 Hb1 hs1 Hk Hr
  generalize (w1.drewN q).drewN q2 = w2 at *
  go_wp2
  clear C1 C3 C4 D1 D3 D4
  go_loopw [5] (fun x wr => ∃ k : Nat, x = .int .i64 k ∧ k ≤ G.precs.length ∧ ∃ q, wr = w2.drewN q) (fun x _ => G.precs.length - (intOf x).toNat)
  case atStart => exact ⟨0, rfl, Nat.zero_le _, 0, rfl⟩
  case round =>
    obtain ⟨k, rfl, hk2, q, rfl⟩ := hrel
    obtain ⟨C1, C3, D1, D3⟩ := unhide Hc (w2.drewN q) (below_drewN (Below.refl _ _) q)
    by_cases hlt : k < G.precs.length
    · have hlt' : (k : Int) < G.precs.length := by omega
      obtain ⟨b1, o1, rfl, hb1, e1, f1⟩ := lrow_at (unhide HP1) hlt
      obtain ⟨b2, o2, rfl, hb2, e2, f2⟩ := lrow_at (unhide HP2) hlt
      have e1' : (w2.drewN q).cell? ⟨b1, o1 + k * 2, none⟩ = _ := ((unhide Hb2).cell (p := ⟨b1, o1 + k * 2, none⟩) hb1).trans e1
      have f1' : (w2.drewN q).cell? ⟨b1, o1 + k * 2 + 1, none⟩ = _ := ((unhide Hb2).cell (p := ⟨b1, o1 + k * 2 + 1, none⟩) hb1).trans f1
      have e2' : (w2.drewN q).cell? ⟨b2, o2 + k * 2, none⟩ = _ := ((unhide Hb2).cell (p := ⟨b2, o2 + k * 2, none⟩) hb2).trans e2
      have f2' : (w2.drewN q).cell? ⟨b2, o2 + k * 2 + 1, none⟩ = _ := ((unhide Hb2).cell (p := ⟨b2, o2 + k * 2 + 1, none⟩) hb2).trans f2
      clear e1 f1 e2 f2
      generalize (G.precs.getD k (0, 0)).1 = x at *
      generalize (G.precs.getD k (0, 0)).2 = y at *
      generalize hW : w2.drewN q = W at *
      go_wp2
      go_quiet (fail)
      go_wp2
      go_roundw
      case rel => exact ⟨k + 1, by go_num, by omega, q + nq, by rw [← hW, World.drewN_drewN]⟩
      case measure => simp [intOf]; omega
    · obtain rfl : k = G.precs.length := by omega
      have HbW := hide (below_drewN (unhide Hb2) q)
      have hsW : (w2.drewN q).heap.size = w.heap.size + 2 := hs2
      have Hc2 : Hid (∀ W : World, Below (w.heap.size + 2) (w2.drewN q) W → W.cell? ⟨w.heap.size, 3, none⟩ = some (.slice qa G.prods.length qc) ∧ W.cell? ⟨w.heap.size + 1, 3, none⟩ = some (.slice ta G.prods.length tc)) := hide (fun W hW => by
        obtain ⟨-, h, -, h'⟩ := unhide Hc W ((below_drewN (Below.refl _ _) q).trans hW)
        exact ⟨h, h'⟩)
      clear Hc Hb2 hs2
      generalize w2.drewN q = w3 at *
      go_wp2
      clear C1 C3 D1 D3
      go_loopw [6, 7, 8] (fun x _ _ wr => ∃ k : Nat, x = .int .i64 k ∧ k ≤ G.prods.length ∧ Below (w.heap.size + 2) w3 wr) (fun x _ _ _ => G.prods.length - (intOf x).toNat)
      case atStart => exact ⟨0, rfl, Nat.zero_le _, Below.refl _ _⟩
      case round =>
        obtain ⟨k, rfl, hk3, hb⟩ := hrel
        obtain ⟨C3, D3⟩ := unhide Hc2 wr hb
        have HbX := hide ((unhide HbW).trans (below_le hb (by omega)))
        have Hb := hide hb
        clear hb
        by_cases hlt : k < G.prods.length
        · have hlt' : (k : Int) < G.prods.length := by omega
          obtain ⟨b1, o1, rfl, hbb1, rr1, rc1, x3, x4, x5, x6, n6, c6, hrr1, hac1, p0, p1, p2, p3, p4, p5, p6⟩ := qrow_at (qrow_kept (unhide HbX) (unhide HQ1)) hlt
          obtain ⟨b2, o2, rfl, hbb2, rr2, rc2, y3, y4, y5, y6, m6, d6, hrr2, hac2, g0, g1, g2, g3, g4, g5, g6⟩ := qrow_at (qrow_kept (unhide HbX) (unhide HQ2)) hlt
          obtain ⟨hx1, hx2⟩ := unhide Hx _ (mem_getP hlt)
          generalize G.prods.getD k pd0 = p at *
          have Hrr := hide (show NRow w.heap.size wr rr1 p.right ∧ NRow w.heap.size wr rr2 p.right from ⟨hrr1, hrr2⟩)
          have Hac := hide (show AcAt w.heap.size wr p.act (.int .i64 x3) (.int .i64 x4) (.string x5) (.slice x6 n6 c6) ∧ AcAt w.heap.size wr p.act (.int .i64 y3) (.int .i64 y4) (.string y5) (.slice y6 m6 d6) from ⟨hac1, hac2⟩)
          clear hrr1 hrr2 hac1 hac2
          have HS : Hid (∀ W : World, Below wr.heap.size wr W → W.cell? ⟨w.heap.size, 3, none⟩ = some (.slice (some ⟨b1, o1, none⟩) G.prods.length qc) ∧ W.cell? ⟨w.heap.size + 1, 3, none⟩ = some (.slice (some ⟨b2, o2, none⟩) G.prods.length tc) ∧ W.cell? ⟨b1, o1 + k * 7, none⟩ = some (.int .i64 p.left) ∧ W.cell? ⟨b1, o1 + k * 7 + 1, none⟩ = some (.slice rr1 p.right.length rc1) ∧ W.cell? ⟨b1, o1 + k * 7 + 2, none⟩ = some (.int .i64 p.level) ∧ W.cell? ⟨b1, o1 + k * 7 + 3, none⟩ = some (.int .i64 x3) ∧ W.cell? ⟨b1, o1 + k * 7 + 4, none⟩ = some (.int .i64 x4) ∧ W.cell? ⟨b1, o1 + k * 7 + 5, none⟩ = some (.string x5) ∧ W.cell? ⟨b1, o1 + k * 7 + 6, none⟩ = some (.slice x6 n6 c6) ∧ W.cell? ⟨b2, o2 + k * 7, none⟩ = some (.int .i64 p.left) ∧ W.cell? ⟨b2, o2 + k * 7 + 1, none⟩ = some (.slice rr2 p.right.length rc2) ∧ W.cell? ⟨b2, o2 + k * 7 + 2, none⟩ = some (.int .i64 p.level) ∧ W.cell? ⟨b2, o2 + k * 7 + 3, none⟩ = some (.int .i64 y3) ∧ W.cell? ⟨b2, o2 + k * 7 + 4, none⟩ = some (.int .i64 y4) ∧ W.cell? ⟨b2, o2 + k * 7 + 5, none⟩ = some (.string y5) ∧ W.cell? ⟨b2, o2 + k * 7 + 6, none⟩ = some (.slice y6 m6 d6)) := hide (fun W hW => by
            have hl := (unhide Hb).size
            have hl2 := (unhide HbW).size
            exact ⟨(hW.cell (p := ⟨w.heap.size, 3, none⟩) (by show w.heap.size < wr.heap.size; omega)).trans C3, (hW.cell (p := ⟨w.heap.size + 1, 3, none⟩) (by show w.heap.size + 1 < wr.heap.size; omega)).trans D3, (hW.cell (p := ⟨b1, o1 + k * 7, none⟩) (by show b1 < wr.heap.size; omega)).trans p0, (hW.cell (p := ⟨b1, o1 + k * 7 + 1, none⟩) (by show b1 < wr.heap.size; omega)).trans p1, (hW.cell (p := ⟨b1, o1 + k * 7 + 2, none⟩) (by show b1 < wr.heap.size; omega)).trans p2, (hW.cell (p := ⟨b1, o1 + k * 7 + 3, none⟩) (by show b1 < wr.heap.size; omega)).trans p3, (hW.cell (p := ⟨b1, o1 + k * 7 + 4, none⟩) (by show b1 < wr.heap.size; omega)).trans p4, (hW.cell (p := ⟨b1, o1 + k * 7 + 5, none⟩) (by show b1 < wr.heap.size; omega)).trans p5, (hW.cell (p := ⟨b1, o1 + k * 7 + 6, none⟩) (by show b1 < wr.heap.size; omega)).trans p6, (hW.cell (p := ⟨b2, o2 + k * 7, none⟩) (by show b2 < wr.heap.size; omega)).trans g0, (hW.cell (p := ⟨b2, o2 + k * 7 + 1, none⟩) (by show b2 < wr.heap.size; omega)).trans g1, (hW.cell (p := ⟨b2, o2 + k * 7 + 2, none⟩) (by show b2 < wr.heap.size; omega)).trans g2, (hW.cell (p := ⟨b2, o2 + k * 7 + 3, none⟩) (by show b2 < wr.heap.size; omega)).trans g3, (hW.cell (p := ⟨b2, o2 + k * 7 + 4, none⟩) (by show b2 < wr.heap.size; omega)).trans g4, (hW.cell (p := ⟨b2, o2 + k * 7 + 5, none⟩) (by show b2 < wr.heap.size; omega)).trans g5, (hW.cell (p := ⟨b2, o2 + k * 7 + 6, none⟩) (by show b2 < wr.heap.size; omega)).trans g6⟩)
          go_wp2
          clear C3 D3 p0 p1 p2 p3 p4 p5 p6 g0 g1 g2 g3 g4 g5 g6
          go_cut [7, 8] (fun p' q' wx => ∃ bp bq, p' = .pointer (some ⟨bp, 0, none⟩) ∧ q' = .pointer (some ⟨bq, 0, none⟩) ∧ wx.heap[bp]? = some (.cells #[.int .i64 p.left, .slice rr1 p.right.length rc1, .int .i64 p.level, .int .i64 x3, .int .i64 x4, .string x5, .slice x6 n6 c6] 89) ∧ wx.heap[bq]? = some (.cells #[.int .i64 p.left, .slice rr2 p.right.length rc2, .int .i64 p.level, .int .i64 y3, .int .i64 y4, .string y5, .slice y6 m6 d6] 89) ∧ Below wr.heap.size wr wx)
          case first =>
            go_region_held3 (fun W : World => W.cell? ⟨w.heap.size, 3, none⟩ = some (.slice (some ⟨b1, o1, none⟩) G.prods.length qc) ∧ W.cell? ⟨w.heap.size + 1, 3, none⟩ = some (.slice (some ⟨b2, o2, none⟩) G.prods.length tc) ∧ W.cell? ⟨b1, o1 + k * 7, none⟩ = some (.int .i64 p.left) ∧ W.cell? ⟨b1, o1 + k * 7 + 1, none⟩ = some (.slice rr1 p.right.length rc1) ∧ W.cell? ⟨b1, o1 + k * 7 + 2, none⟩ = some (.int .i64 p.level) ∧ W.cell? ⟨b1, o1 + k * 7 + 3, none⟩ = some (.int .i64 x3) ∧ W.cell? ⟨b1, o1 + k * 7 + 4, none⟩ = some (.int .i64 x4) ∧ W.cell? ⟨b1, o1 + k * 7 + 5, none⟩ = some (.string x5) ∧ W.cell? ⟨b1, o1 + k * 7 + 6, none⟩ = some (.slice x6 n6 c6) ∧ W.cell? ⟨b2, o2 + k * 7, none⟩ = some (.int .i64 p.left) ∧ W.cell? ⟨b2, o2 + k * 7 + 1, none⟩ = some (.slice rr2 p.right.length rc2) ∧ W.cell? ⟨b2, o2 + k * 7 + 2, none⟩ = some (.int .i64 p.level) ∧ W.cell? ⟨b2, o2 + k * 7 + 3, none⟩ = some (.int .i64 y3) ∧ W.cell? ⟨b2, o2 + k * 7 + 4, none⟩ = some (.int .i64 y4) ∧ W.cell? ⟨b2, o2 + k * 7 + 5, none⟩ = some (.string y5) ∧ W.cell? ⟨b2, o2 + k * 7 + 6, none⟩ = some (.slice y6 m6 d6))
              (first | (refine unhide HS _ ?_; repeat (first | exact (Below.refl _ _).drew | exact Below.refl _ _ | refine Below.drew ?_ | refine Below.setCell ?_ (by simp) _ | refine Below.alloc ?_ (by simp) _)) | fail)
              (fail)
            all_goals
              go_wp2_with fail
              go_meet
              first
                | exact ⟨_, _, rfl, rfl, (two_blocks _ _ _).1, (two_blocks _ _ _).2.1, (two_blocks _ _ _).2.2⟩
                | exact ⟨_, _, rfl, rfl, (two_blocks _ _ _).2.1, (two_blocks _ _ _).1, (two_blocks _ _ _).2.2⟩
          case rest =>
            obtain ⟨bp, bq, rfl, rfl, hbp, hbq, hbx⟩ := hcut
            obtain ⟨p0, p1, p2, p3, p4, p5, p6⟩ := seven_cells hbp
            obtain ⟨g0, g1, g2, g3, g4, g5, g6⟩ := seven_cells hbq
            have hl := (unhide Hb).size
            have hl2 := (unhide HbW).size
            have hl3 := hbx.size
            have hI := rSameInts_any rr1 rr2 rc1 rc2 p.right p.right hx1 wc (nrow_big (by omega) (nrow_kept (below_le hbx (by omega)) (unhide Hrr).1)) (nrow_big (by omega) (nrow_kept (below_le hbx (by omega)) (unhide Hrr).2))
            rw [decide_eq_true rfl] at hI
            have HI := hide hI
            have HA : Hid (∀ q, Calls Tryz.prog 64 #[.agg #[.int .i64 x3, .int .i64 x4, .string x5, .slice x6 n6 c6], .agg #[.int .i64 y3, .int .i64 y4, .string y5, .slice y6 m6 d6]] (wc.drewN q) fun e w' => e = .returned (.bool true) ∧ Below (wc.drewN q).heap.size (wc.drewN q) w') := hide (fun q => rSameAct_eq _ p.act (wc.drewN q) _ _ _ _ _ _ _ _ (Nat.le_refl _) hx2 (acAt_upB (show w.heap.size ≤ wc.heap.size by omega) _ _ _ _ _ (acAt_kept (below_drewN (below_le hbx (by omega)) q) _ _ _ _ _ (unhide Hac).1)) (acAt_upB (show w.heap.size ≤ wc.heap.size by omega) _ _ _ _ _ (acAt_kept (below_drewN (below_le hbx (by omega)) q) _ _ _ _ _ (unhide Hac).2)))
            have Hbx := hide hbx
            clear hI hbx hbp hbq HS Hrr Hac
            generalize p.left = pl at *
            generalize p.level = pv at *
            generalize p.right = pr at *
            go_wp2_with fail
            refine (unhide HI).mono ?_
            rintro e w4 ⟨rfl, q4, rfl⟩
            have p3' : (wc.drewN q4).cell? _ = _ := p3
            have p4' : (wc.drewN q4).cell? _ = _ := p4
            have p5' : (wc.drewN q4).cell? _ = _ := p5
            have p6' : (wc.drewN q4).cell? _ = _ := p6
            have g3' : (wc.drewN q4).cell? _ = _ := g3
            have g4' : (wc.drewN q4).cell? _ = _ := g4
            have g5' : (wc.drewN q4).cell? _ = _ := g5
            have g6' : (wc.drewN q4).cell? _ = _ := g6
            have HA4 := hide (unhide HA q4)
            have Hb4 := hide (below_drewN (unhide Hbx) q4)
            clear HA HI p0 p1 p2 p3 p4 p5 p6 g0 g1 g2 g3 g4 g5 g6 Hbx
            have hl4 : wr.heap.size ≤ (wc.drewN q4).heap.size := hl3
            generalize wc.drewN q4 = w4 at *
            go_wp2_with fail
            refine (unhide HA4).mono ?_
            rintro e w5 ⟨rfl, hb5⟩
            have Hb5 := hide ((unhide Hb).trans (below_le ((unhide Hb4).trans (below_le hb5 hl4)) (by omega)))
            clear hb5 HA4 p3' p4' p5' p6' g3' g4' g5' g6'
            go_wp2
            go_roundw
            case rel => exact ⟨k + 1, by go_num, by omega, unhide Hb5⟩
            case measure => simp [intOf]; omega
        · obtain rfl : k = G.prods.length := by omega
          go_wp2
          go_ret
          exact ⟨rfl, unhide HbX⟩
end Go.Proofs.YtagohbpbgjelaaaGreatDoor

namespace Go.Proofs.YtagohbpbgjelaaaGreatDoor
open Go.RowKit

theorem nnrow_at {w : World} {a : Option Addr} {ll : List (List Int)} (h : NNRow w a ll) {k : Nat} (hk : k < ll.length) : ∃ b off, a = some ⟨b, off, none⟩ ∧ b < w.heap.size ∧ ∃ ra rc, w.cell? ⟨b, off + k, none⟩ = some (.slice ra (ll.getD k []).length rc) ∧ NRow w.heap.size w ra (ll.getD k []) := by
  rcases h with rfl | ⟨b, off, h1, h2, h3⟩
  · simp at hk
  · exact ⟨b, off, h1, h2, h3 k hk⟩

end Go.Proofs.YtagohbpbgjelaaaGreatDoor

/- The document's spelled. -/
import Derived.Test.YtagohbpbgjelaaaGreatDoorM1
import Derived.Test.YtagohbpbgjelaaaGreatDoorV1
import Derived.Laws.AppendOwnNone
import Derived.Test.YtagohbpbgjelaaaGreatDoorA5
namespace Go.Proofs.YtagohbpbgjelaaaGreatDoor
open Go.RowKit

set_option maxRecDepth 100000 in
theorem vints_app (a b : List Int) : vints (a ++ b) = vints a ++ vints b := by simp [vints]
end Go.Proofs.YtagohbpbgjelaaaGreatDoor

namespace Go.Proofs.YtagohbpbgjelaaaGreatDoor
open Go.RowKit

noncomputable def reaF (G : Gm) (r : Nat) : Bool := rchF G (fun p : Pd => wholeB G.nk (prdF G) p.right) r
noncomputable def keepF (G : Gm) (r : Nat) : Bool := prdF G r && reaF G r
noncomputable def rulesTo (G : Gm) : Nat → List (List UInt8)
  | 0 => []
  | k + 1 => rulesTo G k ++ if keepF G k then [G.rules.getD k []] else []
noncomputable def nmbF (G : Gm) (r : Nat) : Nat := if keepF G r then (rulesTo G r).length else 0
noncomputable def symT (G : Gm) (x : Int) : Int := if (G.nk : Int) ≤ x then (G.nk : Int) + nmbF G (x - G.nk).toNat else x
noncomputable def pdT (G : Gm) (p : Pd) : Pd := ⟨nmbF G p.left.toNat, p.right.map (symT G), p.level, p.act⟩
noncomputable def keepP (G : Gm) (p : Pd) : Bool := reaF G p.left.toNat && (prdF G p.left.toNat && wholeB G.nk (prdF G) p.right)
noncomputable def prodsT (G : Gm) : Nat → List Pd
  | 0 => []
  | k + 1 => prodsT G k ++ if keepP G (G.prods.getD k pd0) then [pdT G (G.prods.getD k pd0)] else []
noncomputable def trimG (G : Gm) : Gm := ⟨G.kinds, G.precs, rulesTo G G.nr, prodsT G G.prods.length, nmbF G G.start.toNat⟩
set_option maxRecDepth 100000 in
theorem rulesTo_le (G : Gm) : ∀ k, (rulesTo G k).length ≤ k
  | 0 => Nat.le_refl _
  | k + 1 => by
    have := rulesTo_le G k
    unfold rulesTo
    rw [List.length_append]
    split <;> simp <;> omega
set_option maxRecDepth 100000 in
theorem nmbF_le (G : Gm) (r : Nat) : nmbF G r ≤ r := by
  unfold nmbF
  split
  · exact rulesTo_le G r
  · omega
set_option maxRecDepth 100000 in
theorem prodsT_le (G : Gm) : ∀ k, (prodsT G k).length ≤ k
  | 0 => Nat.le_refl _
  | k + 1 => by
    have := prodsT_le G k
    unfold prodsT
    rw [List.length_append]
    split <;> simp <;> omega
def vprecs (l : List (Int × Int)) : List Value := l.flatMap fun x => [.int .i64 x.1, .int .i64 x.2]
set_option maxRecDepth 100000 in
theorem vprecs_len : ∀ l, (vprecs l).length = l.length * 2
  | [] => rfl
  | x :: xs => by
    have := vprecs_len xs
    unfold vprecs at this ⊢
    rw [List.flatMap_cons, List.length_append, this]
    simp
    omega
set_option maxRecDepth 100000 in
theorem vprecs_get : ∀ (l : List (Int × Int)) (j : Nat), j < l.length → (vprecs l)[j * 2]? = some (.int .i64 (l.getD j (0, 0)).1) ∧ (vprecs l)[j * 2 + 1]? = some (.int .i64 (l.getD j (0, 0)).2)
  | [], j, h => by simp at h
  | x :: xs, 0, _ => ⟨rfl, rfl⟩
  | x :: xs, j + 1, h => by
    have := vprecs_get xs j (by simpa using h)
    unfold vprecs at this ⊢
    rw [List.flatMap_cons, show (j + 1) * 2 = j * 2 + 1 + 1 by omega, show j * 2 + 1 + 1 + 1 = (j * 2 + 1) + 1 + 1 by omega]
    exact this
set_option maxRecDepth 100000 in
theorem vprecs_one (l : List (Int × Int)) : ∀ u ∈ vprecs l, u.oneCell' = true := by
  intro u hu
  obtain ⟨x, -, hx⟩ := List.mem_flatMap.1 hu
  simp at hx
  rcases hx with rfl | rfl <;> rfl
set_option maxRecDepth 100000 in
theorem vstrs_one (l : List (List UInt8)) : ∀ u ∈ vstrs l, u.oneCell' = true := by
  intro u hu
  obtain ⟨x, -, rfl⟩ := List.mem_map.1 hu
  rfl
set_option maxRecDepth 100000 in
theorem own_lrow {w : World} {B : Nat} {v : Value} {l : List (Int × Int)} (h : w.ownsRow B 98 2 v l.length (vprecs l)) : ∃ a c, v = .slice a l.length c ∧ LRow w.heap.size w a l := by
  obtain ⟨a, c, rfl⟩ := own_form h
  refine ⟨a, c, rfl, ?_⟩
  rcases h.2 with ⟨hv, hn⟩ | ⟨g, cap, cur, hv, hg, hh, -⟩
  · exact .inl (List.eq_nil_of_length_eq_zero hn)
  · cases hv
    refine .inr ⟨g, 0, rfl, (Array.getElem?_eq_some_iff.1 hh).1, fun j hj => ?_⟩
    have := vprecs_get l j hj
    rw [Nat.zero_add]
    exact ⟨by rw [h.cellAt (j * 2) (by omega)]; exact this.1, by rw [h.cellAt (j * 2 + 1) (by omega)]; exact this.2⟩
set_option maxRecDepth 100000 in
theorem bx_alloc {W : World} {b : Nat} {o : Obj} (h : W.heap[b]? = some o) (o' : Obj) : (W.alloc o').heap[b]? = some o := (Below.heap_alloc _ _ _ (Array.getElem?_eq_some_iff.1 h).1).trans h
set_option maxRecDepth 100000 in
theorem bx_below {W W' : World} {b : Nat} {o : Obj} (h : W.heap[b]? = some o) (hb : Below W.heap.size W W') : W'.heap[b]? = some o := (hb.block _ (Array.getElem?_eq_some_iff.1 h).1).trans h
set_option maxRecDepth 100000 in
theorem bx_ne {W : World} {b t e B s n : Nat} {c : Array Value} {v : Value} {xs : List Value} (h : W.heap[b]? = some (.cells c t)) (h' : W.ownsRow B e s v n xs) (hne : e ≠ t) : some b ≠ v.ownBlock := by
  intro hk
  rcases h'.2 with ⟨rfl, -⟩ | ⟨g', cap', cur', rfl, -, hg', -⟩
  · simp [Value.ownBlock] at hk
  · simp [Value.ownBlock] at hk
    subst hk
    rw [h] at hg'
    simp at hg'
    exact hne hg'.2.symm
set_option maxRecDepth 100000 in
theorem bx_grown {W W' : World} {b t e B s n : Nat} {c : Array Value} {v : Value} {xs : List Value} (h : W.heap[b]? = some (.cells c t)) (h' : W.ownsRow B e s v n xs) (hg : W.grownBy W' v.ownBlock) (hne : e ≠ t) : W'.heap[b]? = some (.cells c t) :=
  (hg.block b (Array.getElem?_eq_some_iff.1 h).1 (bx_ne h h' hne)).trans h
set_option maxRecDepth 100000 in
theorem own_fr {W W' : World} {b t e B s n : Nat} {c : Array Value} {v : Value} {xs : List Value} (h' : W.ownsRow B e s v n xs) (h : W.heap[b]? = some (.cells c t)) (hf : Fr (· = b) W W') (hne : e ≠ t) : W'.ownsRow B e s v n xs := by
  refine ⟨h'.1, ?_⟩
  rcases h'.2 with h0 | ⟨g, cap, cur, hv, h1, h2, rest⟩
  · exact .inl h0
  · refine .inr ⟨g, cap, cur, hv, h1, (hf.2.1 g (Array.getElem?_eq_some_iff.1 h2).1 (fun e => ?_)).trans h2, rest⟩
    have e : g = b := e
    exact bx_ne h h' hne (by rw [hv, e]; rfl)
set_option maxRecDepth 100000 in
theorem set5 {w : World} {b : Nat} {t : TypeId} {a0 a1 a2 a3 a4 : Value} (h : w.heap[b]? = some (.cells #[a0, a1, a2, a3, a4] t)) (v0 v1 v2 v3 v4 : Value) :
    (((((w.setCell ⟨b, 0, none⟩ v0).setCell ⟨b, 1, none⟩ v1).setCell ⟨b, 2, none⟩ v2).setCell ⟨b, 3, none⟩ v3).setCell ⟨b, 4, none⟩ v4).heap[b]? = some (.cells #[v0, v1, v2, v3, v4] t) ∧ Fr (· = b) w (((((w.setCell ⟨b, 0, none⟩ v0).setCell ⟨b, 1, none⟩ v1).setCell ⟨b, 2, none⟩ v2).setCell ⟨b, 3, none⟩ v3).setCell ⟨b, 4, none⟩ v4) :=
  ⟨set_blk (set_blk (set_blk (set_blk (set_blk h v0) v1) v2) v3) v4, fr_set (fr_set (fr_set (fr_set (fr_set (fr_refl (· = b) w) (by rfl) _) (by rfl) _) (by rfl) _) (by rfl) _) (by rfl) _⟩
set_option maxRecDepth 100000 in
theorem five_cellsZ {w : World} {b : Nat} {t : TypeId} {a0 a1 a2 a3 a4 : Value} (h : w.heap[b]? = some (.cells #[a0, a1, a2, a3, a4] t)) : w.cell? ⟨b, 0, none⟩ = some a0 ∧ w.cell? ⟨b, 1, none⟩ = some a1 ∧ w.cell? ⟨b, 2, none⟩ = some a2 ∧ w.cell? ⟨b, 3, none⟩ = some a3 ∧ w.cell? ⟨b, 4, none⟩ = some a4 ∧ w.frozen? ⟨b, 0, none⟩ = false ∧ w.frozen? ⟨b, 1, none⟩ = false ∧ w.frozen? ⟨b, 2, none⟩ = false ∧ w.frozen? ⟨b, 3, none⟩ = false ∧ w.frozen? ⟨b, 4, none⟩ = false := by
  refine ⟨?_, ?_, ?_, ?_, ?_, ?_, ?_, ?_, ?_, ?_⟩ <;> (first | (unfold World.cell?; rw [h]; rfl) | (unfold World.frozen?; rw [h]; rfl))
set_option maxRecDepth 100000 in
theorem blk_newF {O : Nat → Prop} {W0 W : World} (_ : Fr O W0 W) (o : Obj) : (W.alloc o).heap[W.heap.size]? = some o := Go.Deep.blk_alloc_new _ _
set_option maxRecDepth 100000 in
theorem one_new {W : World} {b t : Nat} {x : Value} (h : W.heap[b]? = some (.cells #[x] t)) {j : Nat} {u : Value} (hu : [x][j]? = some u) : W.cell? (Addr.add ⟨b, 0, none⟩ j) = some u := by
  rcases j with _ | j
  · cases hu
    rw [addr_add0]
    unfold World.cell?
    rw [h]
    rfl
  · simp at hu
set_option maxRecDepth 100000 in
theorem fr_grown {O : Nat → Prop} {a b c : World} {o : Option Nat} (h : Fr O a b) (hg : b.grownBy c o) (ho : ∀ j, o = some j → a.heap.size ≤ j) : Fr O a c := by
  refine ⟨Nat.le_trans h.1 hg.size, fun k hk hO => ?_, hg.os.trans h.2.2.1, hg.tape.trans h.2.2.2.1, hg.output.trans h.2.2.2.2⟩
  rw [hg.block k (Nat.lt_of_lt_of_le hk h.1) (fun e => by have := ho k e.symm; omega)]
  exact h.2.1 k hk hO
set_option maxRecDepth 100000 in
theorem row_ne {W : World} {b k t e n : Nat} {c : Array Value} {f : Nat → Value} (h : W.heap[b]? = some (.cells c t)) (hr : W.rowIs k e n f) (hne : e ≠ t) : k ≠ b := six_apart h hr hne
set_option maxRecDepth 100000 in
theorem nrw_grown {W W' : World} {b t e B s n m : Nat} {f : Nat → Value} {v : Value} {xs : List Value} (h : W.rowIs b t m f) (h' : W.ownsRow B e s v n xs) (hg : W.grownBy W' v.ownBlock) (hne : e ≠ t) : W'.rowIs b t m f := by
  refine h.of_block (hg.block b h.lt ?_)
  obtain ⟨c, hc, -⟩ := h
  exact bx_ne hc h' hne
set_option maxRecDepth 100000 in
theorem own_frN {W W' : World} {b e B s n : Nat} {v : Value} {xs : List Value} (h' : W.ownsRow B e s v n xs) (hf : Fr (· = b) W W') (hb : b < B) : W'.ownsRow B e s v n xs := by
  refine ⟨h'.1, ?_⟩
  rcases h'.2 with h0 | ⟨g, cap, cur, hv, h1, h2, rest⟩
  · exact .inl h0
  · exact .inr ⟨g, cap, cur, hv, h1, (hf.2.1 g (Array.getElem?_eq_some_iff.1 h2).1 (fun e => by have e : g = b := e; omega)).trans h2, rest⟩
def PdO (B L : Nat) (W : World) (p : Pd) (v0 v1 v2 v3 v4 v5 v6 : Value) : Prop := v0 = .int .i64 p.left ∧ W.ownsRow L 3 1 v1 p.right.length (vints p.right) ∧ v2 = .int .i64 p.level ∧ AcAt B W p.act v3 v4 v5 v6
def PdTs (B L : Nat) (W : World) : List Pd → List Value → Prop
  | [], vs => vs = []
  | p :: ps, vs => ∃ v0 v1 v2 v3 v4 v5 v6 rest, vs = v0 :: v1 :: v2 :: v3 :: v4 :: v5 :: v6 :: rest ∧ PdO B L W p v0 v1 v2 v3 v4 v5 v6 ∧ PdTs B L W ps rest
set_option maxRecDepth 100000 in
theorem pdTs_get {B L : Nat} {W : World} : ∀ (ps : List Pd) (vs : List Value), PdTs B L W ps vs → ∀ i, i < ps.length → ∃ v0 v1 v2 v3 v4 v5 v6, PdO B L W (ps.getD i pd0) v0 v1 v2 v3 v4 v5 v6 ∧ vs[i * 7]? = some v0 ∧ vs[i * 7 + 1]? = some v1 ∧ vs[i * 7 + 2]? = some v2 ∧ vs[i * 7 + 3]? = some v3 ∧ vs[i * 7 + 4]? = some v4 ∧ vs[i * 7 + 5]? = some v5 ∧ vs[i * 7 + 6]? = some v6
  | [], vs, h, i, hi => by simp at hi
  | q :: qs, vs, h, 0, hi => by
    unfold PdTs at h
    obtain ⟨u0, u1, u2, u3, u4, u5, u6, rest, rfl, h1, h2⟩ := h
    exact ⟨_, _, _, _, _, _, _, h1, rfl, rfl, rfl, rfl, rfl, rfl, rfl⟩
  | q :: qs, vs, h, i + 1, hi => by
    unfold PdTs at h
    obtain ⟨u0, u1, u2, u3, u4, u5, u6, rest, rfl, h1, h2⟩ := h
    obtain ⟨v0, v1, v2, v3, v4, v5, v6, hp, e0, e1, e2, e3, e4, e5, e6⟩ := pdTs_get qs rest h2 i (by simpa using hi)
    have e : (i + 1) * 7 = i * 7 + 1 + 1 + 1 + 1 + 1 + 1 + 1 := by omega
    rw [e]
    exact ⟨v0, v1, v2, v3, v4, v5, v6, hp, e0, e1, e2, e3, e4, e5, e6⟩
set_option maxRecDepth 100000 in
theorem own_qrow {B L L' : Nat} {w : World} {v : Value} {ps : List Pd} {vs : List Value} (h : w.ownsRow L 89 7 v ps.length vs) (hp : PdTs B L' w ps vs) (hB : B ≤ w.heap.size) : ∃ a c, v = .slice a ps.length c ∧ QRow w.heap.size w a ps := by
  obtain ⟨a, c, rfl⟩ := own_form h
  refine ⟨a, c, rfl, ?_⟩
  rcases h.2 with ⟨hv, hn⟩ | ⟨g, cap, cur, hv, hg, hh, -⟩
  · exact .inl (List.eq_nil_of_length_eq_zero hn)
  · cases hv
    refine .inr ⟨g, 0, rfl, (Array.getElem?_eq_some_iff.1 hh).1, fun j hj => ?_⟩
    obtain ⟨v0, v1, v2, v3, v4, v5, v6, ⟨p0, p1, p2, p3⟩, e0, e1, e2, e3, e4, e5, e6⟩ := pdTs_get ps vs hp j hj
    obtain ⟨ra, rc, rfl, hr⟩ := own_nrow p1
    have hcap : (ps.getD j pd0).right.length ≤ rc := by
      rcases p1.2 with ⟨hv, hn⟩ | ⟨g', cap', cur', hv, -, -, hle, -⟩
      · omega
      · cases hv; exact hle
    rw [Nat.zero_add]
    refine ⟨v0, .slice ra (ps.getD j pd0).right.length rc, v2, v3, v4, v5, v6, ⟨p0, ⟨ra, rc, rfl, hr, hcap⟩, p2, acAt_upB hB _ _ _ _ _ p3⟩, ?_, ?_, ?_, ?_, ?_, ?_, ?_⟩
    · rw [h.cellAt (j * 7) (by omega)]; exact e0
    · rw [h.cellAt (j * 7 + 1) (by omega)]; exact e1
    · rw [h.cellAt (j * 7 + 2) (by omega)]; exact e2
    · rw [h.cellAt (j * 7 + 3) (by omega)]; exact e3
    · rw [h.cellAt (j * 7 + 4) (by omega)]; exact e4
    · rw [h.cellAt (j * 7 + 5) (by omega)]; exact e5
    · rw [h.cellAt (j * 7 + 6) (by omega)]; exact e6
set_option maxRecDepth 100000 in
theorem own_fr2 {W0 W W' : World} {b c e t B s n : Nat} {cs : Array Value} {v : Value} {xs : List Value} (h0 : W0.ownsRow B e s v n xs) (hb0 : W0.heap[b]? = some (.cells cs t)) (hne : e ≠ t) (hb : Below W0.heap.size W0 W) (hf : Fr (fun j => j = b ∨ j = c) W W') (hc : W0.heap.size ≤ c) : W'.ownsRow B e s v n xs := by
  refine ⟨h0.1, ?_⟩
  rcases h0.2 with h | ⟨g, cap, cur, hv, h1, h2, rest⟩
  · exact .inl h
  · have hlt := (Array.getElem?_eq_some_iff.1 h2).1
    refine .inr ⟨g, cap, cur, hv, h1, (hf.2.1 g (Nat.lt_of_lt_of_le hlt hb.size) (fun e => ?_)).trans ((hb.block g hlt).trans h2), rest⟩
    rcases e with e | e
    · exact bx_ne hb0 h0 hne (by rw [hv, e]; rfl)
    · omega
set_option maxRecDepth 100000 in
theorem cells_new {cs : Array Value} {t : Nat} (w : World) (j : Nat) {u : Value} (h : cs.toList[j]? = some u) : (w.alloc (.cells cs t)).cell? (Addr.add ⟨w.heap.size, 0, none⟩ j) = some u := by
  rw [addr_add0]
  unfold World.cell?
  rw [Go.Deep.blk_alloc_new]
  simpa using h
set_option maxRecDepth 100000 in
theorem info71 : (Tryz.prog.info? 89).map (fun i => (i.zero, i.size, i.bytes)) = some (some (.agg #[.int .i64 0, .slice none 0 0, .int .i64 0, .int .i64 0, .int .i64 0, .string ⟨#[]⟩, .slice none 0 0]), 7, 96) := by kernel_rfl
set_option maxRecDepth 100000 in
theorem info77 : (Tryz.prog.info? 98).map (fun i => (i.zero, i.size, i.bytes)) = some (some (.agg #[.int .i64 0, .int .i64 0]), 2, 16) := by kernel_rfl
end Go.Proofs.YtagohbpbgjelaaaGreatDoor

namespace Go.Proofs.YtagohbpbgjelaaaGreatDoor
open Go.RowKit

set_option maxRecDepth 100000 in
theorem blk_new {N : Nat} {W0 W : World} (_ : Below N W0 W) (o : Obj) : (W.alloc o).heap[W.heap.size]? = some o := Go.Deep.blk_alloc_new _ _
set_option maxRecDepth 100000 in
theorem sz_alloc (w : World) (o : Obj) : (w.alloc o).heap.size = w.heap.size + 1 := by simp
set_option maxRecDepth 100000 in
theorem sz_drew (w : World) : w.drew.heap.size = w.heap.size := rfl
end Go.Proofs.YtagohbpbgjelaaaGreatDoor

namespace Go.Proofs.YtagohbpbgjelaaaGreatDoor
open Go.RowKit

set_option maxRecDepth 100000 in
open Classical in
theorem least_ex (G : Gm) : ∃ f, LeastIs G f := by
  have key : ∀ r, ∃ v : Int, (v = -1 ∧ ¬ ∃ n, Lng G r n) ∨ (Lng G r v ∧ ∀ n, Lng G r n → v ≤ n) := by
    intro r
    by_cases h : ∃ n, Lng G r n
    · obtain ⟨n, hn⟩ := h
      have hP : ∃ m : Nat, Lng G r (m : Int) := ⟨n.toNat, by have := lng_bd hn; rw [Int.toNat_of_nonneg this.1]; exact hn⟩
      obtain ⟨m, hm, hmin⟩ : ∃ m : Nat, Lng G r (m : Int) ∧ ∀ k : Nat, Lng G r (k : Int) → m ≤ k := by
        obtain ⟨m0, hm0⟩ := hP
        induction m0 using Nat.strongRecOn with
        | _ m0 ih =>
          by_cases hx : ∃ k : Nat, k < m0 ∧ Lng G r (k : Int)
          · obtain ⟨k, hk, hl⟩ := hx
            exact ih k hk hl
          · exact ⟨m0, hm0, fun k hk => by
              rcases Nat.lt_or_ge k m0 with h | h
              · exact absurd ⟨k, h, hk⟩ hx
              · exact h⟩
      refine ⟨(m : Int), .inr ⟨hm, fun k hk => ?_⟩⟩
      have hb := lng_bd hk
      have := hmin k.toNat (by rw [Int.toNat_of_nonneg hb.1]; exact hk)
      omega
    · exact ⟨-1, .inl ⟨rfl, h⟩⟩
  refine ⟨fun r => Classical.choose (key r), fun r => ?_, fun r n hn => ?_⟩
  · rcases Classical.choose_spec (key r) with h | h
    · exact .inl h.1
    · have := lng_bd h.1
      exact .inr ⟨this.1, this.2, h.1⟩
  · rcases Classical.choose_spec (key r) with h | h
    · exact absurd ⟨n, hn⟩ h.2
    · exact ⟨(lng_bd h.1).1, h.2 n hn⟩
set_option maxRecDepth 100000 in
theorem rulesTo_succ {G : Gm} {k : Nat} (h : keepF G k = true) : rulesTo G (k + 1) = rulesTo G k ++ [G.rules.getD k []] := by
  conv => lhs; unfold rulesTo
  rw [h]; rfl
set_option maxRecDepth 100000 in
theorem rulesTo_skip {G : Gm} {k : Nat} (h : keepF G k = false) : rulesTo G (k + 1) = rulesTo G k := by
  conv => lhs; unfold rulesTo
  rw [h]; simp
set_option maxRecDepth 100000 in
theorem rulesTo_mono {G : Gm} {j : Nat} : ∀ d, (rulesTo G j).length ≤ (rulesTo G (j + d)).length
  | 0 => Nat.le_refl _
  | d + 1 => by
    have := rulesTo_mono (G := G) (j := j) d
    rw [← Nat.add_assoc]
    cases h : keepF G (j + d)
    · rw [rulesTo_skip h]; exact this
    · rw [rulesTo_succ h, List.length_append]; simp; omega
set_option maxRecDepth 100000 in
theorem nmb_is {G : Gm} {r : Nat} (h : keepF G r = true) : nmbF G r = (rulesTo G r).length := by unfold nmbF; rw [h]; rfl
set_option maxRecDepth 100000 in
theorem nmb_lt {G : Gm} {r k : Nat} (h : keepF G r = true) (hk : r < k) : nmbF G r < (rulesTo G k).length := by
  rw [nmb_is h]
  have h1 := rulesTo_mono (G := G) (j := r + 1) (k - (r + 1))
  rw [show r + 1 + (k - (r + 1)) = k by omega, rulesTo_succ h, List.length_append] at h1
  simp at h1
  omega
set_option maxRecDepth 100000 in
theorem nmb_sur {G : Gm} : ∀ (k i : Nat), i < (rulesTo G k).length → ∃ r, r < k ∧ keepF G r = true ∧ nmbF G r = i ∧ (rulesTo G k).getD i [] = G.rules.getD r []
  | 0, i, h => by simp [rulesTo] at h
  | k + 1, i, h => by
    cases hk : keepF G k
    · rw [rulesTo_skip hk] at h ⊢
      obtain ⟨r, h1, h2⟩ := nmb_sur k i h
      exact ⟨r, by omega, h2⟩
    · rw [rulesTo_succ hk] at h ⊢
      rw [List.length_append] at h
      simp only [List.length_cons, List.length_nil] at h
      by_cases hi : i < (rulesTo G k).length
      · obtain ⟨r, h1, h2, h3, h4⟩ := nmb_sur k i hi
        refine ⟨r, by omega, h2, h3, ?_⟩
        rw [List.getD_eq_getElem?_getD, List.getElem?_append_left hi, ← List.getD_eq_getElem?_getD]
        exact h4
      · obtain rfl : i = (rulesTo G k).length := by omega
        refine ⟨k, by omega, hk, nmb_is hk, ?_⟩
        rw [List.getD_eq_getElem?_getD, List.getElem?_append_right (Nat.le_refl _)]
        simp
set_option maxRecDepth 100000 in
theorem nmb_inj {G : Gm} {r r' : Nat} (h : keepF G r = true) (h' : keepF G r' = true) (e : nmbF G r = nmbF G r') : r = r' := by
  rcases Nat.lt_trichotomy r r' with hl | hl | hl
  · have := nmb_lt h hl; rw [e, nmb_is h'] at this; omega
  · exact hl
  · have := nmb_lt h' hl; rw [← e, nmb_is h] at this; omega
set_option maxRecDepth 100000 in
theorem rulesTo_sub {G : Gm} : ∀ k, k ≤ G.rules.length → List.Sublist (rulesTo G k) (G.rules.take k)
  | 0, _ => by unfold rulesTo; simp
  | k + 1, hk => by
    have h1 := rulesTo_sub (G := G) k (by omega)
    rw [take_snoc _ _ [] (show k < G.rules.length by omega)]
    cases h : keepF G k
    · rw [rulesTo_skip h]; exact h1.trans (List.sublist_append_left _ _)
    · rw [rulesTo_succ h]; exact h1.append (List.Sublist.refl _)
set_option maxRecDepth 100000 in
theorem reaF_is {G : Gm} {r : Nat} : reaF G r = true ↔ Rchd G (fun p : Pd => wholeB G.nk (prdF G) p.right) r := rchF_is _ _ _
set_option maxRecDepth 100000 in
theorem keep_is {G : Gm} {r : Nat} : keepF G r = true ↔ Prdv G r ∧ Rchd G (fun p : Pd => wholeB G.nk (prdF G) p.right) r := by
  unfold keepF
  rw [Bool.and_eq_true, prdF_is, reaF_is]
set_option maxRecDepth 100000 in
theorem prod_keep {G : Gm} {p : Pd} (h1 : keepF G p.left.toNat = true) (h2 : wholeB G.nk (prdF G) p.right = true) : keepP G p = true := by
  unfold keepP
  unfold keepF at h1
  rw [Bool.and_eq_true] at h1
  rw [h1.1, h1.2, h2]; rfl
set_option maxRecDepth 100000 in
theorem keepP_left {G : Gm} {p : Pd} (h : keepP G p = true) : keepF G p.left.toNat = true ∧ wholeB G.nk (prdF G) p.right = true := by
  unfold keepP at h
  rw [Bool.and_eq_true, Bool.and_eq_true] at h
  unfold keepF
  rw [h.1, h.2.1]
  exact ⟨rfl, h.2.2⟩
set_option maxRecDepth 100000 in
theorem right_keep {G : Gm} {p : Pd} (hp : p ∈ G.prods) (h : keepP G p = true) {x : Int} (hx : x ∈ p.right) (hk : (G.nk : Int) ≤ x) : keepF G (x - G.nk).toNat = true := by
  obtain ⟨h1, h2⟩ := keepP_left h
  rw [keep_is] at h1 ⊢
  exact ⟨(prdF_is _ _).1 (wholeB_iff.1 h2 x hx hk), .step p hp h2 h1.2 x hx hk⟩
set_option maxRecDepth 100000 in
theorem mem_T {G : Gm} {p : Pd} : ∀ k, k ≤ G.prods.length → (p ∈ prodsT G k ↔ ∃ i, i < k ∧ keepP G (G.prods.getD i pd0) = true ∧ p = pdT G (G.prods.getD i pd0))
  | 0, _ => by unfold prodsT; simp
  | k + 1, hk => by
    unfold prodsT
    rw [List.mem_append, mem_T k (by omega)]
    constructor
    · rintro (⟨i, h1, h2⟩ | h)
      · exact ⟨i, by omega, h2⟩
      · split at h
        · simp at h
          exact ⟨k, by omega, by assumption, by simpa using h⟩
        · simp at h
    · rintro ⟨i, h1, h2, h3⟩
      by_cases e : i = k
      · subst e
        right
        rw [h2]
        simp [h3]
      · exact .inl ⟨i, by omega, h2, h3⟩
set_option maxRecDepth 100000 in
theorem mem_Tp {G : Gm} {p : Pd} : p ∈ (trimG G).prods ↔ ∃ q, q ∈ G.prods ∧ keepP G q = true ∧ p = pdT G q := by
  show p ∈ prodsT G G.prods.length ↔ _
  rw [mem_T _ (Nat.le_refl _)]
  constructor
  · rintro ⟨i, h1, h2, h3⟩
    exact ⟨_, mem_getP h1, h2, h3⟩
  · rintro ⟨q, hq, h2, h3⟩
    obtain ⟨i, hi, rfl⟩ := ex_getP hq
    exact ⟨i, hi, h2, h3⟩
set_option maxRecDepth 100000 in
theorem symT_rule {G : Gm} {x : Int} (h : (G.nk : Int) ≤ x) : symT G x = (G.nk : Int) + nmbF G (x - G.nk).toNat := by unfold symT; rw [if_pos h]
set_option maxRecDepth 100000 in
theorem symT_kind {G : Gm} {x : Int} (h : ¬ (G.nk : Int) ≤ x) : symT G x = x := by unfold symT; rw [if_neg h]
set_option maxRecDepth 100000 in
theorem symT_iff {G : Gm} {x : Int} : (G.nk : Int) ≤ symT G x ↔ (G.nk : Int) ≤ x := by
  by_cases h : (G.nk : Int) ≤ x
  · rw [symT_rule h]; omega
  · rw [symT_kind h]
set_option maxRecDepth 100000 in
theorem symT_num {G : Gm} {x : Int} (h : (G.nk : Int) ≤ x) : (symT G x - G.nk).toNat = nmbF G (x - G.nk).toNat := by rw [symT_rule h]; omega
set_option maxRecDepth 100000 in
theorem pdT_left {G : Gm} {p : Pd} : (pdT G p).left.toNat = nmbF G p.left.toNat := by unfold pdT; simp
set_option maxRecDepth 100000 in
theorem prd_T {G : Gm} {r : Nat} (h : Prdv G r) : keepF G r = true → Prdv (trimG G) (nmbF G r) := by
  induction h with
  | mk p hp h ih =>
    intro hk
    have hw : wholeB G.nk (prdF G) p.right = true := wholeB_iff.2 (fun x hx hk => (prdF_is _ _).2 (h x hx hk))
    have hkp := prod_keep hk hw
    rw [← pdT_left]
    refine .mk _ (mem_Tp.2 ⟨p, hp, hkp, rfl⟩) (fun y hy hyk => ?_)
    obtain ⟨x, hx, rfl⟩ := List.mem_map.1 hy
    have hxk : (G.nk : Int) ≤ x := symT_iff.1 hyk
    show Prdv (trimG G) (symT G x - (G.nk : Int)).toNat
    rw [symT_num hxk]
    exact ih x hx hxk (right_keep hp hkp hx hxk)
set_option maxRecDepth 100000 in
theorem rch_T {G : Gm} {ok : Pd → Bool} (hok : ∀ p, p ∈ (trimG G).prods → ok p = true) {r : Nat} (h : Rchd G (fun p : Pd => wholeB G.nk (prdF G) p.right) r) : Rchd (trimG G) ok (nmbF G r) := by
  induction h with
  | start => exact (show (trimG G).start.toNat = nmbF G G.start.toNat from Int.toNat_natCast _) ▸ Rchd.start
  | step p hp hw hl x hx hk ih =>
    have hprd : Prdv G p.left.toNat := .mk p hp (fun y hy hyk => (prdF_is _ _).1 (wholeB_iff.1 hw y hy hyk))
    have hkp := prod_keep (keep_is.2 ⟨hprd, hl⟩) hw
    have hm := mem_Tp.2 ⟨p, hp, hkp, rfl⟩
    rw [← pdT_left] at ih
    have := Rchd.step (G := trimG G) (ok := ok) _ hm (hok _ hm) ih (symT G x) (List.mem_map.2 ⟨x, hx, rfl⟩) (symT_iff.2 hk)
    have e : (symT G x - ((trimG G).nk : Int)).toNat = nmbF G (x - G.nk).toNat := symT_num hk
    rw [e] at this
    exact this
set_option maxRecDepth 100000 in
theorem T_prd {G : Gm} {i : Nat} (h : i < (trimG G).rules.length) : prdF (trimG G) i = true := by
  obtain ⟨r, -, h2, rfl, -⟩ := nmb_sur G.nr i h
  rw [prdF_is]
  exact prd_T (keep_is.1 h2).1 h2
set_option maxRecDepth 100000 in
theorem T_rch {G : Gm} {ok : Pd → Bool} (hok : ∀ p, p ∈ (trimG G).prods → ok p = true) {i : Nat} (h : i < (trimG G).rules.length) : rchF (trimG G) ok i = true := by
  obtain ⟨r, -, h2, rfl, -⟩ := nmb_sur G.nr i h
  rw [rchF_is]
  exact rch_T hok (keep_is.1 h2).2
end Go.Proofs.YtagohbpbgjelaaaGreatDoor

namespace Go.Proofs.YtagohbpbgjelaaaGreatDoor
open Go.RowKit

set_option maxRecDepth 100000 in
theorem start_keep {G : Gm} (h : prdF G G.start.toNat = true) : keepF G G.start.toNat = true := keep_is.2 ⟨(prdF_is _ _).1 h, .start⟩
set_option maxRecDepth 100000 in
theorem check_all {G : Gm} (h : checkB G = true) : kindsB G.kinds = true ∧ G.precs.length = G.kinds.length ∧ levelsB G.precs = true ∧ namesB G.rules = true ∧ 0 ≤ G.start ∧ G.start < G.rules.length ∧ G.prods.length ≤ 4096 ∧ prodsTo G G.prods.length := of_decide_eq_true h
set_option maxRecDepth 100000 in
theorem getD_mapS (f : Int → Int) (l : List Int) (j : Nat) (h : j < l.length) : (l.map f).getD j 0 = f (l.getD j 0) := by
  rw [List.getD_eq_getElem?_getD, List.getElem?_map, List.getElem?_eq_getElem h, List.getD_eq_getElem?_getD, List.getElem?_eq_getElem h]; rfl
set_option maxRecDepth 100000 in
theorem T_check {G : Gm} (h : checkB G = true) (hs : prdF G G.start.toNat = true) : checkB (trimG G) = true := by
  obtain ⟨h1, h2, h3, h4, h5, h6, h7, h8⟩ := check_all h
  have hn : 1 ≤ G.rules.length ∧ G.rules.length ≤ 2048 ∧ longTo G.rules G.rules.length ∧ G.rules.Nodup := of_decide_eq_true h4
  have hsl := nmb_lt (k := G.rules.length) (start_keep hs) (by omega)
  refine decide_eq_true ⟨h1, h2, h3, ?_, ?_, ?_, ?_, ?_⟩
  · refine decide_eq_true ⟨?_, ?_, ?_, ?_⟩
    · show 1 ≤ (rulesTo G G.rules.length).length
      omega
    · show (rulesTo G G.rules.length).length ≤ 2048
      have := rulesTo_le G G.rules.length
      omega
    · intro j hj
      obtain ⟨r, hr, -, -, e⟩ := nmb_sur G.rules.length j hj
      have e' : (trimG G).rules.getD j [] = G.rules.getD r [] := e
      rw [e']
      exact hn.2.2.1 r hr
    · have := rulesTo_sub (G := G) G.rules.length (Nat.le_refl _)
      rw [List.take_length] at this
      exact this.nodup hn.2.2.2
  · show (0 : Int) ≤ (nmbF G G.start.toNat : Nat)
    omega
  · show ((nmbF G G.start.toNat : Nat) : Int) < ((rulesTo G G.rules.length).length : Nat)
    omega
  · have := prodsT_le G G.prods.length
    show (prodsT G G.prods.length).length ≤ 4096
    omega
  · intro i hi
    obtain ⟨q, hq, hk, e⟩ := mem_Tp.1 (mem_getP hi)
    rw [e]
    obtain ⟨m, hm, rfl⟩ := ex_getP hq
    have hp : 0 ≤ (G.prods.getD m pd0).left ∧ (G.prods.getD m pd0).left < G.rules.length ∧ (G.prods.getD m pd0).right.length ≤ 64 ∧ 0 ≤ (G.prods.getD m pd0).level ∧ symsTo (G.kinds.length + G.rules.length) (G.prods.getD m pd0).right (G.prods.getD m pd0).right.length ∧ 0 ≤ partsA (G.prods.getD m pd0).act (G.prods.getD m pd0).right.length 256 := of_decide_eq_true (h8 m hm)
    generalize G.prods.getD m pd0 = p at *
    obtain ⟨p1, p2, p3, p4, p5, p6⟩ := hp
    have hl := nmb_lt (k := G.rules.length) (keepP_left hk).1 (by omega)
    refine decide_eq_true ⟨?_, ?_, ?_, p4, ?_, ?_⟩
    · show (0 : Int) ≤ (nmbF G p.left.toNat : Nat)
      omega
    · show ((nmbF G p.left.toNat : Nat) : Int) < ((rulesTo G G.rules.length).length : Nat)
      omega
    · show (p.right.map (symT G)).length ≤ 64
      rw [List.length_map]; exact p3
    · intro j hj
      have hj' : j < p.right.length := by
        have : j < (p.right.map (symT G)).length := hj
        rwa [List.length_map] at this
      show 1 ≤ (p.right.map (symT G)).getD j 0 ∧ (p.right.map (symT G)).getD j 0 < ((G.kinds.length + (rulesTo G G.rules.length).length : Nat) : Int)
      rw [getD_mapS _ _ _ hj']
      have hy := p5 j hj'
      have hm' := mem_getD hj'
      generalize p.right.getD j 0 = x at *
      by_cases hx : (G.nk : Int) ≤ x
      · rw [symT_rule hx]
        have := nmb_lt (k := G.rules.length) (right_keep hq hk hm' hx) (by unfold Gm.nk at *; omega)
        have hk2 : 2 ≤ G.kinds.length := (of_decide_eq_true h1).1
        generalize nmbF G (x - (G.nk : Int)).toNat = z at *
        show 1 ≤ (G.kinds.length : Int) + (z : Int) ∧ (G.kinds.length : Int) + (z : Int) < _
        omega
      · rw [symT_kind hx]
        unfold Gm.nk at hx
        omega
    · show 0 ≤ partsA p.act (p.right.map (symT G)).length 256
      rw [List.length_map]; exact p6

set_option maxRecDepth 100000 in
theorem T_whole {G : Gm} {p : Pd} (h : p ∈ (trimG G).prods) : wholeB (trimG G).nk (prdF (trimG G)) p.right = true := by
  obtain ⟨q, hq, hk, rfl⟩ := mem_Tp.1 h
  refine wholeB_iff.2 (fun y hy hyk => ?_)
  obtain ⟨x, hx, rfl⟩ := List.mem_map.1 hy
  have hxk : (G.nk : Int) ≤ x := symT_iff.1 hyk
  have hkx := right_keep hq hk hx hxk
  have e : (symT G x - ((trimG G).nk : Int)).toNat = nmbF G (x - G.nk).toNat := symT_num hxk
  rw [e, prdF_is]
  exact prd_T (keep_is.1 hkx).1 hkx
set_option maxRecDepth 100000 in
theorem T_keep {G : Gm} {i : Nat} (h : i < (trimG G).rules.length) : keepF (trimG G) i = true := by
  unfold keepF reaF
  rw [T_prd h, T_rch (fun p hp => T_whole hp) h]; rfl
set_option maxRecDepth 100000 in
theorem T_take {G : Gm} : ∀ k, k ≤ (trimG G).rules.length → rulesTo (trimG G) k = (trimG G).rules.take k
  | 0, _ => by unfold rulesTo; simp
  | k + 1, h => by rw [rulesTo_succ (T_keep (by omega)), T_take k (by omega), ← take_snoc _ _ [] (by omega)]
set_option maxRecDepth 100000 in
theorem T_nmb {G : Gm} {i : Nat} (h : i < (trimG G).rules.length) : nmbF (trimG G) i = i := by
  rw [nmb_is (T_keep h), T_take i (by omega), List.length_take]; omega
set_option maxRecDepth 100000 in
theorem T_pd {G : Gm} (hc : checkB (trimG G) = true) {p : Pd} (h : p ∈ (trimG G).prods) : keepP (trimG G) p = true ∧ pdT (trimG G) p = p := by
  have hG := check_ok hc
  have hl := hG.pl p h
  unfold Gm.nr at hl
  refine ⟨prod_keep (T_keep (by omega)) (T_whole h), ?_⟩
  have e1 : ((nmbF (trimG G) p.left.toNat : Nat) : Int) = p.left := by rw [T_nmb (by omega)]; omega
  have e2 : p.right.map (symT (trimG G)) = p.right := by
    conv => rhs; rw [← List.map_id p.right]
    refine List.map_congr_left (fun x hx => ?_)
    have hy := hG.py p h x hx
    by_cases hk : ((trimG G).nk : Int) ≤ x
    · unfold Gm.nr at hy
      rw [symT_rule hk, T_nmb (by omega)]
      show _ = x
      omega
    · exact symT_kind hk
  show (⟨((nmbF (trimG G) p.left.toNat : Nat) : Int), p.right.map (symT (trimG G)), p.level, p.act⟩ : Pd) = p
  rw [e1, e2]
set_option maxRecDepth 100000 in
theorem T_prods {G : Gm} (hc : checkB (trimG G) = true) : ∀ k, k ≤ (trimG G).prods.length → prodsT (trimG G) k = (trimG G).prods.take k
  | 0, _ => by unfold prodsT; simp
  | k + 1, h => by
    have := T_pd hc (mem_getP (l := (trimG G).prods) (i := k) (by omega))
    unfold prodsT
    rw [this.1, this.2, T_prods hc k (by omega), take_snoc _ _ pd0 (by omega)]
    rfl
set_option maxRecDepth 100000 in
theorem T_idem {G : Gm} (hc : checkB (trimG G) = true) : trimG (trimG G) = trimG G := by
  have hG := check_ok hc
  have h0 := hG.s0; have h1 := hG.s1
  unfold Gm.nr at h1
  have e1 : rulesTo (trimG G) (trimG G).rules.length = (trimG G).rules := by rw [T_take _ (Nat.le_refl _), List.take_length]
  have e2 : prodsT (trimG G) (trimG G).prods.length = (trimG G).prods := by rw [T_prods hc _ (Nat.le_refl _), List.take_length]
  have e3 : ((nmbF (trimG G) (trimG G).start.toNat : Nat) : Int) = (trimG G).start := by rw [T_nmb (by omega)]; omega
  show (⟨(trimG G).kinds, (trimG G).precs, rulesTo (trimG G) (trimG G).rules.length, prodsT (trimG G) (trimG G).prods.length, ((nmbF (trimG G) (trimG G).start.toNat : Nat) : Int)⟩ : Gm) = trimG G
  rw [e1, e2, e3]

set_option maxRecDepth 100000 in
theorem lenR_T {G : Gm} {g g' : Nat → Int} : ∀ (row : List Int) (a : Int), (∀ x, x ∈ row → (G.nk : Int) ≤ x → g' (nmbF G (x - G.nk).toNat) = g (x - G.nk).toNat) → lenR G.nk g' (row.map (symT G)) a = lenR G.nk g row a
  | [], a, _ => rfl
  | x :: xs, a, h => by
    have ih := fun b => lenR_T (G := G) (g := g) (g' := g') xs b (fun y hy => h y (List.mem_cons_of_mem _ hy))
    rw [List.map_cons]
    unfold lenR
    by_cases hk : (G.nk : Int) ≤ x
    · rw [if_pos (symT_iff.2 hk), if_pos hk, symT_num hk, h x (by simp) hk, ih]
    · rw [if_neg (fun hh => hk (symT_iff.1 hh)), if_neg hk, ih]
set_option maxRecDepth 100000 in
theorem lng_prd {G : Gm} {r : Nat} {n : Int} (h : Lng G r n) : Prdv G r := by
  induction h with
  | mk p hp g hg h0 ih => exact .mk p hp ih
set_option maxRecDepth 100000 in
open Classical in
theorem lng_to {G : Gm} {r : Nat} {n : Int} (h : Lng G r n) : keepF G r = true → Lng (trimG G) (nmbF G r) n := by
  induction h with
  | mk p hp g hg h0 ih =>
    intro hk
    have hw : wholeB G.nk (prdF G) p.right = true := wholeB_iff.2 (fun x hx hk => (prdF_is _ _).2 (lng_prd (hg x hx hk)))
    have hkp := prod_keep hk hw
    have hg' : ∃ g' : Nat → Int, ∀ r, keepF G r = true → g' (nmbF G r) = g r :=
      ⟨fun i => if h : ∃ r, keepF G r = true ∧ nmbF G r = i then g (Classical.choose h) else 0, fun r hr => by
        have hx : ∃ r', keepF G r' = true ∧ nmbF G r' = nmbF G r := ⟨r, hr, rfl⟩
        have hc := Classical.choose_spec hx
        show (if h : ∃ r', keepF G r' = true ∧ nmbF G r' = nmbF G r then g (Classical.choose h) else 0) = g r
        rw [dif_pos hx]
        exact congrArg g (nmb_inj hc.1 hr hc.2)⟩
    obtain ⟨g', hg'⟩ := hg'
    have e := lenR_T (G := G) (g := g) (g' := g') p.right 0 (fun x hx hxk => hg' _ (right_keep hp hkp hx hxk))
    rw [← e, ← pdT_left]
    refine Lng.mk (G := trimG G) (pdT G p) (mem_Tp.2 ⟨p, hp, hkp, rfl⟩) g' (fun y hy hyk => ?_) (by show 0 ≤ lenR G.nk g' (p.right.map (symT G)) 0; omega)
    obtain ⟨x, hx, rfl⟩ := List.mem_map.1 hy
    have hxk : (G.nk : Int) ≤ x := symT_iff.1 hyk
    have e2 : (symT G x - ((trimG G).nk : Int)).toNat = nmbF G (x - G.nk).toNat := symT_num hxk
    have hkx := right_keep hp hkp hx hxk
    rw [e2, hg' _ hkx]
    exact ih x hx hxk hkx
set_option maxRecDepth 100000 in
theorem lng_from {G : Gm} {i : Nat} {n : Int} (h : Lng (trimG G) i n) : ∀ r, keepF G r = true → nmbF G r = i → Lng G r n := by
  induction h with
  | mk p hp g hg h0 ih =>
    intro r hr e
    obtain ⟨q, hq, hk, rfl⟩ := mem_Tp.1 hp
    rw [pdT_left] at e
    obtain rfl : r = q.left.toNat := nmb_inj hr (keepP_left hk).1 e
    have el : lenR (trimG G).nk g (pdT G q).right 0 = lenR G.nk (fun r => g (nmbF G r)) q.right 0 := lenR_T (G := G) (g := fun r => g (nmbF G r)) (g' := g) q.right 0 (fun _ _ _ => rfl)
    rw [el] at h0 ⊢
    refine Lng.mk q hq _ (fun x hx hxk => ?_) h0
    have hm : symT G x ∈ (pdT G q).right := List.mem_map.2 ⟨x, hx, rfl⟩
    have e2 : (symT G x - ((trimG G).nk : Int)).toNat = nmbF G (x - G.nk).toNat := symT_num hxk
    have := ih (symT G x) hm (symT_iff.2 hxk) (x - G.nk).toNat (right_keep hq hk hx hxk) e2.symm
    rw [e2] at this
    exact this
set_option maxRecDepth 100000 in
theorem T_least {G : Gm} {f f' : Nat → Int} (hf : LeastIs G f) (hf' : LeastIs (trimG G) f') {r : Nat} (h : keepF G r = true) : f' (nmbF G r) = f r := by
  rcases hf.1 r with h1 | ⟨h1, -, h2⟩ <;> rcases hf'.1 (nmbF G r) with h3 | ⟨h3, -, h4⟩
  · omega
  · have := (hf.2 _ _ (lng_from h4 r h rfl)).1; omega
  · have := (hf'.2 _ _ (lng_to h2 h)).1; omega
  · have a := (hf.2 _ _ (lng_from h4 r h rfl)).2
    have b := (hf'.2 _ _ (lng_to h2 h)).2
    omega
end Go.Proofs.YtagohbpbgjelaaaGreatDoor

/- The document's Check. -/
import Derived.Test.YtagohbpbgjelaaaGreatDoorM1
import Derived.Deep.CutRange
import Derived.Deep.DeepCutAuto
namespace Go.Proofs.YtagohbpbgjelaaaGreatDoor
open Go.RowKit

def prodsTo (G : Gm) (k : Nat) : Prop := ∀ i, i < k → prodB G.kinds.length G.rules.length (G.prods.getD i pd0) = true
instance (G : Gm) (k : Nat) : Decidable (prodsTo G k) := by unfold prodsTo; infer_instance
/-- May the grammar be? -/
def checkB (G : Gm) : Bool := decide (kindsB G.kinds = true ∧ G.precs.length = G.kinds.length ∧ levelsB G.precs = true ∧ namesB G.rules = true ∧ 0 ≤ G.start ∧ G.start < G.rules.length ∧ G.prods.length ≤ 4096 ∧ prodsTo G G.prods.length)
theorem check_ok {G : Gm} (h : checkB G = true) : GOk G := by
  have h := of_decide_eq_true h
  have hk := of_decide_eq_true h.1
  have hn := of_decide_eq_true h.2.2.2.1
  have hp : ∀ p, p ∈ G.prods → prodB G.kinds.length G.rules.length p = true := fun p hp => by
    obtain ⟨i, hi, rfl⟩ := ex_getP hp
    exact h.2.2.2.2.2.2.2 i hi
  refine ⟨hk.1, hk.2.1, hn.1, hn.2.1, h.2.2.2.2.1, h.2.2.2.2.2.1, h.2.2.2.2.2.2.1, fun p hq => ?_, fun p hq => ?_, fun p hq x hx => ?_⟩
  · have := of_decide_eq_true (hp p hq); exact ⟨this.1, this.2.1⟩
  · exact (of_decide_eq_true (hp p hq)).2.2.1
  · obtain ⟨i, hi, rfl⟩ := List.getElem_of_mem hx
    have := (of_decide_eq_true (hp p hq)).2.2.2.2.1 i hi
    rw [List.getD_eq_getElem?_getD, List.getElem?_eq_getElem hi] at this
    exact this

end Go.Proofs.YtagohbpbgjelaaaGreatDoor

/- Tables of marks; the document's begins. -/
namespace Go.Proofs.YtagohbpbgjelaaaGreatDoor
open Go.RowKit

/-- With which kinds a row begins, by what is known of rules. -/
def begB (nk : Nat) (null : Nat → Bool) (F : Nat → Nat → Bool) : List Int → Nat → Bool
  | [], _ => false
  | x :: xs, k => if x < nk then decide (k = x.toNat) else F (x - nk).toNat k || (null (x - nk).toNat && begB nk null F xs k)
end Go.Proofs.YtagohbpbgjelaaaGreatDoor

/- Plain mathematics: with which kinds rules begin. -/
namespace Go.Proofs.YtagohbpbgjelaaaGreatDoor
open Go.RowKit

theorem getD_cons_succ (x : Int) (xs : List Int) (i : Nat) : (x :: xs).getD (i + 1) 0 = xs.getD i 0 := rfl
theorem begB_iff {nk : Nat} {null : Nat → Bool} {F : Nat → Nat → Bool} {k : Nat} : ∀ {row : List Int}, begB nk null F row k = true ↔ ∃ i, i < row.length ∧ emptyB nk null (row.take i) = true ∧ ((row.getD i 0 < nk ∧ k = (row.getD i 0).toNat) ∨ ((nk : Int) ≤ row.getD i 0 ∧ F (row.getD i 0 - nk).toNat k = true))
  | [] => by simp [begB]
  | x :: xs => by
    unfold begB
    by_cases hx : x < nk
    · rw [if_pos hx, decide_eq_true_eq]
      constructor
      · intro h
        exact ⟨0, by simp, rfl, .inl ⟨hx, h⟩⟩
      · rintro ⟨i, hi, he, h⟩
        cases i with
        | zero =>
          rcases h with h | h
          · exact h.2
          · have := h.1; simp at this; omega
        | succ i =>
          rw [emptyB_iff] at he
          have := (he x (by simp)).1
          omega
    · rw [if_neg hx, Bool.or_eq_true, Bool.and_eq_true, begB_iff (row := xs)]
      constructor
      · rintro (h | ⟨h0, i, hi, he, h⟩)
        · exact ⟨0, by simp, rfl, .inr ⟨by simp; omega, h⟩⟩
        · refine ⟨i + 1, by simp; exact hi, ?_, h⟩
          rw [emptyB_iff] at he ⊢
          intro y hy
          rw [List.take_succ_cons, List.mem_cons] at hy
          rcases hy with rfl | hy
          · exact ⟨by omega, h0⟩
          · exact he y hy
      · rintro ⟨i, hi, he, h⟩
        cases i with
        | zero =>
          rcases h with h | h
          · exact absurd h.1 hx
          · exact .inl h.2
        | succ i =>
          rw [emptyB_iff] at he
          refine .inr ⟨(he x (by simp)).2, i, by simpa using hi, ?_, h⟩
          rw [emptyB_iff]
          exact fun y hy => he y (by rw [List.take_succ_cons]; exact List.mem_cons_of_mem _ hy)

/-- A rule's rows begin with that kind. -/
inductive Fst (G : Gm) : Nat → Nat → Prop
  | kind (p : Pd) (hp : p ∈ G.prods) (i : Nat) (hi : i < p.right.length) (he : emptyB G.nk (nullF G) (p.right.take i) = true) (hx : p.right.getD i 0 < G.nk) : Fst G p.left.toNat (p.right.getD i 0).toNat
  | rule (p : Pd) (hp : p ∈ G.prods) (i : Nat) (hi : i < p.right.length) (he : emptyB G.nk (nullF G) (p.right.take i) = true) (hx : (G.nk : Int) ≤ p.right.getD i 0) (k : Nat) (h : Fst G (p.right.getD i 0 - G.nk).toNat k) : Fst G p.left.toNat k
open Classical in
noncomputable def fstF (G : Gm) : Nat → Nat → Bool := fun r k => decide (Fst G r k)
theorem fstF_is (G : Gm) (r k : Nat) : fstF G r k = true ↔ Fst G r k := by unfold fstF; simp
theorem fst_lt {G : Gm} (hG : GOk G) {r k : Nat} (h : Fst G r k) : k < G.nk := by
  induction h with
  | kind p hp i hi he hx =>
    have := hG.py p hp _ (mem_getD hi)
    omega
  | rule p hp i hi he hx k h ih => exact ih
/-! ### Counting marks of a table -/
end Go.Proofs.YtagohbpbgjelaaaGreatDoor

/- Plain mathematics: what follows rules. -/
namespace Go.Proofs.YtagohbpbgjelaaaGreatDoor
open Go.RowKit

noncomputable abbrev atF (G : Gm) : Nat → Bool := rchF G (fun _ : Pd => true)
/-- What may stand behind a rule. -/
inductive Flw (G : Gm) : Nat → Nat → Prop
  | start : Flw G G.start.toNat 0
  | first (p : Pd) (hp : p ∈ G.prods) (hr : atF G p.left.toNat = true) (i : Nat) (hi : i < p.right.length) (hx : (G.nk : Int) ≤ p.right.getD i 0) (k : Nat) (hk : k < G.nk) (h : begB G.nk (nullF G) (fstF G) (p.right.drop (i + 1)) k = true) : Flw G (p.right.getD i 0 - G.nk).toNat k
  | behind (p : Pd) (hp : p ∈ G.prods) (hr : atF G p.left.toNat = true) (i : Nat) (hi : i < p.right.length) (hx : (G.nk : Int) ≤ p.right.getD i 0) (he : emptyB G.nk (nullF G) (p.right.drop (i + 1)) = true) (k : Nat) (h : Flw G p.left.toNat k) : Flw G (p.right.getD i 0 - G.nk).toNat k
open Classical in
noncomputable def flwF (G : Gm) : Nat → Nat → Bool := fun r k => decide (Flw G r k)
theorem flwF_is (G : Gm) (r k : Nat) : flwF G r k = true ↔ Flw G r k := by unfold flwF; simp
theorem flw_lt {G : Gm} (hG : GOk G) {r k : Nat} (h : Flw G r k) : k < G.nk := by
  induction h with
  | start => have := hG.k2; omega
  | first p hp hr i hi hx k hk h => exact hk
  | behind p hp hr i hi hx he k h ih => exact ih
end Go.Proofs.YtagohbpbgjelaaaGreatDoor

/- Plain mathematics: rules that make themselves. -/
namespace Go.Proofs.YtagohbpbgjelaaaGreatDoor
open Go.RowKit

def restOf (row : List Int) (j : Nat) : List Int := row.take j ++ row.drop (j + 1)
/-- One rule makes another alone, by one step or more. -/
inductive Mks (G : Gm) : Nat → Nat → Prop
  | one (p : Pd) (hp : p ∈ G.prods) (j : Nat) (hj : j < p.right.length) (hx : (G.nk : Int) ≤ p.right.getD j 0) (he : emptyB G.nk (nullF G) (restOf p.right j) = true) : Mks G p.left.toNat (p.right.getD j 0 - G.nk).toNat
  | trans (a b c : Nat) (h1 : Mks G a b) (h2 : Mks G b c) : Mks G a c
open Classical in
noncomputable def mksF (G : Gm) : Nat → Nat → Bool := fun r k => decide (Mks G r k)
theorem mksF_is (G : Gm) (r k : Nat) : mksF G r k = true ↔ Mks G r k := by unfold mksF; simp
end Go.Proofs.YtagohbpbgjelaaaGreatDoor

/- The document's table, list. -/
namespace Go.Proofs.YtagohbpbgjelaaaGreatDoor
open Go.RowKit

theorem info_parts {P : Program} {e : TypeId} {z : Option Value} {n b : Nat} (h : (P.info? e).map (fun i => (i.zero, i.size, i.bytes)) = some (z, n, b)) : ∃ i, P.info? e = some i ∧ i.zero = z ∧ i.size = n ∧ i.bytes = b := by
  cases hi : P.info? e with
  | none => rw [hi] at h; cases h
  | some i => rw [hi] at h; simp at h; exact ⟨i, rfl, h.1, h.2.1, h.2.2⟩
theorem info27 : (Tryz.prog.info? 27).map (fun i => (i.zero, i.size, i.bytes)) = some (some (.slice none 0 0), 1, 24) := by kernel_rfl
theorem info3 : (Tryz.prog.info? 3).map (fun i => (i.zero, i.size, i.bytes)) = some (some (.int .i64 0), 1, 8) := by kernel_rfl
theorem new1 (w : World) (x : Value) (t : TypeId) : ∀ j u, [x][j]? = some u → (w.alloc (.cells #[x] t)).cell? ((⟨w.heap.size, 0, none⟩ : Addr).add j) = some u := by
  intro j u hj
  cases j with
  | zero =>
    simp at hj
    subst hj
    show (w.alloc (.cells #[x] t)).cell? ⟨w.heap.size, 0 + 0, none⟩ = some x
    unfold World.cell?
    rw [Go.Deep.blk_alloc_new]
    rfl
  | succ j => simp at hj
end Go.Proofs.YtagohbpbgjelaaaGreatDoor

/- The document's follows. -/
namespace Go.Proofs.YtagohbpbgjelaaaGreatDoor
open Go.RowKit

/-- 'wpAnyH_take' with the slot that is written told outright. -/
theorem take_dst {P : Program} {md : Region.Mode} {ops : Array Oper} {Q : Exit → Act → World → Prop} {S : World → Prop} {i : Nat} {oi : Oper} {v : Value} {dst : Option Nat} {fuel : Nat} {listed : Array Bool} {a : Act} {w : World} (hi : ops[i]? = some oi) (hd : oi.dst = dst)
    (hs : Region.noSelect ops = true) (hf : Region.free md ops listed i = true) (hr : (Region.ready md ops listed).contains i = true)
    (hQ : ∀ c a w, Q (.panic c) (a.put dst v) w → Q (.panic c) a w) (hy : YieldsIf P ops S oi v a) (hS : S w)
    (h : wpAnyH P md ops Q S fuel (listed.setIfInBounds i true) (a.put dst v) w) : wpAnyH P md ops Q S (fuel + 1) listed a w := by
  subst hd; exact wpAnyH_take hi hs hf hr hQ hy hS h
end Go.Proofs.YtagohbpbgjelaaaGreatDoor

/- The document's list, lists. -/
namespace Go.Proofs.YtagohbpbgjelaaaGreatDoor
open Go.RowKit

/-- A row of marks lies there. -/
def MRow (w : World) (a : Option Addr) (l : List Bool) : Prop :=
  l = [] ∨ ∃ b off, a = some ⟨b, off, none⟩ ∧ b < w.heap.size ∧ ∀ j, j < l.length → w.cell? ⟨b, off + j, none⟩ = some (.bool (l.getD j false))
theorem mrow_at {w : World} {a : Option Addr} {l : List Bool} (h : MRow w a l) {k : Nat} (hk : k < l.length) : ∃ b off, a = some ⟨b, off, none⟩ ∧ b < w.heap.size ∧ w.cell? ⟨b, off + k, none⟩ = some (.bool (l.getD k false)) := by
  rcases h with rfl | ⟨b, off, h1, h2, h3⟩
  · simp at hk
  · exact ⟨b, off, h1, h2, h3 k hk⟩
def boolsOf (f : Nat → Bool) (n : Nat) : List Bool := (List.range n).map f
theorem boolsOf_len (f : Nat → Bool) (n : Nat) : (boolsOf f n).length = n := by simp [boolsOf]
theorem boolsOf_getD {f : Nat → Bool} {n k : Nat} (h : k < n) : (boolsOf f n).getD k false = f k := by simp [boolsOf, h]
theorem mrow_rowIs {w : World} {b n : Nat} {f : Nat → Bool} (h : w.rowIs b 4 n (fun r => .bool (f r))) : MRow w (some ⟨b, 0, none⟩) (boolsOf f n) :=
  .inr ⟨b, 0, rfl, h.lt, fun j hj => by
    rw [boolsOf_len] at hj
    rw [boolsOf_getD hj, Nat.zero_add]
    exact h.cell hj⟩
/-- The places of marks, rising. -/
def posTo (l : List Bool) : Nat → List Int
  | 0 => []
  | k + 1 => posTo l k ++ if l.getD k false then [(k : Int)] else []
def posL (l : List Bool) : List Int := posTo l l.length
theorem posTo_le (l : List Bool) : ∀ k, (posTo l k).length ≤ k
  | 0 => Nat.le_refl _
  | k + 1 => by
    have := posTo_le l k
    unfold posTo
    rw [List.length_append]
    split <;> simp <;> omega
def vints (l : List Int) : List Value := l.map (Value.int .i64)
theorem vints_snoc (l : List Int) (x : Int) : vints l ++ [.int .i64 x] = vints (l ++ [x]) := by simp [vints]
theorem vints_len (l : List Int) : (vints l).length = l.length := by simp [vints]

end Go.Proofs.YtagohbpbgjelaaaGreatDoor

/- The document's lists. -/
namespace Go.Proofs.YtagohbpbgjelaaaGreatDoor
open Go.RowKit

theorem own_nrow {w : World} {B : Nat} {v : Value} {l : List Int} (h : w.ownsRow B 3 1 v l.length (vints l)) : ∃ a c, v = .slice a l.length c ∧ NRow w.heap.size w a l := by
  obtain ⟨a, c, rfl⟩ := own_form h
  refine ⟨a, c, rfl, ?_⟩
  rcases h.2 with ⟨hv, hn⟩ | ⟨g, cap, cur, hv, hg, hh, -⟩
  · exact .inl (List.eq_nil_of_length_eq_zero hn)
  · cases hv
    refine .inr ⟨g, 0, rfl, (Array.getElem?_eq_some_iff.1 hh).1, fun j hj => ?_⟩
    rw [Nat.zero_add, h.cellAt j (by omega)]
    simp [vints, List.getD_eq_getElem?_getD, hj]
theorem own_two {w : World} {B B' e e' s s' n m : Nat} {v v' : Value} {xs ys : List Value} (h : w.ownsRow B e s v n xs) (h' : w.ownsRow B' e' s' v' m ys) (hne : e ≠ e') : ∀ k, v.ownBlock = some k → v'.ownBlock ≠ some k := by
  intro k hk hk'
  rcases h.2 with ⟨rfl, -⟩ | ⟨g, cap, cur, rfl, -, hg, -⟩
  · simp [Value.ownBlock] at hk
  · rcases h'.2 with ⟨rfl, -⟩ | ⟨g', cap', cur', rfl, -, hg', -⟩
    · simp [Value.ownBlock] at hk'
    · simp [Value.ownBlock] at hk hk'
      subst hk
      subst hk'
      rw [hg] at hg'
      simp at hg'
      exact hne hg'.2
theorem own_grown {w w' : World} {B B' e e' s s' n m : Nat} {v v' : Value} {xs ys : List Value} (h : w.ownsRow B e s v n xs) (h' : w.ownsRow B' e' s' v' m ys) (hg : w.grownBy w' v'.ownBlock) (hne : e ≠ e') : w'.ownsRow B e s v n xs := by
  refine ⟨h.1, ?_⟩
  rcases h.2 with h0 | ⟨g, cap, cur, hv, h1, h2, rest⟩
  · exact .inl h0
  · exact .inr ⟨g, cap, cur, hv, h1, (hg.block g (Array.getElem?_eq_some_iff.1 h2).1 (fun e => own_two h h' hne g (by rw [hv]; rfl) e.symm)).trans h2, rest⟩
theorem own_below {w w' : World} {B e s n : Nat} {v : Value} {xs : List Value} (h : w.ownsRow B e s v n xs) (hb : Below w.heap.size w w') : w'.ownsRow B e s v n xs := by
  refine ⟨h.1, ?_⟩
  rcases h.2 with h0 | ⟨g, cap, cur, hv, h1, h2, rest⟩
  · exact .inl h0
  · exact .inr ⟨g, cap, cur, hv, h1, (hb.block g (Array.getElem?_eq_some_iff.1 h2).1).trans h2, rest⟩
theorem own_base {w : World} {B B' e s n : Nat} {v : Value} {xs : List Value} (h : w.ownsRow B e s v n xs) (hB : B' ≤ B) : w.ownsRow B' e s v n xs := by
  refine ⟨h.1, ?_⟩
  rcases h.2 with h0 | ⟨g, cap, cur, hv, h1, rest⟩
  · exact .inl h0
  · exact .inr ⟨g, cap, cur, hv, by omega, rest⟩
/-- A row of rows of numbers lies there. -/
def NNRow (w : World) (a : Option Addr) (ll : List (List Int)) : Prop :=
  ll = [] ∨ ∃ b off, a = some ⟨b, off, none⟩ ∧ b < w.heap.size ∧ ∀ j, j < ll.length → ∃ ra rc, w.cell? ⟨b, off + j, none⟩ = some (.slice ra (ll.getD j []).length rc) ∧ NRow w.heap.size w ra (ll.getD j [])
theorem nrow_up {w w' : World} {a : Option Addr} {l : List Int} (h : NRow w.heap.size w a l) (hb : Below w.heap.size w w') : NRow w'.heap.size w' a l := by
  rcases nrow_kept hb h with h | ⟨b, off, h1, h2, h3⟩
  · exact .inl h
  · exact .inr ⟨b, off, h1, Nat.lt_of_lt_of_le h2 hb.size, h3⟩
/-- The rows of places of a table's marks. -/
def posT (F : Nat → Nat → Bool) (nk n : Nat) : List (List Int) := (List.range n).map fun r => posL (boolsOf (F r) nk)

/-- The blocks from a number on are as they were. -/
def NewKept (lo : Nat) (w W : World) : Prop := w.heap.size ≤ W.heap.size ∧ ∀ k, lo ≤ k → k < w.heap.size → W.heap[k]? = w.heap[k]?
theorem newKept_t {lo : Nat} {a b c : World} (h : NewKept lo a b) (k : NewKept lo b c) : NewKept lo a c := ⟨Nat.le_trans h.1 k.1, fun j h1 h2 => (k.2 j h1 (Nat.lt_of_lt_of_le h2 h.1)).trans (h.2 j h1 h2)⟩
theorem newKept_below {lo : Nat} {a b : World} (h : Below a.heap.size a b) : NewKept lo a b := ⟨h.size, fun k _ hk => h.block k hk⟩
theorem newKept_fr {lo : Nat} {O : Nat → Prop} {a b : World} (h : Fr O a b) (hO : ∀ k, O k → k < lo) : NewKept lo a b := ⟨h.1, fun k h1 h2 => h.2.1 k h2 (fun ho => by have := hO k ho; omega)⟩
theorem own_newKept {w W : World} {B e s n : Nat} {v : Value} {xs : List Value} (h : w.ownsRow B e s v n xs) (hk : NewKept B w W) : W.ownsRow B e s v n xs := by
  refine ⟨h.1, ?_⟩
  rcases h.2 with h0 | ⟨g, cap, cur, hv, h1, h2, rest⟩
  · exact .inl h0
  · exact .inr ⟨g, cap, cur, hv, h1, (hk.2 g h1 (Array.getElem?_eq_some_iff.1 h2).1).trans h2, rest⟩

end Go.Proofs.YtagohbpbgjelaaaGreatDoor

/- The document's cyclic. -/
namespace Go.Proofs.YtagohbpbgjelaaaGreatDoor
open Go.RowKit

set_option maxRecDepth 100000 in
theorem slice27h (xb xo n c q : Nat) (h : q ≤ c) (w : World) : (Instr.slice 27 (.slice (some ⟨xb, xo, none⟩) n c) none (some (.int .i64 (q : Int))) none).run Tryz.prog w = .ok (.slice (some ⟨xb, xo, none⟩) q c) w := by
  rw [run_slice_h w 27 (some ⟨xb, xo, none⟩) n c Tryz.underlying27 .i64 (q : Int) (by omega) (by omega)]
  simp [go_sem, Addr.add]
set_option maxRecDepth 100000 in
theorem vints_one (l : List Int) : ∀ u ∈ vints l, u.oneCell' = true := by
  intro u hu
  obtain ⟨x, -, rfl⟩ := List.mem_map.1 hu
  rfl
set_option maxRecDepth 100000 in
theorem step_append_own {P : Program} {w : World} {ops : Array Oper} {o : Oper} {a : Act} {K : Act → World → Prop} {Q : Exit → Act → World → Prop} {E : Prop} (hgd : o.guard = none) (s x : Operand) (t : TypeId)
    (ho : o.op = .call { callee := .builtin .append, args := #[s, x], argTypes := #[t, t] })
    (base : Nat) (e : TypeId) (i : TypeInfo) (z : Value) (size bytes : Nat) (ht : P.underlying t = some (.slice e)) (hi : P.info? e = some i) (hz : i.zero = some z)
    (hsize : i.size = size) (hby : i.bytes = bytes) (hzs : z.cells.size = size) (hsz : 0 < size)
    (v : Value) (n : Nat) (xs : List Value) (hs : a.eval s = v) (hown : w.ownsRow base e size v n xs)
    (ad : Addr) (m c : Nat) (news : List Value) (hx : a.eval x = .slice (some ad) m c) (hl : news.length = m * size) (hnews : ∀ j u, news[j]? = some u → w.cell? (ad.add j) = some u) (h1 : ∀ u ∈ news, u.oneCell' = true)
    (h63 : n + m ≤ maxLen) (hbytes : (n + m) * bytes ≤ 140737488355328) (hbase : base ≤ w.heap.size)
    (h : ∀ v' w', w'.ownsRow base e size v' (n + m) (xs ++ news) → w.grownBy w' v.ownBlock → (v' = .slice none 0 0 ↔ v = .slice none 0 0 ∧ m = 0) → K (a.put o.dst v') w') :
    if Region.wanted o (yielded ops a.tmps) = true then Oper.wp P o a w K Q else E := by
  have hw : Region.wanted o (yielded ops a.tmps) = true := by simp [Region.wanted, hgd]
  rw [if_pos hw]
  exact wp_append_own w s x t ho base e i z size bytes ht hi hz hsize hby hzs hsz v n xs hs hown ad m c news hx hl hnews h1 h63 hbytes hbase h

end Go.Proofs.YtagohbpbgjelaaaGreatDoor

/- The document's Look. -/
namespace Go.Proofs.YtagohbpbgjelaaaGreatDoor
open Go.RowKit

set_option maxRecDepth 100000 in
theorem rowIs_below {w w' : World} {b t n : Nat} {f : Nat → Value} (h : w.rowIs b t n f) (hb : Below w.heap.size w w') : w'.rowIs b t n f := h.of_block (hb.block _ h.lt)

set_option maxRecDepth 100000 in
/-- What lies there when Look begins. -/
theorem look_in {G : Gm} {ka pa ra qa : Option Addr} (kc pc rc qc : Nat) {B : Nat} {w w1 : World} (hB : B ≤ w.heap.size) (hin : GIn B w G ka pa ra qa) (hw : w1 = (w.alloc (.cells #[.slice ka G.kinds.length kc, .slice pa G.precs.length pc, .slice ra G.rules.length rc, .slice qa G.prods.length qc, .int .i64 G.start] 26)).alloc (.cells #[.slice none 0 0, .slice none 0 0, .slice none 0 0, .slice none 0 0, .slice none 0 0, .slice none 0 0] 31)) :
    GSt B w1 G ka kc pa pc ra rc qa qc w.heap.size ∧ Below w.heap.size w w1 ∧ w1.heap.size = w.heap.size + 2 ∧ w1.heap[w.heap.size + 1]? = some (.cells #[.slice none 0 0, .slice none 0 0, .slice none 0 0, .slice none 0 0, .slice none 0 0, .slice none 0 0] 31) := by
  have hst := gst_new (kc := kc) (pc := pc) (rc := rc) (qc := qc) hB hin 26
  have h1 : (w.alloc (.cells #[.slice ka G.kinds.length kc, .slice pa G.precs.length pc, .slice ra G.rules.length rc, .slice qa G.prods.length qc, .int .i64 G.start] 26)).heap.size = w.heap.size + 1 := by simp
  subst hw
  refine ⟨gst_kept ((Below.refl _ _).alloc (by omega) _) hB hst, ((Below.refl _ _).alloc (Nat.le_refl _) _).alloc (by omega) _, by simp, ?_⟩
  rw [← h1]
  exact Go.Deep.blk_alloc_new _ _

end Go.Proofs.YtagohbpbgjelaaaGreatDoor

/- The document's Look, of what may be. -/
namespace Go.Proofs.YtagohbpbgjelaaaGreatDoor
open Go.RowKit

set_option maxRecDepth 100000 in
theorem six_cells {w : World} {b : Nat} {t : TypeId} {a0 a1 a2 a3 a4 a5 : Value} (h : w.heap[b]? = some (.cells #[a0, a1, a2, a3, a4, a5] t)) : w.cell? ⟨b, 0, none⟩ = some a0 ∧ w.cell? ⟨b, 1, none⟩ = some a1 ∧ w.cell? ⟨b, 2, none⟩ = some a2 ∧ w.cell? ⟨b, 3, none⟩ = some a3 ∧ w.cell? ⟨b, 4, none⟩ = some a4 ∧ w.cell? ⟨b, 5, none⟩ = some a5 ∧ w.frozen? ⟨b, 0, none⟩ = false ∧ w.frozen? ⟨b, 1, none⟩ = false ∧ w.frozen? ⟨b, 2, none⟩ = false ∧ w.frozen? ⟨b, 3, none⟩ = false ∧ w.frozen? ⟨b, 4, none⟩ = false ∧ w.frozen? ⟨b, 5, none⟩ = false := by
  refine ⟨?_, ?_, ?_, ?_, ?_, ?_, ?_, ?_, ?_, ?_, ?_, ?_⟩ <;> (first | (unfold World.cell?; rw [h]; rfl) | (unfold World.frozen?; rw [h]; rfl))
set_option maxRecDepth 100000 in
theorem set_blk {w : World} {b i : Nat} {t : TypeId} {c : Array Value} (h : w.heap[b]? = some (.cells c t)) (v : Value) : (w.setCell ⟨b, i, none⟩ v).heap[b]? = some (.cells (c.setIfInBounds i v) t) := by
  simp [World.setCell, Array.getElem?_modify, h]
set_option maxRecDepth 100000 in
theorem set6 {w : World} {b : Nat} {t : TypeId} {a0 a1 a2 a3 a4 a5 : Value} (h : w.heap[b]? = some (.cells #[a0, a1, a2, a3, a4, a5] t)) (v0 v1 v2 v3 v4 v5 : Value) :
    ((((((w.setCell ⟨b, 0, none⟩ v0).setCell ⟨b, 1, none⟩ v1).setCell ⟨b, 2, none⟩ v2).setCell ⟨b, 3, none⟩ v3).setCell ⟨b, 4, none⟩ v4).setCell ⟨b, 5, none⟩ v5).heap[b]? = some (.cells #[v0, v1, v2, v3, v4, v5] t) ∧ Fr (· = b) w ((((((w.setCell ⟨b, 0, none⟩ v0).setCell ⟨b, 1, none⟩ v1).setCell ⟨b, 2, none⟩ v2).setCell ⟨b, 3, none⟩ v3).setCell ⟨b, 4, none⟩ v4).setCell ⟨b, 5, none⟩ v5) :=
  ⟨set_blk (set_blk (set_blk (set_blk (set_blk (set_blk h v0) v1) v2) v3) v4) v5, fr_set (fr_set (fr_set (fr_set (fr_set (fr_set (fr_refl (· = b) w) (by rfl) _) (by rfl) _) (by rfl) _) (by rfl) _) (by rfl) _) (by rfl) _⟩
set_option maxRecDepth 100000 in
theorem row_fr {w w' : World} {b k t n : Nat} {f : Nat → Value} (h : w.rowIs b t n f) (hf : Fr (· = k) w w') (hne : b ≠ k) : w'.rowIs b t n f := h.of_block (hf.2.1 _ h.lt hne)
set_option maxRecDepth 100000 in
theorem six_apart {w : World} {b k t e n : Nat} {c : Array Value} {f : Nat → Value} (h : w.heap[b]? = some (.cells c t)) (hr : w.rowIs k e n f) (hne : e ≠ t) : k ≠ b := by
  intro hk
  subst hk
  obtain ⟨c', h', -⟩ := hr
  rw [h] at h'
  simp at h'
  exact hne h'.2.symm

end Go.Proofs.YtagohbpbgjelaaaGreatDoor

/- The document's Same, where both are the same. -/
namespace Go.Proofs.YtagohbpbgjelaaaGreatDoor
open Go.RowKit

theorem nrow_big {B B' : Nat} {w : World} {a : Option Addr} {l : List Int} (hB : B ≤ B') (h : NRow B w a l) : NRow B' w a l := by
  rcases h with h | ⟨b, off, h1, h2, h3⟩
  · exact .inl h
  · exact .inr ⟨b, off, h1, by omega, h3⟩
end Go.Proofs.YtagohbpbgjelaaaGreatDoor

/- The document's sameMarks, sameLists, where both are the same. -/
namespace Go.Proofs.YtagohbpbgjelaaaGreatDoor
open Go.RowKit

theorem nnrow_at {w : World} {a : Option Addr} {ll : List (List Int)} (h : NNRow w a ll) {k : Nat} (hk : k < ll.length) : ∃ b off, a = some ⟨b, off, none⟩ ∧ b < w.heap.size ∧ ∃ ra rc, w.cell? ⟨b, off + k, none⟩ = some (.slice ra (ll.getD k []).length rc) ∧ NRow w.heap.size w ra (ll.getD k []) := by
  rcases h with rfl | ⟨b, off, h1, h2, h3⟩
  · simp at hk
  · exact ⟨b, off, h1, h2, h3 k hk⟩

end Go.Proofs.YtagohbpbgjelaaaGreatDoor

/- Plain mathematics: what is told in several ways agrees. -/
namespace Go.Proofs.YtagohbpbgjelaaaGreatDoor
open Go.RowKit

/-! ### What a row begins with, symbol by symbol -/
theorem begB_cons {nk : Nat} {null : Nat → Bool} {F : Nat → Nat → Bool} (x : Int) (xs : List Int) (k : Nat) : begB nk null F (x :: xs) k = (begB nk null F [x] k || (emptyB nk null [x] && begB nk null F xs k)) := by
  have e : ∀ ys : List Int, begB nk null F (x :: ys) k = if x < nk then decide (k = x.toNat) else (F (x - nk).toNat k || (null (x - nk).toNat && begB nk null F ys k)) := fun ys => by conv => lhs; unfold begB
  have e0 : begB nk null F [] k = false := by unfold begB; rfl
  rw [e xs, e [], e0]
  unfold emptyB
  by_cases hx : x < nk
  · rw [if_pos hx, if_pos hx]
    have : decide ((nk : Int) ≤ x) = false := by rw [decide_eq_false_iff_not]; omega
    simp [this]
  · rw [if_neg hx, if_neg hx]
    have : decide ((nk : Int) ≤ x) = true := by rw [decide_eq_true_eq]; omega
    simp [this]
theorem emptyB_cons {nk : Nat} {null : Nat → Bool} (x : Int) (xs : List Int) : emptyB nk null (x :: xs) = (emptyB nk null [x] && emptyB nk null xs) := by
  unfold emptyB
  simp
theorem mem_posL {f : Nat → Bool} {n : Nat} {y : Int} : y ∈ posL (boolsOf f n) ↔ ∃ k : Nat, y = k ∧ k < n ∧ f k = true := by
  have key : ∀ m, m ≤ n → (y ∈ posTo (boolsOf f n) m ↔ ∃ k : Nat, y = k ∧ k < m ∧ f k = true) := by
    intro m
    induction m with
    | zero => intro _; simp [posTo]
    | succ m ih =>
      intro hm
      unfold posTo
      rw [List.mem_append, ih (by omega), boolsOf_getD (by omega)]
      constructor
      · rintro (⟨k, h1, h2, h3⟩ | h)
        · exact ⟨k, h1, by omega, h3⟩
        · split at h
          · simp at h
            exact ⟨m, h, by omega, by assumption⟩
          · simp at h
      · rintro ⟨k, h1, h2, h3⟩
        by_cases e : k = m
        · subst e
          right
          rw [if_pos h3]
          simp [h1]
        · exact .inl ⟨k, h1, by omega, h3⟩
  unfold posL
  rw [boolsOf_len]
  exact key n (Nat.le_refl _)
end Go.Proofs.YtagohbpbgjelaaaGreatDoor

/- The document's chosen. -/
namespace Go.Proofs.YtagohbpbgjelaaaGreatDoor
open Go.RowKit

set_option maxRecDepth 100000 in
theorem addr_add0 (b j : Nat) : Addr.add ⟨b, 0, none⟩ j = ⟨b, j, none⟩ := by cases j <;> simp [Addr.add]
end Go.Proofs.YtagohbpbgjelaaaGreatDoor

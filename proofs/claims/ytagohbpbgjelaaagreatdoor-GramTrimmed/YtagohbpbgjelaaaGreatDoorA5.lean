/- The document's Check. -/
import Derived.Test.YtagohbpbgjelaaaGreatDoorM1
import Derived.Deep.CutRange
import Derived.Deep.DeepCutAuto
namespace Go.Proofs.YtagohbpbgjelaaaGreatDoor
open Go.RowKit

def prodsTo (G : Gm) (k : Nat) : Prop := ∀ i, i < k → prodB G.kinds.length G.rules.length (G.prods.getD i pd0) = true
instance (G : Gm) (k : Nat) : Decidable (prodsTo G k) := by unfold prodsTo; infer_instance
def checkB (G : Gm) : Bool := decide (kindsB G.kinds = true ∧ G.precs.length = G.kinds.length ∧ levelsB G.precs = true ∧ namesB G.rules = true ∧ 0 ≤ G.start ∧ G.start < G.rules.length ∧ G.prods.length ≤ 4096 ∧ prodsTo G G.prods.length)
theorem check_ok {G : Gm} (h : checkB G = true) : GOk G := by
  have h := of_decide_eq_true h
  have hk := of_decide_eq_true h.1
  have hn := of_decide_eq_true h.2.2.2.1
  have hp : ∀ p, p ∈ G.prods → prodB G.kinds.length G.rules.length p = true := fun p hp => by
    obtain ⟨i, hi, rfl⟩ := ex_getP hp
    exact h.2.2.2.2.2.2.2 i hi
  refine ⟨hk.1, hk.2.1, hn.1, hn.2.1, h.2.2.2.2.1, h.2.2.2.2.2.1, h.2.2.2.2.2.2.1, fun p hq => ?_, fun p hq => ?_, fun p hq x hx => ?_⟩
  · have := of_decide_eq_true (hp p hq); exact ⟨this.1, this.2.1⟩
  · exact (of_decide_eq_true (hp p hq)).2.2.1
  · obtain ⟨i, hi, rfl⟩ := List.getElem_of_mem hx
    have := (of_decide_eq_true (hp p hq)).2.2.2.2.1 i hi
    rw [List.getD_eq_getElem?_getD, List.getElem?_eq_getElem hi] at this
    exact this

end Go.Proofs.YtagohbpbgjelaaaGreatDoor

namespace Go.Proofs.YtagohbpbgjelaaaGreatDoor
open Go.RowKit

def begB (nk : Nat) (null : Nat → Bool) (F : Nat → Nat → Bool) : List Int → Nat → Bool
  | [], _ => false
  | x :: xs, k => if x < nk then decide (k = x.toNat) else F (x - nk).toNat k || (null (x - nk).toNat && begB nk null F xs k)
end Go.Proofs.YtagohbpbgjelaaaGreatDoor

namespace Go.Proofs.YtagohbpbgjelaaaGreatDoor
open Go.RowKit

theorem info_parts {P : Program} {e : TypeId} {z : Option Value} {n b : Nat} (h : (P.info? e).map (fun i => (i.zero, i.size, i.bytes)) = some (z, n, b)) : ∃ i, P.info? e = some i ∧ i.zero = z ∧ i.size = n ∧ i.bytes = b := by
  cases hi : P.info? e with
  | none => rw [hi] at h; cases h
  | some i => rw [hi] at h; simp at h; exact ⟨i, rfl, h.1, h.2.1, h.2.2⟩
theorem info27 : (Tryz.prog.info? 27).map (fun i => (i.zero, i.size, i.bytes)) = some (some (.slice none 0 0), 1, 24) := by kernel_rfl
theorem info3 : (Tryz.prog.info? 3).map (fun i => (i.zero, i.size, i.bytes)) = some (some (.int .i64 0), 1, 8) := by kernel_rfl
theorem new1 (w : World) (x : Value) (t : TypeId) : ∀ j u, [x][j]? = some u → (w.alloc (.cells #[x] t)).cell? ((⟨w.heap.size, 0, none⟩ : Addr).add j) = some u := by
  intro j u hj
  cases j with
  | zero =>
    simp at hj
    subst hj
    show (w.alloc (.cells #[x] t)).cell? ⟨w.heap.size, 0 + 0, none⟩ = some x
    unfold World.cell?
    rw [Go.Deep.blk_alloc_new]
    rfl
  | succ j => simp at hj
end Go.Proofs.YtagohbpbgjelaaaGreatDoor

namespace Go.Proofs.YtagohbpbgjelaaaGreatDoor
open Go.RowKit

def MRow (w : World) (a : Option Addr) (l : List Bool) : Prop :=
  l = [] ∨ ∃ b off, a = some ⟨b, off, none⟩ ∧ b < w.heap.size ∧ ∀ j, j < l.length → w.cell? ⟨b, off + j, none⟩ = some (.bool (l.getD j false))
theorem mrow_below {w w' : World} {a : Option Addr} {l : List Bool} (h : MRow w a l) (hb : Below w.heap.size w w') : MRow w' a l := by
  rcases h with rfl | ⟨b, off, rfl, hlt, hc⟩
  · exact .inl rfl
  · exact .inr ⟨b, off, rfl, Nat.lt_of_lt_of_le hlt hb.size, fun j hj => (hb.cell hlt).trans (hc j hj)⟩
theorem mrow_at {w : World} {a : Option Addr} {l : List Bool} (h : MRow w a l) {k : Nat} (hk : k < l.length) : ∃ b off, a = some ⟨b, off, none⟩ ∧ b < w.heap.size ∧ w.cell? ⟨b, off + k, none⟩ = some (.bool (l.getD k false)) := by
  rcases h with rfl | ⟨b, off, h1, h2, h3⟩
  · simp at hk
  · exact ⟨b, off, h1, h2, h3 k hk⟩
def boolsOf (f : Nat → Bool) (n : Nat) : List Bool := (List.range n).map f
theorem boolsOf_len (f : Nat → Bool) (n : Nat) : (boolsOf f n).length = n := by simp [boolsOf]
theorem boolsOf_getD {f : Nat → Bool} {n k : Nat} (h : k < n) : (boolsOf f n).getD k false = f k := by simp [boolsOf, h]
theorem mrow_rowIs {w : World} {b n : Nat} {f : Nat → Bool} (h : w.rowIs b 4 n (fun r => .bool (f r))) : MRow w (some ⟨b, 0, none⟩) (boolsOf f n) :=
  .inr ⟨b, 0, rfl, h.lt, fun j hj => by
    rw [boolsOf_len] at hj
    rw [boolsOf_getD hj, Nat.zero_add]
    exact h.cell hj⟩
def posTo (l : List Bool) : Nat → List Int
  | 0 => []
  | k + 1 => posTo l k ++ if l.getD k false then [(k : Int)] else []
def posL (l : List Bool) : List Int := posTo l l.length
def vints (l : List Int) : List Value := l.map (Value.int .i64)
theorem vints_snoc (l : List Int) (x : Int) : vints l ++ [.int .i64 x] = vints (l ++ [x]) := by simp [vints]
theorem vints_len (l : List Int) : (vints l).length = l.length := by simp [vints]

end Go.Proofs.YtagohbpbgjelaaaGreatDoor

namespace Go.Proofs.YtagohbpbgjelaaaGreatDoor
open Go.RowKit

theorem own_nrow {w : World} {B : Nat} {v : Value} {l : List Int} (h : w.ownsRow B 3 1 v l.length (vints l)) : ∃ a c, v = .slice a l.length c ∧ NRow w.heap.size w a l := by
  obtain ⟨a, c, rfl⟩ := own_form h
  refine ⟨a, c, rfl, ?_⟩
  rcases h.2 with ⟨hv, hn⟩ | ⟨g, cap, cur, hv, hg, hh, -⟩
  · exact .inl (List.eq_nil_of_length_eq_zero hn)
  · cases hv
    refine .inr ⟨g, 0, rfl, (Array.getElem?_eq_some_iff.1 hh).1, fun j hj => ?_⟩
    rw [Nat.zero_add, h.cellAt j (by omega)]
    simp [vints, List.getD_eq_getElem?_getD, hj]
theorem own_two {w : World} {B B' e e' s s' n m : Nat} {v v' : Value} {xs ys : List Value} (h : w.ownsRow B e s v n xs) (h' : w.ownsRow B' e' s' v' m ys) (hne : e ≠ e') : ∀ k, v.ownBlock = some k → v'.ownBlock ≠ some k := by
  intro k hk hk'
  rcases h.2 with ⟨rfl, -⟩ | ⟨g, cap, cur, rfl, -, hg, -⟩
  · simp [Value.ownBlock] at hk
  · rcases h'.2 with ⟨rfl, -⟩ | ⟨g', cap', cur', rfl, -, hg', -⟩
    · simp [Value.ownBlock] at hk'
    · simp [Value.ownBlock] at hk hk'
      subst hk
      subst hk'
      rw [hg] at hg'
      simp at hg'
      exact hne hg'.2
theorem own_grown {w w' : World} {B B' e e' s s' n m : Nat} {v v' : Value} {xs ys : List Value} (h : w.ownsRow B e s v n xs) (h' : w.ownsRow B' e' s' v' m ys) (hg : w.grownBy w' v'.ownBlock) (hne : e ≠ e') : w'.ownsRow B e s v n xs := by
  refine ⟨h.1, ?_⟩
  rcases h.2 with h0 | ⟨g, cap, cur, hv, h1, h2, rest⟩
  · exact .inl h0
  · exact .inr ⟨g, cap, cur, hv, h1, (hg.block g (Array.getElem?_eq_some_iff.1 h2).1 (fun e => own_two h h' hne g (by rw [hv]; rfl) e.symm)).trans h2, rest⟩
theorem own_below {w w' : World} {B e s n : Nat} {v : Value} {xs : List Value} (h : w.ownsRow B e s v n xs) (hb : Below w.heap.size w w') : w'.ownsRow B e s v n xs := by
  refine ⟨h.1, ?_⟩
  rcases h.2 with h0 | ⟨g, cap, cur, hv, h1, h2, rest⟩
  · exact .inl h0
  · exact .inr ⟨g, cap, cur, hv, h1, (hb.block g (Array.getElem?_eq_some_iff.1 h2).1).trans h2, rest⟩
theorem own_base {w : World} {B B' e s n : Nat} {v : Value} {xs : List Value} (h : w.ownsRow B e s v n xs) (hB : B' ≤ B) : w.ownsRow B' e s v n xs := by
  refine ⟨h.1, ?_⟩
  rcases h.2 with h0 | ⟨g, cap, cur, hv, h1, rest⟩
  · exact .inl h0
  · exact .inr ⟨g, cap, cur, hv, by omega, rest⟩
def NNRow (w : World) (a : Option Addr) (ll : List (List Int)) : Prop :=
  ll = [] ∨ ∃ b off, a = some ⟨b, off, none⟩ ∧ b < w.heap.size ∧ ∀ j, j < ll.length → ∃ ra rc, w.cell? ⟨b, off + j, none⟩ = some (.slice ra (ll.getD j []).length rc) ∧ NRow w.heap.size w ra (ll.getD j [])
theorem nrow_up {w w' : World} {a : Option Addr} {l : List Int} (h : NRow w.heap.size w a l) (hb : Below w.heap.size w w') : NRow w'.heap.size w' a l := by
  rcases nrow_kept hb h with h | ⟨b, off, h1, h2, h3⟩
  · exact .inl h
  · exact .inr ⟨b, off, h1, Nat.lt_of_lt_of_le h2 hb.size, h3⟩
def posT (F : Nat → Nat → Bool) (nk n : Nat) : List (List Int) := (List.range n).map fun r => posL (boolsOf (F r) nk)

def NewKept (lo : Nat) (w W : World) : Prop := w.heap.size ≤ W.heap.size ∧ ∀ k, lo ≤ k → k < w.heap.size → W.heap[k]? = w.heap[k]?
theorem newKept_t {lo : Nat} {a b c : World} (h : NewKept lo a b) (k : NewKept lo b c) : NewKept lo a c := ⟨Nat.le_trans h.1 k.1, fun j h1 h2 => (k.2 j h1 (Nat.lt_of_lt_of_le h2 h.1)).trans (h.2 j h1 h2)⟩
theorem newKept_below {lo : Nat} {a b : World} (h : Below a.heap.size a b) : NewKept lo a b := ⟨h.size, fun k _ hk => h.block k hk⟩
theorem newKept_fr {lo : Nat} {O : Nat → Prop} {a b : World} (h : Fr O a b) (hO : ∀ k, O k → k < lo) : NewKept lo a b := ⟨h.1, fun k h1 h2 => h.2.1 k h2 (fun ho => by have := hO k ho; omega)⟩
theorem own_newKept {w W : World} {B e s n : Nat} {v : Value} {xs : List Value} (h : w.ownsRow B e s v n xs) (hk : NewKept B w W) : W.ownsRow B e s v n xs := by
  refine ⟨h.1, ?_⟩
  rcases h.2 with h0 | ⟨g, cap, cur, hv, h1, h2, rest⟩
  · exact .inl h0
  · exact .inr ⟨g, cap, cur, hv, h1, (hk.2 g h1 (Array.getElem?_eq_some_iff.1 h2).1).trans h2, rest⟩

end Go.Proofs.YtagohbpbgjelaaaGreatDoor

namespace Go.Proofs.YtagohbpbgjelaaaGreatDoor
open Go.RowKit

theorem getD_cons_succ (x : Int) (xs : List Int) (i : Nat) : (x :: xs).getD (i + 1) 0 = xs.getD i 0 := rfl
theorem begB_iff {nk : Nat} {null : Nat → Bool} {F : Nat → Nat → Bool} {k : Nat} : ∀ {row : List Int}, begB nk null F row k = true ↔ ∃ i, i < row.length ∧ emptyB nk null (row.take i) = true ∧ ((row.getD i 0 < nk ∧ k = (row.getD i 0).toNat) ∨ ((nk : Int) ≤ row.getD i 0 ∧ F (row.getD i 0 - nk).toNat k = true))
  | [] => by simp [begB]
  | x :: xs => by
    unfold begB
    by_cases hx : x < nk
    · rw [if_pos hx, decide_eq_true_eq]
      constructor
      · intro h
        exact ⟨0, by simp, rfl, .inl ⟨hx, h⟩⟩
      · rintro ⟨i, hi, he, h⟩
        cases i with
        | zero =>
          rcases h with h | h
          · exact h.2
          · have := h.1; simp at this; omega
        | succ i =>
          rw [emptyB_iff] at he
          have := (he x (by simp)).1
          omega
    · rw [if_neg hx, Bool.or_eq_true, Bool.and_eq_true, begB_iff (row := xs)]
      constructor
      · rintro (h | ⟨h0, i, hi, he, h⟩)
        · exact ⟨0, by simp, rfl, .inr ⟨by simp; omega, h⟩⟩
        · refine ⟨i + 1, by simp; exact hi, ?_, h⟩
          rw [emptyB_iff] at he ⊢
          intro y hy
          rw [List.take_succ_cons, List.mem_cons] at hy
          rcases hy with rfl | hy
          · exact ⟨by omega, h0⟩
          · exact he y hy
      · rintro ⟨i, hi, he, h⟩
        cases i with
        | zero =>
          rcases h with h | h
          · exact absurd h.1 hx
          · exact .inl h.2
        | succ i =>
          rw [emptyB_iff] at he
          refine .inr ⟨(he x (by simp)).2, i, by simpa using hi, ?_, h⟩
          rw [emptyB_iff]
          exact fun y hy => he y (by rw [List.take_succ_cons]; exact List.mem_cons_of_mem _ hy)

inductive Fst (G : Gm) : Nat → Nat → Prop
  | kind (p : Pd) (hp : p ∈ G.prods) (i : Nat) (hi : i < p.right.length) (he : emptyB G.nk (nullF G) (p.right.take i) = true) (hx : p.right.getD i 0 < G.nk) : Fst G p.left.toNat (p.right.getD i 0).toNat
  | rule (p : Pd) (hp : p ∈ G.prods) (i : Nat) (hi : i < p.right.length) (he : emptyB G.nk (nullF G) (p.right.take i) = true) (hx : (G.nk : Int) ≤ p.right.getD i 0) (k : Nat) (h : Fst G (p.right.getD i 0 - G.nk).toNat k) : Fst G p.left.toNat k
open Classical in
noncomputable def fstF (G : Gm) : Nat → Nat → Bool := fun r k => decide (Fst G r k)
theorem fstF_is (G : Gm) (r k : Nat) : fstF G r k = true ↔ Fst G r k := by unfold fstF; simp
theorem fst_lt {G : Gm} (hG : GOk G) {r k : Nat} (h : Fst G r k) : k < G.nk := by
  induction h with
  | kind p hp i hi he hx =>
    have := hG.py p hp _ (mem_getD hi)
    omega
  | rule p hp i hi he hx k h ih => exact ih
end Go.Proofs.YtagohbpbgjelaaaGreatDoor

namespace Go.Proofs.YtagohbpbgjelaaaGreatDoor
open Go.RowKit

noncomputable abbrev atF (G : Gm) : Nat → Bool := rchF G (fun _ : Pd => true)
inductive Flw (G : Gm) : Nat → Nat → Prop
  | start : Flw G G.start.toNat 0
  | first (p : Pd) (hp : p ∈ G.prods) (hr : atF G p.left.toNat = true) (i : Nat) (hi : i < p.right.length) (hx : (G.nk : Int) ≤ p.right.getD i 0) (k : Nat) (hk : k < G.nk) (h : begB G.nk (nullF G) (fstF G) (p.right.drop (i + 1)) k = true) : Flw G (p.right.getD i 0 - G.nk).toNat k
  | behind (p : Pd) (hp : p ∈ G.prods) (hr : atF G p.left.toNat = true) (i : Nat) (hi : i < p.right.length) (hx : (G.nk : Int) ≤ p.right.getD i 0) (he : emptyB G.nk (nullF G) (p.right.drop (i + 1)) = true) (k : Nat) (h : Flw G p.left.toNat k) : Flw G (p.right.getD i 0 - G.nk).toNat k
open Classical in
noncomputable def flwF (G : Gm) : Nat → Nat → Bool := fun r k => decide (Flw G r k)
theorem flwF_is (G : Gm) (r k : Nat) : flwF G r k = true ↔ Flw G r k := by unfold flwF; simp
theorem flw_lt {G : Gm} (hG : GOk G) {r k : Nat} (h : Flw G r k) : k < G.nk := by
  induction h with
  | start => have := hG.k2; omega
  | first p hp hr i hi hx k hk h => exact hk
  | behind p hp hr i hi hx he k h ih => exact ih
end Go.Proofs.YtagohbpbgjelaaaGreatDoor

namespace Go.Proofs.YtagohbpbgjelaaaGreatDoor
open Go.RowKit

def restOf (row : List Int) (j : Nat) : List Int := row.take j ++ row.drop (j + 1)
inductive Mks (G : Gm) : Nat → Nat → Prop
  | one (p : Pd) (hp : p ∈ G.prods) (j : Nat) (hj : j < p.right.length) (hx : (G.nk : Int) ≤ p.right.getD j 0) (he : emptyB G.nk (nullF G) (restOf p.right j) = true) : Mks G p.left.toNat (p.right.getD j 0 - G.nk).toNat
  | trans (a b c : Nat) (h1 : Mks G a b) (h2 : Mks G b c) : Mks G a c
open Classical in
noncomputable def mksF (G : Gm) : Nat → Nat → Bool := fun r k => decide (Mks G r k)
theorem mksF_is (G : Gm) (r k : Nat) : mksF G r k = true ↔ Mks G r k := by unfold mksF; simp
end Go.Proofs.YtagohbpbgjelaaaGreatDoor

namespace Go.Proofs.YtagohbpbgjelaaaGreatDoor
open Go.RowKit

theorem take_dst {P : Program} {md : Region.Mode} {ops : Array Oper} {Q : Exit → Act → World → Prop} {S : World → Prop} {i : Nat} {oi : Oper} {v : Value} {dst : Option Nat} {fuel : Nat} {listed : Array Bool} {a : Act} {w : World} (hi : ops[i]? = some oi) (hd : oi.dst = dst)
    (hs : Region.noSelect ops = true) (hf : Region.free md ops listed i = true) (hr : (Region.ready md ops listed).contains i = true)
    (hQ : ∀ c a w, Q (.panic c) (a.put dst v) w → Q (.panic c) a w) (hy : YieldsIf P ops S oi v a) (hS : S w)
    (h : wpAnyH P md ops Q S fuel (listed.setIfInBounds i true) (a.put dst v) w) : wpAnyH P md ops Q S (fuel + 1) listed a w := by
  subst hd; exact wpAnyH_take hi hs hf hr hQ hy hS h
end Go.Proofs.YtagohbpbgjelaaaGreatDoor

namespace Go.Proofs.YtagohbpbgjelaaaGreatDoor
open Go.RowKit

def eqTo {α : Type} (d : α) (a b : List α) (k : Nat) : Prop := ∀ j, j < k → a.getD j d = b.getD j d
theorem eq_of {α : Type} {d : α} {a b : List α} (hl : a.length = b.length) (h : eqTo d a b a.length) : a = b := by
  apply List.ext_getElem hl
  intro j h1 h2
  have := h j h1
  rwa [List.getD_eq_getElem?_getD, List.getD_eq_getElem?_getD, List.getElem?_eq_getElem h1, List.getElem?_eq_getElem h2] at this

set_option maxHeartbeats 1000000 in
set_option maxRecDepth 100000 in
theorem rSameInts_any (a b : Option Addr) (ca cb : Nat) (l m : List Int) (hl : l.length ≤ 281474976710656) (w : World) (h1 : NRow w.heap.size w a l) (h2 : NRow w.heap.size w b m) :
    Calls Tryz.prog 16 #[.slice a l.length ca, .slice b m.length cb] w fun e w' => e = .returned (.bool (decide (l = m))) ∧ ∃ q, w' = w.drewN q := by
  by_cases hlen : l.length = m.length
  · have hlen' : ((l.length : Int) != m.length) = false := by simp; omega
    have Hyes := hide (fun (h : eqTo 0 l m l.length) => show decide (l = m) = true from decide_eq_true (eq_of hlen h))
    have Hno := hide (fun (j : Nat) (h : l.getD j 0 ≠ m.getD j 0) => show decide (l = m) = false from decide_eq_false (fun e => h (by rw [e])))
    have H1 := hide h1; have H2 := hide h2
    clear h1 h2
    generalize decide (l = m) = R at *
    go_enter Tryz.func16, Tryz.ntmps16
    go_wp2
    go_loopw [5] (fun x wr => ∃ k : Nat, x = .int .i64 k ∧ k ≤ l.length ∧ eqTo 0 l m k ∧ ∃ q, wr = w.drewN q) (fun x _ => l.length - (intOf x).toNat)
    case atStart => exact ⟨0, rfl, Nat.zero_le _, fun j hj => absurd hj (Nat.not_lt_zero _), 0, rfl⟩
    case round =>
      obtain ⟨k, rfl, hk, heq, q, rfl⟩ := hrel
      have Heq := hide heq
      clear heq
      by_cases hlt : k < l.length
      · have hlt' : (k : Int) < l.length := by omega
        have hlt2' : (k : Int) < m.length := by omega
        obtain ⟨b1, o1, rfl, hb1, c1⟩ := nrow_at (unhide H1) hlt
        obtain ⟨b2, o2, rfl, hb2, c2⟩ := nrow_at (unhide H2) (k := k) (by omega)
        have d1 : (w.drewN q).cell? ⟨b1, o1 + k, none⟩ = some (.int .i64 (l.getD k 0)) := c1
        have d2 : (w.drewN q).cell? ⟨b2, o2 + k, none⟩ = some (.int .i64 (m.getD k 0)) := c2
        clear c1 c2
        by_cases he : l.getD k 0 = m.getD k 0
        · have Hs : Hid (eqTo 0 l m (k + 1)) := hide (fun j hj => by
            by_cases e : j = k
            · subst e; exact he
            · exact unhide Heq j (by omega))
          rw [he] at d1
          clear he
          generalize m.getD k 0 = x at *
          generalize hW : w.drewN q = W at *
          go_wp2
          go_quiet (fail)
          go_wp2
          go_roundw
          case rel => exact ⟨k + 1, by go_num, by omega, unhide Hs, q + nq, by rw [← hW, World.drewN_drewN]⟩
          case measure => simp [intOf]; omega
        · have Hr := hide (unhide Hno k he)
          have hne : (l.getD k 0 != m.getD k 0) = true := by simpa using he
          clear he
          generalize m.getD k 0 = x at *
          generalize l.getD k 0 = y at *
          generalize hW : w.drewN q = W at *
          go_wp2
          go_quiet (fail)
          go_wp2
          go_ret
          rw [unhide Hr]
          exact ⟨rfl, q + nq, by rw [← hW, World.drewN_drewN]⟩
      · obtain rfl : k = l.length := by omega
        have Hr := hide (unhide Hyes (unhide Heq))
        go_wp2
        go_ret
        rw [unhide Hr]
        exact ⟨rfl, q, rfl⟩
  · have hlen' : ((l.length : Int) != m.length) = true := by simp; omega
    have Hr : Hid (decide (l = m) = false) := hide (decide_eq_false (fun e => hlen (by rw [e])))
    generalize decide (l = m) = R at *
    clear hlen
    go_enter Tryz.func16, Tryz.ntmps16
    go_wp2
    go_ret
    rw [unhide Hr]
    exact ⟨rfl, 0, rfl⟩
end Go.Proofs.YtagohbpbgjelaaaGreatDoor

namespace Go.Proofs.YtagohbpbgjelaaaGreatDoor
open Go.RowKit

theorem begB_cons {nk : Nat} {null : Nat → Bool} {F : Nat → Nat → Bool} (x : Int) (xs : List Int) (k : Nat) : begB nk null F (x :: xs) k = (begB nk null F [x] k || (emptyB nk null [x] && begB nk null F xs k)) := by
  have e : ∀ ys : List Int, begB nk null F (x :: ys) k = if x < nk then decide (k = x.toNat) else (F (x - nk).toNat k || (null (x - nk).toNat && begB nk null F ys k)) := fun ys => by conv => lhs; unfold begB
  have e0 : begB nk null F [] k = false := by unfold begB; rfl
  rw [e xs, e [], e0]
  unfold emptyB
  by_cases hx : x < nk
  · rw [if_pos hx, if_pos hx]
    have : decide ((nk : Int) ≤ x) = false := by rw [decide_eq_false_iff_not]; omega
    simp [this]
  · rw [if_neg hx, if_neg hx]
    have : decide ((nk : Int) ≤ x) = true := by rw [decide_eq_true_eq]; omega
    simp [this]
theorem emptyB_cons {nk : Nat} {null : Nat → Bool} (x : Int) (xs : List Int) : emptyB nk null (x :: xs) = (emptyB nk null [x] && emptyB nk null xs) := by
  unfold emptyB
  simp
theorem mem_posL {f : Nat → Bool} {n : Nat} {y : Int} : y ∈ posL (boolsOf f n) ↔ ∃ k : Nat, y = k ∧ k < n ∧ f k = true := by
  have key : ∀ m, m ≤ n → (y ∈ posTo (boolsOf f n) m ↔ ∃ k : Nat, y = k ∧ k < m ∧ f k = true) := by
    intro m
    induction m with
    | zero => intro _; simp [posTo]
    | succ m ih =>
      intro hm
      unfold posTo
      rw [List.mem_append, ih (by omega), boolsOf_getD (by omega)]
      constructor
      · rintro (⟨k, h1, h2, h3⟩ | h)
        · exact ⟨k, h1, by omega, h3⟩
        · split at h
          · simp at h
            exact ⟨m, h, by omega, by assumption⟩
          · simp at h
      · rintro ⟨k, h1, h2, h3⟩
        by_cases e : k = m
        · subst e
          right
          rw [if_pos h3]
          simp [h1]
        · exact .inl ⟨k, h1, by omega, h3⟩
  unfold posL
  rw [boolsOf_len]
  exact key n (Nat.le_refl _)
end Go.Proofs.YtagohbpbgjelaaaGreatDoor

/- Stage 12, the document's side: grammars in memory; frames. -/
import Derived.Test.YtagohbpbgjelaaaGreatDoorChecked
import Derived.RowKit3
import Derived.WalkKit
import Derived.Below
import Derived.OwnWalk
import Derived.OneCell
import Derived.Laws.OwnMore
import Derived.Laws.AppendOwn
import Derived.Laws.MakeOwn
import Derived.Laws.Strings
import Derived.Deep.OwnRows
import Derived.Deep.RegionHeld3
import Derived.Deep.QuietTactic
import Derived.BigQuiet
import Derived.KernelRfl
namespace Go.Proofs.YtagohbpbgjelaaaGreatDoor
open Go.RowKit

theorem hide {p : Prop} (h : p) : Hid p := h
theorem unhide {p : Prop} (h : Hid p) : p := h
theorem ret_bool {a b : Bool} (h : a = b) : Ending.returned (.bool a) = .returned (.bool b) := by rw [h]
theorem below_le {B B' : Nat} {w w' : World} (h : Below B w w') (hB : B' ≤ B) : Below B' w w' := h.mono hB
theorem below_drewN {B : Nat} {w w' : World} (h : Below B w w') (n : Nat) : Below B w (w'.drewN n) := ⟨h.os, h.tape, h.output, h.size, h.block⟩
theorem own_form {w : World} {B : Nat} {e : TypeId} {size : Nat} {v : Value} {n : Nat} {xs : List Value} (h : w.ownsRow B e size v n xs) : ∃ a c, v = .slice a n c := by
  rcases h.2 with ⟨rfl, rfl⟩ | ⟨g, cap, cur, rfl, _⟩
  · exact ⟨_, _, rfl⟩
  · exact ⟨_, _, rfl⟩

/-- All blocks that were there, but some, are as they were. -/
def Fr (O : Nat → Prop) (w w' : World) : Prop := w.heap.size ≤ w'.heap.size ∧ (∀ k, k < w.heap.size → ¬ O k → w'.heap[k]? = w.heap[k]?) ∧ w'.os = w.os ∧ w'.tape = w.tape ∧ w'.output = w.output
theorem fr_refl (O : Nat → Prop) (w : World) : Fr O w w := ⟨Nat.le_refl _, fun _ _ _ => rfl, rfl, rfl, rfl⟩
theorem fr_t {O : Nat → Prop} {a b c : World} (h : Fr O a b) (k : Fr O b c) : Fr O a c := ⟨Nat.le_trans h.1 k.1, fun i hi ho => (k.2.1 i (Nat.lt_of_lt_of_le hi h.1) ho).trans (h.2.1 i hi ho), k.2.2.1.trans h.2.2.1, k.2.2.2.1.trans h.2.2.2.1, k.2.2.2.2.trans h.2.2.2.2⟩
theorem fr_mono {O O' : Nat → Prop} {a b : World} (h : Fr O a b) (hO : ∀ k, k < a.heap.size → O k → O' k) : Fr O' a b := ⟨h.1, fun k hk ho => h.2.1 k hk (fun h' => ho (hO k hk h')), h.2.2⟩
theorem fr_set {O : Nat → Prop} {a b : World} (h : Fr O a b) {p : Addr} (hp : O p.block) (u : Value) : Fr O a (b.setCell p u) :=
  fr_t h ⟨by simp [World.setCell], fun k _ ho => Below.heap_setCell _ _ _ _ (fun e => ho (e ▸ hp)), rfl, rfl, rfl⟩
theorem fr_below {B : Nat} {O : Nat → Prop} {a b : World} (h : Fr O a b) (hB : B ≤ a.heap.size) (hO : ∀ k, O k → B ≤ k) : Below B a b :=
  ⟨h.2.2.1, h.2.2.2.1, h.2.2.2.2, h.1, fun k hk => h.2.1 k (by omega) (fun ho => by have := hO k ho; omega)⟩
theorem below_fr {O : Nat → Prop} {a b : World} (h : Below a.heap.size a b) : Fr O a b := ⟨h.size, fun k hk _ => h.block k hk, h.os, h.tape, h.output⟩
theorem fr_new {O : Nat → Prop} {a b c : World} (h : Fr O a b) (k : Below b.heap.size b c) : Fr O a c := fr_t h (below_fr k)

/-- A text, of its bytes. -/
def bs (l : List UInt8) : ByteArray := ⟨⟨l⟩⟩
theorem bs_toList (l : List UInt8) : (bs l).toList = l := by rw [ByteArray.toList_eq]; rfl
/-- A row of texts, of numbers, of levels lies there, in blocks below B. -/
def SRow (B : Nat) (w : World) (a : Option Addr) (l : List (List UInt8)) : Prop :=
  l = [] ∨ ∃ b off, a = some ⟨b, off, none⟩ ∧ b < B ∧ ∀ j, j < l.length → w.cell? ⟨b, off + j, none⟩ = some (.string (bs (l.getD j [])))
def NRow (B : Nat) (w : World) (a : Option Addr) (l : List Int) : Prop :=
  l = [] ∨ ∃ b off, a = some ⟨b, off, none⟩ ∧ b < B ∧ ∀ j, j < l.length → w.cell? ⟨b, off + j, none⟩ = some (.int .i64 (l.getD j 0))
def LRow (B : Nat) (w : World) (a : Option Addr) (l : List (Int × Int)) : Prop :=
  l = [] ∨ ∃ b off, a = some ⟨b, off, none⟩ ∧ b < B ∧ ∀ j, j < l.length → w.cell? ⟨b, off + j * 2, none⟩ = some (.int .i64 (l.getD j (0, 0)).1) ∧ w.cell? ⟨b, off + j * 2 + 1, none⟩ = some (.int .i64 (l.getD j (0, 0)).2)
inductive Ac where
  | mk (kind pick : Int) (name : List UInt8) (kids : List Ac)
mutual
/-- An action lies there. -/
def AcAt (B : Nat) (w : World) : Ac → Value → Value → Value → Value → Prop
  | .mk k p n ks, v0, v1, v2, v3 => v0 = .int .i64 k ∧ v1 = .int .i64 p ∧ v2 = .string (bs n) ∧ ∃ a c vs, v3 = .slice a ks.length c ∧ AcTs B w ks vs ∧ (ks = [] ∨ ∃ b off, a = some ⟨b, off, none⟩ ∧ b < B ∧ ∀ j u, vs[j]? = some u → w.cell? ⟨b, off + j, none⟩ = some u)
def AcTs (B : Nat) (w : World) : List Ac → List Value → Prop
  | [], vs => vs = []
  | t :: ts, vs => ∃ u0 u1 u2 u3 rest, vs = u0 :: u1 :: u2 :: u3 :: rest ∧ AcAt B w t u0 u1 u2 u3 ∧ AcTs B w ts rest
end
structure Pd where
  left : Int
  right : List Int
  level : Int
  act : Ac
def ac0 : Ac := .mk 0 0 [] []
def pd0 : Pd := ⟨0, [], 0, ac0⟩
structure Gm where
  kinds : List (List UInt8)
  precs : List (Int × Int)
  rules : List (List UInt8)
  prods : List Pd
  start : Int
/-- A production lies there. -/
def PdAt (B : Nat) (w : World) (p : Pd) (v0 v1 v2 v3 v4 v5 v6 : Value) : Prop :=
  v0 = .int .i64 p.left ∧ (∃ a c, v1 = .slice a p.right.length c ∧ NRow B w a p.right ∧ p.right.length ≤ c) ∧ v2 = .int .i64 p.level ∧ AcAt B w p.act v3 v4 v5 v6
def QRow (B : Nat) (w : World) (a : Option Addr) (l : List Pd) : Prop :=
  l = [] ∨ ∃ b off, a = some ⟨b, off, none⟩ ∧ b < B ∧ ∀ j, j < l.length → ∃ v0 v1 v2 v3 v4 v5 v6, PdAt B w (l.getD j pd0) v0 v1 v2 v3 v4 v5 v6 ∧
    w.cell? ⟨b, off + j * 7, none⟩ = some v0 ∧ w.cell? ⟨b, off + j * 7 + 1, none⟩ = some v1 ∧ w.cell? ⟨b, off + j * 7 + 2, none⟩ = some v2 ∧ w.cell? ⟨b, off + j * 7 + 3, none⟩ = some v3 ∧ w.cell? ⟨b, off + j * 7 + 4, none⟩ = some v4 ∧ w.cell? ⟨b, off + j * 7 + 5, none⟩ = some v5 ∧ w.cell? ⟨b, off + j * 7 + 6, none⟩ = some v6
/-- A grammar lies there. -/
def tzT : List Nat := [0, 1, 56, 2, 57, 49, 28, 3, 61, 58, 42, 50, 38, 29, 17, 4, 62, 47, 59, 36, 45, 43, 51, 22, 53, 39, 33, 30, 24, 18, 12, 5, 63, 55, 48, 27, 60, 41, 37, 16, 46, 35, 44, 21, 52, 32, 23, 11, 54, 26, 40, 15, 34, 20, 31, 10, 25, 14, 19, 9, 13, 8, 7, 6]
/-- The table of math/bits lies where the program has laid it. -/
def Tb (B : Nat) (w : World) : Prop := 0 < B ∧ ∀ j, j < 64 → w.cell? ⟨0, j, none⟩ = some (.int .u8 (tzT.getD j 0 : Nat))
theorem tb_kept {B : Nat} {w w' : World} (hb : Below B w w') (h : Tb B w) : Tb B w' := ⟨h.1, fun j hj => (hb.cell (p := ⟨0, j, none⟩) h.1).trans (h.2 j hj)⟩
theorem tb_up {B : Nat} {w w' : World} (h : Tb B w) (hB : B ≤ w.heap.size) (hb : Below B w w') : Tb w'.heap.size w' := ⟨by have := h.1; have := hb.size; omega, (tb_kept hb h).2⟩
structure GIn (B : Nat) (w : World) (G : Gm) (ka pa ra qa : Option Addr) : Prop where
  kinds : SRow B w ka G.kinds
  precs : LRow B w pa G.precs
  rules : SRow B w ra G.rules
  prods : QRow B w qa G.prods
  tab : Tb B w

theorem srow_kept {B : Nat} {w w' : World} {a : Option Addr} {l : List (List UInt8)} (hb : Below B w w') (h : SRow B w a l) : SRow B w' a l := by
  rcases h with rfl | ⟨b, off, rfl, hlt, hc⟩
  · exact .inl rfl
  · exact .inr ⟨b, off, rfl, hlt, fun j hj => (hb.cell hlt).trans (hc j hj)⟩
theorem nrow_kept {B : Nat} {w w' : World} {a : Option Addr} {l : List Int} (hb : Below B w w') (h : NRow B w a l) : NRow B w' a l := by
  rcases h with rfl | ⟨b, off, rfl, hlt, hc⟩
  · exact .inl rfl
  · exact .inr ⟨b, off, rfl, hlt, fun j hj => (hb.cell hlt).trans (hc j hj)⟩
theorem lrow_kept {B : Nat} {w w' : World} {a : Option Addr} {l : List (Int × Int)} (hb : Below B w w') (h : LRow B w a l) : LRow B w' a l := by
  rcases h with rfl | ⟨b, off, rfl, hlt, hc⟩
  · exact .inl rfl
  · exact .inr ⟨b, off, rfl, hlt, fun j hj => ⟨(hb.cell hlt).trans (hc j hj).1, (hb.cell hlt).trans (hc j hj).2⟩⟩
mutual
theorem acAt_kept {B : Nat} {w w' : World} (hb : Below B w w') : ∀ (t : Ac) (v0 v1 v2 v3 : Value), AcAt B w t v0 v1 v2 v3 → AcAt B w' t v0 v1 v2 v3
  | .mk k p n ks, v0, v1, v2, v3, h => by
    unfold AcAt at h ⊢
    obtain ⟨h0, h1, h2, a, c, vs, h3, hts, hc⟩ := h
    refine ⟨h0, h1, h2, a, c, vs, h3, acTs_kept hb ks vs hts, ?_⟩
    rcases hc with h | ⟨b, off, h, hlt, hcs⟩
    · exact .inl h
    · exact .inr ⟨b, off, h, hlt, fun j u hj => (hb.cell hlt).trans (hcs j u hj)⟩
theorem acTs_kept {B : Nat} {w w' : World} (hb : Below B w w') : ∀ (ts : List Ac) (vs : List Value), AcTs B w ts vs → AcTs B w' ts vs
  | [], vs, h => by unfold AcTs at h ⊢; exact h
  | t :: ts, vs, h => by
    unfold AcTs at h ⊢
    obtain ⟨u0, u1, u2, u3, rest, rfl, h1, h2⟩ := h
    exact ⟨u0, u1, u2, u3, rest, rfl, acAt_kept hb t _ _ _ _ h1, acTs_kept hb ts rest h2⟩
end
theorem pdAt_kept {B : Nat} {w w' : World} (hb : Below B w w') {p : Pd} {v0 v1 v2 v3 v4 v5 v6 : Value} (h : PdAt B w p v0 v1 v2 v3 v4 v5 v6) : PdAt B w' p v0 v1 v2 v3 v4 v5 v6 := by
  obtain ⟨h0, ⟨a, c, h1, hn, hcl⟩, h2, h3⟩ := h
  exact ⟨h0, ⟨a, c, h1, nrow_kept hb hn, hcl⟩, h2, acAt_kept hb _ _ _ _ _ h3⟩
theorem qrow_kept {B : Nat} {w w' : World} {a : Option Addr} {l : List Pd} (hb : Below B w w') (h : QRow B w a l) : QRow B w' a l := by
  rcases h with rfl | ⟨b, off, rfl, hlt, hc⟩
  · exact .inl rfl
  · refine .inr ⟨b, off, rfl, hlt, fun j hj => ?_⟩
    obtain ⟨v0, v1, v2, v3, v4, v5, v6, hp, e0, e1, e2, e3, e4, e5, e6⟩ := hc j hj
    exact ⟨v0, v1, v2, v3, v4, v5, v6, pdAt_kept hb hp, (hb.cell hlt).trans e0, (hb.cell hlt).trans e1, (hb.cell hlt).trans e2, (hb.cell hlt).trans e3, (hb.cell hlt).trans e4, (hb.cell hlt).trans e5, (hb.cell hlt).trans e6⟩
theorem gin_kept {B : Nat} {w w' : World} {G : Gm} {ka pa ra qa : Option Addr} (hb : Below B w w') (h : GIn B w G ka pa ra qa) : GIn B w' G ka pa ra qa :=
  ⟨srow_kept hb h.kinds, lrow_kept hb h.precs, srow_kept hb h.rules, qrow_kept hb h.prods, tb_kept hb h.tab⟩
theorem srow_at {B : Nat} {w : World} {a : Option Addr} {l : List (List UInt8)} (h : SRow B w a l) {k : Nat} (hk : k < l.length) : ∃ b off, a = some ⟨b, off, none⟩ ∧ b < B ∧ w.cell? ⟨b, off + k, none⟩ = some (.string (bs (l.getD k []))) := by
  rcases h with rfl | ⟨b, off, h1, h2, h3⟩
  · simp at hk
  · exact ⟨b, off, h1, h2, h3 k hk⟩
theorem nrow_at {B : Nat} {w : World} {a : Option Addr} {l : List Int} (h : NRow B w a l) {k : Nat} (hk : k < l.length) : ∃ b off, a = some ⟨b, off, none⟩ ∧ b < B ∧ w.cell? ⟨b, off + k, none⟩ = some (.int .i64 (l.getD k 0)) := by
  rcases h with rfl | ⟨b, off, h1, h2, h3⟩
  · simp at hk
  · exact ⟨b, off, h1, h2, h3 k hk⟩
theorem lrow_at {B : Nat} {w : World} {a : Option Addr} {l : List (Int × Int)} (h : LRow B w a l) {k : Nat} (hk : k < l.length) : ∃ b off, a = some ⟨b, off, none⟩ ∧ b < B ∧ w.cell? ⟨b, off + k * 2, none⟩ = some (.int .i64 (l.getD k (0, 0)).1) ∧ w.cell? ⟨b, off + k * 2 + 1, none⟩ = some (.int .i64 (l.getD k (0, 0)).2) := by
  rcases h with rfl | ⟨b, off, h1, h2, h3⟩
  · simp at hk
  · exact ⟨b, off, h1, h2, (h3 k hk).1, (h3 k hk).2⟩
theorem acAt_form {B : Nat} {w : World} {t : Ac} {v0 v1 v2 v3 : Value} (h : AcAt B w t v0 v1 v2 v3) : ∃ (k p : Int) (s : ByteArray) (a : Option Addr) (n c : Nat), v0 = .int .i64 k ∧ v1 = .int .i64 p ∧ v2 = .string s ∧ v3 = .slice a n c := by
  cases t
  unfold AcAt at h
  obtain ⟨rfl, rfl, rfl, a, c, vs, rfl, -⟩ := h
  exact ⟨_, _, _, _, _, _, rfl, rfl, rfl, rfl⟩
theorem qrow_at2 {B : Nat} {w : World} {a : Option Addr} {l : List Pd} (h : QRow B w a l) {k : Nat} (hk : k < l.length) : ∃ b off, a = some ⟨b, off, none⟩ ∧ b < B ∧ ∃ (ra : Option Addr) (rc : Nat) (x3 x4 : Int) (x5 : ByteArray) (x6 : Option Addr) (n6 c6 : Nat), (l.getD k pd0).right.length ≤ rc ∧ NRow B w ra (l.getD k pd0).right ∧ AcAt B w (l.getD k pd0).act (.int .i64 x3) (.int .i64 x4) (.string x5) (.slice x6 n6 c6) ∧
    w.cell? ⟨b, off + k * 7, none⟩ = some (.int .i64 (l.getD k pd0).left) ∧ w.cell? ⟨b, off + k * 7 + 1, none⟩ = some (.slice ra (l.getD k pd0).right.length rc) ∧ w.cell? ⟨b, off + k * 7 + 2, none⟩ = some (.int .i64 (l.getD k pd0).level) ∧ w.cell? ⟨b, off + k * 7 + 3, none⟩ = some (.int .i64 x3) ∧ w.cell? ⟨b, off + k * 7 + 4, none⟩ = some (.int .i64 x4) ∧ w.cell? ⟨b, off + k * 7 + 5, none⟩ = some (.string x5) ∧ w.cell? ⟨b, off + k * 7 + 6, none⟩ = some (.slice x6 n6 c6) := by
  rcases h with rfl | ⟨b, off, h1, h2, h3⟩
  · simp at hk
  · obtain ⟨v0, v1, v2, v3, v4, v5, v6, ⟨rfl, ⟨ra, rc, rfl, hn, hcl⟩, rfl, ha⟩, e0, e1, e2, e3, e4, e5, e6⟩ := h3 k hk
    obtain ⟨x3, x4, x5, x6, n6, c6, rfl, rfl, rfl, rfl⟩ := acAt_form ha
    exact ⟨b, off, h1, h2, ra, rc, x3, x4, x5, x6, n6, c6, hcl, hn, ha, e0, e1, e2, e3, e4, e5, e6⟩
theorem qrow_at {B : Nat} {w : World} {a : Option Addr} {l : List Pd} (h : QRow B w a l) {k : Nat} (hk : k < l.length) : ∃ b off, a = some ⟨b, off, none⟩ ∧ b < B ∧ ∃ (ra : Option Addr) (rc : Nat) (x3 x4 : Int) (x5 : ByteArray) (x6 : Option Addr) (n6 c6 : Nat), NRow B w ra (l.getD k pd0).right ∧ AcAt B w (l.getD k pd0).act (.int .i64 x3) (.int .i64 x4) (.string x5) (.slice x6 n6 c6) ∧
    w.cell? ⟨b, off + k * 7, none⟩ = some (.int .i64 (l.getD k pd0).left) ∧ w.cell? ⟨b, off + k * 7 + 1, none⟩ = some (.slice ra (l.getD k pd0).right.length rc) ∧ w.cell? ⟨b, off + k * 7 + 2, none⟩ = some (.int .i64 (l.getD k pd0).level) ∧ w.cell? ⟨b, off + k * 7 + 3, none⟩ = some (.int .i64 x3) ∧ w.cell? ⟨b, off + k * 7 + 4, none⟩ = some (.int .i64 x4) ∧ w.cell? ⟨b, off + k * 7 + 5, none⟩ = some (.string x5) ∧ w.cell? ⟨b, off + k * 7 + 6, none⟩ = some (.slice x6 n6 c6) := by
  obtain ⟨b, off, h1, h2, ra, rc, x3, x4, x5, x6, n6, c6, -, h⟩ := qrow_at2 h hk
  exact ⟨b, off, h1, h2, ra, rc, x3, x4, x5, x6, n6, c6, h⟩
theorem run_not (x : Bool) (w : World) : (Op.unary .not (.bool x)).run Tryz.prog w = .ok (.bool (!x)) w := rfl
/-- A grammar's box, new. -/
theorem boxG (w : World) (v0 v1 v2 v3 v4 : Value) (t : TypeId) : (w.alloc (.cells #[v0, v1, v2, v3, v4] t)).cell? ⟨w.heap.size, 0, none⟩ = some v0 ∧ (w.alloc (.cells #[v0, v1, v2, v3, v4] t)).cell? ⟨w.heap.size, 1, none⟩ = some v1 ∧ (w.alloc (.cells #[v0, v1, v2, v3, v4] t)).cell? ⟨w.heap.size, 2, none⟩ = some v2 ∧ (w.alloc (.cells #[v0, v1, v2, v3, v4] t)).cell? ⟨w.heap.size, 3, none⟩ = some v3 ∧ (w.alloc (.cells #[v0, v1, v2, v3, v4] t)).cell? ⟨w.heap.size, 4, none⟩ = some v4 ∧ (w.alloc (.cells #[v0, v1, v2, v3, v4] t)).heap.size = w.heap.size + 1 ∧ Below w.heap.size w (w.alloc (.cells #[v0, v1, v2, v3, v4] t)) := by
  refine ⟨?_, ?_, ?_, ?_, ?_, by simp, (Below.refl _ _).alloc (Nat.le_refl _) _⟩ <;> (unfold World.cell?; rw [Go.Deep.blk_alloc_new]; rfl)
/-- A production's box, new. -/
theorem boxP (w : World) (v0 v1 v2 v3 v4 v5 v6 : Value) (t : TypeId) : (w.alloc (.cells #[v0, v1, v2, v3, v4, v5, v6] t)).cell? ⟨w.heap.size, 0, none⟩ = some v0 ∧ (w.alloc (.cells #[v0, v1, v2, v3, v4, v5, v6] t)).cell? ⟨w.heap.size, 1, none⟩ = some v1 ∧ (w.alloc (.cells #[v0, v1, v2, v3, v4, v5, v6] t)).cell? ⟨w.heap.size, 2, none⟩ = some v2 ∧ (w.alloc (.cells #[v0, v1, v2, v3, v4, v5, v6] t)).cell? ⟨w.heap.size, 3, none⟩ = some v3 ∧ (w.alloc (.cells #[v0, v1, v2, v3, v4, v5, v6] t)).cell? ⟨w.heap.size, 4, none⟩ = some v4 ∧ (w.alloc (.cells #[v0, v1, v2, v3, v4, v5, v6] t)).cell? ⟨w.heap.size, 5, none⟩ = some v5 ∧ (w.alloc (.cells #[v0, v1, v2, v3, v4, v5, v6] t)).cell? ⟨w.heap.size, 6, none⟩ = some v6 ∧ (w.alloc (.cells #[v0, v1, v2, v3, v4, v5, v6] t)).heap.size = w.heap.size + 1 ∧ Below w.heap.size w (w.alloc (.cells #[v0, v1, v2, v3, v4, v5, v6] t)) := by
  refine ⟨?_, ?_, ?_, ?_, ?_, ?_, ?_, by simp, (Below.refl _ _).alloc (Nat.le_refl _) _⟩ <;> (unfold World.cell?; rw [Go.Deep.blk_alloc_new]; rfl)

/-- A grammar lies there, and its box. -/
structure GSt (B : Nat) (w : World) (G : Gm) (ka : Option Addr) (kc : Nat) (pa : Option Addr) (pc : Nat) (ra : Option Addr) (rc : Nat) (qa : Option Addr) (qc gb : Nat) : Prop where
  gin : GIn B w G ka pa ra qa
  c0 : w.cell? ⟨gb, 0, none⟩ = some (.slice ka G.kinds.length kc)
  c1 : w.cell? ⟨gb, 1, none⟩ = some (.slice pa G.precs.length pc)
  c2 : w.cell? ⟨gb, 2, none⟩ = some (.slice ra G.rules.length rc)
  c3 : w.cell? ⟨gb, 3, none⟩ = some (.slice qa G.prods.length qc)
  c4 : w.cell? ⟨gb, 4, none⟩ = some (.int .i64 G.start)
theorem gst_kept {B : Nat} {w w' : World} {G : Gm} {ka pa ra qa : Option Addr} {kc pc rc qc gb : Nat} (hb : Below (gb + 1) w w') (hB : B ≤ gb) (h : GSt B w G ka kc pa pc ra rc qa qc gb) : GSt B w' G ka kc pa pc ra rc qa qc gb :=
  ⟨gin_kept (below_le hb (by omega)) h.gin, (hb.cell (Nat.lt_succ_self _)).trans h.c0, (hb.cell (Nat.lt_succ_self _)).trans h.c1, (hb.cell (Nat.lt_succ_self _)).trans h.c2, (hb.cell (Nat.lt_succ_self _)).trans h.c3, (hb.cell (Nat.lt_succ_self _)).trans h.c4⟩
theorem gst_new {B : Nat} {w : World} {G : Gm} {ka pa ra qa : Option Addr} {kc pc rc qc : Nat} (hB : B ≤ w.heap.size) (h : GIn B w G ka pa ra qa) (t : TypeId) :
    GSt B (w.alloc (.cells #[.slice ka G.kinds.length kc, .slice pa G.precs.length pc, .slice ra G.rules.length rc, .slice qa G.prods.length qc, .int .i64 G.start] t)) G ka kc pa pc ra rc qa qc w.heap.size := by
  obtain ⟨g0, g1, g2, g3, g4, -, hb⟩ := boxG w (.slice ka G.kinds.length kc) (.slice pa G.precs.length pc) (.slice ra G.rules.length rc) (.slice qa G.prods.length qc) (.int .i64 G.start) t
  exact ⟨gin_kept (below_le hb hB) h, g0, g1, g2, g3, g4⟩

/-- Are all symbols of a row nullable? -/
def emptyB (nk : Nat) (null : Nat → Bool) (row : List Int) : Bool := row.all fun x => decide ((nk : Int) ≤ x) && null (x - nk).toNat
def symsIn (n : Nat) (row : List Int) : Prop := ∀ x, x ∈ row → 1 ≤ x ∧ x < n
theorem mem_getD {l : List Int} {i : Nat} (h : i < l.length) : l.getD i 0 ∈ l := by
  rw [List.getD_eq_getElem?_getD, List.getElem?_eq_getElem h]; exact List.getElem_mem h
theorem take_snoc {α : Type} (l : List α) (i : Nat) (d : α) (h : i < l.length) : l.take (i + 1) = l.take i ++ [l.getD i d] := by
  rw [List.take_add_one, List.getD_eq_getElem?_getD, List.getElem?_eq_getElem h]; rfl
end Go.Proofs.YtagohbpbgjelaaaGreatDoor

/- Plain mathematics: what is known of a grammar, by definition; counting marks. -/
namespace Go.Proofs.YtagohbpbgjelaaaGreatDoor
open Go.RowKit

abbrev Gm.nk (G : Gm) : Nat := G.kinds.length
abbrev Gm.nr (G : Gm) : Nat := G.rules.length
/-- What the analyses want of a grammar. -/
structure GOk (G : Gm) : Prop where
  k2 : 2 ≤ G.nk
  k3 : G.nk ≤ 1024
  r1 : 1 ≤ G.nr
  r2 : G.nr ≤ 2048
  s0 : 0 ≤ G.start
  s1 : G.start < G.nr
  ps : G.prods.length ≤ 4096
  pl : ∀ p, p ∈ G.prods → 0 ≤ p.left ∧ p.left < G.nr
  pr : ∀ p, p ∈ G.prods → p.right.length ≤ 64
  py : ∀ p, p ∈ G.prods → symsIn (G.nk + G.nr) p.right

theorem mem_getP {l : List Pd} {i : Nat} (h : i < l.length) : l.getD i pd0 ∈ l := by
  rw [List.getD_eq_getElem?_getD, List.getElem?_eq_getElem h]; exact List.getElem_mem h
theorem ex_getP {l : List Pd} {p : Pd} (h : p ∈ l) : ∃ i, i < l.length ∧ l.getD i pd0 = p := by
  obtain ⟨i, hi, rfl⟩ := List.getElem_of_mem h
  exact ⟨i, hi, by rw [List.getD_eq_getElem?_getD, List.getElem?_eq_getElem hi]; rfl⟩

/-! ### Counting marks -/
/-- How many of the first n have no mark. -/
def cntF (f : Nat → Bool) : Nat → Nat
  | 0 => 0
  | n + 1 => cntF f n + if f n then 0 else 1
theorem cntF_le {f g : Nat → Bool} : ∀ n, (∀ i, i < n → f i = true → g i = true) → cntF g n ≤ cntF f n
  | 0, _ => Nat.le_refl _
  | n + 1, h => by
    have := cntF_le n (fun i hi => h i (by omega))
    unfold cntF
    have h1 := h n (by omega)
    cases hf : f n <;> cases hg : g n <;> simp_all <;> omega
theorem cntF_lt {f g : Nat → Bool} : ∀ n, (∀ i, i < n → f i = true → g i = true) → ∀ i, i < n → f i = false → g i = true → cntF g n < cntF f n
  | 0, _, i, hi, _, _ => by omega
  | n + 1, h, i, hi, h0, h1 => by
    unfold cntF
    by_cases e : i = n
    · subst e
      have := cntF_le i (fun j hj => h j (by omega))
      rw [h0, h1]
      simp
      omega
    · have := cntF_lt n (fun j hj => h j (by omega)) i (by omega) h0 h1
      have h2 := h n (by omega)
      cases hf : f n <;> cases hg : g n <;> simp_all <;> omega
/-! ### Nullable -/
inductive Null (G : Gm) : Nat → Prop
  | mk (p : Pd) (hp : p ∈ G.prods) (h1 : ∀ x, x ∈ p.right → (G.nk : Int) ≤ x) (h2 : ∀ x, x ∈ p.right → Null G (x - G.nk).toNat) : Null G p.left.toNat
open Classical in
noncomputable def nullF (G : Gm) : Nat → Bool := fun r => decide (Null G r)
theorem nullF_is (G : Gm) (r : Nat) : nullF G r = true ↔ Null G r := by unfold nullF; simp
theorem emptyB_iff {nk : Nat} {f : Nat → Bool} {row : List Int} : emptyB nk f row = true ↔ ∀ x, x ∈ row → (nk : Int) ≤ x ∧ f (x - nk).toNat = true := by
  unfold emptyB
  rw [List.all_eq_true]
  constructor
  · intro h x hx
    have := h x hx
    rw [Bool.and_eq_true, decide_eq_true_eq] at this
    exact this
  · intro h x hx
    rw [Bool.and_eq_true, decide_eq_true_eq]
    exact h x hx
/-- Marks that are right so far. -/
def NullSound (G : Gm) (f : Nat → Bool) : Prop := ∀ r, f r = true → Null G r
def nullStep (G : Gm) (f : Nat → Bool) (p : Pd) : Bool := !f p.left.toNat && emptyB G.nk f p.right
def NullShut (G : Gm) (f : Nat → Bool) : Prop := ∀ i, i < G.prods.length → nullStep G f (G.prods.getD i pd0) = false
theorem null_done {G : Gm} {f : Nat → Bool} (h : NullSound G f) (hs : NullShut G f) : f = nullF G := by
  funext r
  rw [Bool.eq_iff_iff, nullF_is]
  refine ⟨h r, fun hn => ?_⟩
  induction hn with
  | mk p hp h1 h2 ih =>
    obtain ⟨i, hi, rfl⟩ := ex_getP hp
    have := hs i hi
    unfold nullStep at this
    rw [Bool.and_eq_false_iff] at this
    rcases this with h | h
    · simpa using h
    · rw [emptyB_iff.2 (fun x hx => ⟨h1 x hx, ih x hx⟩)] at h
      cases h
end Go.Proofs.YtagohbpbgjelaaaGreatDoor

/- The document's name, Kinds (layer 7's). -/
namespace Go.Proofs.YtagohbpbgjelaaaGreatDoor
open Go.RowKit

/-- The byte at i, as a number; 0 behind the end. -/
def bt (s : ByteArray) (i : Nat) : Nat := (s.get! i).toNat
theorem bt_get (s : ByteArray) (i : Nat) (h : i < s.size) : bt s i = (s[i]'h).toNat := by
  have : s.get! i = s[i]'h := by simp [ByteArray.get!, getElem!_pos, h]; rfl
  rw [bt, this]
theorem index_bt (s : ByteArray) (j : Nat) (h : j < s.size) (w : World) : (Instr.index 9 (.string s) (.int .i64 (j : Int))).run Tryz.prog w = .ok (.int .u8 (bt s j : Int)) w := by
  rw [run_index_string w 9 s .i64 (j : Int) Tryz.underlying9, dif_pos (by omega)]
  simp [bt_get s j h]

def letB (c : Nat) : Bool := decide ((65 ≤ c ∧ c ≤ 90) ∨ (97 ≤ c ∧ c ≤ 122) ∨ c = 95)
def digB (c : Nat) : Bool := decide (48 ≤ c ∧ c ≤ 57)
def allTo (s : ByteArray) (k : Nat) : Prop := ∀ i, i < k → letB (bt s i) = true ∨ digB (bt s i) = true
instance (s : ByteArray) (k : Nat) : Decidable (allTo s k) := by unfold allTo; infer_instance
def nameB (s : ByteArray) : Bool := decide (1 ≤ s.size ∧ s.size ≤ 64 ∧ digB (bt s 0) = false ∧ allTo s s.size)

def endS : List UInt8 := [101, 110, 100]
def errS : List UInt8 := [101, 114, 114, 111, 114]
def goodTo (ns : List (List UInt8)) (k : Nat) : Prop := ∀ j, j < k → nameB (bs (ns.getD j [])) = true
instance (ns : List (List UInt8)) (k : Nat) : Decidable (goodTo ns k) := by unfold goodTo; infer_instance
def kindsB (ns : List (List UInt8)) : Bool := decide (2 ≤ ns.length ∧ ns.length ≤ 1024 ∧ ns.getD 0 [] = endS ∧ ns.getD 1 [] = errS ∧ goodTo ns ns.length ∧ ns.Nodup)
theorem kinds_no {ns : List (List UInt8)} (h : ¬ (2 ≤ ns.length ∧ ns.length ≤ 1024 ∧ ns.getD 0 [] = endS ∧ ns.getD 1 [] = errS ∧ goodTo ns ns.length ∧ ns.Nodup)) : kindsB ns = false := decide_eq_false h
theorem nameB_le {s : ByteArray} (h : nameB s = true) : s.size ≤ 64 := (of_decide_eq_true h).2.1

end Go.Proofs.YtagohbpbgjelaaaGreatDoor

/- The document's names, levels. -/
namespace Go.Proofs.YtagohbpbgjelaaaGreatDoor
open Go.RowKit

def longTo (ns : List (List UInt8)) (k : Nat) : Prop := ∀ j, j < k → 1 ≤ (ns.getD j []).length ∧ (ns.getD j []).length ≤ 4096
instance (ns : List (List UInt8)) (k : Nat) : Decidable (longTo ns k) := by unfold longTo; infer_instance
def namesB (ns : List (List UInt8)) : Bool := decide (1 ≤ ns.length ∧ ns.length ≤ 2048 ∧ longTo ns ns.length ∧ ns.Nodup)
def lvlB (i : Nat) (p : Int × Int) : Bool := decide ((p.1 = 0 ∧ p.2 = 0) ∨ (1 ≤ p.1 ∧ 1 ≤ p.2 ∧ p.2 ≤ 3 ∧ 2 ≤ i))
def lvlTo (l : List (Int × Int)) (k : Nat) : Prop := ∀ i, i < k → lvlB i (l.getD i (0, 0)) = true
instance (l : List (Int × Int)) (k : Nat) : Decidable (lvlTo l k) := by unfold lvlTo; infer_instance
def levelsB (l : List (Int × Int)) : Bool := decide (lvlTo l l.length)

end Go.Proofs.YtagohbpbgjelaaaGreatDoor

/- The document's parts. -/
namespace Go.Proofs.YtagohbpbgjelaaaGreatDoor
open Go.RowKit

/-- May an action be, its kids aside? -/
def okA (k p : Int) (n : List UInt8) (m : Nat) (sy : Int) : Prop := (k = 0 ∧ p = 0 ∧ n = [] ∧ m = 0) ∨ (k = 1 ∧ 0 ≤ p ∧ p < sy ∧ n = [] ∧ m = 0) ∨ (k = 3 ∧ n.length ≤ 4096 ∧ p = 0 ∧ m = 0) ∨ (k = 2 ∧ 1 ≤ n.length ∧ n.length ≤ 32 ∧ p = 0)
instance (k p : Int) (n : List UInt8) (m : Nat) (sy : Int) : Decidable (okA k p n m sy) := by unfold okA; infer_instance
mutual
/-- How many parts are left. -/
def partsA : Ac → Int → Int → Int
  | .mk k p n ks, sy, left => if left - 1 < 0 then -1 else if okA k p n ks.length sy then partsL ks sy (left - 1) else -1
def partsL : List Ac → Int → Int → Int
  | [], _, l => l
  | t :: ts, sy, l => if l < 0 then l else partsL ts sy (partsA t sy l)
end
mutual
theorem parts_bd : ∀ (t : Ac) (sy l : Int), 0 ≤ l → -1 ≤ partsA t sy l ∧ partsA t sy l ≤ l - 1
  | .mk k p n ks, sy, l, h => by
    unfold partsA
    split
    · omega
    · split
      · exact partsL_bd ks sy (l - 1) (by omega)
      · omega
theorem partsL_bd : ∀ (ts : List Ac) (sy l : Int), -1 ≤ l → -1 ≤ partsL ts sy l ∧ partsL ts sy l ≤ l
  | [], sy, l, h => by unfold partsL; omega
  | t :: ts, sy, l, h => by
    unfold partsL
    split
    · omega
    · have h1 := parts_bd t sy l (by omega)
      have h2 := partsL_bd ts sy (partsA t sy l) h1.1
      omega
end
theorem partsL_neg (ts : List Ac) (sy l : Int) (h : l < 0) : partsL ts sy l = l := by
  cases ts with
  | nil => rfl
  | cons t ts => unfold partsL; rw [if_pos h]
theorem dropA {ks : List Ac} {i : Nat} (hi : i < ks.length) : ks.drop i = ks.getD i ac0 :: ks.drop (i + 1) := by
  rw [List.drop_eq_getElem_cons hi, List.getD_eq_getElem?_getD, List.getElem?_eq_getElem hi]
  rfl
theorem acTs_get {B : Nat} {w : World} : ∀ (ts : List Ac) (vs : List Value), AcTs B w ts vs → ∀ i, i < ts.length → ∃ u0 u1 u2 u3, vs[i * 4]? = some u0 ∧ vs[i * 4 + 1]? = some u1 ∧ vs[i * 4 + 2]? = some u2 ∧ vs[i * 4 + 3]? = some u3 ∧ AcAt B w (ts.getD i ac0) u0 u1 u2 u3
  | [], _, _, i, hi => by simp at hi
  | t :: ts, vs, h, i, hi => by
    unfold AcTs at h
    obtain ⟨u0, u1, u2, u3, rest, rfl, h1, h2⟩ := h
    cases i with
    | zero => exact ⟨u0, u1, u2, u3, rfl, rfl, rfl, rfl, h1⟩
    | succ i =>
      obtain ⟨x0, x1, x2, x3, e0, e1, e2, e3, hx⟩ := acTs_get ts rest h2 i (by simpa using hi)
      exact ⟨x0, x1, x2, x3, by rw [show (i + 1) * 4 = i * 4 + 1 + 1 + 1 + 1 by omega]; exact e0, by rw [show (i + 1) * 4 + 1 = i * 4 + 1 + 1 + 1 + 1 + 1 by omega]; exact e1, by rw [show (i + 1) * 4 + 2 = i * 4 + 2 + 1 + 1 + 1 + 1 by omega]; exact e2, by rw [show (i + 1) * 4 + 3 = i * 4 + 3 + 1 + 1 + 1 + 1 by omega]; exact e3, hx⟩
end Go.Proofs.YtagohbpbgjelaaaGreatDoor

/- The document's whole. -/
namespace Go.Proofs.YtagohbpbgjelaaaGreatDoor
open Go.RowKit

/-- Have all rules of a row a mark? -/
def wholeB (nk : Nat) (f : Nat → Bool) (row : List Int) : Bool := row.all fun x => decide (x < (nk : Int)) || f (x - nk).toNat
theorem wholeB_iff {nk : Nat} {f : Nat → Bool} {row : List Int} : wholeB nk f row = true ↔ ∀ x, x ∈ row → (nk : Int) ≤ x → f (x - nk).toNat = true := by
  unfold wholeB
  rw [List.all_eq_true]
  constructor
  · intro h x hx hk
    have := h x hx
    rw [Bool.or_eq_true, decide_eq_true_eq] at this
    rcases this with h | h
    · omega
    · exact h
  · intro h x hx
    rw [Bool.or_eq_true, decide_eq_true_eq]
    by_cases e : x < nk
    · exact .inl e
    · exact .inr (h x hx (by omega))
end Go.Proofs.YtagohbpbgjelaaaGreatDoor

/- The document's Nullable. -/
namespace Go.Proofs.YtagohbpbgjelaaaGreatDoor
open Go.RowKit

theorem info4 : (Tryz.prog.info? 4).map (fun i => (i.zero, i.size, i.bytes)) = some (some (.bool false), 1, 1) := by kernel_rfl

end Go.Proofs.YtagohbpbgjelaaaGreatDoor

/- The document's length. -/
namespace Go.Proofs.YtagohbpbgjelaaaGreatDoor
open Go.RowKit

/-- The length of a row, by the lengths of rules; -1: not known; cut at one more than the longest. -/
def lenR (nk : Nat) (f : Nat → Int) : List Int → Int → Int
  | [], acc => acc
  | x :: xs, acc => if (nk : Int) ≤ x then (if f (x - nk).toNat < 0 then -1 else lenR nk f xs (min (acc + f (x - nk).toNat) 65537)) else lenR nk f xs (min (acc + 1) 65537)
end Go.Proofs.YtagohbpbgjelaaaGreatDoor

/- Plain mathematics: shortest rows. -/
namespace Go.Proofs.YtagohbpbgjelaaaGreatDoor
open Go.RowKit

theorem lenR_bd {nk : Nat} {f : Nat → Int} : ∀ (row : List Int) (acc : Int), 0 ≤ acc → acc ≤ 65537 → -1 ≤ lenR nk f row acc ∧ lenR nk f row acc ≤ 65537
  | [], acc, h0, h1 => by unfold lenR; omega
  | x :: xs, acc, h0, h1 => by
    unfold lenR
    split
    · split
      · omega
      · exact lenR_bd xs _ (by omega) (by omega)
    · exact lenR_bd xs _ (by omega) (by omega)
theorem lenR_all {nk : Nat} {f : Nat → Int} : ∀ (row : List Int) (acc : Int), 0 ≤ acc → 0 ≤ lenR nk f row acc → ∀ x, x ∈ row → (nk : Int) ≤ x → 0 ≤ f (x - nk).toNat
  | [], _, _, _, x, hx, _ => by simp at hx
  | y :: ys, acc, h0, h, x, hx, hk => by
    unfold lenR at h
    rw [List.mem_cons] at hx
    split at h
    · split at h
      · omega
      · rcases hx with rfl | hx
        · omega
        · exact lenR_all ys _ (by omega) h x hx hk
    · rcases hx with rfl | hx
      · omega
      · exact lenR_all ys _ (by omega) h x hx hk
theorem lenR_mono {nk : Nat} {f g : Nat → Int} : ∀ (row : List Int) (a b : Int), 0 ≤ a → a ≤ b → (∀ x, x ∈ row → (nk : Int) ≤ x → 0 ≤ f (x - nk).toNat ∧ f (x - nk).toNat ≤ g (x - nk).toNat) → 0 ≤ lenR nk f row a ∧ lenR nk f row a ≤ lenR nk g row b
  | [], a, b, h0, h1, _ => by unfold lenR; omega
  | x :: xs, a, b, h0, h1, h => by
    have hr := fun y hy => h y (List.mem_cons_of_mem _ hy)
    unfold lenR
    by_cases hk : (nk : Int) ≤ x
    · have := h x (by simp) hk
      rw [if_pos hk, if_pos hk, if_neg (by omega), if_neg (by omega)]
      exact lenR_mono xs _ _ (by omega) (by omega) hr
    · rw [if_neg hk, if_neg hk]
      exact lenR_mono xs _ _ (by omega) (by omega) hr
/-- A rule makes a row of kinds of that length (cut). -/
inductive Lng (G : Gm) : Nat → Int → Prop
  | mk (p : Pd) (hp : p ∈ G.prods) (g : Nat → Int) (hg : ∀ x, x ∈ p.right → (G.nk : Int) ≤ x → Lng G (x - G.nk).toNat (g (x - G.nk).toNat)) (h0 : 0 ≤ lenR G.nk g p.right 0) : Lng G p.left.toNat (lenR G.nk g p.right 0)
def LngSound (G : Gm) (f : Nat → Int) : Prop := ∀ r, f r = -1 ∨ (0 ≤ f r ∧ f r ≤ 65537 ∧ Lng G r (f r))
def lngStep (G : Gm) (f : Nat → Int) (p : Pd) : Prop := 0 ≤ lenR G.nk f p.right 0 ∧ (f p.left.toNat < 0 ∨ lenR G.nk f p.right 0 < f p.left.toNat)
instance (G : Gm) (f : Nat → Int) (p : Pd) : Decidable (lngStep G f p) := by unfold lngStep; infer_instance
def LngShut (G : Gm) (f : Nat → Int) : Prop := ∀ i, i < G.prods.length → ¬ lngStep G f (G.prods.getD i pd0)
/-- f tells the shortest rows' lengths. -/
def LeastIs (G : Gm) (f : Nat → Int) : Prop := LngSound G f ∧ ∀ r n, Lng G r n → 0 ≤ f r ∧ f r ≤ n
theorem lng_done {G : Gm} {f : Nat → Int} (h : LngSound G f) (hs : LngShut G f) : LeastIs G f := by
  refine ⟨h, fun r n hn => ?_⟩
  induction hn with
  | mk p hp g hg h0 ih =>
    have hm := lenR_mono (nk := G.nk) (f := f) (g := g) p.right 0 0 (Int.le_refl _) (Int.le_refl _) (fun x hx hk => ih x hx hk)
    obtain ⟨i, hi, rfl⟩ := ex_getP hp
    have := hs i hi
    unfold lngStep at this
    omega
theorem least_uniq {G : Gm} {f g : Nat → Int} (hf : LeastIs G f) (hg : LeastIs G g) : f = g := by
  funext r
  rcases hf.1 r with h1 | ⟨h1, -, h2⟩ <;> rcases hg.1 r with h3 | ⟨h3, -, h4⟩
  · omega
  · have := hf.2 r _ h4; omega
  · have := hg.2 r _ h2; omega
  · have := hf.2 r _ h4; have := hg.2 r _ h2; omega
def updI (f : Nat → Int) (i : Nat) (v : Int) : Nat → Int := fun j => if j = i then v else f j
/-! ### What the loop counts down -/
def wt (v : Int) : Nat := if v < 0 then 65538 else v.toNat
/-- .. read of a row in memory. -/
def numW (w : World) (b : Nat) : Nat → Int := fun r => match w.cell? ⟨b, r, none⟩ with | some v => intOf v | none => 0
theorem numW_is {w : World} {b t n : Nat} {f : Nat → Int} (h : w.rowIs b t n (fun r => .int .i64 (f r))) (r : Nat) (hr : r < n) : numW w b r = f r := by
  unfold numW
  have := h.cell hr
  rw [this]
  rfl
end Go.Proofs.YtagohbpbgjelaaaGreatDoor

/- The code's precs, rules' numbers, symbols. -/
namespace Go.Proofs.YtagohbpbgjelaaaGreatDoor
open Go.RowKit

def precB (x y : Int) : Bool := decide ((y = 0 ∧ x = 0) ∨ (1 ≤ y ∧ y ≤ 3 ∧ 0 < x))
set_option maxRecDepth 100000 in
theorem prec_any (x y : Int) (w : World) : Calls Tryz.prog 116 #[.agg #[.int .i64 x, .int .i64 y]] w fun e w' => e = .returned (.bool (precB x y)) ∧ Below w.heap.size w w' := by
  have Hb := hide ((Below.refl w.heap.size w).alloc (Nat.le_refl _) (.cells #[.int .i64 x, .int .i64 y] 98))
  have hnot := run_not
  go_enter Tryz.func116, Tryz.ntmps116
  go_wp2
  all_goals go_ret
  all_goals refine ⟨ret_bool ?_, unhide Hb⟩
  all_goals (unfold precB; rw [Bool.eq_iff_iff]; simp at *; omega)
theorem isRule_any (ka pa ra qa : Option Addr) (nk kc pn pc nr rc qn qc : Nat) (st x : Int) (w : World) : Calls Tryz.prog 65 #[.agg #[.slice ka nk kc, .slice pa pn pc, .slice ra nr rc, .slice qa qn qc, .int .i64 st], .int .i64 x] w fun e w' => e = .returned (.bool (decide (0 ≤ x ∧ x < nr))) ∧ Below w.heap.size w w' := by
  have Hb := hide ((Below.refl w.heap.size w).alloc (Nat.le_refl _) (.cells #[.slice ka nk kc, .slice pa pn pc, .slice ra nr rc, .slice qa qn qc, .int .i64 st] 26))
  have hnot := run_not
  go_enter Tryz.func65, Tryz.ntmps65
  go_wp2
  all_goals go_ret
  all_goals refine ⟨ret_bool ?_, unhide Hb⟩
  all_goals (rw [Bool.eq_iff_iff]; simp at *; omega)
set_option maxHeartbeats 1000000 in
set_option maxRecDepth 100000 in
theorem precs_any (ka pa ra qa : Option Addr) (nk kc pc nr rc qn qc : Nat) (st : Int) (l : List (Int × Int)) (hnk : nk ≤ 281474976710656) (B : Nat) (w : World) (hB : B ≤ w.heap.size) (hrow : LRow B w pa l) :
    Calls Tryz.prog 73 #[.agg #[.slice ka nk kc, .slice pa l.length pc, .slice ra nr rc, .slice qa qn qc, .int .i64 st]] w fun e w' => e = .returned (.bool (decide (l.length = nk) && levelsB l)) ∧ Below w.heap.size w w' := by
  obtain ⟨g0, g1, g2, g3, g4, hs1, hb1⟩ := boxG w (.slice ka nk kc) (.slice pa l.length pc) (.slice ra nr rc) (.slice qa qn qc) (.int .i64 st) 26
  have hnot := run_not
  by_cases hl : l.length = nk
  · subst hl
    have hne : ((l.length : Int) != l.length) = false := by simp
    have Hyes : Hid (lvlTo l l.length → levelsB l = true) := hide fun h => decide_eq_true h
    have Hno : Hid (¬ lvlTo l l.length → levelsB l = false) := hide fun h => decide_eq_false h
    have hR : (decide (l.length = l.length) && levelsB l) = levelsB l := by simp
    rw [hR]
    clear hR
    generalize levelsB l = R at *
    have Hrow := hide (lrow_kept (below_le hb1 hB) hrow)
    have Hb1 := hide hb1
    clear hrow hb1
    go_enter Tryz.func73, Tryz.ntmps73
    go_wp2
    generalize w.alloc (.cells #[.slice ka l.length kc, .slice pa l.length pc, .slice ra nr rc, .slice qa qn qc, .int .i64 st] 26) = w1 at *
    have hw1 : w1.heap.size = w.heap.size + 1 := hs1
    go_loopw [15] (fun x wr => ∃ k : Nat, x = .int .i64 k ∧ k ≤ l.length ∧ lvlTo l k ∧ Below w1.heap.size w1 wr) (fun x _ => l.length - (intOf x).toNat)
    case atStart => exact ⟨0, rfl, Nat.zero_le _, (fun i hi => absurd hi (Nat.not_lt_zero _)), Below.refl _ _⟩
    case round =>
      obtain ⟨k, rfl, hk, hgood, hbel⟩ := hrel
      have Hg := hide hgood; have Hbel := hide hbel
      have hszr := hbel.size
      clear hgood hbel g0 g1 g2 g3 g4
      by_cases hlt : k < l.length
      · have hlt' : (k : Int) < l.length := by omega
        obtain ⟨b, off, rfl, hb, c0, c1⟩ := lrow_at (lrow_kept (below_le (unhide Hbel) (by omega)) (unhide Hrow)) hlt
        have Hs := hide (fun (h : lvlB k (l.getD k (0, 0)) = true) => show lvlTo l (k + 1) from fun i hi => by
          by_cases e : i = k
          · subst e; exact h
          · exact unhide Hg i (by omega))
        have Hn := hide (fun (h : lvlB k (l.getD k (0, 0)) = false) => unhide Hno (fun hd => by rw [hd k hlt] at h; cases h))
        generalize l.getD k (0, 0) = p at *
        obtain ⟨x, y⟩ := p
        simp only at c0 c1
        have Hs2 := hide (fun (h : (x = 0 ∧ y = 0) ∨ (1 ≤ x ∧ 1 ≤ y ∧ y ≤ 3 ∧ 2 ≤ k)) => unhide Hs (decide_eq_true h))
        have Hn2 := hide (fun (h : ¬ ((x = 0 ∧ y = 0) ∨ (1 ≤ x ∧ 1 ≤ y ∧ y ≤ 3 ∧ 2 ≤ k))) => unhide Hn (decide_eq_false h))
        clear Hs Hn
        go_wp2_with fail
        refine (prec_any x y _).mono ?_
        rintro e w3 ⟨rfl, hb3⟩
        have hb2 : Below wr.heap.size wr (wr.alloc (.cells #[.int .i64 x, .int .i64 y] 98)) := (Below.refl _ _).alloc (Nat.le_refl _) _
        have hb4 := hb2.trans (below_le hb3 (by simp))
        have d0 : w3.cell? ⟨wr.heap.size, 0, none⟩ = some (.int .i64 x) := (hb3.cell (p := ⟨wr.heap.size, 0, none⟩) (by simp)).trans (by unfold World.cell?; rw [Go.Deep.blk_alloc_new]; rfl)
        have Hb3 := hide ((unhide Hbel).trans (below_le hb4 (by omega)))
        have Hb5 := hide ((unhide Hb1).trans (below_le (unhide Hb3) (by omega)))
        clear hb3 hb2 hb4
        cases hpr : precB x y
        · have h1 := of_decide_eq_false hpr
          go_wp2
          go_ret
          rw [unhide Hn2 (by omega)]
          exact ⟨rfl, unhide Hb5⟩
        · have h1 := of_decide_eq_true hpr
          go_wp2
          all_goals first
            | (go_ret; rw [unhide Hn2 (by first | omega | (simp at *; omega))]; exact ⟨rfl, unhide Hb5⟩)
            | (go_roundw
               case rel => exact ⟨k + 1, by go_num, by omega, unhide Hs2 (by first | omega | (simp at *; omega)), unhide Hb3⟩
               case measure => simp [intOf]; omega)
      · obtain rfl : k = l.length := by omega
        have Hr : Hid (R = true) := hide (unhide Hyes (unhide Hg))
        go_wp2
        go_ret
        rw [unhide Hr]
        exact ⟨rfl, (unhide Hb1).trans (below_le (unhide Hbel) (by omega))⟩
  · have hne : ((l.length : Int) != nk) = true := by simp; omega
    have hR : (decide (l.length = nk) && levelsB l) = false := by simp [hl]
    rw [hR]
    clear hR
    go_enter Tryz.func73, Tryz.ntmps73
    go_wp2
    go_ret
    exact ⟨rfl, hb1⟩
end Go.Proofs.YtagohbpbgjelaaaGreatDoor

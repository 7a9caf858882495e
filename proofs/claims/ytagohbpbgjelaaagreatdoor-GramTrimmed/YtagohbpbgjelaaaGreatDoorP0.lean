/- Stage 12, the document's side: grammars in memory; frames. -/
import Derived.Test.YtagohbpbgjelaaaGreatDoorChecked
import Derived.RowKit3
import Derived.WalkKit
import Derived.Below
import Derived.OwnWalk
import Derived.OneCell
import Derived.Laws.OwnMore
import Derived.Laws.AppendOwn
import Derived.Laws.MakeOwn
import Derived.Laws.Strings
import Derived.Deep.OwnRows
import Derived.Deep.RegionHeld3
import Derived.Deep.QuietTactic
import Derived.BigQuiet
import Derived.KernelRfl
namespace Go.Proofs.YtagohbpbgjelaaaGreatDoor
open Go.RowKit

theorem hide {p : Prop} (h : p) : Hid p := h
theorem unhide {p : Prop} (h : Hid p) : p := h
theorem ret_bool {a b : Bool} (h : a = b) : Ending.returned (.bool a) = .returned (.bool b) := by rw [h]
theorem below_le {B B' : Nat} {w w' : World} (h : Below B w w') (hB : B' ≤ B) : Below B' w w' := h.mono hB
theorem below_drewN {B : Nat} {w w' : World} (h : Below B w w') (n : Nat) : Below B w (w'.drewN n) := ⟨h.os, h.tape, h.output, h.size, h.block⟩
theorem own_form {w : World} {B : Nat} {e : TypeId} {size : Nat} {v : Value} {n : Nat} {xs : List Value} (h : w.ownsRow B e size v n xs) : ∃ a c, v = .slice a n c := by
  rcases h.2 with ⟨rfl, rfl⟩ | ⟨g, cap, cur, rfl, _⟩
  · exact ⟨_, _, rfl⟩
  · exact ⟨_, _, rfl⟩

def Fr (O : Nat → Prop) (w w' : World) : Prop := w.heap.size ≤ w'.heap.size ∧ (∀ k, k < w.heap.size → ¬ O k → w'.heap[k]? = w.heap[k]?) ∧ w'.os = w.os ∧ w'.tape = w.tape ∧ w'.output = w.output
theorem fr_refl (O : Nat → Prop) (w : World) : Fr O w w := ⟨Nat.le_refl _, fun _ _ _ => rfl, rfl, rfl, rfl⟩
theorem fr_t {O : Nat → Prop} {a b c : World} (h : Fr O a b) (k : Fr O b c) : Fr O a c := ⟨Nat.le_trans h.1 k.1, fun i hi ho => (k.2.1 i (Nat.lt_of_lt_of_le hi h.1) ho).trans (h.2.1 i hi ho), k.2.2.1.trans h.2.2.1, k.2.2.2.1.trans h.2.2.2.1, k.2.2.2.2.trans h.2.2.2.2⟩
theorem fr_mono {O O' : Nat → Prop} {a b : World} (h : Fr O a b) (hO : ∀ k, k < a.heap.size → O k → O' k) : Fr O' a b := ⟨h.1, fun k hk ho => h.2.1 k hk (fun h' => ho (hO k hk h')), h.2.2⟩
theorem fr_alloc {O : Nat → Prop} {a b : World} (h : Fr O a b) (o : Obj) : Fr O a (b.alloc o) := fr_t h ⟨by simp, fun k hk _ => Below.heap_alloc _ _ _ hk, rfl, rfl, rfl⟩
theorem fr_set {O : Nat → Prop} {a b : World} (h : Fr O a b) {p : Addr} (hp : O p.block) (u : Value) : Fr O a (b.setCell p u) :=
  fr_t h ⟨by simp [World.setCell], fun k _ ho => Below.heap_setCell _ _ _ _ (fun e => ho (e ▸ hp)), rfl, rfl, rfl⟩
theorem fr_below {B : Nat} {O : Nat → Prop} {a b : World} (h : Fr O a b) (hB : B ≤ a.heap.size) (hO : ∀ k, O k → B ≤ k) : Below B a b :=
  ⟨h.2.2.1, h.2.2.2.1, h.2.2.2.2, h.1, fun k hk => h.2.1 k (by omega) (fun ho => by have := hO k ho; omega)⟩
theorem below_fr {O : Nat → Prop} {a b : World} (h : Below a.heap.size a b) : Fr O a b := ⟨h.size, fun k hk _ => h.block k hk, h.os, h.tape, h.output⟩
theorem fr_new {O : Nat → Prop} {a b c : World} (h : Fr O a b) (k : Below b.heap.size b c) : Fr O a c := fr_t h (below_fr k)

def bs (l : List UInt8) : ByteArray := ⟨⟨l⟩⟩
theorem bs_toList (l : List UInt8) : (bs l).toList = l := by rw [ByteArray.toList_eq]; rfl
def SRow (B : Nat) (w : World) (a : Option Addr) (l : List (List UInt8)) : Prop :=
  l = [] ∨ ∃ b off, a = some ⟨b, off, none⟩ ∧ b < B ∧ ∀ j, j < l.length → w.cell? ⟨b, off + j, none⟩ = some (.string (bs (l.getD j [])))
def NRow (B : Nat) (w : World) (a : Option Addr) (l : List Int) : Prop :=
  l = [] ∨ ∃ b off, a = some ⟨b, off, none⟩ ∧ b < B ∧ ∀ j, j < l.length → w.cell? ⟨b, off + j, none⟩ = some (.int .i64 (l.getD j 0))
def LRow (B : Nat) (w : World) (a : Option Addr) (l : List (Int × Int)) : Prop :=
  l = [] ∨ ∃ b off, a = some ⟨b, off, none⟩ ∧ b < B ∧ ∀ j, j < l.length → w.cell? ⟨b, off + j * 2, none⟩ = some (.int .i64 (l.getD j (0, 0)).1) ∧ w.cell? ⟨b, off + j * 2 + 1, none⟩ = some (.int .i64 (l.getD j (0, 0)).2)
inductive Ac where
  | mk (kind pick : Int) (name : List UInt8) (kids : List Ac)
mutual
def AcAt (B : Nat) (w : World) : Ac → Value → Value → Value → Value → Prop
  | .mk k p n ks, v0, v1, v2, v3 => v0 = .int .i64 k ∧ v1 = .int .i64 p ∧ v2 = .string (bs n) ∧ ∃ a c vs, v3 = .slice a ks.length c ∧ AcTs B w ks vs ∧ (ks = [] ∨ ∃ b off, a = some ⟨b, off, none⟩ ∧ b < B ∧ ∀ j u, vs[j]? = some u → w.cell? ⟨b, off + j, none⟩ = some u)
def AcTs (B : Nat) (w : World) : List Ac → List Value → Prop
  | [], vs => vs = []
  | t :: ts, vs => ∃ u0 u1 u2 u3 rest, vs = u0 :: u1 :: u2 :: u3 :: rest ∧ AcAt B w t u0 u1 u2 u3 ∧ AcTs B w ts rest
end
structure Pd where
  left : Int
  right : List Int
  level : Int
  act : Ac
def ac0 : Ac := .mk 0 0 [] []
def pd0 : Pd := ⟨0, [], 0, ac0⟩
structure Gm where
  kinds : List (List UInt8)
  precs : List (Int × Int)
  rules : List (List UInt8)
  prods : List Pd
  start : Int
def PdAt (B : Nat) (w : World) (p : Pd) (v0 v1 v2 v3 v4 v5 v6 : Value) : Prop :=
  v0 = .int .i64 p.left ∧ (∃ a c, v1 = .slice a p.right.length c ∧ NRow B w a p.right ∧ p.right.length ≤ c) ∧ v2 = .int .i64 p.level ∧ AcAt B w p.act v3 v4 v5 v6
def QRow (B : Nat) (w : World) (a : Option Addr) (l : List Pd) : Prop :=
  l = [] ∨ ∃ b off, a = some ⟨b, off, none⟩ ∧ b < B ∧ ∀ j, j < l.length → ∃ v0 v1 v2 v3 v4 v5 v6, PdAt B w (l.getD j pd0) v0 v1 v2 v3 v4 v5 v6 ∧
    w.cell? ⟨b, off + j * 7, none⟩ = some v0 ∧ w.cell? ⟨b, off + j * 7 + 1, none⟩ = some v1 ∧ w.cell? ⟨b, off + j * 7 + 2, none⟩ = some v2 ∧ w.cell? ⟨b, off + j * 7 + 3, none⟩ = some v3 ∧ w.cell? ⟨b, off + j * 7 + 4, none⟩ = some v4 ∧ w.cell? ⟨b, off + j * 7 + 5, none⟩ = some v5 ∧ w.cell? ⟨b, off + j * 7 + 6, none⟩ = some v6
def tzT : List Nat := [0, 1, 56, 2, 57, 49, 28, 3, 61, 58, 42, 50, 38, 29, 17, 4, 62, 47, 59, 36, 45, 43, 51, 22, 53, 39, 33, 30, 24, 18, 12, 5, 63, 55, 48, 27, 60, 41, 37, 16, 46, 35, 44, 21, 52, 32, 23, 11, 54, 26, 40, 15, 34, 20, 31, 10, 25, 14, 19, 9, 13, 8, 7, 6]
def Tb (B : Nat) (w : World) : Prop := 0 < B ∧ ∀ j, j < 64 → w.cell? ⟨0, j, none⟩ = some (.int .u8 (tzT.getD j 0 : Nat))
theorem tb_kept {B : Nat} {w w' : World} (hb : Below B w w') (h : Tb B w) : Tb B w' := ⟨h.1, fun j hj => (hb.cell (p := ⟨0, j, none⟩) h.1).trans (h.2 j hj)⟩
theorem tb_up {B : Nat} {w w' : World} (h : Tb B w) (hB : B ≤ w.heap.size) (hb : Below B w w') : Tb w'.heap.size w' := ⟨by have := h.1; have := hb.size; omega, (tb_kept hb h).2⟩
structure GIn (B : Nat) (w : World) (G : Gm) (ka pa ra qa : Option Addr) : Prop where
  kinds : SRow B w ka G.kinds
  precs : LRow B w pa G.precs
  rules : SRow B w ra G.rules
  prods : QRow B w qa G.prods
  tab : Tb B w

theorem srow_kept {B : Nat} {w w' : World} {a : Option Addr} {l : List (List UInt8)} (hb : Below B w w') (h : SRow B w a l) : SRow B w' a l := by
  rcases h with rfl | ⟨b, off, rfl, hlt, hc⟩
  · exact .inl rfl
  · exact .inr ⟨b, off, rfl, hlt, fun j hj => (hb.cell hlt).trans (hc j hj)⟩
theorem nrow_kept {B : Nat} {w w' : World} {a : Option Addr} {l : List Int} (hb : Below B w w') (h : NRow B w a l) : NRow B w' a l := by
  rcases h with rfl | ⟨b, off, rfl, hlt, hc⟩
  · exact .inl rfl
  · exact .inr ⟨b, off, rfl, hlt, fun j hj => (hb.cell hlt).trans (hc j hj)⟩
theorem lrow_kept {B : Nat} {w w' : World} {a : Option Addr} {l : List (Int × Int)} (hb : Below B w w') (h : LRow B w a l) : LRow B w' a l := by
  rcases h with rfl | ⟨b, off, rfl, hlt, hc⟩
  · exact .inl rfl
  · exact .inr ⟨b, off, rfl, hlt, fun j hj => ⟨(hb.cell hlt).trans (hc j hj).1, (hb.cell hlt).trans (hc j hj).2⟩⟩
mutual
theorem acAt_kept {B : Nat} {w w' : World} (hb : Below B w w') : ∀ (t : Ac) (v0 v1 v2 v3 : Value), AcAt B w t v0 v1 v2 v3 → AcAt B w' t v0 v1 v2 v3
  | .mk k p n ks, v0, v1, v2, v3, h => by
    unfold AcAt at h ⊢
    obtain ⟨h0, h1, h2, a, c, vs, h3, hts, hc⟩ := h
    refine ⟨h0, h1, h2, a, c, vs, h3, acTs_kept hb ks vs hts, ?_⟩
    rcases hc with h | ⟨b, off, h, hlt, hcs⟩
    · exact .inl h
    · exact .inr ⟨b, off, h, hlt, fun j u hj => (hb.cell hlt).trans (hcs j u hj)⟩
theorem acTs_kept {B : Nat} {w w' : World} (hb : Below B w w') : ∀ (ts : List Ac) (vs : List Value), AcTs B w ts vs → AcTs B w' ts vs
  | [], vs, h => by unfold AcTs at h ⊢; exact h
  | t :: ts, vs, h => by
    unfold AcTs at h ⊢
    obtain ⟨u0, u1, u2, u3, rest, rfl, h1, h2⟩ := h
    exact ⟨u0, u1, u2, u3, rest, rfl, acAt_kept hb t _ _ _ _ h1, acTs_kept hb ts rest h2⟩
end
theorem pdAt_kept {B : Nat} {w w' : World} (hb : Below B w w') {p : Pd} {v0 v1 v2 v3 v4 v5 v6 : Value} (h : PdAt B w p v0 v1 v2 v3 v4 v5 v6) : PdAt B w' p v0 v1 v2 v3 v4 v5 v6 := by
  obtain ⟨h0, ⟨a, c, h1, hn, hcl⟩, h2, h3⟩ := h
  exact ⟨h0, ⟨a, c, h1, nrow_kept hb hn, hcl⟩, h2, acAt_kept hb _ _ _ _ _ h3⟩
theorem qrow_kept {B : Nat} {w w' : World} {a : Option Addr} {l : List Pd} (hb : Below B w w') (h : QRow B w a l) : QRow B w' a l := by
  rcases h with rfl | ⟨b, off, rfl, hlt, hc⟩
  · exact .inl rfl
  · refine .inr ⟨b, off, rfl, hlt, fun j hj => ?_⟩
    obtain ⟨v0, v1, v2, v3, v4, v5, v6, hp, e0, e1, e2, e3, e4, e5, e6⟩ := hc j hj
    exact ⟨v0, v1, v2, v3, v4, v5, v6, pdAt_kept hb hp, (hb.cell hlt).trans e0, (hb.cell hlt).trans e1, (hb.cell hlt).trans e2, (hb.cell hlt).trans e3, (hb.cell hlt).trans e4, (hb.cell hlt).trans e5, (hb.cell hlt).trans e6⟩
theorem gin_kept {B : Nat} {w w' : World} {G : Gm} {ka pa ra qa : Option Addr} (hb : Below B w w') (h : GIn B w G ka pa ra qa) : GIn B w' G ka pa ra qa :=
  ⟨srow_kept hb h.kinds, lrow_kept hb h.precs, srow_kept hb h.rules, qrow_kept hb h.prods, tb_kept hb h.tab⟩
theorem srow_at {B : Nat} {w : World} {a : Option Addr} {l : List (List UInt8)} (h : SRow B w a l) {k : Nat} (hk : k < l.length) : ∃ b off, a = some ⟨b, off, none⟩ ∧ b < B ∧ w.cell? ⟨b, off + k, none⟩ = some (.string (bs (l.getD k []))) := by
  rcases h with rfl | ⟨b, off, h1, h2, h3⟩
  · simp at hk
  · exact ⟨b, off, h1, h2, h3 k hk⟩
theorem nrow_at {B : Nat} {w : World} {a : Option Addr} {l : List Int} (h : NRow B w a l) {k : Nat} (hk : k < l.length) : ∃ b off, a = some ⟨b, off, none⟩ ∧ b < B ∧ w.cell? ⟨b, off + k, none⟩ = some (.int .i64 (l.getD k 0)) := by
  rcases h with rfl | ⟨b, off, h1, h2, h3⟩
  · simp at hk
  · exact ⟨b, off, h1, h2, h3 k hk⟩
theorem lrow_at {B : Nat} {w : World} {a : Option Addr} {l : List (Int × Int)} (h : LRow B w a l) {k : Nat} (hk : k < l.length) : ∃ b off, a = some ⟨b, off, none⟩ ∧ b < B ∧ w.cell? ⟨b, off + k * 2, none⟩ = some (.int .i64 (l.getD k (0, 0)).1) ∧ w.cell? ⟨b, off + k * 2 + 1, none⟩ = some (.int .i64 (l.getD k (0, 0)).2) := by
  rcases h with rfl | ⟨b, off, h1, h2, h3⟩
  · simp at hk
  · exact ⟨b, off, h1, h2, (h3 k hk).1, (h3 k hk).2⟩
theorem acAt_form {B : Nat} {w : World} {t : Ac} {v0 v1 v2 v3 : Value} (h : AcAt B w t v0 v1 v2 v3) : ∃ (k p : Int) (s : ByteArray) (a : Option Addr) (n c : Nat), v0 = .int .i64 k ∧ v1 = .int .i64 p ∧ v2 = .string s ∧ v3 = .slice a n c := by
  cases t
  unfold AcAt at h
  obtain ⟨rfl, rfl, rfl, a, c, vs, rfl, -⟩ := h
  exact ⟨_, _, _, _, _, _, rfl, rfl, rfl, rfl⟩
theorem qrow_at2 {B : Nat} {w : World} {a : Option Addr} {l : List Pd} (h : QRow B w a l) {k : Nat} (hk : k < l.length) : ∃ b off, a = some ⟨b, off, none⟩ ∧ b < B ∧ ∃ (ra : Option Addr) (rc : Nat) (x3 x4 : Int) (x5 : ByteArray) (x6 : Option Addr) (n6 c6 : Nat), (l.getD k pd0).right.length ≤ rc ∧ NRow B w ra (l.getD k pd0).right ∧ AcAt B w (l.getD k pd0).act (.int .i64 x3) (.int .i64 x4) (.string x5) (.slice x6 n6 c6) ∧
    w.cell? ⟨b, off + k * 7, none⟩ = some (.int .i64 (l.getD k pd0).left) ∧ w.cell? ⟨b, off + k * 7 + 1, none⟩ = some (.slice ra (l.getD k pd0).right.length rc) ∧ w.cell? ⟨b, off + k * 7 + 2, none⟩ = some (.int .i64 (l.getD k pd0).level) ∧ w.cell? ⟨b, off + k * 7 + 3, none⟩ = some (.int .i64 x3) ∧ w.cell? ⟨b, off + k * 7 + 4, none⟩ = some (.int .i64 x4) ∧ w.cell? ⟨b, off + k * 7 + 5, none⟩ = some (.string x5) ∧ w.cell? ⟨b, off + k * 7 + 6, none⟩ = some (.slice x6 n6 c6) := by
  rcases h with rfl | ⟨b, off, h1, h2, h3⟩
  · simp at hk
  · obtain ⟨v0, v1, v2, v3, v4, v5, v6, ⟨rfl, ⟨ra, rc, rfl, hn, hcl⟩, rfl, ha⟩, e0, e1, e2, e3, e4, e5, e6⟩ := h3 k hk
    obtain ⟨x3, x4, x5, x6, n6, c6, rfl, rfl, rfl, rfl⟩ := acAt_form ha
    exact ⟨b, off, h1, h2, ra, rc, x3, x4, x5, x6, n6, c6, hcl, hn, ha, e0, e1, e2, e3, e4, e5, e6⟩
theorem qrow_at {B : Nat} {w : World} {a : Option Addr} {l : List Pd} (h : QRow B w a l) {k : Nat} (hk : k < l.length) : ∃ b off, a = some ⟨b, off, none⟩ ∧ b < B ∧ ∃ (ra : Option Addr) (rc : Nat) (x3 x4 : Int) (x5 : ByteArray) (x6 : Option Addr) (n6 c6 : Nat), NRow B w ra (l.getD k pd0).right ∧ AcAt B w (l.getD k pd0).act (.int .i64 x3) (.int .i64 x4) (.string x5) (.slice x6 n6 c6) ∧
    w.cell? ⟨b, off + k * 7, none⟩ = some (.int .i64 (l.getD k pd0).left) ∧ w.cell? ⟨b, off + k * 7 + 1, none⟩ = some (.slice ra (l.getD k pd0).right.length rc) ∧ w.cell? ⟨b, off + k * 7 + 2, none⟩ = some (.int .i64 (l.getD k pd0).level) ∧ w.cell? ⟨b, off + k * 7 + 3, none⟩ = some (.int .i64 x3) ∧ w.cell? ⟨b, off + k * 7 + 4, none⟩ = some (.int .i64 x4) ∧ w.cell? ⟨b, off + k * 7 + 5, none⟩ = some (.string x5) ∧ w.cell? ⟨b, off + k * 7 + 6, none⟩ = some (.slice x6 n6 c6) := by
  obtain ⟨b, off, h1, h2, ra, rc, x3, x4, x5, x6, n6, c6, -, h⟩ := qrow_at2 h hk
  exact ⟨b, off, h1, h2, ra, rc, x3, x4, x5, x6, n6, c6, h⟩
theorem run_not (x : Bool) (w : World) : (Op.unary .not (.bool x)).run Tryz.prog w = .ok (.bool (!x)) w := rfl
theorem wN (r : Nat) (h : r ≤ 281474976710656) : IntKind.i64.wrap (r : Int) = r := by rw [IntKind.wrap_i64]; omega

theorem boxG (w : World) (v0 v1 v2 v3 v4 : Value) (t : TypeId) : (w.alloc (.cells #[v0, v1, v2, v3, v4] t)).cell? ⟨w.heap.size, 0, none⟩ = some v0 ∧ (w.alloc (.cells #[v0, v1, v2, v3, v4] t)).cell? ⟨w.heap.size, 1, none⟩ = some v1 ∧ (w.alloc (.cells #[v0, v1, v2, v3, v4] t)).cell? ⟨w.heap.size, 2, none⟩ = some v2 ∧ (w.alloc (.cells #[v0, v1, v2, v3, v4] t)).cell? ⟨w.heap.size, 3, none⟩ = some v3 ∧ (w.alloc (.cells #[v0, v1, v2, v3, v4] t)).cell? ⟨w.heap.size, 4, none⟩ = some v4 ∧ (w.alloc (.cells #[v0, v1, v2, v3, v4] t)).heap.size = w.heap.size + 1 ∧ Below w.heap.size w (w.alloc (.cells #[v0, v1, v2, v3, v4] t)) := by
  refine ⟨?_, ?_, ?_, ?_, ?_, by simp, (Below.refl _ _).alloc (Nat.le_refl _) _⟩ <;> (unfold World.cell?; rw [Go.Deep.blk_alloc_new]; rfl)
theorem boxP (w : World) (v0 v1 v2 v3 v4 v5 v6 : Value) (t : TypeId) : (w.alloc (.cells #[v0, v1, v2, v3, v4, v5, v6] t)).cell? ⟨w.heap.size, 0, none⟩ = some v0 ∧ (w.alloc (.cells #[v0, v1, v2, v3, v4, v5, v6] t)).cell? ⟨w.heap.size, 1, none⟩ = some v1 ∧ (w.alloc (.cells #[v0, v1, v2, v3, v4, v5, v6] t)).cell? ⟨w.heap.size, 2, none⟩ = some v2 ∧ (w.alloc (.cells #[v0, v1, v2, v3, v4, v5, v6] t)).cell? ⟨w.heap.size, 3, none⟩ = some v3 ∧ (w.alloc (.cells #[v0, v1, v2, v3, v4, v5, v6] t)).cell? ⟨w.heap.size, 4, none⟩ = some v4 ∧ (w.alloc (.cells #[v0, v1, v2, v3, v4, v5, v6] t)).cell? ⟨w.heap.size, 5, none⟩ = some v5 ∧ (w.alloc (.cells #[v0, v1, v2, v3, v4, v5, v6] t)).cell? ⟨w.heap.size, 6, none⟩ = some v6 ∧ (w.alloc (.cells #[v0, v1, v2, v3, v4, v5, v6] t)).heap.size = w.heap.size + 1 ∧ Below w.heap.size w (w.alloc (.cells #[v0, v1, v2, v3, v4, v5, v6] t)) := by
  refine ⟨?_, ?_, ?_, ?_, ?_, ?_, ?_, by simp, (Below.refl _ _).alloc (Nat.le_refl _) _⟩ <;> (unfold World.cell?; rw [Go.Deep.blk_alloc_new]; rfl)

structure GSt (B : Nat) (w : World) (G : Gm) (ka : Option Addr) (kc : Nat) (pa : Option Addr) (pc : Nat) (ra : Option Addr) (rc : Nat) (qa : Option Addr) (qc gb : Nat) : Prop where
  gin : GIn B w G ka pa ra qa
  c0 : w.cell? ⟨gb, 0, none⟩ = some (.slice ka G.kinds.length kc)
  c1 : w.cell? ⟨gb, 1, none⟩ = some (.slice pa G.precs.length pc)
  c2 : w.cell? ⟨gb, 2, none⟩ = some (.slice ra G.rules.length rc)
  c3 : w.cell? ⟨gb, 3, none⟩ = some (.slice qa G.prods.length qc)
  c4 : w.cell? ⟨gb, 4, none⟩ = some (.int .i64 G.start)
theorem gst_kept {B : Nat} {w w' : World} {G : Gm} {ka pa ra qa : Option Addr} {kc pc rc qc gb : Nat} (hb : Below (gb + 1) w w') (hB : B ≤ gb) (h : GSt B w G ka kc pa pc ra rc qa qc gb) : GSt B w' G ka kc pa pc ra rc qa qc gb :=
  ⟨gin_kept (below_le hb (by omega)) h.gin, (hb.cell (Nat.lt_succ_self _)).trans h.c0, (hb.cell (Nat.lt_succ_self _)).trans h.c1, (hb.cell (Nat.lt_succ_self _)).trans h.c2, (hb.cell (Nat.lt_succ_self _)).trans h.c3, (hb.cell (Nat.lt_succ_self _)).trans h.c4⟩
theorem gst_new {B : Nat} {w : World} {G : Gm} {ka pa ra qa : Option Addr} {kc pc rc qc : Nat} (hB : B ≤ w.heap.size) (h : GIn B w G ka pa ra qa) (t : TypeId) :
    GSt B (w.alloc (.cells #[.slice ka G.kinds.length kc, .slice pa G.precs.length pc, .slice ra G.rules.length rc, .slice qa G.prods.length qc, .int .i64 G.start] t)) G ka kc pa pc ra rc qa qc w.heap.size := by
  obtain ⟨g0, g1, g2, g3, g4, -, hb⟩ := boxG w (.slice ka G.kinds.length kc) (.slice pa G.precs.length pc) (.slice ra G.rules.length rc) (.slice qa G.prods.length qc) (.int .i64 G.start) t
  exact ⟨gin_kept (below_le hb hB) h, g0, g1, g2, g3, g4⟩

def emptyB (nk : Nat) (null : Nat → Bool) (row : List Int) : Bool := row.all fun x => decide ((nk : Int) ≤ x) && null (x - nk).toNat
def symsIn (n : Nat) (row : List Int) : Prop := ∀ x, x ∈ row → 1 ≤ x ∧ x < n
theorem mem_getD {l : List Int} {i : Nat} (h : i < l.length) : l.getD i 0 ∈ l := by
  rw [List.getD_eq_getElem?_getD, List.getElem?_eq_getElem h]; exact List.getElem_mem h
theorem take_snoc {α : Type} (l : List α) (i : Nat) (d : α) (h : i < l.length) : l.take (i + 1) = l.take i ++ [l.getD i d] := by
  rw [List.take_add_one, List.getD_eq_getElem?_getD, List.getElem?_eq_getElem h]; rfl
end Go.Proofs.YtagohbpbgjelaaaGreatDoor

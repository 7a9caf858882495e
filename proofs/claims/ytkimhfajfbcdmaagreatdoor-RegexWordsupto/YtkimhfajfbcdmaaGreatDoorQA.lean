/- Memory that is somebody's own: what stays while it turns. (and what it leads to) -/
import Derived.Test.YtkimhfajfbcdmaaGreatDoorRows
import Derived.WalkKit
import Derived.WalkSpells
import Derived.WalkLawsBesides
import Derived.Handy
import Derived.Below
import Derived.Deep.RegionWith
import Derived.Deep.AppendLies
import Derived.Maps.OwnSet
import Derived.Test.YtkimhfajfbcdmaaGreatDoorRM1
/- Memory that is somebody's own: what stays while it turns. -/
namespace Go.Proofs.YtkimhfajfbcdmaaGreatDoor
open Go.RowKit Go.Maps

theorem hide {p : Prop} (h : p) : Hid p := h
theorem unhide {p : Prop} (h : Hid p) : p := h
theorem ret_bool {a b : Bool} (h : a = b) : Ending.returned (.bool a) = .returned (.bool b) := by rw [h]

/-- All but some blocks are as they were. -/
structure Off (O : Nat → Prop) (w w' : World) : Prop where
  os : w'.os = w.os
  tape : w'.tape = w.tape
  output : w'.output = w.output
  size : w.heap.size ≤ w'.heap.size
  block : ∀ k, k < w.heap.size → ¬ O k → w'.heap[k]? = w.heap[k]?
theorem off_refl (O : Nat → Prop) (w : World) : Off O w w := ⟨rfl, rfl, rfl, Nat.le_refl _, fun _ _ _ => rfl⟩
theorem off_t {O : Nat → Prop} {a b c : World} (h : Off O a b) (k : Off O b c) : Off O a c :=
  ⟨k.os.trans h.os, k.tape.trans h.tape, k.output.trans h.output, Nat.le_trans h.size k.size, fun i hi hn => (k.block i (Nat.lt_of_lt_of_le hi h.size) hn).trans (h.block i hi hn)⟩
/-- One step, whose own blocks are some of these or new. -/
theorem off_t' {O O' : Nat → Prop} {a b c : World} (h : Off O a b) (k : Off O' b c) (hO : ∀ i, O' i → O i ∨ a.heap.size ≤ i) : Off O a c :=
  ⟨k.os.trans h.os, k.tape.trans h.tape, k.output.trans h.output, Nat.le_trans h.size k.size, fun i hi hn => (k.block i (Nat.lt_of_lt_of_le hi h.size) (fun ho => by rcases hO i ho with h1 | h1; exact hn h1; omega)).trans (h.block i hi hn)⟩
theorem off_mono {O O' : Nat → Prop} {a b : World} (h : Off O a b) (hO : ∀ i, O i → O' i ∨ a.heap.size ≤ i) : Off O' a b :=
  ⟨h.os, h.tape, h.output, h.size, fun i hi hn => h.block i hi (fun ho => by rcases hO i ho with h1 | h1; exact hn h1; omega)⟩
theorem off_below {O : Nat → Prop} {a b : World} (h : Below a.heap.size a b) : Off O a b := ⟨h.os, h.tape, h.output, h.size, fun k hk _ => h.block k hk⟩
theorem off_to {O : Nat → Prop} {a b : World} {B : Nat} (h : Off O a b) (hO : ∀ i, O i → B ≤ i) (hB : B ≤ a.heap.size) : Below B a b := ⟨h.os, h.tape, h.output, h.size, fun k hk => h.block k (by omega) (fun ho => by have := hO k ho; omega)⟩
theorem off_alloc {O : Nat → Prop} {a w : World} (h : Off O a w) (o : Obj) : Off O a (w.alloc o) :=
  ⟨h.os, h.tape, h.output, by simp; have := h.size; omega, fun k hk hn => (Below.heap_alloc w o k (Nat.lt_of_lt_of_le hk h.size)).trans (h.block k hk hn)⟩
theorem off_drew {O : Nat → Prop} {a w : World} (h : Off O a w) : Off O a w.drew := ⟨h.os, h.tape, h.output, h.size, h.block⟩
theorem off_set {O : Nat → Prop} {a w : World} (h : Off O a w) {p : Addr} (hp : O p.block ∨ a.heap.size ≤ p.block) (u : Value) : Off O a (w.setCell p u) := by
  have hb := (Below.refl 0 w).setCell (p := p) (Nat.zero_le _) u
  exact ⟨hb.os.trans h.os, hb.tape.trans h.tape, hb.output.trans h.output, Nat.le_trans h.size hb.size, fun k hk hn => (Below.heap_setCell w p u k (fun e => by subst e; rcases hp with h1 | h1; exact hn h1; omega)).trans (h.block k hk hn)⟩
theorem off_grown {O : Nat → Prop} {a w w' : World} {row : Option Nat} (h : Off O a w) (hg : w.grownBy w' row) (hr : ∀ k, row = some k → O k ∨ a.heap.size ≤ k) : Off O a w' :=
  ⟨hg.os.trans h.os, hg.tape.trans h.tape, hg.output.trans h.output, Nat.le_trans h.size hg.size, fun k hk hn => (hg.block k (Nat.lt_of_lt_of_le hk h.size) (fun e => by rcases hr k e.symm with h1 | h1; exact hn h1; omega)).trans (h.block k hk hn)⟩
theorem off_cell {O : Nat → Prop} {a b : World} (h : Off O a b) {p : Addr} (hp : p.block < a.heap.size) (hn : ¬ O p.block) : b.cell? p = a.cell? p := World.cell?_of_block (h.block _ hp hn)
theorem off_frozen {O : Nat → Prop} {a b : World} (h : Off O a b) {p : Addr} (hp : p.block < a.heap.size) (hn : ¬ O p.block) : b.frozen? p = a.frozen? p := World.frozen?_of_block (h.block _ hp hn)
theorem lt_of_some {w : World} {b : Nat} {o : Obj} (h : w.heap[b]? = some o) : b < w.heap.size := (Array.getElem?_eq_some_iff.1 h).1

/-- A row's value and its block. -/
theorem own_form {w : World} {B : Nat} {e : TypeId} {size : Nat} {v : Value} {n : Nat} {xs : List Value} (h : w.ownsRow B e size v n xs) : ∃ a c, v = .slice a n c := by
  rcases h.2 with ⟨rfl, rfl⟩ | ⟨g, cap, cur, rfl, _⟩
  · exact ⟨_, _, rfl⟩
  · exact ⟨_, _, rfl⟩
theorem own_off {O : Nat → Prop} {w w' : World} {B : Nat} {e : TypeId} {size : Nat} {v : Value} {n : Nat} {xs : List Value} (h : w.ownsRow B e size v n xs) (ho : Off O w w') (hn : ∀ k, v.ownBlock = some k → ¬ O k) : w'.ownsRow B e size v n xs := by
  refine ⟨h.1, ?_⟩
  rcases h.2 with h0 | ⟨g, cap, cur, rfl, hg, hh, rest⟩
  · exact .inl h0
  · exact .inr ⟨g, cap, cur, rfl, hg, (ho.block g (lt_of_some hh) (hn g rfl)).trans hh, rest⟩
theorem own_zero {w : World} {B : Nat} {e : TypeId} {size : Nat} {v : Value} {n : Nat} {xs : List Value} (h : w.ownsRow B e size v n xs) : w.ownsRow 0 e size v n xs := by
  refine ⟨h.1, ?_⟩
  rcases h.2 with h0 | ⟨g, cap, cur, hv, hg, rest⟩
  · exact .inl h0
  · exact .inr ⟨g, cap, cur, hv, Nat.zero_le _, rest⟩
theorem own_cell {w : World} {B : Nat} {e : TypeId} {size : Nat} {v : Value} {n : Nat} {xs : List Value} (h : w.ownsRow B e size v n xs) {g c : Nat} (hv : v = .slice (some ⟨g, 0, none⟩) n c) (j : Nat) (hj : j < xs.length) : w.cell? ⟨g, j, none⟩ = some (xs.getD j undef) := by
  have e : (⟨g, 0, none⟩ : Addr).add j = ⟨g, j, none⟩ := by unfold Addr.add; split <;> simp_all
  rw [← e]
  refine h.cells (g := g) (by rw [hv]; rfl) j _ ?_
  rw [List.getD_eq_getElem?_getD, List.getElem?_eq_getElem hj]; rfl
theorem own_pos {w : World} {B : Nat} {e : TypeId} {size : Nat} {v : Value} {n : Nat} {xs : List Value} (h : w.ownsRow B e size v n xs) (hn : 0 < n) : ∃ g c, v = .slice (some ⟨g, 0, none⟩) n c ∧ B ≤ g ∧ g < w.heap.size ∧ n ≤ c ∧ c ≤ maxLen := by
  rcases h.2 with ⟨_, h0⟩ | ⟨g, cap, cur, hv, hb, hg, h1, h2, _⟩
  · omega
  · exact ⟨g, cap, hv, hb, lt_of_some hg, h1, h2⟩
theorem map_off {O : Nat → Prop} {w w' : World} {H : Type} {P : Program} {k : TypeId} {R : Value → Option (DataW H × List MemPlace)} {b n : Nat} {D : DataW H} (h : w.ownsMap P k R b n D) (ho : Off O w w') (hn : ¬ O b) : w'.ownsMap P k R b n D := by
  have hlt := h.lt
  obtain ⟨es, clock, hb, F, hs, hD⟩ := h
  exact ⟨es, clock, (ho.block b hlt hn).trans hb, F, hs, hD⟩
end Go.Proofs.YtkimhfajfbcdmaaGreatDoor

/- Contracts of isRange and both Checks. -/
namespace Go.Proofs.YtkimhfajfbcdmaaGreatDoor
open Go.RowKit


/-- A row of ranges lies there. -/
def RowAt (w : World) (a : Option Addr) (l : List Rng) : Prop :=
  l = [] ∨ ∃ b off, a = some ⟨b, off, none⟩ ∧ b < w.heap.size ∧ ∀ j, j < l.length → w.cell? ⟨b, off + j * 2, none⟩ = some (.int .i32 (l.getD j (0, 0)).1) ∧ w.cell? ⟨b, off + j * 2 + 1, none⟩ = some (.int .i32 (l.getD j (0, 0)).2)
theorem rowAt_below {w w' : World} {a : Option Addr} {l : List Rng} (h : RowAt w a l) {B : Nat} (hB : w.heap.size ≤ B) (hb : Below B w w') : RowAt w' a l := by
  rcases h with rfl | ⟨b, off, rfl, hlt, hc⟩
  · exact .inl rfl
  · refine .inr ⟨b, off, rfl, Nat.lt_of_lt_of_le hlt hb.size, fun j hj => ?_⟩
    rw [hb.cell (by show b < B; omega), hb.cell (by show b < B; omega)]
    exact hc j hj

set_option maxHeartbeats 1000000 in
theorem isRange_any (x y : Int) (w : World) :
    Calls Tryz.prog 24 #[.agg #[.int .i32 x, .int .i32 y]] w fun e w' => e = .returned (.bool (isR (x, y))) ∧ w' = w.alloc (.cells #[.int .i32 x, .int .i32 y] 45) := by
  by_cases h1 : 0 ≤ x
  · by_cases h2 : x ≤ y
    · go_enter Tryz.func24, Tryz.ntmps24
      go_wp2
      all_goals (go_ret; refine ⟨ret_bool ?_, rfl⟩; simp only [isR]; rw [Bool.eq_iff_iff]; simp; omega)
    · go_enter Tryz.func24, Tryz.ntmps24
      go_wp2
      all_goals (go_ret; refine ⟨ret_bool ?_, rfl⟩; simp only [isR]; rw [Bool.eq_iff_iff]; simp; omega)
  · go_enter Tryz.func24, Tryz.ntmps24
    go_wp2
    all_goals (go_ret; refine ⟨ret_bool ?_, rfl⟩; simp only [isR]; rw [Bool.eq_iff_iff]; simp; omega)
end Go.Proofs.YtkimhfajfbcdmaaGreatDoor

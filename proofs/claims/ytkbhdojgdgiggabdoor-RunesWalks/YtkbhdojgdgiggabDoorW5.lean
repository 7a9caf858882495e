/- What the walk of RunesWalks leans on: blocks that stay. -/
import Derived.Test.YtkbhdojgdgiggabDoorW3
import Derived.Laws.EntriesVeiled
namespace Go.Proofs.YtkbhdojgdgiggabDoor
open Go.RowKit

/-- All but one block is as it was. -/
def OffG (g : Nat) (W W' : World) : Prop := W.heap.size ≤ W'.heap.size ∧ ∀ k, k < W.heap.size → k ≠ g → W'.heap[k]? = W.heap[k]?
theorem offG_t {g : Nat} {A B C : World} (h : OffG g A B) (k : OffG g B C) : OffG g A C := ⟨Nat.le_trans h.1 k.1, fun j hj hn => (k.2 j (Nat.lt_of_lt_of_le hj h.1) hn).trans (h.2 j hj hn)⟩
theorem offG_grown {g : Nat} {A B : World} (h : A.grownBy B (some g)) : OffG g A B := ⟨h.size, fun k hk hn => h.block k hk (fun e => hn (by cases e; rfl))⟩
theorem boxed_off {W W' : World} {g B : Nat} {t : TypeId} {v : Value} (h : Boxed W B t v) (hn : B ≠ g) (hb : OffG g W W') : Boxed W' B t v := (hb.2 B h.lt hn).trans h
/-- All but some blocks are as they were. -/
def Off (O : Nat → Prop) (W W' : World) : Prop := W.heap.size ≤ W'.heap.size ∧ ∀ k, k < W.heap.size → ¬ O k → W'.heap[k]? = W.heap[k]?
theorem off_refl (O : Nat → Prop) (W : World) : Off O W W := ⟨Nat.le_refl _, fun _ _ _ => rfl⟩
theorem off_t {O : Nat → Prop} {A B C : World} (h : Off O A B) (k : Off O B C) : Off O A C := ⟨Nat.le_trans h.1 k.1, fun j hj hn => (k.2 j (Nat.lt_of_lt_of_le hj h.1) hn).trans (h.2 j hj hn)⟩
theorem off_set {O : Nat → Prop} (W : World) (b : Nat) (v : Value) (h : O b) : Off O W (W.setCell ⟨b, 0, none⟩ v) :=
  ⟨(grownBy_setCell' W b v).size, fun k hk hn => (grownBy_setCell' W b v).block k hk (fun e => hn (by cases e; exact h))⟩
theorem off_below {O : Nat → Prop} {A B : World} (h : Below A.heap.size A B) : Off O A B := ⟨h.size, fun k hk _ => h.block k hk⟩
theorem off_own {O : Nat → Prop} {β : Type} (W0 : World) : OwnFrom W0.heap.size (fun (_ : β) W => Off O W0 W) := fun _ X Y row hs hg hr =>
  ⟨Nat.le_trans hs.1 hg.size, fun k hk hn => (hg.block k (Nat.lt_of_lt_of_le hk hs.1) (fun e => by have := (hr k e.symm).1; omega)).trans (hs.2 k hk hn)⟩
theorem off_keep {O : Nat → Prop} {A B : World} (h : Off O A B) : Keep O A B := ⟨h.1, fun p v hn hv => by
  have hb := h.2 p.block (World.block_lt_of_cell? A p hv) hn
  simp only [World.cell?] at hv ⊢
  rw [hb]; exact hv⟩
theorem keep_b {O : Nat → Prop} {w : World} (W : World) (l : Nat) (o o' : Obj) (_ : w.heap.size ≤ l) (h : W.heap[l]? = some o) (hc : o.isCells = false) (_ : o.isWalk = false) : Keep O W (W.putObj l o') :=
  ⟨(grownBy_putObj' W l o').size, fun p v _ hv => by
    have hne : p.block ≠ l := fun e => by
      simp only [World.cell?] at hv
      rw [e, h] at hv
      cases o <;> simp [Obj.isCells] at hc hv
    have hb := (grownBy_putObj' W l o').block p.block (World.block_lt_of_cell? W p hv) (fun e => hne (by cases e; rfl))
    simp only [World.cell?] at hv ⊢
    rw [hb]; exact hv⟩
theorem boxed_offS {W W' : World} {O : Nat → Prop} {B : Nat} {t : TypeId} {v : Value} (h : Boxed W B t v) (hn : ¬ O B) (hb : Off O W W') : Boxed W' B t v := (hb.2 B h.lt hn).trans h
theorem func_nil (f : Fn) (x y : Array Value) (w : World) : (binOp .eql 50 (.func f x y) .nilFunc).run Tryd.prog w = .ok (.bool false) w := by
  simp only [binOp, Op.equal, Sem.run_bind]
  rw [show Op.maxDepth = (Op.maxDepth - 1) + 1 by decide]
  simp [Op.equalIn, Sem.run_bind, run_underlying Tryd.underlying50, go_sem]
theorem next_rune {l : List Rng} {pre : List Int} {x : Int} (h : pre ++ [x] <+: runesL (keptL l)) : pre.getLast?.getD (-1) < x ∧ hasB l x = true := by
  have hk := kept_set l
  have hp := (runes_rise hk.2.1).sublist h.sublist
  rw [List.pairwise_append] at hp
  have hx : hasB (keptL l) x = true := (runes_mem _ _).1 (h.subset (by simp))
  have h0 := hasB_isR hk.1 hx
  refine ⟨?_, ?_⟩
  · cases hl : pre.getLast? with
    | none => simp; omega
    | some y =>
      have hy : y ∈ pre := List.mem_of_getLast? hl
      exact hp.2.2 y hy x (by simp)
  · unfold keptL at hx
    split at hx
    · exact hx
    · simp [hasB_nil] at hx
theorem keepsFrom_below {B : Nat} {W W' : World} (h : Below W.heap.size W W') : KeepsFrom B W W' := ⟨h.size, fun i _ _ hi _ => (h.block i (Array.getElem?_eq_some_iff.1 hi).1).trans hi⟩
end Go.Proofs.YtkbhdojgdgiggabDoor

/- slices.Sort at rune: a row of runes in a block of its own; cmp.Less; insertionSortOrdered. -/
import Derived.Test.YtkbhdojgdgiggabDoorV1
import Derived.Deep.RegionHeld3
import Derived.Deep.QuietTactic
import Derived.BigQuiet
import Derived.Laws.OwnMore
import Derived.Sort.LotA
import Derived.Sort.LotB
import Derived.Sort.LotC
namespace Go.Proofs.YtkbhdojgdgiggabDoor
open Go.RowKit Go.Sort

/-- A row of n runes lies in block b. -/
def RW (w : World) (b cap n : Nat) (d : Array Int) : Prop := d.size = n ∧ w.ownsRow b 21 1 (.slice (some ⟨b, 0, none⟩) n cap) n (d.toList.map (Value.int .i32))
/-- All but block b is as it was. -/
def OfB (b : Nat) (w w' : World) : Prop := w.heap.size ≤ w'.heap.size ∧ (∀ k, k < w.heap.size → k ≠ b → w'.heap[k]? = w.heap[k]?) ∧ w'.os = w.os ∧ w'.tape = w.tape ∧ w'.output = w.output
theorem ofB_refl (b : Nat) (w : World) : OfB b w w := ⟨Nat.le_refl _, fun _ _ _ => rfl, rfl, rfl, rfl⟩
theorem ofB_t {b : Nat} {A B C : World} (h : OfB b A B) (k : OfB b B C) : OfB b A C := ⟨Nat.le_trans h.1 k.1, fun j hj hn => (k.2.1 j (Nat.lt_of_lt_of_le hj h.1) hn).trans (h.2.1 j hj hn), k.2.2.1.trans h.2.2.1, k.2.2.2.1.trans h.2.2.2.1, k.2.2.2.2.trans h.2.2.2.2⟩
theorem ofB_grown {b : Nat} {A B : World} (h : A.grownBy B (some b)) : OfB b A B := ⟨h.size, fun k hk hn => h.block k hk (fun e => hn (by cases e; rfl)), h.os, h.tape, h.output⟩
theorem ofB_drew {b : Nat} {A B : World} (q : Nat) (h : OfB b A B) : OfB b A (B.drewN q) := h
theorem rw_drew {w : World} {b cap n : Nat} {d : Array Int} (q : Nat) (h : RW w b cap n d) : RW (w.drewN q) b cap n d := h
theorem rw_cell {w : World} {b cap n : Nat} {d : Array Int} (h : RW w b cap n d) (i : Nat) (hi : i < n) : w.cell? ⟨b, i, none⟩ = some (.int .i32 d[i]!) := by
  rw [h.2.cellAt i (by omega)]
  have := h.1
  simp [this ▸ hi]
theorem rw_frozen {w : World} {b cap n : Nat} {d : Array Int} (h : RW w b cap n d) (i : Nat) : w.frozen? ⟨b, i, none⟩ = false := h.2.frozenAt i
theorem rw_swp {w : World} {b cap n : Nat} {d : Array Int} (h : RW w b cap n d) (i j : Nat) :
    RW ((w.setCell ⟨b, i, none⟩ (.int .i32 d[j]!)).setCell ⟨b, j, none⟩ (.int .i32 d[i]!)) b cap n (swp d i j) ∧ OfB b w ((w.setCell ⟨b, i, none⟩ (.int .i32 d[j]!)).setCell ⟨b, j, none⟩ (.int .i32 d[i]!)) := by
  have s1 := h.2.stored i (.int .i32 d[j]!)
  have s2 := s1.1.stored j (.int .i32 d[i]!)
  refine ⟨⟨by rw [size_swp]; exact h.1, ?_⟩, ofB_t (ofB_grown s1.2) (ofB_grown s2.2)⟩
  have e : (swp d i j).toList.map (Value.int .i32) = ((d.toList.map (Value.int .i32)).set i (.int .i32 d[j]!)).set j (.int .i32 d[i]!) := by
    simp [swp, Array.toList_setIfInBounds, List.map_set]
  rw [e]; exact s2.1

theorem nan_same (x : Int) (w : World) : Calls Tryd.prog 82 #[.int .i32 x] w fun e w' => e = .returned (.bool false) ∧ w' = w := by
  go_enter Tryd.func82, Tryd.ntmps82
  go_wp2
  go_ret
  simp
theorem less_same (x y : Int) (w : World) : Calls Tryd.prog 67 #[.int .i32 x, .int .i32 y] w fun e w' => e = .returned (.bool (decide (x < y))) ∧ w' = w := by
  have HN := hide (nan_same x)
  go_enter Tryd.func67, Tryd.ntmps67
  go_wp2_with fail
  refine (unhide HN _).mono ?_
  rintro e w' ⟨rfl, hw⟩
  obtain rfl := hw.symm
  go_wp2
  go_ret
  simp
end Go.Proofs.YtkbhdojgdgiggabDoor

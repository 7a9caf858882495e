/- Contract of All. -/
import Derived.Test.YtkbhdojgdgiggabDoorW2
namespace Go.Proofs.YtkbhdojgdgiggabDoor
open Go.RowKit Go.Shelf

theorem boxed_below {W W' : World} {n B : Nat} {t : TypeId} {v : Value} (h : Boxed W B t v) (hn : B < n) (hb : Below n W W') : Boxed W' B t v := (hb.block B hn).trans h
set_option maxHeartbeats 2000000 in
set_option maxRecDepth 100000 in
theorem all_any (a : Option Addr) (cap : Nat) (l : List Rng) (hl : l.length ≤ 281474976710656) (w : World) (hrow : RowAt w a l) :
    Calls Tryd.prog 22 #[.slice a l.length cap] w fun e w' => e = .returned (.func (.func 42) #[] #[.pointer (some ⟨w.heap.size, 0, none⟩)]) ∧
      (∃ v, Boxed w' w.heap.size 22 v ∧ w'.ownsRow (w.heap.size + 1) 53 2 v (keptL l).length (flat (keptL l))) ∧ Below w.heap.size w w' := by
  have hb0 : Below w.heap.size w (w.alloc (.cells #[.slice none 0 0] 22)) := (Below.refl _ _).alloc (Nat.le_refl _) _
  have hx := Boxed.new w 22 (.slice none 0 0)
  have hs0 : (w.alloc (.cells #[.slice none 0 0] 22)).heap.size = w.heap.size + 1 := World.size_alloc _ _
  have hrow1 := rowAt_below hrow (Nat.le_refl _) hb0
  have HC := hide (check_any a cap l hl _ hrow1)
  by_cases hc : checkV l = 0
  · have Hk : Hid (keptL l = l) := hide (if_pos hc)
    have hle := (checkV_zero hc).2
    have HL := hide (fun w' (hb : Below (w.alloc (.cells #[.slice none 0 0] 22)).heap.size (w.alloc (.cells #[.slice none 0 0] 22)) w') => clone_any a cap l (by omega) w' (rowAt_below hrow1 (Nat.le_refl _) hb))
    rw [hc] at HC
    have Hx := hide hx; have Hb0 := hide hb0
    clear hc hrow hrow1 hx hb0
    go_enter Tryd.func22, Tryd.ntmps22
    go_wp2_with fail
    refine (unhide HC).mono ?_
    rintro e w1 ⟨rfl, hb1⟩
    have HL1 := hide (unhide HL w1 hb1)
    have Hb1 := hide hb1
    clear hb1 HL
    go_wp2_with fail
    refine (unhide HL1).mono ?_
    rintro e w2 ⟨v, rfl, hown, hb2⟩
    have hb12 := (unhide Hb1).trans (below_le hb2 (unhide Hb1).size)
    have bx := boxed_below (unhide Hx) (by omega) hb12
    have hcell := bx.cell
    have hfr := bx.frozen
    have Hbx := hide bx; have Hb12 := hide hb12; have Hown := hide hown
    have hsz := (unhide Hb1).size
    obtain ⟨va, vc, rfl⟩ := ownsRow_slice hown
    clear hown hb2 bx hb12
    go_wp2
    go_ret
    rw [unhide Hk]
    exact ⟨rfl, ⟨_, (unhide Hbx).set _, ownsRow_setCell_below (ownsRow_le (unhide Hown) (by omega)) (by show w.heap.size < w.heap.size + 1; omega) _⟩,
      ((unhide Hb0).trans (below_le (unhide Hb12) (by omega))).setCell (p := ⟨w.heap.size, 0, none⟩) (Nat.le_refl _) _⟩
  · have Hk : Hid (keptL l = []) := hide (if_neg hc)
    have hc' : (checkV l == 0) = false := by simpa using hc
    have Hx := hide hx; have Hb0 := hide hb0
    clear hc hrow hrow1 hx hb0
    generalize checkV l = c at *
    go_enter Tryd.func22, Tryd.ntmps22
    go_wp2_with fail
    refine (unhide HC).mono ?_
    rintro e w1 ⟨rfl, hb1⟩
    have Hb1 := hide hb1
    clear hb1
    go_wp2
    go_ret
    rw [unhide Hk]
    exact ⟨rfl, ⟨_, boxed_below (unhide Hx) (by omega) (unhide Hb1), ⟨rfl, .inl ⟨rfl, rfl⟩⟩⟩, (unhide Hb0).trans (below_le (unhide Hb1) (by omega))⟩
end Go.Proofs.YtkbhdojgdgiggabDoor

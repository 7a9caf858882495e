/- Sort of rows of numbers. -/
import Derived.Test.YtkimhfajfbcdmaaGreatDoorS2
import Derived.Test.YtkimhfajfbcdmaaGreatDoorS3
import Derived.Shelf.Slices.In.SortNone
namespace Go.Proofs.YtkimhfajfbcdmaaGreatDoor
open Go.RowKit Go.Sort

theorem own_grow {W : World} {B n : Nat} {e : TypeId} {size : Nat} {v : Value} {xs : List Value} (h : W.ownsRow B e size v n xs) (os : Array Obj) : (grow W os).ownsRow B e size v n xs :=
  own_off (O := fun _ => False) h ⟨rfl, rfl, rfl, by rw [size_grow]; omega, fun _ hk _ => heap_grow_old W os hk⟩ (fun _ _ h => h)
theorem sortI_any (B : Nat) (a : Option Addr) (c : Nat) (xs : List Int) (hn : xs.length ≤ 281474976710656) (w : World) (h : w.ownsRow B 3 1 (.slice a xs.length c) xs.length (intV xs)) :
    Calls Tryz.prog 99 #[.slice a xs.length c] w fun e w' => e = .returned (.tuple #[]) ∧ w'.ownsRow B 3 1 (.slice a xs.length c) xs.length (intV (xs.mergeSort fun x y => decide (x ≤ y))) ∧ Below B w w' := by
  by_cases h0 : xs.length = 0
  · obtain rfl : xs = [] := List.length_eq_zero_iff.1 h0
    have hc := Any.slices_Sort_int_none Tryz.lays189 a c w
    refine hc.mono ?_
    rintro e w' ⟨rfl, rfl⟩
    exact ⟨rfl, by simpa using h, Below.refl _ _⟩
  · obtain ⟨g, c', hv, hg, hlt, hle, hmx⟩ := own_pos h (by omega)
    simp only [Value.slice.injEq] at hv
    obtain ⟨rfl, -, rfl⟩ := hv
    have hc := Any.slices_Sort_int Tryz.lays189 g 0 c xs w (holds_own h) hlt (by omega)
    refine hc.mono ?_
    rintro e w' ⟨rfl, q, os, rfl⟩
    have h1 := own_put h q (xs.mergeSort fun x y => decide (x ≤ y)) [] (by simp)
    rw [List.append_nil, List.length_mergeSort] at h1
    have hoff := put_offI w q g 0 (xs.mergeSort fun x y => decide (x ≤ y)).toArray
    refine ⟨rfl, own_grow h1 os, ?_⟩
    refine ⟨rfl, rfl, rfl, by rw [size_grow]; exact Nat.le_trans hoff.size (Nat.le_add_right _ _), fun k hk => ?_⟩
    rw [heap_grow_old _ os (by have := hoff.size; omega)]
    exact hoff.block k (by omega) (by omega)
end Go.Proofs.YtkimhfajfbcdmaaGreatDoor

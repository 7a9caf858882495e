/- DeleteFunc of a row of numbers. -/
import Derived.Test.YtkimhfajfbcdmaaGreatDoorS4
import Derived.Test.YtkimhfajfbcdmaaGreatDoorS5
namespace Go.Proofs.YtkimhfajfbcdmaaGreatDoor
open Go.RowKit Go.Sort Go.Shelf

set_option maxRecDepth 100000 in
theorem idle_any (ib : Nat) (idle x : Int) (w : World) (hb : w.cell? ⟨ib, 0, none⟩ = some (.int .i64 idle)) :
    Calls Tryz.prog 93 #[.int .i64 x, .pointer (some ⟨ib, 0, none⟩)] w fun e w' => e = .returned (.bool (x == idle)) ∧ w' = w := by
  go_enter Tryz.func93, Tryz.ntmps93
  go_wp2
  go_ret
  exact ⟨rfl, rfl⟩
set_option maxRecDepth 100000 in
theorem index0_any (a : Option Addr) (c : Nat) (f : Value) (w : World) :
    Calls Tryz.prog 83 #[.slice a 0 c, f] w fun e w' => e = .returned (.int .i64 (-1)) ∧ w' = w := by
  go_enter Tryz.func83, Tryz.ntmps83
  go_wp2
  go_loop [8] (fun x => x = .int .i64 0) (fun _ => 0)
  case atStart => rfl
  case round =>
    subst hrel
    go_wp2
    go_ret
    exact ⟨rfl, rfl⟩
set_option maxRecDepth 100000 in
theorem delete0_any (a : Option Addr) (c : Nat) (f : Value) (w : World) :
    Calls Tryz.prog 92 #[.slice a 0 c, f] w fun e w' => e = .returned (.slice a 0 c) ∧ w' = w := by
  have HI := hide (index0_any a c f w)
  go_enter Tryz.func92, Tryz.ntmps92
  go_wp2_with fail
  refine (unhide HI).mono ?_
  rintro e w' ⟨rfl, hw⟩
  obtain rfl := hw.symm
  go_wp2
  go_ret
  exact ⟨rfl, rfl⟩
theorem deleteI_any (B : Nat) (a : Option Addr) (c : Nat) (xs : List Int) (hn : xs.length ≤ 281474976710656) (w : World) (h : w.ownsRow B 3 1 (.slice a xs.length c) xs.length (intV xs)) (ib : Nat) (idle : Int) (hib : w.cell? ⟨ib, 0, none⟩ = some (.int .i64 idle)) (hB : ib < B) (hBw : B ≤ w.heap.size) :
    Calls Tryz.prog 92 #[.slice a xs.length c, .func (.func 93) #[] #[.pointer (some ⟨ib, 0, none⟩)]] w fun e w' => e = .returned (.slice a (xs.filter fun x => !(x == idle)).length c) ∧ w'.ownsRow B 3 1 (.slice a (xs.filter fun x => !(x == idle)).length c) (xs.filter fun x => !(x == idle)).length (intV (xs.filter fun x => !(x == idle))) ∧ Below B w w' := by
  by_cases h0 : xs.length = 0
  · obtain rfl : xs = [] := List.length_eq_zero_iff.1 h0
    refine (delete0_any a c _ w).mono ?_
    rintro e w' ⟨rfl, rfl⟩
    exact ⟨rfl, h, Below.refl _ _⟩
  · obtain ⟨g, c', hv, hg, hlt, hle, hmx⟩ := own_pos h (by omega)
    simp only [Value.slice.injEq] at hv
    obtain ⟨rfl, -, rfl⟩ := hv
    have hp : PredAt Tryz.prog 93 #[.pointer (some ⟨ib, 0, none⟩)] (Value.int .i64) (fun x => x == idle) w := fun W x hb => by
      refine (idle_any ib idle x W ((World.cell?_of_block (a := ⟨ib, 0, none⟩) (hb.block ib (by omega))).trans hib)).mono ?_
      rintro e w' ⟨rfl, rfl⟩
      exact ⟨rfl, 0, rfl⟩
    have hpo : PredOver Tryz.prog 93 #[.pointer (some ⟨ib, 0, none⟩)] (Value.int .i64) (fun x => x == idle) g 0 xs.toArray.size w := fun n os dk x hd => by
      refine (idle_any ib idle x _ ?_).mono ?_
      · unfold sortWorld
        rw [cell?_grow _ os _ (by rw [size_putRow]; show ib < w.heap.size; omega), cell?_putRow_other _ _ _ _ _ _ (.inl (by show ib ≠ g; omega))]
        exact hib
      · rintro e w' ⟨rfl, rfl⟩
        exact ⟨rfl, 0, rfl⟩
    have hc := AnyE.slices_DeleteFunc (ρ := Tryz.delI_ren) Tryz.delI (Value.int .i64) (fun _ => rfl) (fun x => x == idle) 93 #[.pointer (some ⟨ib, 0, none⟩)] (enters_of Tryz.func93 (by kernel_rfl) rfl) 0 Tryz.zeroValue3 g 0 c xs.toArray w hp hpo (holds_own h) (by simp; omega) (by simpa using hle)
    simp only [List.size_toArray] at hc
    refine hc.mono ?_
    rintro e w' ⟨rfl, q, rfl⟩
    have hfl := List.length_filter_le (fun x => !(x == idle)) xs
    exact ⟨rfl, own_put h q (xs.filter fun x => !(x == idle)) _ (by simp; omega), off_to (put_offI w q g 0 _) (fun i hi => by omega) (by omega)⟩
end Go.Proofs.YtkimhfajfbcdmaaGreatDoor

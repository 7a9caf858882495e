/- Compact and Equal of rows of numbers. -/
import Derived.Test.YtkimhfajfbcdmaaGreatDoorS1
import Derived.Test.YtkimhfajfbcdmaaGreatDoorQE
namespace Go.Proofs.YtkimhfajfbcdmaaGreatDoor
open Go.RowKit Go.Sort

theorem holds_own {W : World} {B b cap : Nat} {xs : List Int} (h : W.ownsRow B 3 1 (.slice (some ⟨b, 0, none⟩) xs.length cap) xs.length (intV xs)) : Holds (Value.int .i64) W b 0 xs.toArray := fun j hj => by
  have hj' : j < xs.length := by simpa using hj
  rw [Nat.zero_add]
  refine ⟨?_, ?_⟩
  · rw [own_cell h rfl j (by rw [intV_length]; exact hj')]
    unfold intV
    simp [List.getD_eq_getElem?_getD, hj']
  · rcases h.2 with ⟨h1, _⟩ | ⟨g, cap', cur, h1, _, h3, _⟩
    · cases h1
    · simp only [Value.slice.injEq, Option.some.injEq, Addr.mk.injEq] at h1
      obtain ⟨⟨rfl, -⟩, -⟩ := h1
      exact frozen_block h3 j
theorem put_offI (W : World) (q b off : Nat) (d : Array Int) : Off (fun k => k = b) W (putRow (Value.int .i64) (Sort.ahead W q) b off d) :=
  ⟨rfl, rfl, rfl, by rw [size_putRow]; exact Nat.le_refl _, fun k _ hn => by
    show (W.heap.modify b _)[k]? = _
    rw [Array.getElem?_modify, if_neg (by omega)]⟩
theorem own_put {W : World} {B b cap : Nat} {xs : List Int} (h : W.ownsRow B 3 1 (.slice (some ⟨b, 0, none⟩) xs.length cap) xs.length (intV xs)) (q : Nat) (l m : List Int) (hl : (l ++ m).length = xs.length) :
    (putRow (Value.int .i64) (Sort.ahead W q) b 0 (l ++ m).toArray).ownsRow B 3 1 (.slice (some ⟨b, 0, none⟩) l.length cap) l.length (intV l) := by
  have hH := holds_own h
  rcases h.2 with ⟨h1, _⟩ | ⟨g, cap', cur, h1, hB, h3, hn, hm, hs, _⟩
  · cases h1
  simp only [Value.slice.injEq, Option.some.injEq, Addr.mk.injEq] at h1
  obtain ⟨⟨rfl, -⟩, -, rfl⟩ := h1
  have hl' : l.length + m.length = xs.length := by simpa using hl
  refine ⟨by rw [intV_length]; omega, .inr ⟨b, cap, putCells (Value.int .i64) 0 (l ++ m).toArray cur, rfl, hB, ?_, by omega, hm, by simpa [putCells] using hs, ?_⟩⟩
  · show (W.heap.modify b _)[b]? = _
    rw [Array.getElem?_modify, if_pos rfl, h3]
    rfl
  · refine List.ext_getElem? fun j => ?_
    by_cases hj : j < l.length
    · rw [List.getElem?_take_of_lt (by omega), Array.getElem?_toList]
      unfold putCells intV
      rw [Array.getElem?_mapIdx, Array.getElem?_eq_getElem (by omega), List.getElem?_map, List.getElem?_eq_getElem hj]
      simp only [Option.map_some]
      rw [if_pos ⟨Nat.zero_le _, by simp; omega⟩]
      simp [List.getElem?_append_left hj, hj]
    · rw [List.getElem?_eq_none (by simp; omega), List.getElem?_eq_none (by rw [intV_length]; omega)]

theorem compact_le (l : List Int) : (Lib.compact l).length ≤ l.length := by
  unfold Lib.compact Lib.compactUpTo
  rw [List.length_map]
  exact Nat.le_trans (List.length_filter_le _ _) (by simp)
theorem compactI_any (B : Nat) (a : Option Addr) (c : Nat) (xs : List Int) (hn : xs.length ≤ 281474976710656) (w : World) (h : w.ownsRow B 3 1 (.slice a xs.length c) xs.length (intV xs)) :
    Calls Tryz.prog 100 #[.slice a xs.length c] w fun e w' => e = .returned (.slice a (Lib.compact xs).length c) ∧ w'.ownsRow B 3 1 (.slice a (Lib.compact xs).length c) (Lib.compact xs).length (intV (Lib.compact xs)) ∧ Below B w w' := by
  by_cases h0 : xs.length = 0
  · obtain rfl : xs = [] := List.length_eq_zero_iff.1 h0
    have hc := Any.slices_Compact_int_empty Tryz.laysNm220 a c w
    refine hc.mono ?_
    rintro e w' ⟨rfl, rfl⟩
    exact ⟨rfl, h, Below.refl _ _⟩
  · obtain ⟨g, c', hv, hg, hlt, hle, hmx⟩ := own_pos h (by omega)
    simp only [Value.slice.injEq] at hv
    obtain ⟨rfl, -, rfl⟩ := hv
    have hc := Any.slices_Compact_int Tryz.laysNm220 g 0 c xs w (holds_own h) (by omega) hle
    refine hc.mono ?_
    rintro e w' ⟨rfl, q, rfl⟩
    have hcl := compact_le xs
    exact ⟨rfl, own_put h q (Lib.compact xs) _ (by simp; omega), off_to (off_mono (put_offI w q g 0 _) (O' := fun k => k = g) (fun i hi => .inl hi)) (fun i hi => by omega) (by omega)⟩
end Go.Proofs.YtkimhfajfbcdmaaGreatDoor

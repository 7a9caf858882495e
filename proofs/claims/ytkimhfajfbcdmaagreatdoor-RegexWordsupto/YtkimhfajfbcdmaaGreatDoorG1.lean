/- Pools: a number behind a row of bytes. -/
import Derived.Test.YtkimhfajfbcdmaaGreatDoorQA
import Derived.Laws.AppendOwn
namespace Go.Proofs.YtkimhfajfbcdmaaGreatDoor
open Go.RowKit Go.Maps

theorem cell_block {w : World} {B : Nat} {cs : Array Value} {t : TypeId} (h : w.heap[B]? = some (.cells cs t (0, 0))) (j : Nat) (v : Value) (hj : cs[j]? = some v) : w.cell? ⟨B, j, none⟩ = some v := by
  have e : (⟨B, 0, none⟩ : Addr).add j = ⟨B, j, none⟩ := by unfold Addr.add; split <;> simp_all
  rw [← e]
  exact World.news_of_block h j v (by simpa using hj)
theorem frozen_block {w : World} {B : Nat} {cs : Array Value} {t : TypeId} (h : w.heap[B]? = some (.cells cs t (0, 0))) (j : Nat) : w.frozen? ⟨B, j, none⟩ = false := by
  simp [World.frozen?, h]

theorem info_parts {P : Program} {e : TypeId} {z : Option Value} {n b : Nat} (h : (P.info? e).map (fun i => (i.zero, i.size, i.bytes)) = some (z, n, b)) : ∃ i, P.info? e = some i ∧ i.zero = z ∧ i.size = n ∧ i.bytes = b := by
  rw [Option.map_eq_some_iff] at h
  obtain ⟨i, hi, h⟩ := h
  simp only [Prod.mk.injEq] at h
  exact ⟨i, hi, h.1, h.2.1, h.2.2⟩
theorem block_set {w : World} {g i : Nat} {cs : Array Value} {t : TypeId} {fr : Nat × Nat} (h : w.heap[g]? = some (.cells cs t fr)) (v : Value) : (w.setCell ⟨g, i, none⟩ v).heap[g]? = some (.cells (cs.setIfInBounds i v) t fr) := by
  rw [setCell_eq_setRow w g i cs t fr v h]
  exact setRow_heap w g _ _ t _ h
theorem row_not {w : World} {B base : Nat} {cs : Array Value} {t e : TypeId} {f : Nat × Nat} {size n : Nat} {v : Value} {xs : List Value} (hB : w.heap[B]? = some (.cells cs t f)) (hr : w.ownsRow base e size v n xs) (ht : e ≠ t) : v.ownBlock ≠ some B := fun h => by
  rcases hr.2 with ⟨rfl, _⟩ | ⟨g, cap, cur, rfl, _, hh, _⟩
  · simp [Value.ownBlock] at h
  · simp only [Value.ownBlock, Option.some.injEq] at h
    subst h
    rw [hB] at hh
    simp only [Option.some.injEq, Obj.cells.injEq] at hh
    exact ht hh.2.1.symm
theorem hbyte : (Tryz.prog.info? 5).map (fun i => (i.zero, i.size, i.bytes)) = some (some (.int .u8 0), 1, 1) := by kernel_rfl
def byteV (l : List Int) : List Value := l.map fun m => .int .u8 m
theorem byteV_append (a b : List Int) : byteV (a ++ b) = byteV a ++ byteV b := List.map_append
theorem byteV_length (l : List Int) : (byteV l).length = l.length := List.length_map _
theorem byteV_one (l : List Int) : ∀ u ∈ byteV l, u.oneCell' = true := by
  intro u hu
  unfold byteV at hu
  obtain ⟨m, -, rfl⟩ := List.mem_map.1 hu
  rfl
/-- The four bytes of a number, the least first. -/
def le4 (x : Int) : List Int := [x % 256, x / 256 % 256, x / 65536 % 256, x / 16777216 % 256]
set_option maxHeartbeats 2000000 in
set_option maxRecDepth 100000 in
theorem appNum_any (B : Nat) (v : Value) (L : List Int) (hL : L.length ≤ 1073741824) (x : Int) (w : World) (hB : B ≤ w.heap.size) (h : w.ownsRow B 5 1 v L.length (byteV L)) :
    Calls Tryz.prog 68 #[v, .int .u32 x] w fun e w' => ∃ g cap, e = .returned (.slice (some ⟨g, 0, none⟩) (L.length + 4) cap) ∧ w'.ownsRow B 5 1 (.slice (some ⟨g, 0, none⟩) (L.length + 4) cap) (L.length + 4) (byteV (L ++ le4 x)) ∧ Off (fun k => v.ownBlock = some k) w w' ∧ (v.ownBlock = some g ∨ w.heap.size ≤ g) := by
  obtain ⟨i0, hi, hz0, hz1, hz2⟩ := info_parts hbyte
  obtain ⟨va, vc, rfl⟩ := own_form h
  have H := hide h
  clear h
  go_enter Tryz.func68, Tryz.ntmps68
  go_wp2_with (at_builtin; refine wpList_append_lies _ rfl _ _ 58 rfl B 5 i0 (.int .u8 0) 1 1 Tryz.underlying58 hi hz0 hz1 hz2 rfl (by decide) _ _ _ rfl ((unhide H).alloc _) ⟨w.heap.size, 0, none⟩ 4 4 (byteV (le4 x)) rfl rfl ?n1 (byteV_one _) (by decide) (by unfold maxLen; omega) (by omega) (by simp; omega) (w.heap.size + 1) (by simp) ?_)
  case n1 =>
    have h := World.news_of_block (MapKept.heap_alloc w (.cells #[.int .u8 (x % 256), .int .u8 (x / 256 % 256), .int .u8 (x / 65536 % 256), .int .u8 (x / 16777216 % 256)] 5)).1
    simpa [byteV, le4] using h
  intro g cap W2 hown2 hg2 hgv hgl
  rw [← byteV_append] at hown2
  have ho : Off (fun k => (Value.slice va L.length vc).ownBlock = some k) w W2 := off_grown (off_alloc (off_refl _ _) _) hg2 (fun k hk => .inl hk)
  have hgv2 : (Value.slice va L.length vc).ownBlock = some g ∨ w.heap.size ≤ g := hgv.imp id (fun h => by omega)
  have Hown := hide hown2; have Ho := hide ho; have Hgv := hide hgv2
  clear hown2 hg2 hgv hgl ho hgv2
  go_wp2
  go_ret
  exact ⟨g, cap, rfl, unhide Hown, unhide Ho, unhide Hgv⟩
end Go.Proofs.YtkimhfajfbcdmaaGreatDoor

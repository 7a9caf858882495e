/- Contracts of CompareFunc, both Compares, Not and Minus. -/
import Derived.Test.YtkbhdojgdgiggabDoorV16
namespace Go.Proofs.YtkbhdojgdgiggabDoor
open Go.RowKit

theorem cmpR_eq (x y : Rng) : cmpR x y = if x.1 < y.1 then -1 else if y.1 < x.1 then 1 else if x.2 < y.2 then -1 else if y.2 < x.2 then 1 else 0 := by
  unfold cmpR orV Lib.compareInt
  by_cases h1 : x.1 < y.1
  · simp [h1]
  · by_cases h2 : y.1 < x.1
    · simp [h1, h2]
    · by_cases h3 : x.2 < y.2 <;> simp [h1, h2, h3]
theorem orderV_cmp (l m : List Rng) (k : Nat) (hk : k < l.length) (hm : k < m.length) : orderV (l.drop k) (m.drop k) = if cmpR (l.getD k (0, 0)) (m.getD k (0, 0)) = 0 then orderV (l.drop (k + 1)) (m.drop (k + 1)) else cmpR (l.getD k (0, 0)) (m.getD k (0, 0)) := by
  rw [orderV_drop l m k hk hm, cmpR_eq]
  repeat' split
  all_goals first | rfl | (exfalso; omega)
theorem grow_below {w w' : World} (h : ∃ q os', w' = Go.Sort.grow (w.drewN q) os') : Below w.heap.size w w' := by
  obtain ⟨q, os, rfl⟩ := h
  refine ⟨rfl, rfl, rfl, by simp [Go.Sort.grow, World.drewN], fun k hk => ?_⟩
  show (w.heap ++ os)[k]? = _
  rw [Array.getElem?_append_left hk]

/-- Two rows in a new block. -/
theorem setsAt_two {w : World} {a b : Option Addr} {ca cb : Nat} {l m : List Rng} (h1 : RowAt w a l) (h2 : RowAt w b m) : SetsAt (w.alloc (.cells #[.slice a l.length ca, .slice b m.length cb] 22)) (some ⟨w.heap.size, 0, none⟩) [l, m] := by
  have hb : Below w.heap.size w (w.alloc (.cells #[.slice a l.length ca, .slice b m.length cb] 22)) := (Below.refl _ _).alloc (Nat.le_refl _) _
  have hc := World.cell?_alloc_mark w #[.slice a l.length ca, .slice b m.length cb] 22 (0, 0)
  refine .inr ⟨w.heap.size, 0, rfl, by simp, fun i hi => ?_⟩
  have hi2 : i = 0 ∨ i = 1 := by simp at hi; omega
  rcases hi2 with rfl | rfl
  · exact ⟨a, ca, hc 0, rowAt_below h1 (Nat.le_refl _) hb⟩
  · exact ⟨b, cb, hc 1, rowAt_below h2 (Nat.le_refl _) hb⟩
theorem setsAt_one {w : World} {a : Option Addr} {ca : Nat} {l : List Rng} (h1 : RowAt w a l) : SetsAt (w.alloc (.cells #[.slice a l.length ca] 22)) (some ⟨w.heap.size, 0, none⟩) [l] := by
  have hb : Below w.heap.size w (w.alloc (.cells #[.slice a l.length ca] 22)) := (Below.refl _ _).alloc (Nat.le_refl _) _
  have hc := World.cell?_alloc_mark w #[.slice a l.length ca] 22 (0, 0)
  refine .inr ⟨w.heap.size, 0, rfl, by simp, fun i hi => ?_⟩
  have hi2 : i = 0 := by simp at hi; omega
  subst hi2
  exact ⟨a, ca, hc 0, rowAt_below h1 (Nat.le_refl _) hb⟩
theorem chk_two (l m : List Rng) : chkAll [l, m] = if checkV l = 0 then checkV m else checkV l := by
  unfold chkAll chkAll chkAll
  split
  · split <;> simp_all
  · rfl
/-- What Compare answers. -/
def cmpC (l m : List Rng) : Int := chkAll [l, m]
def cmpV (l m : List Rng) : Int := if chkAll [l, m] = 0 then orderV l m else 0
end Go.Proofs.YtkbhdojgdgiggabDoor

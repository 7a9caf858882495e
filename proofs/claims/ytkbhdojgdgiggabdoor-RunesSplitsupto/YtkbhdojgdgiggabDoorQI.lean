/- Contracts of both Class. -/
import Derived.Test.YtkbhdojgdgiggabDoorV11
import Derived.Shelf.SlSorted.Search
import Derived.Sort.Grow
import Derived.RangeFuncBox
import Derived.Deep.QuietTactic
import Derived.BigQuiet
namespace Go.Proofs
open Go.Shelf
def Tryd.searchR_ren : Go.Shelf.Ren := ⟨fun | 16 => 37 | n => n, fun | 35 => 65 | 38 => 79 | 3 => 3 | 4 => 4 | n => n, fun | n => n⟩
theorem Tryd.searchR : Go.Proofs.SlLaysO.n16 Tryd.prog Tryd.searchR_ren := {
  mixed := by kernel_rfl
  f16 := Tryd.func37.trans (congrArg some (by kernel_rfl))
  t3 := Tryd.underlying3
  a3 := Tryd.isAgg3
  z3 := Tryd.sizeOf3
  v3 := Tryd.zeroValue3
  t4 := Tryd.underlying4
  a4 := Tryd.isAgg4
  z4 := Tryd.sizeOf4
  v4 := Tryd.zeroValue4
  t35 := Tryd.underlying65
  a35 := Tryd.isAgg65
  z35 := Tryd.sizeOf65
  v35 := Tryd.zeroValue65
  t38 := Tryd.underlying79
  a38 := Tryd.isAgg79
  z38 := Tryd.sizeOf79
  v38 := Tryd.zeroValue79 }
end Go.Proofs
namespace Go.Proofs.YtkbhdojgdgiggabDoor
open Go.RowKit
open Go.Sort (grow heap_grow_old cell?_grow grow_empty)

theorem below_grow2 {B : Nat} {w : World} (hB : B ≤ w.heap.size) (k : Nat) (os : Array Obj) : Below B w (grow (w.drewN k) os) :=
  ⟨rfl, rfl, rfl, by show w.heap.size ≤ (w.heap ++ os).size; simp, fun i hi => heap_grow_old (w.drewN k) os (show i < w.heap.size by omega)⟩
/-- Between which cuts a rune is. -/
def clsN (L : List Int) (r : Int) (k : Nat) : Nat := (List.range k).countP (fun i => !decide (r < L.getD (i + 1) 0))
theorem clsN_succ (L : List Int) (r : Int) (k : Nat) : clsN L r (k + 1) = clsN L r k + (if L.getD (k + 1) 0 ≤ r then 1 else 0) := by
  unfold clsN
  rw [List.range_succ, List.countP_append, List.countP_cons, List.countP_nil]
  by_cases h : L.getD (k + 1) 0 ≤ r
  · rw [if_pos h, if_pos (by simp only [Bool.not_eq_true', decide_eq_false_iff_not]; omega)]
  · rw [if_neg h, if_neg (by simp only [Bool.not_eq_true', decide_eq_false_iff_not]; omega)]
theorem clsN_le (L : List Int) (r : Int) (k : Nat) : clsN L r k ≤ k := by
  unfold clsN
  have := List.countP_le_length (p := fun i => !decide (r < L.getD (i + 1) 0)) (l := List.range k)
  rw [List.length_range] at this
  exact this

set_option maxHeartbeats 2000000 in
set_option maxRecDepth 100000 in
theorem class1_any (bi br g o n c i : Nat) (r x : Int) (hi : i < n) (X : World) (h1 : X.cell? ⟨bi, 0, none⟩ = some (.slice (some ⟨g, o, none⟩) n c)) (h2 : X.cell? ⟨br, 0, none⟩ = some (.int .i32 r)) (h3 : X.cell? ⟨g, o + i, none⟩ = some (.int .i32 x)) :
    Calls Tryd.prog 38 #[.int .i64 i, .pointer (some ⟨bi, 0, none⟩), .pointer (some ⟨br, 0, none⟩)] X fun e w' => e = .returned (.bool (decide (r < x))) ∧ ∃ q, w' = X.drewN q := by
  have hi' : (i : Int) < n := by omega
  go_enter Tryd.func38, Tryd.ntmps38
  go_wp2
  go_quiet (fail)
  go_wp2
  go_ret
  exact ⟨rfl, _, rfl⟩

theorem search_any (g o n k : Nat) (L : List Int) (hn : n + 1 = L.length) (hup : L.Pairwise (· < ·)) (hL : L.length ≤ 2048) (r : Int) (w : World) (hg : g < w.heap.size) (hc : ∀ i, i < n → w.cell? ⟨g, o + i, none⟩ = some (.int .i32 (L.getD (i + 1) 0))) :
    Calls Tryd.prog 37 #[.int .i64 n, .func (.func 38) #[] #[.pointer (some ⟨w.heap.size + 1, 0, none⟩), .pointer (some ⟨w.heap.size, 0, none⟩)]] ((w.alloc (.cells #[.int .i32 r] 21)).alloc (.cells #[.slice (some ⟨g, o, none⟩) n k] 35)) fun e w' => e = .returned (.int .i64 (clsN L r n : Nat)) ∧ Below w.heap.size w w' := by
  have bR := (Boxed.new w 21 (.int .i32 r)).alloc (.cells #[.slice (some ⟨g, o, none⟩) n k] 35)
  have bI := Boxed.new (w.alloc (.cells #[.int .i32 r] 21)) 35 (.slice (some ⟨g, o, none⟩) n k)
  simp only [World.size_alloc] at bI
  have hbel : Below w.heap.size w ((w.alloc (.cells #[.int .i32 r] 21)).alloc (.cells #[.slice (some ⟨g, o, none⟩) n k] 35)) := ((Below.refl _ w).alloc (Nat.le_refl _) _).alloc (by simp) _
  have hsz : ((w.alloc (.cells #[.int .i32 r] 21)).alloc (.cells #[.slice (some ⟨g, o, none⟩) n k] 35)).heap.size = w.heap.size + 2 := by simp
  have hcs : ∀ i, i < n → ((w.alloc (.cells #[.int .i32 r] 21)).alloc (.cells #[.slice (some ⟨g, o, none⟩) n k] 35)).cell? ⟨g, o + i, none⟩ = some (.int .i32 (L.getD (i + 1) 0)) := fun i hi => (hbel.cell (p := ⟨g, o + i, none⟩) hg).trans (hc i hi)
  generalize (w.alloc (.cells #[.int .i32 r] 21)).alloc (.cells #[.slice (some ⟨g, o, none⟩) n k] 35) = X at *
  refine (Any.sort_Search (ρ := Tryd.searchR_ren) Tryd.searchR 38 #[.pointer (some ⟨w.heap.size + 1, 0, none⟩), .pointer (some ⟨w.heap.size, 0, none⟩)] n (fun i => decide (r < L.getD (i + 1) 0)) X (enters_of Tryd.func38 (by kernel_rfl) rfl) (by omega)
    (fun m os i hi => by
      have hgr : ∀ p : Addr, p.block < w.heap.size + 2 → (grow (X.drewN m) os).cell? p = X.cell? p := fun p hp => cell?_grow _ os p (by show p.block < X.heap.size; omega)
      refine (class1_any (w.heap.size + 1) w.heap.size g o n k i r (L.getD (i + 1) 0) hi _ ((hgr ⟨w.heap.size + 1, 0, none⟩ (by show w.heap.size + 1 < _; omega)).trans bI.cell) ((hgr ⟨w.heap.size, 0, none⟩ (by show w.heap.size < _; omega)).trans bR.cell) ((hgr ⟨g, o + i, none⟩ (by show g < _; omega)).trans (hcs i hi))).mono ?_
      rintro e w' ⟨he, q, hw⟩
      exact ⟨he, q, #[], by rw [hw, grow_empty]⟩)
    (fun x y hxy hy hx => by
      simp only [decide_eq_true_eq] at hx ⊢
      by_cases e : x = y
      · rw [← e]; exact hx
      · rw [List.pairwise_iff_getElem] at hup
        have := hup (x + 1) (y + 1) (by omega) (by omega) (by omega)
        simp only [List.getD_eq_getElem?_getD, List.getElem?_eq_getElem (show x + 1 < L.length by omega), List.getElem?_eq_getElem (show y + 1 < L.length by omega), Option.getD_some] at hx ⊢
        omega)).mono ?_
  rintro e w' ⟨he, q, os, hw⟩
  exact ⟨he, hw ▸ hbel.trans (below_grow2 (by omega) q os)⟩

set_option maxHeartbeats 2000000 in
set_option maxRecDepth 100000 in
theorem class_any (B g c : Nat) (L : List Int) (hpos : 0 < L.length) (hup : L.Pairwise (· < ·)) (hL : L.length ≤ 2048) (r : Int) (w : World) (hown : w.ownsRow B 21 1 (.slice (some ⟨g, 0, none⟩) L.length c) L.length (rc L)) :
    Calls Tryd.prog 18 #[.slice (some ⟨g, 0, none⟩) L.length c, .int .i32 r] w fun e w' => e = .returned (.int .i64 (clsN L r (L.length - 1) : Nat)) ∧ Below w.heap.size w w' := by
  obtain ⟨n, hn⟩ : ∃ n, n + 1 = L.length := ⟨L.length - 1, by omega⟩
  have hg := hown.lt g rfl
  have hcap : L.length ≤ c ∧ c ≤ 9223372036854775807 := by
    rcases hown.2 with ⟨h', _⟩ | ⟨g', cap', cur, h', _, _, hn, hm, _⟩
    · cases h'
    · simp only [Value.slice.injEq] at h'; unfold maxLen at hm; omega
  have e1 : L.length - 1 = n := by omega
  have Hcs : Hid (∀ i, i < n → w.cell? ⟨g, 1 + i, none⟩ = some (.int .i32 (L.getD (i + 1) 0))) := hide fun i hi => by
    rw [Nat.add_comm 1 i]
    exact own_cells hown (i + 1) (by omega)
  rw [e1, ← hn]
  by_cases hc1 : c = 1
  · have HS := hide (search_any g 0 n 0 L hn hup hL r w hg.2 (fun i hi => by omega))
    obtain rfl : n = 0 := by omega
    subst hc1
    clear hown Hcs hup
    go_enter Tryd.func18, Tryd.ntmps18
    go_wp2_with fail
    refine (unhide HS).mono ?_
    rintro e w2 ⟨rfl, hb⟩
    go_wp2
    go_ret
    exact ⟨rfl, hb⟩
  · have HS := hide (search_any g 1 n (c - 1) L hn hup hL r w hg.2 (unhide Hcs))
    have hn1 : (1 : Int) ≤ (n : Int) + 1 := by omega
    have hc2 : ¬ (c : Int) - 1 = 0 := by omega
    have hc3 : ¬ c - 1 = 0 := by omega
    have hc4 : (n : Int) + 1 ≤ c := by omega
    have hz : ((n : Int) + 1 == 0) = false := by simp; omega
    clear hown Hcs hup
    go_enter Tryd.func18, Tryd.ntmps18
    go_wp2_with fail
    refine (unhide HS).mono ?_
    rintro e w2 ⟨rfl, hb⟩
    go_wp2
    go_ret
    exact ⟨rfl, hb⟩

end Go.Proofs.YtkbhdojgdgiggabDoor

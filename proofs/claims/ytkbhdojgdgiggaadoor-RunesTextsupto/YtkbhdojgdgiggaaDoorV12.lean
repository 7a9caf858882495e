/- Contract of the reference's starts. -/
import Derived.Test.YtkbhdojgdgiggaaDoorV11
namespace Go.Proofs.YtkbhdojgdgiggaaDoor
open Go.RowKit

/-- A row of rows of ranges lies there. -/
def SetsAt (w : World) (a : Option Addr) (ls : List (List Rng)) : Prop :=
  ls = [] ∨ ∃ b off, a = some ⟨b, off, none⟩ ∧ b < w.heap.size ∧ ∀ i, i < ls.length → ∃ ai ci, w.cell? ⟨b, off + i, none⟩ = some (.slice ai (ls.getD i []).length ci) ∧ RowAt w ai (ls.getD i [])
theorem setsAt_below {w w' : World} {a : Option Addr} {ls : List (List Rng)} (h : SetsAt w a ls) {B : Nat} (hB : w.heap.size ≤ B) (hb : Below B w w') : SetsAt w' a ls := by
  rcases h with rfl | ⟨b, off, rfl, hlt, hc⟩
  · exact .inl rfl
  · refine .inr ⟨b, off, rfl, Nat.lt_of_lt_of_le hlt hb.size, fun i hi => ?_⟩
    obtain ⟨ai, ci, h1, h2⟩ := hc i hi
    exact ⟨ai, ci, by rw [hb.cell (by show b < B; omega)]; exact h1, rowAt_below h2 hB hb⟩
theorem setsAt_cell {w wr : World} {a : Option Addr} {ls : List (List Rng)} (h : SetsAt w a ls) (hb : Below w.heap.size w wr) {i : Nat} (hi : i < ls.length) :
    ∃ b off ai ci, a = some ⟨b, off, none⟩ ∧ b < wr.heap.size ∧ wr.cell? ⟨b, off + i, none⟩ = some (.slice ai (ls.getD i []).length ci) ∧ RowAt wr ai (ls.getD i []) := by
  rcases setsAt_below h (Nat.le_refl _) hb with rfl | ⟨b, off, rfl, hlt, hc⟩
  · simp at hi
  · obtain ⟨ai, ci, h1, h2⟩ := hc i hi
    exact ⟨b, off, ai, ci, rfl, hlt, h1, h2⟩
theorem withL_pos (l : List Int) (r : Int) : 0 < (withL l r).length := by
  have : r ∈ withL l r := by rw [mem_withL]; exact .inl rfl
  exact List.length_pos_of_mem this
theorem stepL_pos (acc : List Int) (x : Rng) : 0 < (stepL acc x).length := by
  unfold stepL; split <;> exact withL_pos _ _
theorem stepL_length (acc : List Int) (x : Rng) : (stepL acc x).length ≤ acc.length + 2 := by
  have l1 := withL_length acc x.1
  have l2 := withL_length (withL acc x.1) (x.2 + 1)
  unfold stepL; split <;> omega
theorem foldl_take_succ {α β : Type} (f : α → β → α) (l : List β) (k : Nat) (d : β) (hk : k < l.length) (a : α) : (l.take (k + 1)).foldl f a = f ((l.take k).foldl f a) (l.getD k d) := by
  rw [List.take_add_one, List.foldl_append]
  simp [List.getD_eq_getElem?_getD, List.getElem?_eq_getElem hk]
/-- How many ranges there are. -/
def tot (ls : List (List Rng)) : Nat := (ls.map List.length).sum
theorem tot_take_succ (ls : List (List Rng)) (i : Nat) (hi : i < ls.length) : tot (ls.take (i + 1)) = tot (ls.take i) + (ls.getD i []).length := by
  unfold tot
  rw [List.take_add_one, List.map_append, List.sum_append]
  simp [List.getD_eq_getElem?_getD, List.getElem?_eq_getElem hi]
theorem tot_take_le (ls : List (List Rng)) (i : Nat) : tot (ls.take i) ≤ tot ls := by
  unfold tot
  conv => rhs; rw [← List.take_append_drop i ls]
  rw [List.map_append, List.sum_append]
  omega

set_option maxHeartbeats 4000000 in
set_option maxRecDepth 100000 in
theorem starts_any (a : Option Addr) (cap : Nat) (ls : List (List Rng)) (hn : ls.length ≤ 281474976710656) (hT : (2 * tot ls + 2) * 4 ≤ 140737488355328) (hR : ∀ s ∈ ls, ∀ x ∈ s, isR x = true) (w : World) (hsets : SetsAt w a ls) :
    Calls Tryd.prog 51 #[.slice a ls.length cap] w fun e w' => ∃ v, e = .returned v ∧ w'.ownsRow w.heap.size 21 1 v (startsL ls).length (rc (startsL ls)) ∧ Below w.heap.size w w' := by
  have Hs := hide hsets
  have HR : Hid (∀ i, i < ls.length → ∀ k, k < (ls.getD i []).length → isR ((ls.getD i []).getD k (0, 0)) = true) := hide fun i hi k hk => by
    refine hR (ls.getD i []) ?_ _ ?_
    · rw [List.getD_eq_getElem?_getD, List.getElem?_eq_getElem hi]; exact List.getElem_mem _
    · generalize ls.getD i [] = s at *
      rw [List.getD_eq_getElem?_getD, List.getElem?_eq_getElem hk]; exact List.getElem_mem _
  clear hsets hR
  go_enter Tryd.func51, Tryd.ntmps51
  go_wp2
  go_loopw [3, 4] (fun u x wr => ∃ (i : Nat) (acc : List Int), wr.ownsRow w.heap.size 21 1 u acc.length (rc acc) ∧ x = .int .i64 i ∧ i ≤ ls.length ∧ Below w.heap.size w wr ∧ acc = (ls.take i).foldl (fun acc s => s.foldl stepL acc) [0] ∧ acc.length ≤ 1 + 2 * tot (ls.take i) ∧ 0 < acc.length) (fun _ x _ => ls.length - (intOf x).toNat)
  case atStart =>
    exact ⟨0, [0], World.ownsRow_lit w #[.int .i32 0] 1 (Nat.le_refl _) (by unfold maxLen; omega) rfl, rfl, by omega, (Below.refl _ _).alloc (Nat.le_refl _) _, rfl, by simp, by simp⟩
  case round =>
    obtain ⟨i, acc, hown, rfl, hi, hbel, hacc, hlen, hpos⟩ := hrel
    have hsz := hbel.size
    have Hown := hide hown; have Hbel := hide hbel; have Hacc := hide hacc
    clear hown hbel hacc
    by_cases hil : i < ls.length
    · have hil' : (i : Int) < ls.length := by omega
      have htot := tot_take_succ ls i hil
      have htle := tot_take_le ls (i + 1)
      have Hri := hide (unhide HR i hil)
      have Hcell := hide (fun wx (hb : Below w.heap.size w wx) => setsAt_cell (unhide Hs) hb hil)
      have Hfold := hide (foldl_take_succ (fun acc (s : List Rng) => s.foldl stepL acc) ls i [] hil [0])
      generalize ls.getD i [] = s at *
      have hsl : s.length ≤ tot ls := by omega
      go_wp2
      go_loopw [3, 5] (fun u x wq => ∃ (k : Nat) (acc2 : List Int), wq.ownsRow w.heap.size 21 1 u acc2.length (rc acc2) ∧ x = .int .i64 k ∧ k ≤ s.length ∧ Below w.heap.size w wq ∧ acc2 = (s.take k).foldl stepL acc ∧ acc2.length ≤ acc.length + 2 * k ∧ 0 < acc2.length) (fun _ x _ => s.length - (intOf x).toNat)
      case atStart =>
        exact ⟨0, acc, unhide Hown, rfl, by omega, unhide Hbel, rfl, by omega, hpos⟩
      case round =>
        obtain ⟨k, acc2, hown2, rfl, hk, hbel2, hacc2, hlen2, hpos2⟩ := hrel
        have hsz2 := hbel2.size
        have Hown2 := hide hown2; have Hbel2 := hide hbel2; have Hacc2 := hide hacc2
        obtain ⟨b, off, ai, ci, rfl, hlt, hcell, hrow⟩ := unhide Hcell _ hbel2
        clear hown2 hbel2 hacc2
        by_cases hkl : k < s.length
        · have hkl' : (k : Int) < s.length := by omega
          obtain ⟨b2, off2, rfl, hlt2, hc⟩ := rowAt_cells hrow (Below.refl _ _) hkl
          have q0 := (hc k hkl).1
          have q1 := (hc k hkl).2
          have hx := unhide Hri k hkl
          have Hst := hide (foldl_take_succ stepL s k (0, 0) hkl acc)
          clear hc hrow
          generalize s.getD k (0, 0) = x at *
          obtain ⟨x, y⟩ := x
          have hxr : 0 ≤ x ∧ x ≤ y ∧ y ≤ 1114111 := by simpa [isR] using hx
          clear hx
          rw [← unhide Hacc2] at Hst
          simp only at q0 q1
          have HW1 := hide (with_any w.heap.size _ acc2 x wr (unhide Hown2) hpos2 hsz2 (by omega))
          go_wp2_with fail
          refine (unhide HW1).mono ?_
          rintro e w1 ⟨v1, rfl, hown1, hb1⟩
          have p0 : w1.cell? ⟨b, off + i, none⟩ = some (.slice (some ⟨b2, off2, none⟩) s.length ci) := by rw [hb1.cell (by exact hlt)]; exact hcell
          have p1 : w1.cell? ⟨b2, off2 + k * 2 + 1, none⟩ = some (.int .i32 y) := by rw [hb1.cell (by exact hlt2)]; exact q1
          have hl1 := withL_length acc2 x
          have hp1 := withL_pos acc2 x
          have hb12 := (unhide Hbel2).trans (below_le hb1 hsz2)
          have hsz1 := hb12.size
          have Hb1 := hide hb12; have Ho1 := hide hown1
          clear HW1 hb1 hb12 hown1 q0 q1 hcell
          have hst : stepL acc2 (x, y) = if y < 1114111 then withL (withL acc2 x) (y + 1) else withL acc2 x := rfl
          rw [hst] at Hst
          clear hst
          generalize withL acc2 x = acc3 at *
          obtain ⟨va, vcap, rfl⟩ := ownsRow_slice (unhide Ho1)
          by_cases hy : y < 1114111
          · rw [if_pos hy] at Hst
            have hwy : IntKind.i32.wrap (y + 1) = y + 1 := IntWalk.i32_in _ ⟨by omega, by omega⟩
            have HW2 := hide (with_any w.heap.size _ acc3 (y + 1) w1 (unhide Ho1) hp1 hsz1 (by omega))
            have hl2 := withL_length acc3 (y + 1)
            have hp2 := withL_pos acc3 (y + 1)
            generalize withL acc3 (y + 1) = acc4 at *
            go_wp2_with fail
            refine (unhide HW2).mono ?_
            rintro e w2 ⟨v2, rfl, hown2, hb2⟩
            have Hb2 := hide ((unhide Hb1).trans (below_le hb2 hsz1)); have Ho2 := hide hown2
            clear hb2 hown2 HW2
            go_wp2
            go_roundw
            case rel => exact ⟨k + 1, acc4, unhide Ho2, by go_num, by omega, unhide Hb2, (unhide Hst).symm, by omega, hp2⟩
            case measure => simp [intOf]; omega
          · rw [if_neg hy] at Hst
            go_wp2
            go_roundw
            case rel => exact ⟨k + 1, acc3, unhide Ho1, by go_num, by omega, unhide Hb1, (unhide Hst).symm, by omega, hp1⟩
            case measure => simp [intOf]; omega
        · have hkl' : ¬ (k : Int) < s.length := by omega
          have hke : k = s.length := by omega
          subst hke
          have Hfin : Hid (acc2 = (ls.take (i + 1)).foldl (fun acc s => s.foldl stepL acc) [0]) := hide (by
            rw [unhide Hfold, ← unhide Hacc, unhide Hacc2, List.take_length])
          clear hrow
          go_wp2
          go_roundw
          case rel => exact ⟨i + 1, acc2, unhide Hown2, by go_num, by omega, unhide Hbel2, unhide Hfin, by omega, hpos2⟩
          case measure => simp [intOf]; omega
    · have hil' : ¬ (i : Int) < ls.length := by omega
      have hie : i = ls.length := by omega
      subst hie
      have He : Hid (startsL ls = acc) := hide (by rw [unhide Hacc, List.take_length]; rfl)
      go_wp2
      go_ret
      rw [unhide He]
      exact ⟨_, rfl, unhide Hown, unhide Hbel⟩
end Go.Proofs.YtkbhdojgdgiggaaDoor

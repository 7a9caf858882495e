/- Contracts of both Joins. -/
import Derived.Test.YtodncpnhmmnclaaW2
namespace Go.Proofs.Ytodncpnhmmnclaa
open Go.RowKit

/-- A slice's address leads to these runes. -/
def RunesAt (w : World) (a : Option Addr) (zs : List Int) : Prop :=
  zs = [] ∨ ∃ b off, a = some ⟨b, off, none⟩ ∧ b < w.heap.size ∧ ∀ j, j < zs.length → w.cell? ⟨b, off + j, none⟩ = some (.int .i32 (zs.getD j 0))

theorem own_to_string {w : World} {B : Nat} {v : Value} {l : List UInt8} (h : w.ownsRow B 5 1 v l.length (Lib.byteCells l)) :
    (convert 67 9 v).run Try.prog w = .ok (.string ⟨l.toArray⟩) w := by
  obtain ⟨hl, hh⟩ := h
  rcases hh with ⟨rfl, h0⟩ | ⟨g, cap, cur, rfl, hg, hheap, hn, hm, hcur, htk⟩
  · have : l = [] := List.length_eq_zero_iff.1 h0
    subst this
    rw [run_convert_bytes_nil w 67 5 Try.underlying67 Try.underlying5 0 0 9 Try.underlying9]
    rfl
  · refine run_convert_bytes_back w 67 9 5 _ _ _ Try.underlying67 Try.underlying5 Try.underlying9 ?_
    intro j hj
    refine World.ownsRow.cells (w := w) (base := B) (e := 5) (size := 1) (v := .slice (some ⟨g, 0, none⟩) l.length cap) (n := l.length) (xs := Lib.byteCells l) ⟨hl, Or.inr ⟨g, cap, cur, rfl, hg, hheap, hn, hm, hcur, htk⟩⟩ rfl j _ ?_
    simp [Lib.byteCells, hj]

theorem getD_lt (zs : List Int) (k : Nat) (h : k < zs.length) : zs.getD k 0 = zs[k] := by simp [h]
theorem take_snocI (zs : List Int) (k : Nat) (h : k < zs.length) : zs.take (k + 1) = zs.take k ++ [zs.getD k 0] := by
  rw [List.take_succ_eq_append_getElem h, getD_lt zs k h]
theorem joinB_step (zs : List Int) (k : Nat) (h : k < zs.length) : joinB (zs.take (k + 1)) = joinB (zs.take k) ++ Lib.encodeRune (zs.getD k 0) := by
  rw [take_snocI zs k h, joinB_snoc]
theorem joinB_take_le (zs : List Int) (k : Nat) : (joinB (zs.take k)).length ≤ 4 * k := by
  have := joinB_le (zs.take k)
  have h2 : (zs.take k).length ≤ k := List.length_take_le _ _
  omega

/-- What the Joins answer. -/
def joinVals (zs : List Int) : Value × Int × Int :=
  match badAt zs with
  | some k => (.string ⟨#[]⟩, 11, k)
  | none => (.string ⟨(joinB zs).toArray⟩, 0, 0)


/-- What stands of the world and of a Join's own two cells, in the middle of its loop. -/
theorem res_cells {w wr : World} (hbel : Below (w.heap.size + 1) (w.alloc (.cells #[.int .i64 0, .int .i64 0] 27)) wr) :
    wr.cell? ⟨w.heap.size, 0, none⟩ = some (.int .i64 0) ∧ wr.cell? ⟨w.heap.size, 1, none⟩ = some (.int .i64 0) ∧ wr.frozen? ⟨w.heap.size, 0, none⟩ = false ∧ wr.frozen? ⟨w.heap.size, 1, none⟩ = false ∧ w.heap.size + 1 ≤ wr.heap.size := by
  have hs := hbel.size
  simp at hs
  refine ⟨?_, ?_, ?_, ?_, hs⟩
  · rw [hbel.cell (by show w.heap.size < _; omega), World.cell?_alloc_at _ _ _ _ rfl]; rfl
  · rw [hbel.cell (by show w.heap.size < _; omega), World.cell?_alloc_at _ _ _ _ rfl]; rfl
  · rw [hbel.frozen (by show w.heap.size < _; omega)]; exact World.frozen?_alloc_at _ _ _ _ rfl
  · rw [hbel.frozen (by show w.heap.size < _; omega)]; exact World.frozen?_alloc_at _ _ _ _ rfl
theorem old_cell {w wr : World} {o : Obj} (hbel : Below (w.heap.size + 1) (w.alloc o) wr) {b x : Nat} (hb : b < w.heap.size) : wr.cell? ⟨b, x, none⟩ = w.cell? ⟨b, x, none⟩ := by
  rw [hbel.cell (by show b < _; omega), World.cell?_alloc_past _ _ _ hb]
theorem below_old {w wr : World} {o : Obj} (hbel : Below (w.heap.size + 1) (w.alloc o) wr) : Below w.heap.size w wr :=
  ((Below.refl _ _).alloc (Nat.le_refl _) _).trans (hbel.mono (by omega))

theorem joinVals_bad (zs : List Int) (k : Nat) (h : badAt zs = some k) : joinVals zs = (.string ⟨#[]⟩, 11, (k : Int)) := by simp [joinVals, h]
theorem joinVals_good (zs : List Int) (h : badAt zs = none) : joinVals zs = (.string ⟨(joinB zs).toArray⟩, 0, 0) := by simp [joinVals, h]

set_option maxHeartbeats 1000000 in
set_option maxRecDepth 100000 in
theorem join_some (b off cap : Nat) (zs : List Int) (w : World) (hb : b < w.heap.size) (hsz : zs.length * 4 ≤ 140737488351232)
    (hc : ∀ j, j < zs.length → w.cell? ⟨b, off + j, none⟩ = some (.int .i32 (zs.getD j 0))) :
    Calls Try.prog 18 #[.slice (some ⟨b, off, none⟩) zs.length cap] w fun e w' =>
      e = .returned (.tuple #[(joinVals zs).1, .agg #[.int .i64 (joinVals zs).2.1, .int .i64 (joinVals zs).2.2]]) ∧ Below w.heap.size w w' := by
  go_enter Try.func18, Try.ntmps18
  go_wp2
  go_loopw [4, 9] (fun v i wr => ∃ k : Nat, k ≤ zs.length ∧ i = .int .i64 k ∧ wr.ownsRow (w.heap.size + 1) 5 1 v (joinB (zs.take k)).length (Lib.byteCells (joinB (zs.take k))) ∧ Below (w.heap.size + 1) (w.alloc (.cells #[.int .i64 0, .int .i64 0] 27)) wr ∧ ∀ j, j < k → Utf8.valid (zs.getD j 0) = true) (fun _ i _ => zs.length - (intOf i).toNat)
  case atStart => exact ⟨0, Nat.zero_le _, rfl, World.ownsRow_nil _ _ _ _, Below.refl _ _, fun j hj => by omega⟩
  case round =>
    obtain ⟨k, hk, rfl, hown, hbel, hval⟩ := hrel
    obtain ⟨q0, q1, f0, f1, hs1⟩ := res_cells hbel
    have Hbel := hide hbel
    have Hval := hide hval
    have Hown := hide hown
    have Hc := hide hc
    clear hbel hval hown hc
    by_cases hlt : k < zs.length
    · have hcell : wr.cell? ⟨b, off + k, none⟩ = some (.int .i32 (zs.getD k 0)) := by rw [old_cell (unhide Hbel) hb]; exact unhide Hc k hlt
      generalize hr : zs.getD k 0 = r at hcell
      have Hr := hide hr
      clear hr
      cases hv : Utf8.valid r
      · go_wp2_with (go_at_call 35; refine (validRune_any r _).mono ?_; rintro e w' ⟨rfl, rfl⟩)
        have hbad : badAt zs = some k := badAt_here' zs k hlt (unhide Hval) (by rw [unhide Hr]; exact hv)
        refine bodyPost_ret (v := .tuple #[.string ⟨#[]⟩, .agg #[.int .i64 11, .int .i64 k]]) (by simp [results, Try.results18, go_sem, q0, q1]) rfl ⟨?_, ?_⟩
        · rw [joinVals_bad zs k hbad]
        · exact ((below_old (unhide Hbel)).setCell (Nat.le_refl _) _).setCell (Nat.le_refl _) _
      · have hlen : (joinB (zs.take k)).length + 4 ≤ 140737488355328 := by have := joinB_take_le zs k; omega
        go_wp2_with (first | (go_at_call 35; refine (validRune_any r _).mono ?_; rintro e w' ⟨rfl, rfl⟩) | (go_at_call 36; refine (appendRune_any (w.heap.size + 1) u4 _ _ r hv wr (unhide Hown) hlen hs1).mono ?_; rintro e w' ⟨v', rfl, ho', o, hg⟩))
        go_roundw
        case rel =>
          refine ⟨k + 1, by omega, by go_num, ?_, ?_, ?_⟩
          · rw [joinB_step zs k hlt, unhide Hr, List.length_append, ← Lib.runeCells_length, Lib.byteCells_append, Lib.byteCells_encodeRune]
            exact ho'
          · exact (((unhide Hbel).alloc (by omega) _).grown hg (by simp; omega) (fun x hx => ((unhide Hown).lt x hx).1))
          · intro j hj
            by_cases e : j = k
            · subst e; rw [unhide Hr]; exact hv
            · exact unhide Hval j (by omega)
        case measure => simp [intOf]; omega
    · have hk' : k = zs.length := by omega
      have hgood : badAt zs = none := badAt_none' zs (by rw [← hk']; exact unhide Hval)
      have hconv : (convert 67 9 u4).run Try.prog wr = .ok (.string ⟨(joinB zs).toArray⟩) wr := by
        have h := own_to_string (unhide Hown)
        rw [hk', List.take_length] at h
        exact h
      have Hk := hide hk'
      have Hg := hide hgood
      clear hk' hgood
      go_wp2
      refine bodyPost_ret (v := .tuple #[.string ⟨(joinB zs).toArray⟩, .agg #[.int .i64 0, .int .i64 0]]) (by simp [results, Try.results18, go_sem, q0, q1]) rfl ⟨?_, ?_⟩
      · rw [joinVals_good zs (unhide Hg)]
      · exact ((below_old (unhide Hbel)).setCell (Nat.le_refl _) _).setCell (Nat.le_refl _) _
end Go.Proofs.Ytodncpnhmmnclaa

/- Contracts of Grow, Concat and Union. -/
import Derived.Test.YtkbhdojgdgiggabDoorV19
import Derived.Test.YtkbhdojgdgiggabDoorS2
namespace Go.Proofs.YtkbhdojgdgiggabDoor
open Go.RowKit

theorem zeroCells_size (cs : Array Value) (n : Nat) : (Builtin.zeroCells cs n).size = n * cs.size := by
  unfold Builtin.zeroCells
  simp
theorem grow_none (n : Nat) (hn : n * 8 ≤ 140737488355328) (w : World) :
    Calls Tryd.prog 48 #[.slice none 0 0, .int .i64 n] w fun e w' => ∃ v, e = .returned v ∧ w'.ownsRow w.heap.size 53 2 v 0 [] ∧ Below w.heap.size w w' := by
  obtain ⟨i0, hi, hz0, hz1, hz2⟩ := info_parts hrange
  by_cases h0 : n = 0
  · subst h0
    have h := Any8.slices_Grow_room Tryd.growR none 0 0 0 w (by omega) (by omega) (by omega) (by omega)
    refine Calls.mono h ?_
    rintro e w' ⟨rfl, rfl⟩
    exact ⟨_, rfl, ⟨rfl, .inl ⟨rfl, rfl⟩⟩, Below.refl _ _⟩
  · have h := Any8.slices_Grow_grow Tryd.growR i0 (.agg #[.int .i32 0, .int .i32 0]) hi hz0 (by omega) none 0 0 n [] w (by omega) (by omega) (by rw [hz2]; omega) (by omega) (by simp) (fun _ => rfl) (fun a h => by cases h)
    refine Calls.mono h ?_
    rintro e w' ⟨rfl, rfl⟩
    refine ⟨_, rfl, ?_, ?_⟩
    · have hge := grownCap_ge w (0 + n) 0 53
      have hle := grownCap_le_maxLen w (0 + n) 0 53 (by unfold maxLen; omega)
      have hm := World.ownsRow_made (base := w.heap.size) (e := 53) (size := 2) w.drew ((([] : List Value).toArray ++ Builtin.zeroCells (Value.cells (.agg #[.int .i32 0, .int .i32 0])) (0 + n - 0)) ++ Builtin.zeroCells (Value.cells (.agg #[.int .i32 0, .int .i32 0])) (grownCap w (0 + n) 0 53 - (0 + n))) (grownCap w (0 + n) 0 53) (Nat.le_refl _) hle (by
        rw [Array.size_append, Array.size_append, zeroCells_size, zeroCells_size]
        show 0 + (0 + n - 0) * 2 + (grownCap w (0 + n) 0 53 - (0 + n)) * 2 = _
        omega)
      exact hm
    · exact (Below.refl _ _).drew.alloc (Nat.le_refl _) _

/-- A row of rows, a nil one without room. -/
def SetsC (w : World) (a : Option Addr) (ls : List (List Rng)) : Prop :=
  ls = [] ∨ ∃ b off, a = some ⟨b, off, none⟩ ∧ b < w.heap.size ∧ ∀ i, i < ls.length → ∃ ai ci, w.cell? ⟨b, off + i, none⟩ = some (.slice ai (ls.getD i []).length ci) ∧ RowAt w ai (ls.getD i []) ∧ (ai = none → ci = 0)
theorem setsC_at {w : World} {a : Option Addr} {ls : List (List Rng)} (h : SetsC w a ls) : SetsAt w a ls := by
  rcases h with rfl | ⟨b, off, rfl, hlt, hc⟩
  · exact .inl rfl
  · refine .inr ⟨b, off, rfl, hlt, fun i hi => ?_⟩
    obtain ⟨ai, ci, h1, h2, _⟩ := hc i hi
    exact ⟨ai, ci, h1, h2⟩
theorem setsC_below {w w' : World} {a : Option Addr} {ls : List (List Rng)} (h : SetsC w a ls) {B : Nat} (hB : w.heap.size ≤ B) (hb : Below B w w') : SetsC w' a ls := by
  rcases h with rfl | ⟨b, off, rfl, hlt, hc⟩
  · exact .inl rfl
  · refine .inr ⟨b, off, rfl, Nat.lt_of_lt_of_le hlt hb.size, fun i hi => ?_⟩
    obtain ⟨ai, ci, h1, h2, h3⟩ := hc i hi
    exact ⟨ai, ci, by rw [hb.cell (by show b < B; omega)]; exact h1, rowAt_below h2 hB hb, h3⟩
theorem setsC_cell {w wr : World} {a : Option Addr} {ls : List (List Rng)} (h : SetsC w a ls) (hb : Below w.heap.size w wr) {i : Nat} (hi : i < ls.length) :
    ∃ b off ai ci, a = some ⟨b, off, none⟩ ∧ b < wr.heap.size ∧ wr.cell? ⟨b, off + i, none⟩ = some (.slice ai (ls.getD i []).length ci) ∧ RowAt wr ai (ls.getD i []) ∧ (ai = none → ci = 0) := by
  rcases setsC_below h (Nat.le_refl _) hb with rfl | ⟨b, off, rfl, hlt, hc⟩
  · simp at hi
  · obtain ⟨ai, ci, h1, h2, h3⟩ := hc i hi
    exact ⟨b, off, ai, ci, rfl, hlt, h1, h2, h3⟩
theorem setsC_two {w : World} {a b : Option Addr} {ca cb : Nat} {l m : List Rng} (h1 : RowAt w a l) (h2 : RowAt w b m) (n1 : a = none → ca = 0) (n2 : b = none → cb = 0) : SetsC (w.alloc (.cells #[.slice a l.length ca, .slice b m.length cb] 22)) (some ⟨w.heap.size, 0, none⟩) [l, m] := by
  have hb : Below w.heap.size w (w.alloc (.cells #[.slice a l.length ca, .slice b m.length cb] 22)) := (Below.refl _ _).alloc (Nat.le_refl _) _
  have hc := World.cell?_alloc_mark w #[.slice a l.length ca, .slice b m.length cb] 22 (0, 0)
  refine .inr ⟨w.heap.size, 0, rfl, by simp, fun i hi => ?_⟩
  have hi2 : i = 0 ∨ i = 1 := by simp at hi; omega
  rcases hi2 with rfl | rfl
  · exact ⟨a, ca, hc 0, rowAt_below h1 (Nat.le_refl _) hb, n1⟩
  · exact ⟨b, cb, hc 1, rowAt_below h2 (Nat.le_refl _) hb, n2⟩
theorem flat_flatten (ls : List (List Rng)) (i : Nat) (hi : i < ls.length) : (ls.take (i + 1)).flatten = (ls.take i).flatten ++ ls.getD i [] := by
  rw [List.take_add_one, List.flatten_append]
  simp [List.getD_eq_getElem?_getD, List.getElem?_eq_getElem hi]
theorem flatten_tot (ls : List (List Rng)) : ls.flatten.length = tot ls := List.length_flatten
/-- The cells of a row, from an address. -/
theorem row_cells {w : World} {ad : Addr} {m : List Rng} (h : RowAt w (some ad) m) : ∀ j u, (flat m)[j]? = some u → w.cell? (ad.add j) = some u := by
  intro j u hj
  rcases h with rfl | ⟨b, off, h, hlt, hc⟩
  · simp [flat] at hj
  · cases h
    have hj2 : j < m.length * 2 := by
      have := (List.getElem?_eq_some_iff.1 hj).1
      rwa [flat_length] at this
    have e : (⟨b, off, none⟩ : Addr).add j = ⟨b, off + j, none⟩ := by unfold Addr.add; split <;> simp_all
    rw [e]
    have f := flat_at m (j / 2) (by omega)
    have g := hc (j / 2) (by omega)
    have h2 : j % 2 = 0 ∨ j % 2 = 1 := by omega
    rcases h2 with h2 | h2
    · rw [show j / 2 * 2 = j by omega] at f g
      rw [f.1] at hj; cases hj; exact g.1
    · rw [show off + j / 2 * 2 + 1 = off + j by omega] at g
      rw [show j / 2 * 2 + 1 = j by omega] at f
      rw [f.2] at hj; cases hj; exact g.2

set_option maxHeartbeats 4000000 in
set_option maxRecDepth 100000 in
theorem concat_any (a : Option Addr) (cap : Nat) (ls : List (List Rng)) (hn : ls.length ≤ 281474976710656) (hT : tot ls * 8 ≤ 140737488355328) (w : World) (hsets : SetsC w a ls) :
    Calls Tryd.prog 30 #[.slice a ls.length cap] w fun e w' => ∃ v, e = .returned v ∧ w'.ownsRow w.heap.size 53 2 v ls.flatten.length (flat ls.flatten) ∧ Below w.heap.size w w' := by
  obtain ⟨i0, hi, hz0, hz1, hz2⟩ := info_parts hrange
  have Hs := hide hsets
  clear hsets
  go_enter Tryd.func30, Tryd.ntmps30
  go_wp2
  go_loopw [3, 11] (fun n x wr => ∃ i : Nat, n = .int .i64 (tot (ls.take i) : Nat) ∧ x = .int .i64 i ∧ i ≤ ls.length ∧ wr = w) (fun _ x _ => ls.length - (intOf x).toNat)
  case atStart => exact ⟨0, rfl, rfl, by omega, rfl⟩
  case round =>
    obtain ⟨i, rfl, rfl, hil, rfl⟩ := hrel
    have htl := tot_take_le ls i
    by_cases hic : i < ls.length
    · have hic' : (i : Int) < ls.length := by omega
      have ht2 := tot_take_le ls (i + 1)
      have Hts := hide (tot_take_succ ls i hic)
      rw [tot_take_succ ls i hic] at ht2
      obtain ⟨b, off, ai, ci, rfl, hlt, hcell, _, _⟩ := setsC_cell (unhide Hs) (Below.refl _ _) hic
      generalize ls.getD i [] = s at *
      generalize tot (ls.take i) = t at *
      go_wp2
      go_roundw
      case rel => exact ⟨i + 1, by rw [unhide Hts]; go_num, by go_num, by omega, by trivial⟩
      case measure => simp [intOf]; omega
    · have hic' : ¬ (i : Int) < ls.length := by omega
      have hie : i = ls.length := by omega
      subst hie
      rw [List.take_length] at *
      have HG := hide (grow_none (tot ls) hT wr)
      have htf := flatten_tot ls
      go_wp2_with fail
      refine (unhide HG).mono ?_
      rintro e w1 ⟨v1, rfl, hown1, hb1⟩
      have Hown1 := hide hown1; have Hb1 := hide hb1
      clear hown1 hb1 HG
      go_wp2
      go_loopw [6, 27] (fun u x wq => ∃ i : Nat, wq.ownsRow wr.heap.size 53 2 u (ls.take i).flatten.length (flat (ls.take i).flatten) ∧ x = .int .i64 i ∧ i ≤ ls.length ∧ Below wr.heap.size wr wq) (fun _ x _ => ls.length - (intOf x).toNat)
      case atStart => exact ⟨0, unhide Hown1, rfl, by omega, unhide Hb1⟩
      case round =>
        obtain ⟨i, hown, rfl, hil2, hbel⟩ := hrel
        have hsz := hbel.size
        have hlen : (ls.take i).flatten.length ≤ tot ls := by rw [flatten_tot]; exact tot_take_le ls i
        obtain ⟨ua, ucap, rfl⟩ := ownsRow_slice hown
        have Hown := hide hown; have Hbel := hide hbel
        clear hown hbel
        by_cases hic2 : i < ls.length
        · have hic3 : (i : Int) < ls.length := by omega
          obtain ⟨b, off, ai, ci, rfl, hlt, hcell, hrow, hnil⟩ := setsC_cell (unhide Hs) (unhide Hbel) hic2
          have Hfl := hide (flat_flatten ls i hic2)
          have ht2 := tot_take_le ls (i + 1)
          rw [tot_take_succ ls i hic2, ← flatten_tot] at ht2
          generalize ls.getD i [] = s at *
          generalize (ls.take i).flatten = acc at *
          cases ai with
          | none =>
            obtain rfl := hnil rfl
            have hs0 : s = [] := by
              rcases hrow with h | ⟨_, _, h, _⟩
              · exact h
              · cases h
            subst hs0
            have Hf2 : Hid ((ls.take (i + 1)).flatten = acc) := hide (by rw [unhide Hfl, List.append_nil])
            simp only [List.length_nil] at *
            clear hrow Hfl
            go_wp2_with (at_builtin; refine wpList_append_own_none rfl _ _ 22 rfl _ 53 i0 2 Tryd.underlying22 hi _ _ _ rfl (unhide Hown) rfl ?_)
            go_wp2
            go_roundw
            case rel => exact ⟨i + 1, by rw [unhide Hf2]; exact unhide Hown, by go_num, by omega, unhide Hbel⟩
            case measure => simp [intOf]; omega
          | some ad =>
            have Hc2 := hide (row_cells hrow)
            clear hrow
            go_wp2_with (at_builtin; refine wpList_append_own _ rfl _ _ 22 rfl _ 53 i0 (.agg #[.int .i32 0, .int .i32 0]) 2 8 Tryd.underlying22 hi hz0 hz1 hz2 rfl (by decide) _ _ _ rfl (unhide Hown) ad s.length ci (flat s) rfl ?c1 ?c2 ?c3 ?c4 ?c5 ?c6 ?_)
            case c1 => exact flat_length s
            case c2 => exact unhide Hc2
            case c3 => exact flat_one s
            case c4 => unfold maxLen; omega
            case c5 => omega
            case c6 => omega
            intro v3 w3 hown3 hgrow3 _
            have Hb3 := hide ((unhide Hbel).grown hgrow3 (by omega) (fun x hx => ((unhide Hown).lt x hx).1))
            have Hown3 := hide hown3
            clear hown3 hgrow3 Hc2
            go_wp2
            go_roundw
            case rel =>
              refine ⟨i + 1, ?_, by go_num, by omega, unhide Hb3⟩
              rw [unhide Hfl, flat_append, List.length_append]
              exact unhide Hown3
            case measure => simp [intOf]; omega
        · have hic3 : ¬ (i : Int) < ls.length := by omega
          have hie2 : i = ls.length := by omega
          subst hie2
          go_wp2
          go_ret
          refine ⟨_, rfl, ?_, unhide Hbel⟩
          have h := unhide Hown
          simpa [tot] using h

/-- What Union answers. -/
def uniC (ls : List (List Rng)) : Int := if chkAll ls = 0 then limC (mergedL ls.flatten) else chkAll ls
def uniL (ls : List (List Rng)) : List Rng := if chkAll ls = 0 then limL (mergedL ls.flatten) else []
theorem chkAll_sets {ls : List (List Rng)} (h : chkAll ls = 0) : ∀ s ∈ ls, checkV s = 0 := by
  induction ls with
  | nil => intro s hs; simp at hs
  | cons s ls ih =>
    unfold chkAll at h
    split at h
    · next h0 =>
      intro t ht
      rw [List.mem_cons] at ht
      rcases ht with rfl | ht
      · exact h0
      · exact ih h t ht
    · next h0 => exact absurd h h0
theorem flatten_isR {ls : List (List Rng)} (h : chkAll ls = 0) : ∀ x ∈ ls.flatten, isR x = true := by
  intro x hx
  rw [List.mem_flatten] at hx
  obtain ⟨s, hs, hx⟩ := hx
  exact set_isR (chkAll_sets h s hs) x hx
set_option maxHeartbeats 2000000 in
set_option maxRecDepth 100000 in
theorem union_any (a : Option Addr) (cap : Nat) (ls : List (List Rng)) (hn : ls.length ≤ 281474976710656) (hl : ∀ s ∈ ls, s.length ≤ 281474976710656) (hT : chkAll ls = 0 → tot ls * 8 ≤ 140737488355328) (w : World) (hsets : SetsC w a ls) :
    Calls Tryd.prog 8 #[.slice a ls.length cap] w fun e w' => ∃ v, e = .returned (.tuple #[v, .int .i64 (uniC ls)]) ∧ w'.ownsRow w.heap.size 53 2 v (uniL ls).length (flat (uniL ls)) ∧ Below w.heap.size w w' := by
  have HC := hide (checkAll_any a cap ls hn hl w (setsC_at hsets))
  by_cases hc : chkAll ls = 0
  · have Hv : Hid (uniL ls = limL (mergedL ls.flatten) ∧ uniC ls = limC (mergedL ls.flatten)) := hide ⟨if_pos hc, if_pos hc⟩
    have ht := hT hc
    have HK := hide (fun w' (hb : Below w.heap.size w w') => concat_any a cap ls hn ht w' (setsC_below hsets (Nat.le_refl _) hb))
    have HM := hide (fun (v : Value) (w' : World) (B : Nat) (ho : w'.ownsRow B 53 2 v ls.flatten.length (flat ls.flatten)) => show Calls Tryd.prog 29 #[v] w' fun e w'' => ∃ v', e = .returned v' ∧ w''.ownsRow w'.heap.size 53 2 v' (mergedL ls.flatten).length (flat (mergedL ls.flatten)) ∧ Below w'.heap.size w' w'' by
      obtain ⟨va, vc, rfl⟩ := ownsRow_slice ho
      exact merged_any va vc ls.flatten (by rw [flatten_tot]; exact ht) (flatten_isR hc) w' (rowAt_own ho))
    rw [hc] at HC
    clear hc hsets hl
    go_enter Tryd.func8, Tryd.ntmps8
    go_wp2_with fail
    refine (unhide HC).mono ?_
    rintro e w1 ⟨rfl, hb1⟩
    have HK1 := hide (unhide HK w1 hb1)
    have Hb1 := hide hb1
    clear hb1 HK
    go_wp2_with fail
    refine (unhide HK1).mono ?_
    rintro e w2 ⟨v2, rfl, hown2, hb2⟩
    have HM2 := hide (unhide HM v2 w2 _ hown2)
    have Hb2 := hide ((unhide Hb1).trans (below_le hb2 (unhide Hb1).size))
    clear hown2 hb2
    go_wp2_with fail
    refine (unhide HM2).mono ?_
    rintro e w3 ⟨v3, rfl, hown3, hb3⟩
    have HL := hide (limited_any _ v3 (mergedL ls.flatten) w3 hown3)
    have hs2 := (unhide Hb2).size
    have Hb3 := hide ((unhide Hb2).trans (below_le hb3 (unhide Hb2).size))
    clear hown3 hb3
    go_wp2_with fail
    refine (unhide HL).mono ?_
    rintro e w4 ⟨v4, rfl, hown4, rfl⟩
    have Hown4 := hide hown4
    clear hown4
    go_wp2
    go_ret2
    rw [(unhide Hv).1, (unhide Hv).2]
    exact ⟨v4, rfl, ownsRow_le (unhide Hown4) hs2, unhide Hb3⟩
  · have Hv : Hid (uniL ls = [] ∧ uniC ls = chkAll ls) := hide ⟨if_neg hc, if_neg hc⟩
    have hc' : (chkAll ls != 0) = true := by simpa using hc
    clear hc hsets hT
    generalize chkAll ls = c at *
    go_enter Tryd.func8, Tryd.ntmps8
    go_wp2_with fail
    refine (unhide HC).mono ?_
    rintro e w1 ⟨rfl, hb1⟩
    have Hb1 := hide hb1
    clear hb1
    go_wp2
    go_ret2
    rw [(unhide Hv).1, (unhide Hv).2]
    exact ⟨_, rfl, ⟨rfl, .inl ⟨rfl, rfl⟩⟩, unhide Hb1⟩
end Go.Proofs.YtkbhdojgdgiggabDoor

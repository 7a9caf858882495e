/- text: a quoted text of the one rune b. (and what it leads to) -/
import Derived.Test.YtkimhfajfbcdmaaGreatDoorQJ
import Derived.Lib.Strings
import Derived.Lib.DecodeN
import Derived.Lib.AppendStr
import Derived.Lib.IndexBytes
import Derived.Laws.MakeOwn
/- text: a quoted text of the one rune b. -/
namespace Go.Proofs.YtkimhfajfbcdmaaGreatDoor
open Go.RowKit Go.Maps

theorem ownsRow_iter {w : World} {base : Nat} {e : TypeId} {size : Nat} {v : Value} {n : Nat} {xs : List Value} (h : w.ownsRow base e size v n xs) {k : Nat} {s : ByteArray} {p : Nat} (hk : w.heap[k]? = some (.stringIter s p)) (p' : Nat) : (w.iterAt k s p').ownsRow base e size v n xs := by
  refine ⟨h.1, ?_⟩
  rcases h.2 with hn | ⟨g, cap, cur, hv, hbg, hg, rest⟩
  · exact .inl hn
  · have hkg : g ≠ k := by
      intro e1
      rw [e1, hk] at hg
      cases hg
    exact .inr ⟨g, cap, cur, hv, hbg, (Lib.iterAt_other w k g s p' hkg).trans hg, rest⟩
theorem iter_grown {w w' : World} {base : Nat} {e : TypeId} {size : Nat} {v : Value} {n : Nat} {xs : List Value} (h : w.ownsRow base e size v n xs) (hg : w.grownBy w' v.ownBlock) {k : Nat} {s : ByteArray} {p : Nat} (hk : w.heap[k]? = some (.stringIter s p)) : w'.heap[k]? = some (.stringIter s p) := by
  have hlt : k < w.heap.size := (Array.getElem?_eq_some_iff.1 hk).1
  rw [hg.block k hlt ?_]
  · exact hk
  · intro e1
    rcases h.2 with ⟨rfl, _⟩ | ⟨g, cap, cur, rfl, hbg, hgg, _⟩
    · simp [Value.ownBlock] at e1
    · simp [Value.ownBlock] at e1
      rw [← e1, hk] at hgg
      cases hgg
theorem own_to_string {w : World} {B : Nat} {v : Value} {l : List UInt8} (h : w.ownsRow B 5 1 v l.length (Lib.byteCells l)) :
    (convert 58 9 v).run Tryz.prog w = .ok (.string ⟨l.toArray⟩) w := by
  obtain ⟨hl, hh⟩ := h
  rcases hh with ⟨rfl, h0⟩ | ⟨g, cap, cur, rfl, hg, hheap, hn, hm, hcur, htk⟩
  · have : l = [] := List.length_eq_zero_iff.1 h0
    subst this
    rw [run_convert_bytes_nil w 58 5 Tryz.underlying58 Tryz.underlying5 0 0 9 Tryz.underlying9]
    rfl
  · refine run_convert_bytes_back w 58 9 5 _ _ _ Tryz.underlying58 Tryz.underlying5 Tryz.underlying9 ?_
    intro j hj
    refine World.ownsRow.cells (w := w) (base := B) (e := 5) (size := 1) (v := .slice (some ⟨g, 0, none⟩) l.length cap) (n := l.length) (xs := Lib.byteCells l) ⟨hl, Or.inr ⟨g, cap, cur, rfl, hg, hheap, hn, hm, hcur, htk⟩⟩ rfl j _ ?_
    simp [Lib.byteCells, hj]
set_option maxHeartbeats 400000 in
theorem isNone98 (s : ByteArray) (i : Int) (w : World) : Calls Tryz.prog 180 #[.string s, .int .i64 i, .int .i32 98] w fun e w' => e = .returned (.bool false) ∧ w = w' := by
  go_enter Tryz.func180, Tryz.ntmps180
  go_wp2
  go_ret
  exact ⟨rfl, rfl⟩
set_option maxHeartbeats 400000 in
theorem plain98 (s : ByteArray) (i : Int) (w : World) : Calls Tryz.prog 185 #[.string s, .int .i64 i, .int .i32 98] w fun e w' => e = .returned (.bool true) ∧ w = w' := by
  have HN := hide (isNone98 s i)
  go_enter Tryz.func185, Tryz.ntmps185
  go_wp2_with fail
  refine (unhide HN _).mono ?_
  rintro e w1 ⟨rfl, rfl⟩
  go_wp2
  go_ret
  exact ⟨rfl, rfl⟩
set_option maxHeartbeats 400000 in
theorem runeLen98 (w : World) : Calls Tryz.prog 186 #[.int .i32 98] w fun e w' => e = .returned (.int .i64 1) ∧ w = w' := by
  go_enter Tryz.func186, Tryz.ntmps186
  go_wp2
  go_ret
  exact ⟨rfl, rfl⟩
def tB : ByteArray := ⟨#[98]⟩
def tQ : ByteArray := ⟨#[34, 98, 34]⟩
set_option maxHeartbeats 400000 in
theorem readPart98 (s : ByteArray) (i : Int) (w : World) : Calls Tryz.prog 179 #[.string s, .int .i64 i, .int .i32 98] w fun e w' => e = .returned (.tuple #[.string tB, .int .i64 1]) ∧ Below w.heap.size w w' := by
  have HP := hide (plain98 s i)
  have HL := hide runeLen98
  go_enter Tryz.func179, Tryz.ntmps179
  go_wp2_with fail
  refine (unhide HP _).mono ?_
  rintro e w1 ⟨rfl, rfl⟩
  go_wp2_with fail
  refine (unhide HL _).mono ?_
  rintro e w1 ⟨rfl, rfl⟩
  go_wp2
  refine bodyPost_ret (v := .tuple #[.string tB, .int .i64 1]) (by simp [results, Tryz.results179, go_sem]; rfl) rfl ⟨rfl, Below.refl _ _⟩
theorem dec0 : Utf8.decode tQ 0 = (34, 1) := by decide +kernel
theorem dec1 : Utf8.decode tQ 1 = (98, 1) := by decide +kernel
theorem dec2 : Utf8.decode tQ 2 = (34, 1) := by decide +kernel
theorem decB : Utf8.decode tB 0 = (98, 1) := by decide +kernel
set_option maxHeartbeats 1000000 in
theorem hasPrefixL (w : World) : Calls Tryz.prog 183 #[.string tQ, .string ⟨#[34]⟩] w fun e w' => e = .returned (.bool true) ∧ w = w' := by
  have h3 : tQ.size = 3 := rfl
  have he : ((tQ.extract 0 1).toList == [34]) = true := by decide +kernel
  go_enter Tryz.func183, Tryz.ntmps183
  go_wp2
  go_ret
  exact ⟨by rw [← he]; rfl, rfl⟩
set_option maxHeartbeats 1000000 in
theorem hasPrefixQ (w : World) : Calls Tryz.prog 178 #[.string tQ, .string ⟨#[34]⟩] w fun e w' => e = .returned (.bool true) ∧ w = w' := by
  have HP := hide hasPrefixL
  go_enter Tryz.func178, Tryz.ntmps178
  go_wp2_with fail
  refine (unhide HP _).mono ?_
  rintro e w1 ⟨rfl, rfl⟩
  go_wp2
  go_ret
  exact ⟨rfl, rfl⟩
theorem iterPos_of {w : World} {k : Nat} {s : ByteArray} {p : Nat} (h : w.heap[k]? = some (.stringIter s p)) : w.iterPos k = p := by
  simp [World.iterPos, h]
set_option maxHeartbeats 2000000 in
set_option maxRecDepth 100000 in
theorem readQuotedQ (w : World) : Calls Tryz.prog 169 #[.string tQ] w fun e w' => e = .returned (.tuple #[.string tB, .int .i64 3]) ∧ Below w.heap.size w w' := by
  obtain ⟨i0, hi, hz0, hz1, hz2⟩ := info_parts hbyte
  have HP := hide hasPrefixQ
  have HR := hide (readPart98 tQ 1)
  have h3 : tQ.size = 3 := rfl
  go_enter Tryz.func169, Tryz.ntmps169
  go_wp2_with fail
  refine (unhide HP _).mono ?_
  rintro e w1 ⟨rfl, rfl⟩
  go_wp2
  go_loopw [4, 5] (fun u x wr => ∃ p : Nat, wr.heap[w.heap.size]? = some (.stringIter tQ p) ∧ Below w.heap.size w wr ∧ ((p = 0 ∧ u = .slice none 0 0 ∧ x = .int .i64 1) ∨ (p = 1 ∧ u = .slice none 0 0 ∧ x = .int .i64 1) ∨ (p = 2 ∧ x = .int .i64 2 ∧ ∃ a c, u = .slice a 1 c ∧ wr.ownsRow w.heap.size 5 1 (.slice a 1 c) 1 (Lib.byteCells [98])))) (fun _ _ wr => 3 - wr.iterPos w.heap.size)
  case atStart => exact ⟨0, World.iter_heap w tQ 0, (Below.refl _ _).alloc (Nat.le_refl _) _, .inl ⟨rfl, rfl, rfl⟩⟩
  case round =>
    obtain ⟨p, hit, hbel, hst⟩ := hrel
    have hk : w.heap.size < wr.heap.size := (Array.getElem?_eq_some_iff.1 hit).1
    have Hit := hide hit; have Hbel := hide hbel
    clear hit hbel
    rcases hst with ⟨rfl, rfl, rfl⟩ | ⟨rfl, rfl, rfl⟩ | ⟨rfl, rfl, a, c, rfl, hown⟩
    · have hstep : ∀ ty, (Instr.next (.pointer (some ⟨w.heap.size, 0, none⟩)) true ty).run Tryz.prog wr = _ := fun ty => Lib.run_next_any_at wr w.heap.size tQ 0 ty (unhide Hit) (by decide)
      rw [dec0] at hstep
      go_wp2
      go_roundw
      case rel => exact ⟨1, Lib.iterAt_heap wr _ tQ 0 1 (unhide Hit), Lib.below_iterAt (unhide Hbel) (Nat.le_refl _) tQ 1, .inr (.inl ⟨rfl, rfl, rfl⟩)⟩
      case measure => rw [iterPos_of (Lib.iterAt_heap wr _ tQ 0 1 (unhide Hit)), iterPos_of (unhide Hit)]; omega
    · have hstep : ∀ ty, (Instr.next (.pointer (some ⟨w.heap.size, 0, none⟩)) true ty).run Tryz.prog wr = _ := fun ty => Lib.run_next_any_at wr w.heap.size tQ 1 ty (unhide Hit) (by decide)
      rw [dec1] at hstep
      go_wp2_with fail
      refine (unhide HR _).mono ?_
      rintro e w1 ⟨rfl, hb1⟩
      rw [Lib.iterAt_size] at hb1
      have hs1 := hb1.size
      rw [Lib.iterAt_size] at hs1
      have hi1 := (hb1.block w.heap.size hk).trans (Lib.iterAt_heap wr _ tQ 1 2 (unhide Hit))
      have hb2 := (Lib.below_iterAt (unhide Hbel) (Nat.le_refl _) tQ 2).trans (hb1.mono (unhide Hbel).size)
      have Hi1 := hide hi1; have Hb2 := hide hb2
      clear hi1 hb2 hb1
      have hB : tB.size = 1 := rfl
      go_wp2_with (at_builtin; refine Lib.wpList_append_own_string _ rfl _ _ 58 9 rfl w.heap.size 5 i0 Tryz.underlying58 Tryz.underlying9 hi hz0 hz1 hz2 _ _ _ rfl (World.ownsRow_nil _ _ _ _) tB rfl ?c3 ?c4 ?c5 ?_)
      case c3 => unfold maxLen; rw [hB]; omega
      case c4 => rw [hB]; omega
      case c5 => omega
      intro v' w2 hown' hgrow _
      obtain ⟨va, vc, hv⟩ := own_form hown'
      subst hv
      have Hg := hide hgrow; have Ho := hide hown'
      clear hgrow hown'
      go_wp2
      go_roundw
      case rel => exact ⟨2, iter_grown (World.ownsRow_nil w1 w.heap.size 5 1) (unhide Hg) (unhide Hi1), (unhide Hb2).grown (unhide Hg) (by omega) (fun x hx => by simp [Value.ownBlock] at hx), .inr (.inr ⟨rfl, by go_num, va, vc, rfl, unhide Ho⟩)⟩
      case measure => rw [iterPos_of (iter_grown (World.ownsRow_nil w1 w.heap.size 5 1) (unhide Hg) (unhide Hi1)), iterPos_of (unhide Hit)]; omega
    · have hstep : ∀ ty, (Instr.next (.pointer (some ⟨w.heap.size, 0, none⟩)) true ty).run Tryz.prog wr = _ := fun ty => Lib.run_next_any_at wr w.heap.size tQ 2 ty (unhide Hit) (by decide)
      rw [dec2] at hstep
      have hconv : (convert 58 9 (.slice a 1 c)).run Tryz.prog (wr.iterAt w.heap.size tQ 3) = .ok (.string tB) (wr.iterAt w.heap.size tQ 3) :=
        own_to_string (B := w.heap.size) (l := [98]) (ownsRow_iter hown (unhide Hit) 3)
      clear hown
      go_wp2
      refine bodyPost_ret (v := .tuple #[.string tB, .int .i64 3]) (by simp [results, Tryz.results169, go_sem]) rfl ⟨rfl, Lib.below_iterAt (unhide Hbel) (Nat.le_refl _) tQ 3⟩
end Go.Proofs.YtkimhfajfbcdmaaGreatDoor

/- text: Quoted and Runes at the one rune b. -/
namespace Go.Proofs.YtkimhfajfbcdmaaGreatDoor
open Go.RowKit Go.Maps

set_option maxHeartbeats 1000000 in
set_option maxRecDepth 100000 in
theorem quotedQ (s : ByteArray) (p : Nat) (hs : s.size ≤ 281474976710656) (hp : p + 3 = s.size) (he : s.extract p s.size = tQ) (w : World) :
    Calls Tryz.prog 156 #[.string s, .int .i64 p] w fun e w' => e = .returned (.tuple #[.string tB, .int .i64 ((p + 3 : Nat) : Int), .agg #[.int .i64 0, .int .i64 0]]) ∧ Below w.heap.size w w' := by
  have HR := hide readQuotedQ
  have hp' : ¬ (s.size : Int) ≤ p := by omega
  have hp2 : (p : Int) ≤ s.size := by omega
  go_enter Tryz.func156, Tryz.ntmps156
  go_wp2_with fail
  refine (unhide HR _).mono ?_
  rintro e w1 ⟨rfl, hb1⟩
  have hF := (hb1.block w.heap.size (by simp)).trans (heap_new w (.cells #[.int .i64 0, .int .i64 0] 49))
  have HB : Hid (Below w.heap.size w w1) := hide (((Below.refl w.heap.size w).alloc (Nat.le_refl _) (.cells #[.int .i64 0, .int .i64 0] 49)).trans (hb1.mono (by simp)))
  have d0 := cell_block hF 0 _ rfl
  have d1 := cell_block hF 1 _ rfl
  have f0 := frozen_block hF 0
  have f1 := frozen_block hF 1
  have s0 := set_self (v := .int .i64 0) hF (i := 0) rfl
  have s1 := set_self (v := .int .i64 0) hF (i := 1) rfl
  clear hF hb1 HR
  go_wp2
  refine bodyPost_ret (v := .tuple #[.string tB, .int .i64 ((p + 3 : Nat) : Int), .agg #[.int .i64 0, .int .i64 0]]) (by simp [results, Tryz.results156, go_sem, d0, d1]) rfl ⟨rfl, unhide HB⟩
set_option maxHeartbeats 1000000 in
set_option maxRecDepth 100000 in
theorem validB (w : World) : Calls Tryz.prog 170 #[.string tB] w fun e w' => e = .returned (.agg #[.int .i64 0, .int .i64 0]) ∧ Below w.heap.size w w' := by
  have HN := hide (isNone98 tB 0)
  go_enter Tryz.func170, Tryz.ntmps170
  go_wp2
  go_loopw [] (fun wr => ∃ p : Nat, p ≤ 1 ∧ wr.heap[w.heap.size + 1]? = some (.stringIter tB p) ∧ wr.heap[w.heap.size]? = some (.cells #[.int .i64 0, .int .i64 0] 49 (0, 0)) ∧ Below w.heap.size w wr) (fun wr => 1 - wr.iterPos (w.heap.size + 1))
  case atStart =>
    have hs0 : (w.alloc (.cells #[.int .i64 0, .int .i64 0] 49)).heap.size = w.heap.size + 1 := by simp
    refine ⟨0, by omega, ?_, ?_, ((Below.refl _ _).alloc (Nat.le_refl _) _).alloc (by simp) _⟩
    · have := World.iter_heap (w.alloc (.cells #[.int .i64 0, .int .i64 0] 49)) tB 0
      rwa [hs0] at this
    · exact (Below.heap_alloc _ _ _ (by simp)).trans (heap_new w _)
  case round =>
    obtain ⟨p, hp, hit, hF, hbel⟩ := hrel
    have hk := (Array.getElem?_eq_some_iff.1 hit).1
    by_cases h0 : p < 1
    · obtain rfl : p = 0 := by omega
      have hstep : ∀ ty, (Instr.next (.pointer (some ⟨w.heap.size + 1, 0, none⟩)) true ty).run Tryz.prog wr = _ := fun ty => Lib.run_next_any_at wr (w.heap.size + 1) tB 0 ty hit (by decide)
      rw [decB] at hstep
      have Hit := hide hit; have Hbel := hide hbel; have HF := hide hF
      clear hit hbel hF
      go_wp2_with fail
      refine (unhide HN _).mono ?_
      rintro e w1 ⟨rfl, hw⟩
      rw [← hw]
      clear hw w1
      go_wp2
      go_roundw
      case rel => exact ⟨1, by omega, Lib.iterAt_heap wr _ tB 0 1 (unhide Hit), (Lib.iterAt_other wr _ w.heap.size tB 1 (by omega)).trans (unhide HF), Lib.below_iterAt (unhide Hbel) (by omega) tB 1⟩
      case measure => rw [iterPos_of (Lib.iterAt_heap wr _ tB 0 1 (unhide Hit)), iterPos_of (unhide Hit)]; omega
    · obtain rfl : p = 1 := by omega
      have hstep : ∀ ty, (Instr.next (.pointer (some ⟨w.heap.size + 1, 0, none⟩)) true ty).run Tryz.prog wr = _ := fun ty => Lib.run_next_end_at wr (w.heap.size + 1) tB 1 ty hit (by decide)
      have d0 := cell_block hF 0 _ rfl
      have d1 := cell_block hF 1 _ rfl
      have f0 := frozen_block hF 0
      have f1 := frozen_block hF 1
      have s0 := set_self (v := .int .i64 0) hF (i := 0) rfl
      have s1 := set_self (v := .int .i64 0) hF (i := 1) rfl
      have Hbel := hide hbel
      clear hit hbel hF
      go_wp2
      refine bodyPost_ret (v := .agg #[.int .i64 0, .int .i64 0]) (by simp [results, Tryz.results170, go_sem, d0, d1]) rfl ⟨rfl, unhide Hbel⟩
set_option maxHeartbeats 1000000 in
set_option maxRecDepth 100000 in
theorem countB (w : World) : Calls Tryz.prog 171 #[.string tB] w fun e w' => e = .returned (.int .i64 1) ∧ Below w.heap.size w w' := by
  go_enter Tryz.func171, Tryz.ntmps171
  go_wp2
  go_loopw [2] (fun x wr => ∃ p : Nat, p ≤ 1 ∧ x = .int .i64 p ∧ wr.heap[w.heap.size]? = some (.stringIter tB p) ∧ Below w.heap.size w wr) (fun _ wr => 1 - wr.iterPos w.heap.size)
  case atStart => exact ⟨0, by omega, rfl, World.iter_heap w tB 0, (Below.refl _ _).alloc (Nat.le_refl _) _⟩
  case round =>
    obtain ⟨p, hp, rfl, hit, hbel⟩ := hrel
    have hk := (Array.getElem?_eq_some_iff.1 hit).1
    by_cases h0 : p < 1
    · obtain rfl : p = 0 := by omega
      have hstep : ∀ ty, (Instr.next (.pointer (some ⟨w.heap.size, 0, none⟩)) true ty).run Tryz.prog wr = _ := fun ty => Lib.run_next_any_at wr w.heap.size tB 0 ty hit (by decide)
      rw [decB] at hstep
      have Hit := hide hit; have Hbel := hide hbel
      clear hit hbel
      go_wp2
      go_roundw
      case rel => exact ⟨1, by omega, by go_num, Lib.iterAt_heap wr _ tB 0 1 (unhide Hit), Lib.below_iterAt (unhide Hbel) (by omega) tB 1⟩
      case measure => rw [iterPos_of (Lib.iterAt_heap wr _ tB 0 1 (unhide Hit)), iterPos_of (unhide Hit)]; omega
    · obtain rfl : p = 1 := by omega
      have hstep : ∀ ty, (Instr.next (.pointer (some ⟨w.heap.size, 0, none⟩)) true ty).run Tryz.prog wr = _ := fun ty => Lib.run_next_end_at wr w.heap.size tB 1 ty hit (by decide)
      have Hbel := hide hbel
      clear hit hbel
      go_wp2
      go_ret
      exact ⟨rfl, unhide Hbel⟩
end Go.Proofs.YtkimhfajfbcdmaaGreatDoor

/- text: Runes of the one rune b. -/
namespace Go.Proofs.YtkimhfajfbcdmaaGreatDoor
open Go.RowKit Go.Maps

theorem hrune21 : (Tryz.prog.info? 21).map (fun i => (i.zero, i.size, i.bytes)) = some (some (.int .i32 0), 1, 4) := by kernel_rfl
set_option maxHeartbeats 1000000 in
set_option maxRecDepth 100000 in
theorem runesB (w : World) :
    Calls Tryz.prog 157 #[.string tB] w fun e w' => ∃ v, e = .returned (.tuple #[v, .agg #[.int .i64 0, .int .i64 0]]) ∧ w'.ownsRow w.heap.size 21 1 v 1 [.int .i32 98] ∧ Below w.heap.size w w' := by
  obtain ⟨i0, hi, hz0, hz1, hz2⟩ := info_parts hrune21
  have HV := hide validB
  have HC := hide countB
  have qn := neq49_0
  have g49 := guard49
  go_enter Tryz.func157, Tryz.ntmps157
  go_wp2_with fail
  refine (unhide HV _).mono ?_
  rintro e w1 ⟨rfl, hb1⟩
  have hF1 := (hb1.block w.heap.size (by simp)).trans (heap_new w (.cells #[.int .i64 0, .int .i64 0] 49))
  have hB1 : Below w.heap.size w w1 := ((Below.refl w.heap.size w).alloc (Nat.le_refl _) (.cells #[.int .i64 0, .int .i64 0] 49)).trans (hb1.mono (by simp))
  have HF1 := hide ((Below.heap_alloc w1 (.cells #[.int .i64 0, .int .i64 0] 49) w.heap.size (lt_of_some hF1)).trans hF1)
  have HB1 := hide (hB1.alloc hB1.size (.cells #[.int .i64 0, .int .i64 0] 49))
  clear hb1 hF1 hB1 HV
  go_wp2_with fail
  refine (unhide HC _).mono ?_
  rintro e w2 ⟨rfl, hb2⟩
  have HF2 := hide ((hb2.block w.heap.size (lt_of_some (unhide HF1))).trans (unhide HF1))
  have HB2 := hide ((unhide HB1).trans (hb2.mono (unhide HB1).size))
  have hs2 := (unhide HB2).size
  clear hb2 HF1 HB1 HC
  go_wp2_with (at_make; refine wpList_make_own _ rfl _ _ 23 rfl w.heap.size 21 i0 (.int .i32 0) 1 Tryz.underlying23 hi hz0 hz1 .i64 .i64 _ 1 rfl rfl rfl (by rw [hz2]; omega) (by unfold maxLen; omega) hs2 ?_; intro w3 hown3 hgrow3)
  have HF3 := hide ((hgrow3.block w.heap.size (lt_of_some (unhide HF2)) (by simp)).trans (unhide HF2))
  have HB3 := hide ((unhide HB2).grown hgrow3 hs2 (fun x hx => by cases hx))
  have Hown3 := hide hown3
  have hs3 := (unhide HB3).size
  have hf3 := lt_of_some (unhide HF3)
  clear hown3 hgrow3 HF2 HB2 hs2 qn g49
  go_loopw [5] (fun u wr => ∃ p : Nat, p ≤ 1 ∧ wr.heap[w3.heap.size]? = some (.stringIter tB p) ∧ wr.heap[w.heap.size]? = some (.cells #[.int .i64 0, .int .i64 0] 49 (0, 0)) ∧ Below w.heap.size w wr ∧ wr.ownsRow w.heap.size 21 1 u p (([98] : List Int).take p |>.map (Value.int .i32))) (fun _ wr => 1 - wr.iterPos w3.heap.size)
  case atStart => exact ⟨0, by omega, World.iter_heap w3 tB 0, (Below.heap_alloc _ _ _ hf3).trans (unhide HF3), (unhide HB3).alloc hs3 _, (unhide Hown3).alloc _⟩
  case round =>
    obtain ⟨p, hp, hit, hF, hbel, hown⟩ := hrel
    have hk := (Array.getElem?_eq_some_iff.1 hit).1
    obtain ⟨ua, uc, rfl⟩ := own_form hown
    by_cases h0 : p < 1
    · obtain rfl : p = 0 := by omega
      have hstep : ∀ ty, (Instr.next (.pointer (some ⟨w3.heap.size, 0, none⟩)) true ty).run Tryz.prog wr = _ := fun ty => Lib.run_next_any_at wr w3.heap.size tB 0 ty hit (by decide)
      rw [decB] at hstep
      have hF1 := (Lib.iterAt_other wr w3.heap.size w.heap.size tB 1 (by omega)).trans hF
      have hi1 := Lib.iterAt_heap wr _ tB 0 1 hit
      have hb1 := Lib.below_iterAt hbel (by omega : w.heap.size ≤ w3.heap.size) tB 1
      have ho1 := ownsRow_iter hown hit 1
      have Hit := hide hit
      clear hit hF hbel hown
      simp only [Nat.zero_add] at hstep
      generalize wr.iterAt w3.heap.size tB 1 = wx at *
      have Hi1 := hide hi1; have HF1 := hide hF1; have Hb1 := hide hb1; have Ho1 := hide ho1
      have hx1 := hb1.size
      clear hi1 hF1 hb1 ho1
      go_wp2_with (at_builtin; refine wpList_append_own _ rfl _ _ 23 rfl w.heap.size 21 i0 (.int .i32 0) 1 4 Tryz.underlying23 hi hz0 hz1 hz2 rfl (by decide) _ _ _ rfl ((unhide Ho1).alloc _) ⟨wx.heap.size, 0, none⟩ 1 1 [.int .i32 98] rfl rfl ?c1 ?c2 ?c3 ?c4 ?c5 ?_)
      case c1 => exact cell_one_new _ _ _
      case c2 => intro u hu; simp at hu; subst hu; rfl
      case c3 => unfold maxLen; omega
      case c4 => omega
      case c5 => simp; omega
      intro v' w4 hown' hgrow _
      have hne : ∀ k, (Value.slice ua 0 uc).ownBlock = some k → wx.heap[k]? ≠ some (.cells #[.int .i64 0, .int .i64 0] 49 (0, 0)) := fun k hk => by
        rcases (unhide Ho1).2 with ⟨h0, _⟩ | ⟨g, cap, cur, h0, _, hh, _⟩
        · rw [h0] at hk; simp [Value.ownBlock] at hk
        · rw [h0] at hk
          simp only [Value.ownBlock, Option.some.injEq] at hk
          subst hk
          rw [hh]
          simp
      have hal := lt_of_some (unhide HF1)
      have HF4 := hide ((hgrow.block w.heap.size (by simp; omega) (fun e => hne _ e.symm (unhide HF1))).trans ((Below.heap_alloc _ _ _ hal).trans (unhide HF1)))
      have Hi4 := hide (iter_grown ((unhide Ho1).alloc _) hgrow ((Below.heap_alloc _ _ _ (lt_of_some (unhide Hi1))).trans (unhide Hi1)))
      have Hb4 := hide (((unhide Hb1).alloc hx1 _).grown hgrow (by simp; omega) (fun x hx => ((unhide Ho1).lt x hx).1))
      have Ho4 := hide hown'
      clear hown' hgrow hne
      go_wp2
      go_roundw
      case rel => exact ⟨1, by omega, unhide Hi4, unhide HF4, unhide Hb4, unhide Ho4⟩
      case measure => rw [iterPos_of (unhide Hi4), iterPos_of (unhide Hit)]; omega
    · obtain rfl : p = 1 := by omega
      have hstep : ∀ ty, (Instr.next (.pointer (some ⟨w3.heap.size, 0, none⟩)) true ty).run Tryz.prog wr = _ := fun ty => Lib.run_next_end_at wr w3.heap.size tB 1 ty hit (by decide)
      have d0 := cell_block hF 0 _ rfl
      have d1 := cell_block hF 1 _ rfl
      have f0 := frozen_block hF 0
      have f1 := frozen_block hF 1
      have s0 := set_self (v := .int .i64 0) hF (i := 0) rfl
      have s1 := set_self (v := .int .i64 0) hF (i := 1) rfl
      have Hbel := hide hbel; have Hown := hide hown
      clear hit hbel hF hown
      go_wp2
      refine bodyPost_ret (v := .tuple #[.slice ua 1 uc, .agg #[.int .i64 0, .int .i64 0]]) (by simp [results, Tryz.results157, go_sem, d0, d1]) rfl ⟨_, rfl, unhide Hown, unhide Hbel⟩
end Go.Proofs.YtkimhfajfbcdmaaGreatDoor

/- The document's From and Parse. -/
import Derived.Test.YtkbhdojgdgiggaaDoorXG
import Derived.Test.YtkbhdojgdgiggaaDoorV18
import Derived.Test.YtkbhdojgdgiggaaDoorV15
namespace Go.Proofs.YtkbhdojgdgiggaaDoor
open Go.RowKit Go.Lib Go.Sort

theorem made_rest (l : List Rng) (hR : ∀ x ∈ l, isR x = true) : madeL (fun c => !hasB l c) (startsL [l]) = restL (mergedL l) := by
  have h1 := madeL_inv [l] (fun s hs => by simp at hs; subst hs; exact hR) (fun c => !hasB l c) (fun c r hcr => by rw [hcr l (by simp)])
  have h0 := mergedL_inv l hR
  have h2 := restFrom_inv (mergedL l) 0 (Int.le_refl _) h0.1
  refine up_uniq h1.1 h2.1 fun r => ?_
  rw [h1.2]
  refine Eq.trans ?_ (h2.2 r).symm
  rw [h0.2]
set_option maxHeartbeats 2000000 in
set_option maxRecDepth 100000 in
theorem rset_no (a : Option Addr) (cap : Nat) (l : List Rng) (hl : l.length ≤ 1048576) (hR : ∀ x ∈ l, isR x = true) (w : World) (hrow : RowAt w a l) :
    Calls Tryd.prog 58 #[.slice a l.length cap, .bool true] w fun e w' => ∃ v, e = .returned (.tuple #[v, .int .i64 (limC (setL true l))]) ∧ w'.ownsRow w.heap.size 55 2 v (limL (setL true l)).length (flat (limL (setL true l))) ∧ Below w.heap.size w w' := by
  have hbw : Below w.heap.size w (w.alloc (.cells #[.slice a l.length cap] 22)) := (Below.refl _ _).alloc (Nat.le_refl _) _
  have hsets := setsAt_one (ca := cap) hrow
  have hRs : ∀ s ∈ [l], ∀ x ∈ s, isR x = true := fun s hs => by simp at hs; subst hs; exact hR
  have HM := hide (by
      have h := rmade_any 3 (fun c => !hasB l c) (some ⟨w.heap.size, 0, none⟩) 1 [l] (by simp) (by simp [tot]; omega) hRs (w.alloc (.cells #[.slice a l.length cap] 22)) hsets
        (fun wr hbr c => by
          have := holds_any 3 (by omega) (some ⟨w.heap.size, 0, none⟩) 1 [l] (by simp) (by simp; omega) c wr (setsAt_below hsets (Nat.le_refl _) hbr)
          rwa [holds_not] at this)
      rw [made_rest l hR] at h
      exact h)
  have Hbw := hide hbw
  have hset : setL true l = restL (mergedL l) := rfl
  rw [hset]
  clear hrow hsets hbw hRs hset hR
  generalize restL (mergedL l) = Z at *
  go_enter Tryd.func58, Tryd.ntmps58
  go_wp2_with fail
  refine (unhide HM).mono ?_
  rintro e w2 ⟨v, rfl, hown, hb2⟩
  have Hb2 := hide ((unhide Hbw).trans (below_le hb2 (unhide Hbw).size))
  have Hown := hide (ownsRow_le hown (show w.heap.size ≤ _ by simp))
  clear hown hb2
  go_wp2
  go_ret2
  exact ⟨v, rfl, unhide Hown, unhide Hb2⟩
set_option maxHeartbeats 2000000 in
set_option maxRecDepth 100000 in
theorem rset_yes (a : Option Addr) (cap : Nat) (l : List Rng) (hl : l.length ≤ 1048576) (hR : ∀ x ∈ l, isR x = true) (w : World) (hrow : RowAt w a l) :
    Calls Tryd.prog 58 #[.slice a l.length cap, .bool false] w fun e w' => ∃ v, e = .returned (.tuple #[v, .int .i64 (limC (setL false l))]) ∧ w'.ownsRow w.heap.size 55 2 v (limL (setL false l)).length (flat (limL (setL false l))) ∧ Below w.heap.size w w' := by
  have hbw : Below w.heap.size w (w.alloc (.cells #[.slice a l.length cap] 22)) := (Below.refl _ _).alloc (Nat.le_refl _) _
  have HM := hide (rmade_one a cap l (by omega) hR (w.alloc (.cells #[.slice a l.length cap] 22)) w.heap.size (by simp) (World.cell?_alloc_mark w #[.slice a l.length cap] 22 (0, 0) 0) (rowAt_below hrow (Nat.le_refl _) hbw))
  have Hbw := hide hbw
  have hset : setL false l = mergedL l := rfl
  rw [hset]
  clear hrow hbw hset hR
  generalize mergedL l = Z at *
  go_enter Tryd.func58, Tryd.ntmps58
  go_wp2_with fail
  refine (unhide HM).mono ?_
  rintro e w2 ⟨v, rfl, hown, hb2⟩
  have Hb2 := hide ((unhide Hbw).trans (below_le hb2 (unhide Hbw).size))
  have Hown := hide (ownsRow_le hown (show w.heap.size ≤ _ by simp))
  clear hown hb2
  go_wp2
  go_ret2
  exact ⟨v, rfl, unhide Hown, unhide Hb2⟩
theorem rset_any (neg : Bool) (a : Option Addr) (cap : Nat) (l : List Rng) (hl : l.length ≤ 1048576) (hR : ∀ x ∈ l, isR x = true) (w : World) (hrow : RowAt w a l) :
    Calls Tryd.prog 58 #[.slice a l.length cap, .bool neg] w fun e w' => ∃ v, e = .returned (.tuple #[v, .int .i64 (limC (setL neg l))]) ∧ w'.ownsRow w.heap.size 55 2 v (limL (setL neg l)).length (flat (limL (setL neg l))) ∧ Below w.heap.size w w' := by
  cases neg
  · exact rset_yes a cap l hl hR w hrow
  · exact rset_no a cap l hl hR w hrow
set_option maxHeartbeats 2000000 in
set_option maxRecDepth 100000 in
theorem rFrom_out (s : ByteArray) (a : Int) (ha : a < 0 ∨ (s.size : Int) < a) (w : World) :
    Calls Tryd.prog 36 #[.string s, .int .i64 a] w (FromP w ⟨[], 0, 1, 0⟩) := by
  rcases ha with ha | ha
  · go_enter Tryd.func36, Tryd.ntmps36
    go_wp2
    refine bodyPost_ret (v := .tuple #[.slice none 0 0, .int .i64 0, .agg #[.int .i64 1, .int .i64 0]]) (by simp [results, Tryd.results36, go_sem]) rfl ⟨_, rfl, own_nil _ _, ?_⟩
    exact (Below.refl _ _).alloc (Nat.le_refl _) _
  · have ha0 : ¬ a < 0 := by omega
    go_enter Tryd.func36, Tryd.ntmps36
    go_wp2
    refine bodyPost_ret (v := .tuple #[.slice none 0 0, .int .i64 0, .agg #[.int .i64 1, .int .i64 0]]) (by simp [results, Tryd.results36, go_sem]) rfl ⟨_, rfl, own_nil _ _, ?_⟩
    exact (Below.refl _ _).alloc (Nat.le_refl _) _
set_option maxHeartbeats 2000000 in
set_option maxRecDepth 100000 in
theorem rFrom_bad (s : ByteArray) (hs : s.size ≤ 1048576) (i : Nat) (hi : i ≤ s.size) (n pos : Nat) (why : Int) (h : rdM s i = ⟨[], n, why, pos⟩) (hw : why ≠ 0) (w : World) :
    Calls Tryd.prog 36 #[.string s, .int .i64 i] w (FromP w ⟨[], 0, why, pos⟩) := by
  have hne : (why == 0) = false := by simpa using hw
  have hi1 : ¬ (s.size : Int) < (i : Int) := by omega
  have HS : Hid (ReadP s i (w.alloc (.cells #[.int .i64 0, .int .i64 0] 48)) (negB s i) ⟨[], n, why, pos⟩) := hide (h ▸ rReads_any s i hs _)
  unfold ReadP at HS
  simp only [if_neg hw] at HS
  clear h
  go_enter Tryd.func36, Tryd.ntmps36
  go_wp2_with fail
  refine (unhide HS).mono ?_
  rintro q w1 ⟨v, rfl, hown, hb⟩
  obtain ⟨va, vc, rfl⟩ := ownsRow_slice hown
  have hfo := ((FX.start w 0 0).below hb (by simp)).alloc (.cells #[.int .i64 why, .int .i64 pos] 48)
  have hfi := FX.start w1 why pos
  have hB := (((Below.refl w.heap.size w).alloc (Nat.le_refl _) (.cells #[.int .i64 0, .int .i64 0] 48)).trans (belowLe hb (by simp)))
  have Hown := hide (ownsRow_le (hown.alloc (.cells #[.int .i64 why, .int .i64 pos] 48)) (show w.heap.size ≤ _ by simp)); have Hb := hide (hB.alloc hB.size (.cells #[.int .i64 why, .int .i64 pos] 48))
  have Hfo := hide hfo; have Hfi := hide hfi
  clear hown hb hfo hfi hB
  have i0 := (unhide Hfi).cell0; have i1 := (unhide Hfi).cell1
  have f0 := (unhide Hfo).cell0; have f1 := (unhide Hfo).cell1; have z0 := (unhide Hfo).fz 0; have z1 := (unhide Hfo).fz 1
  have g1 := (unhide Hfo).set0 why; have y0 := g1.fz 1; have y1 := g1.cell1
  have g2 := g1.set1 (pos : Int); have x0 := g2.cell0; have x1 := g2.cell1
  have HB := hide (below_fault (unhide Hb) (Nat.le_refl _) (.int .i64 why) (.int .i64 (pos : Int)))
  clear g1 g2
  go_wp2
  generalize w1.alloc (.cells #[.int .i64 why, .int .i64 pos] 48) = W at *
  go_region
  go_wp2
  refine bodyPost_ret (v := .tuple #[.slice none 0 0, .int .i64 0, .agg #[.int .i64 why, .int .i64 pos]]) (by simp [results, Tryd.results36, go_sem, x0, x1]) rfl ⟨_, rfl, own_nil _ _, ?_⟩
  exact (unhide HB).drew
set_option maxHeartbeats 2000000 in
set_option maxRecDepth 100000 in
theorem rFrom_long (s : ByteArray) (hs : s.size ≤ 1048576) (i : Nat) (hi : i ≤ s.size) (L : List Rng) (n : Nat) (hL : L.length ≤ 1048576) (hR : ∀ x ∈ L, isR x = true) (h : rdM s i = ⟨L, n, 0, 0⟩) (hl : 2048 < (setL (negB s i) L).length) (w : World) :
    Calls Tryd.prog 36 #[.string s, .int .i64 i] w (FromP w ⟨[], 0, 21, i⟩) := by
  have hi1 : ¬ (s.size : Int) < (i : Int) := by omega
  have hi0 : ¬ (i : Int) < 0 := by omega
  have HS : Hid (ReadP s i (w.alloc (.cells #[.int .i64 0, .int .i64 0] 48)) (negB s i) ⟨L, n, 0, 0⟩) := hide (h ▸ rReads_any s i hs _)
  unfold ReadP at HS
  simp only [if_true] at HS
  have HT := hide (fun a cap w hrow => rset_any (negB s i) a cap L hL hR w hrow)
  generalize negB s i = neg at *
  generalize setL neg L = Z at *
  clear h
  go_enter Tryd.func36, Tryd.ntmps36
  go_wp2_with fail
  refine (unhide HS).mono ?_
  rintro q w1 ⟨v, rfl, hown, hb⟩
  obtain ⟨va, vc, rfl⟩ := ownsRow_slice hown
  have hfo := ((FX.start w 0 0).below hb (by simp)).alloc (.cells #[.int .i64 0, .int .i64 0] 48)
  have hfi := FX.start w1 0 0
  have hB := (((Below.refl w.heap.size w).alloc (Nat.le_refl _) (.cells #[.int .i64 0, .int .i64 0] 48)).trans (belowLe hb (by simp)))
  have Hown := hide (ownsRow_le (hown.alloc (.cells #[.int .i64 0, .int .i64 0] 48)) (show w.heap.size ≤ _ by simp)); have Hb := hide (hB.alloc hB.size (.cells #[.int .i64 0, .int .i64 0] 48))
  have Hfo := hide hfo; have Hfi := hide hfi
  clear hown hb hfo hfi hB
  have i0 := (unhide Hfi).cell0; have i1 := (unhide Hfi).cell1
  have HT1 := hide (unhide HT va vc (w1.alloc (.cells #[.int .i64 0, .int .i64 0] 48)) (rowAt_own (unhide Hown)))
  clear HT
  go_wp2_with fail
  refine (unhide HT1).mono ?_
  rintro q w2 ⟨v, rfl, hown2, hb2⟩
  obtain ⟨va2, vc2, rfl⟩ := ownsRow_slice hown2
  have hfo2 := (unhide Hfo).below hb2 (unhide Hfo).lt
  have hfi2 := (unhide Hfi).below hb2 (unhide Hfi).lt
  have Hfo2 := hide hfo2; have Hfi2 := hide hfi2
  have Hown2 := hide (ownsRow_le hown2 (unhide Hb).size)
  have Hb2 := hide ((unhide Hb).trans (belowLe hb2 (unhide Hb).size))
  clear hown2 hb2 hfo2 hfi2 i0 i1 HT1
  have j0 := (unhide Hfi2).cell0; have j1 := (unhide Hfi2).cell1
  have e1 : limC Z = 21 := if_pos hl
  rw [e1]
  have f0 := (unhide Hfo2).cell0; have f1 := (unhide Hfo2).cell1; have z0 := (unhide Hfo2).fz 0; have z1 := (unhide Hfo2).fz 1
  have g1 := (unhide Hfo2).set0 21; have y0 := g1.fz 1; have y1 := g1.cell1
  have g2 := g1.set1 (i : Int); have x0 := g2.cell0; have x1 := g2.cell1
  have HB := hide (below_fault (unhide Hb2) (Nat.le_refl _) (.int .i64 21) (.int .i64 (i : Int)))
  clear g1 g2
  go_wp2
  refine bodyPost_ret (v := .tuple #[.slice none 0 0, .int .i64 0, .agg #[.int .i64 21, .int .i64 i]]) (by simp [results, Tryd.results36, go_sem, x0, x1]) rfl ⟨_, rfl, own_nil _ _, ?_⟩
  exact unhide HB
set_option maxHeartbeats 2000000 in
set_option maxRecDepth 100000 in
theorem rFrom_good (s : ByteArray) (hs : s.size ≤ 1048576) (i : Nat) (hi : i ≤ s.size) (L : List Rng) (n : Nat) (hL : L.length ≤ 1048576) (hR : ∀ x ∈ L, isR x = true) (h : rdM s i = ⟨L, n, 0, 0⟩) (hl : ¬ 2048 < (setL (negB s i) L).length) (w : World) :
    Calls Tryd.prog 36 #[.string s, .int .i64 i] w (FromP w ⟨setL (negB s i) L, n + 1, 0, 0⟩) := by
  have hi1 : ¬ (s.size : Int) < (i : Int) := by omega
  have hi0 : ¬ (i : Int) < 0 := by omega
  have HS : Hid (ReadP s i (w.alloc (.cells #[.int .i64 0, .int .i64 0] 48)) (negB s i) ⟨L, n, 0, 0⟩) := hide (h ▸ rReads_any s i hs _)
  unfold ReadP at HS
  simp only [if_true] at HS
  have HT := hide (fun a cap w hrow => rset_any (negB s i) a cap L hL hR w hrow)
  generalize negB s i = neg at *
  generalize setL neg L = Z at *
  clear h
  go_enter Tryd.func36, Tryd.ntmps36
  go_wp2_with fail
  refine (unhide HS).mono ?_
  rintro q w1 ⟨v, rfl, hown, hb⟩
  obtain ⟨va, vc, rfl⟩ := ownsRow_slice hown
  have hfo := ((FX.start w 0 0).below hb (by simp)).alloc (.cells #[.int .i64 0, .int .i64 0] 48)
  have hfi := FX.start w1 0 0
  have hB := (((Below.refl w.heap.size w).alloc (Nat.le_refl _) (.cells #[.int .i64 0, .int .i64 0] 48)).trans (belowLe hb (by simp)))
  have Hown := hide (ownsRow_le (hown.alloc (.cells #[.int .i64 0, .int .i64 0] 48)) (show w.heap.size ≤ _ by simp)); have Hb := hide (hB.alloc hB.size (.cells #[.int .i64 0, .int .i64 0] 48))
  have Hfo := hide hfo; have Hfi := hide hfi
  clear hown hb hfo hfi hB
  have i0 := (unhide Hfi).cell0; have i1 := (unhide Hfi).cell1
  have HT1 := hide (unhide HT va vc (w1.alloc (.cells #[.int .i64 0, .int .i64 0] 48)) (rowAt_own (unhide Hown)))
  clear HT
  go_wp2_with fail
  refine (unhide HT1).mono ?_
  rintro q w2 ⟨v, rfl, hown2, hb2⟩
  obtain ⟨va2, vc2, rfl⟩ := ownsRow_slice hown2
  have hfo2 := (unhide Hfo).below hb2 (unhide Hfo).lt
  have hfi2 := (unhide Hfi).below hb2 (unhide Hfi).lt
  have Hfo2 := hide hfo2; have Hfi2 := hide hfi2
  have Hown2 := hide (ownsRow_le hown2 (unhide Hb).size)
  have Hb2 := hide ((unhide Hb).trans (belowLe hb2 (unhide Hb).size))
  clear hown2 hb2 hfo2 hfi2 i0 i1 HT1
  have j0 := (unhide Hfi2).cell0; have j1 := (unhide Hfi2).cell1
  have e1 : limC Z = 0 := if_neg hl
  have e2 : limL Z = Z := if_neg hl
  rw [e2] at Hown2
  rw [e1, e2]
  have f0 := (unhide Hfo2).cell0; have f1 := (unhide Hfo2).cell1; have z0 := (unhide Hfo2).fz 0; have z1 := (unhide Hfo2).fz 1; have q0 := (unhide Hfo2).same0; have q1 := (unhide Hfo2).same1
  go_wp2
  go_region
  go_wp2
  refine bodyPost_ret (v := .tuple #[.slice va2 Z.length vc2, .int .i64 (n + 1 : Nat), .agg #[.int .i64 0, .int .i64 0]]) (by simp [results, Tryd.results36, go_sem, f0, f1]) rfl ⟨_, rfl, unhide Hown2, ?_⟩
  exact (unhide Hb2).drew
end Go.Proofs.YtkbhdojgdgiggaaDoor

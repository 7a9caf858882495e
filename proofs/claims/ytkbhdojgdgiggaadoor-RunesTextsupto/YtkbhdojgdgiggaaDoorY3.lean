/- The readers at any text: readSet whole, Parse, From. (and what it leads to) -/
import Derived.Test.YtkbhdojgdgiggaaDoorXA
import Derived.RegionTactic
/- The readers at any text: readSet whole, Parse, From. -/
namespace Go.Proofs.YtkbhdojgdgiggaaDoor
open Go.RowKit Go.Lib Go.Sort

theorem rdsF_ok (s : ByteArray) (f i : Nat) (acc : List Rng) (hf : s.size + 1 ≤ i + f) (hi : i ≤ s.size) (hall : ∀ x ∈ acc, isR x = true) (hacc : acc.length ≤ i) :
    ((rdsF s f i acc).why = 0 → (rdsF s f i acc).pos = 0 ∧ (rdsF s f i acc).n < s.size ∧ (∀ x ∈ (rdsF s f i acc).l, isR x = true) ∧ (rdsF s f i acc).l.length ≤ s.size) ∧ ((rdsF s f i acc).why ≠ 0 → (rdsF s f i acc).l = [] ∧ (rdsF s f i acc).n = 0) := by
  induction f generalizing i acc with
  | zero => omega
  | succ f ih =>
    rw [rdsF]
    by_cases h1 : gb s i = 93
    · rw [if_pos h1]
      exact ⟨fun _ => ⟨rfl, gb_pos (by rw [h1]; omega), hall, by dsimp only; omega⟩, fun h => absurd rfl h⟩
    rw [if_neg h1]
    by_cases h2 : gb s i = 32
    · rw [if_pos h2]
      have := gb_pos (s := s) (i := i) (by rw [h2]; omega)
      exact ih (i + 1) acc (by omega) (by omega) hall (by omega)
    rw [if_neg h2]
    by_cases h3 : (rngM s i).why ≠ 0
    · rw [if_pos h3]
      exact ⟨fun h => absurd h h3, fun _ => ⟨rfl, rfl⟩⟩
    rw [if_neg h3]
    have hk := rngM_ok s i (by simpa using h3)
    refine ih _ _ (by omega) hk.2.1 (fun x hx => ?_) (by simp; omega)
    rcases List.mem_append.1 hx with hx | hx
    · exact hall x hx
    · simp at hx; rw [hx]; exact hk.2.2.1
def negB (s : ByteArray) (i : Nat) : Bool := gb s (i + 1) == 94
/-- The ranges that a text says from a place on, and where the closing bracket is. -/
def rdM (s : ByteArray) (i : Nat) : Rs := if gb s i = 91 then rdsF s (s.size + 1) (if negB s i then i + 2 else i + 1) [] else ⟨[], 0, 5, i⟩
/-- The set that a text says from a place on, and where it ends. -/
def setM (s : ByteArray) (i : Nat) : Rs := if (rdM s i).why = 0 then ⟨setL (negB s i) (rdM s i).l, (rdM s i).n + 1, 0, 0⟩ else ⟨[], 0, (rdM s i).why, (rdM s i).pos⟩
theorem rdM_ok (s : ByteArray) (i : Nat) : ((rdM s i).why = 0 → (rdM s i).pos = 0 ∧ (rdM s i).n < s.size ∧ (∀ x ∈ (rdM s i).l, isR x = true) ∧ (rdM s i).l.length ≤ s.size) ∧ ((rdM s i).why ≠ 0 → (rdM s i).l = [] ∧ (rdM s i).n = 0) := by
  unfold rdM
  by_cases h : gb s i = 91
  · rw [if_pos h]
    have hi := gb_pos (s := s) (i := i) (by rw [h]; omega)
    refine rdsF_ok s _ _ [] (by split <;> omega) ?_ (fun x hx => by cases hx) (by simp)
    split
    · rename_i hn
      have := gb_pos (s := s) (i := i + 1) (by have : gb s (i + 1) = 94 := by simpa [negB] using hn
                                               rw [this]; omega)
      omega
    · omega
  · rw [if_neg h]
    exact ⟨fun h => by simp at h, fun _ => ⟨rfl, rfl⟩⟩
/-- readSet tells this. -/
def SetAt (s : ByteArray) (i : Nat) (w : World) (R : Rs) : Prop := Calls Tryd.prog 56 #[.string s, .int .i64 i] w fun q w' => ∃ v, q = .returned (.tuple #[v, .int .i64 R.n, .agg #[.int .i64 R.why, .int .i64 R.pos]]) ∧ w'.ownsRow w.heap.size 55 2 v R.l.length (flat R.l) ∧ Below w.heap.size w w'
set_option maxHeartbeats 2000000 in
set_option maxRecDepth 100000 in
theorem readSet_no (s : ByteArray) (i : Nat) (h0 : gb s i ≠ 91) (w : World) : SetAt s i w ⟨[], 0, 5, i⟩ := by
  have HI := hide (isByte_any s i 91 (by omega))
  rw [show (gb s i == 91) = false by simpa using h0] at HI
  have HN := hide (noForm_eq (i : Int))
  unfold SetAt
  go_enter Tryd.func56, Tryd.ntmps56
  go_wp2_with fail
  refine (unhide HI _).mono ?_
  rintro e w' ⟨rfl, hw⟩
  obtain rfl := hw.symm
  go_wp2_with fail
  refine (unhide HN _).mono ?_
  rintro e w' ⟨rfl, hw⟩
  obtain rfl := hw.symm
  go_wp2
  refine bodyPost_ret (v := .tuple #[.slice none 0 0, .int .i64 0, .agg #[.int .i64 5, .int .i64 i]]) (by simp [results, Tryd.results56, go_sem]) rfl ⟨.slice none 0 0, by simp, ⟨rfl, .inl ⟨rfl, rfl⟩⟩, ?_⟩
  exact below_two _ _ _
theorem readSet_any (s : ByteArray) (i : Nat) (hs : s.size ≤ 1048576) (w : World) (hU : UT w) : SetAt s i w (setM s i) := by
  have hok := rdM_ok s i
  unfold setM
  by_cases h : gb s i = 91
  · have e : rdM s i = rdsF s (s.size + 1) (if negB s i then i + 2 else i + 1) [] := by unfold rdM; rw [if_pos h]
    have key : SetAt s i w ⟨if (rdM s i).why = 0 then setL (negB s i) (rdM s i).l else [], if (rdM s i).why = 0 then (rdM s i).n + 1 else 0, (rdM s i).why, (rdM s i).pos⟩ := by
      cases hn : negB s i with
      | true =>
        rw [hn, if_pos rfl] at e
        exact readSet_true s i hs h hn _ e.symm w hU
      | false =>
        rw [hn, if_neg (by simp)] at e
        exact readSet_false s i hs h hn _ e.symm w hU
    by_cases hw : (rdM s i).why = 0
    · rw [if_pos hw] at key ⊢
      rw [if_pos hw, hw, (hok.1 hw).1] at key
      exact key
    · rw [if_neg hw] at key ⊢
      rw [if_neg hw] at key
      exact key
  · have e : rdM s i = ⟨[], 0, 5, i⟩ := by unfold rdM; rw [if_neg h]
    rw [e]
    exact readSet_no s i h w
end Go.Proofs.YtkbhdojgdgiggaaDoor

/- Parse and From at any text. -/
namespace Go.Proofs.YtkbhdojgdgiggaaDoor
open Go.RowKit Go.Lib Go.Sort

def ParseP (w : World) (L : List Rng) (why : Int) (pos : Nat) (q : Ending) (w' : World) : Prop := ∃ v, q = .returned (.tuple #[v, .agg #[.int .i64 why, .int .i64 pos]]) ∧ w'.ownsRow w.heap.size 55 2 v L.length (flat L) ∧ Below w.heap.size w w'
def FromP (w : World) (R : Rs) (q : Ending) (w' : World) : Prop := ∃ v, q = .returned (.tuple #[v, .int .i64 R.n, .agg #[.int .i64 R.why, .int .i64 R.pos]]) ∧ w'.ownsRow w.heap.size 55 2 v R.l.length (flat R.l) ∧ Below w.heap.size w w'
theorem own_nil (W : World) (B : Nat) : W.ownsRow B 55 2 (.slice none 0 0) (List.length ([] : List Rng)) (flat []) := ⟨rfl, .inl ⟨rfl, rfl⟩⟩
set_option maxHeartbeats 2000000 in
set_option maxRecDepth 100000 in
theorem parse_bad (s : ByteArray) (hs : s.size ≤ 1048576) (L : List Rng) (n pos : Nat) (why : Int) (h : setM s 0 = ⟨L, n, why, pos⟩) (hw : why ≠ 0) (w : World) (hU : UT w) :
    Calls Tryd.prog 33 #[.string s] w (ParseP w [] why pos) := by
  have hne : (why == 0) = false := by simpa using hw
  have HS : Hid (SetAt s 0 (w.alloc (.cells #[.int .i64 0, .int .i64 0] 48)) ⟨L, n, why, pos⟩) := hide (h ▸ readSet_any s 0 hs _ (hU.alloc _))
  unfold SetAt at HS
  clear h hU
  go_enter Tryd.func33, Tryd.ntmps33
  go_wp2_with fail
  refine (unhide HS).mono ?_
  rintro q w1 ⟨v, rfl, hown, hb⟩
  obtain ⟨va, vc, rfl⟩ := ownsRow_slice hown
  have hfo := ((FX.start w 0 0).below hb (by simp)).alloc (.cells #[.int .i64 why, .int .i64 pos] 48)
  have hfi := FX.start w1 why pos
  have hB := (((Below.refl w.heap.size w).alloc (Nat.le_refl _) (.cells #[.int .i64 0, .int .i64 0] 48)).trans (belowLe hb (by simp)))
  have Hown := hide (ownsRow_le (hown.alloc (.cells #[.int .i64 why, .int .i64 pos] 48)) (show w.heap.size ≤ _ by simp)); have Hb := hide (hB.alloc hB.size (.cells #[.int .i64 why, .int .i64 pos] 48))
  have Hfo := hide hfo; have Hfi := hide hfi
  clear hown hb hfo hfi hB
  have i0 := (unhide Hfi).cell0; have i1 := (unhide Hfi).cell1
  have f0 := (unhide Hfo).cell0; have f1 := (unhide Hfo).cell1; have z0 := (unhide Hfo).fz 0; have z1 := (unhide Hfo).fz 1
  have g1 := (unhide Hfo).set0 why; have y0 := g1.fz 1; have y1 := g1.cell1
  have g2 := g1.set1 (pos : Int); have x0 := g2.cell0; have x1 := g2.cell1
  have HB := hide (below_fault (unhide Hb) (Nat.le_refl _) (.int .i64 why) (.int .i64 (pos : Int)))
  clear g1 g2
  go_wp2
  generalize w1.alloc (.cells #[.int .i64 why, .int .i64 pos] 48) = W at *
  go_region
  go_wp2
  refine bodyPost_ret (v := .tuple #[.slice none 0 0, .agg #[.int .i64 why, .int .i64 pos]]) (by simp [results, Tryd.results33, go_sem, x0, x1]) rfl ⟨_, rfl, own_nil _ _, ?_⟩
  exact (unhide HB).drew
set_option maxHeartbeats 2000000 in
set_option maxRecDepth 100000 in
theorem parse_more (s : ByteArray) (hs : s.size ≤ 1048576) (L : List Rng) (n pos : Nat) (why : Int) (h : setM s 0 = ⟨L, n, why, pos⟩) (hw : why = 0) (hp : pos = 0) (hn : n < s.size) (w : World) (hU : UT w) :
    Calls Tryd.prog 33 #[.string s] w (ParseP w [] 6 n) := by
  subst hw hp
  have hl : ((n : Nat) : Int) < (s.size : Int) := by omega
  have HS : Hid (SetAt s 0 (w.alloc (.cells #[.int .i64 0, .int .i64 0] 48)) ⟨L, n, 0, 0⟩) := hide (h ▸ readSet_any s 0 hs _ (hU.alloc _))
  unfold SetAt at HS
  clear h hU
  go_enter Tryd.func33, Tryd.ntmps33
  go_wp2_with fail
  refine (unhide HS).mono ?_
  rintro q w1 ⟨v, rfl, hown, hb⟩
  obtain ⟨va, vc, rfl⟩ := ownsRow_slice hown
  have hfo := ((FX.start w 0 0).below hb (by simp)).alloc (.cells #[.int .i64 0, .int .i64 0] 48)
  have hfi := FX.start w1 0 0
  have hB := (((Below.refl w.heap.size w).alloc (Nat.le_refl _) (.cells #[.int .i64 0, .int .i64 0] 48)).trans (belowLe hb (by simp)))
  have Hown := hide (ownsRow_le (hown.alloc (.cells #[.int .i64 0, .int .i64 0] 48)) (show w.heap.size ≤ _ by simp)); have Hb := hide (hB.alloc hB.size (.cells #[.int .i64 0, .int .i64 0] 48))
  have Hfo := hide hfo; have Hfi := hide hfi
  clear hown hb hfo hfi hB
  have i0 := (unhide Hfi).cell0; have i1 := (unhide Hfi).cell1
  have f0 := (unhide Hfo).cell0; have f1 := (unhide Hfo).cell1; have z0 := (unhide Hfo).fz 0; have z1 := (unhide Hfo).fz 1
  have g1 := (unhide Hfo).set0 6; have y0 := g1.fz 1; have y1 := g1.cell1
  have g2 := g1.set1 (n : Int); have x0 := g2.cell0; have x1 := g2.cell1
  have HB := hide (below_fault (unhide Hb) (Nat.le_refl _) (.int .i64 6) (.int .i64 (n : Int)))
  clear g1 g2
  go_wp2
  refine bodyPost_ret (v := .tuple #[.slice none 0 0, .agg #[.int .i64 6, .int .i64 n]]) (by simp [results, Tryd.results33, go_sem, x0, x1]) rfl ⟨_, rfl, own_nil _ _, ?_⟩
  exact (unhide HB)
set_option maxHeartbeats 2000000 in
set_option maxRecDepth 100000 in
theorem parse_long (s : ByteArray) (hs : s.size ≤ 1048576) (L : List Rng) (n pos : Nat) (why : Int) (h : setM s 0 = ⟨L, n, why, pos⟩) (hw : why = 0) (hp : pos = 0) (hn : ¬ n < s.size) (hL : 2048 < L.length) (w : World) (hU : UT w) :
    Calls Tryd.prog 33 #[.string s] w (ParseP w [] 21 0) := by
  subst hw hp
  have hl : ¬ ((n : Nat) : Int) < (s.size : Int) := by omega
  have hm : (2048 : Int) < (L.length : Int) := by omega
  have HS : Hid (SetAt s 0 (w.alloc (.cells #[.int .i64 0, .int .i64 0] 48)) ⟨L, n, 0, 0⟩) := hide (h ▸ readSet_any s 0 hs _ (hU.alloc _))
  unfold SetAt at HS
  clear h hU
  go_enter Tryd.func33, Tryd.ntmps33
  go_wp2_with fail
  refine (unhide HS).mono ?_
  rintro q w1 ⟨v, rfl, hown, hb⟩
  obtain ⟨va, vc, rfl⟩ := ownsRow_slice hown
  have hfo := ((FX.start w 0 0).below hb (by simp)).alloc (.cells #[.int .i64 0, .int .i64 0] 48)
  have hfi := FX.start w1 0 0
  have hB := (((Below.refl w.heap.size w).alloc (Nat.le_refl _) (.cells #[.int .i64 0, .int .i64 0] 48)).trans (belowLe hb (by simp)))
  have Hown := hide (ownsRow_le (hown.alloc (.cells #[.int .i64 0, .int .i64 0] 48)) (show w.heap.size ≤ _ by simp)); have Hb := hide (hB.alloc hB.size (.cells #[.int .i64 0, .int .i64 0] 48))
  have Hfo := hide hfo; have Hfi := hide hfi
  clear hown hb hfo hfi hB
  have i0 := (unhide Hfi).cell0; have i1 := (unhide Hfi).cell1
  have f0 := (unhide Hfo).cell0; have f1 := (unhide Hfo).cell1; have z0 := (unhide Hfo).fz 0; have z1 := (unhide Hfo).fz 1
  have g1 := (unhide Hfo).set0 21; have y0 := g1.fz 1; have y1 := g1.cell1
  have g2 := g1.set1 0; have x0 := g2.cell0; have x1 := g2.cell1
  have HB := hide (below_fault (unhide Hb) (Nat.le_refl _) (.int .i64 21) (.int .i64 0))
  clear g1 g2
  go_wp2
  refine bodyPost_ret (v := .tuple #[.slice none 0 0, .agg #[.int .i64 21, .int .i64 0]]) (by simp [results, Tryd.results33, go_sem, x0, x1]) rfl ⟨_, rfl, own_nil _ _, ?_⟩
  exact (unhide HB)
set_option maxHeartbeats 2000000 in
set_option maxRecDepth 100000 in
theorem parse_good (s : ByteArray) (hs : s.size ≤ 1048576) (L : List Rng) (n pos : Nat) (why : Int) (h : setM s 0 = ⟨L, n, why, pos⟩) (hw : why = 0) (hp : pos = 0) (hn : ¬ n < s.size) (hL : ¬ 2048 < L.length) (w : World) (hU : UT w) :
    Calls Tryd.prog 33 #[.string s] w (ParseP w L 0 0) := by
  subst hw hp
  have hl : ¬ ((n : Nat) : Int) < (s.size : Int) := by omega
  have hm : ¬ (2048 : Int) < (L.length : Int) := by omega
  have HS : Hid (SetAt s 0 (w.alloc (.cells #[.int .i64 0, .int .i64 0] 48)) ⟨L, n, 0, 0⟩) := hide (h ▸ readSet_any s 0 hs _ (hU.alloc _))
  unfold SetAt at HS
  clear h hU
  go_enter Tryd.func33, Tryd.ntmps33
  go_wp2_with fail
  refine (unhide HS).mono ?_
  rintro q w1 ⟨v, rfl, hown, hb⟩
  obtain ⟨va, vc, rfl⟩ := ownsRow_slice hown
  have hfo := ((FX.start w 0 0).below hb (by simp)).alloc (.cells #[.int .i64 0, .int .i64 0] 48)
  have hfi := FX.start w1 0 0
  have hB := (((Below.refl w.heap.size w).alloc (Nat.le_refl _) (.cells #[.int .i64 0, .int .i64 0] 48)).trans (belowLe hb (by simp)))
  have Hown := hide (ownsRow_le (hown.alloc (.cells #[.int .i64 0, .int .i64 0] 48)) (show w.heap.size ≤ _ by simp)); have Hb := hide (hB.alloc hB.size (.cells #[.int .i64 0, .int .i64 0] 48))
  have Hfo := hide hfo; have Hfi := hide hfi
  clear hown hb hfo hfi hB
  have i0 := (unhide Hfi).cell0; have i1 := (unhide Hfi).cell1
  have x0 := (unhide Hfo).cell0; have x1 := (unhide Hfo).cell1; have z0 := (unhide Hfo).fz 0; have z1 := (unhide Hfo).fz 1; have q0 := (unhide Hfo).same0; have q1 := (unhide Hfo).same1
  have HB := Hb; have Hown2 := Hown
  go_wp2
  refine bodyPost_ret (v := .tuple #[.slice va L.length vc, .agg #[.int .i64 0, .int .i64 0]]) (by simp [results, Tryd.results33, go_sem, x0, x1]) rfl ⟨_, rfl, unhide Hown2, ?_⟩
  exact (unhide HB)
set_option maxHeartbeats 2000000 in
set_option maxRecDepth 100000 in
theorem from_out (s : ByteArray) (a : Int) (ha : a < 0 ∨ (s.size : Int) < a) (w : World) :
    Calls Tryd.prog 35 #[.string s, .int .i64 a] w (FromP w ⟨[], 0, 1, 0⟩) := by
  rcases ha with ha | ha
  · go_enter Tryd.func35, Tryd.ntmps35
    go_wp2
    refine bodyPost_ret (v := .tuple #[.slice none 0 0, .int .i64 0, .agg #[.int .i64 1, .int .i64 0]]) (by simp [results, Tryd.results35, go_sem]) rfl ⟨_, rfl, own_nil _ _, ?_⟩
    exact (Below.refl _ _).alloc (Nat.le_refl _) _
  · have ha0 : ¬ a < 0 := by omega
    go_enter Tryd.func35, Tryd.ntmps35
    go_wp2
    refine bodyPost_ret (v := .tuple #[.slice none 0 0, .int .i64 0, .agg #[.int .i64 1, .int .i64 0]]) (by simp [results, Tryd.results35, go_sem]) rfl ⟨_, rfl, own_nil _ _, ?_⟩
    exact (Below.refl _ _).alloc (Nat.le_refl _) _
set_option maxHeartbeats 2000000 in
set_option maxRecDepth 100000 in
theorem from_bad (s : ByteArray) (hs : s.size ≤ 1048576) (i : Nat) (hi : i ≤ s.size) (L : List Rng) (n pos : Nat) (why : Int) (h : setM s i = ⟨L, n, why, pos⟩) (hw : why ≠ 0) (w : World) (hU : UT w) :
    Calls Tryd.prog 35 #[.string s, .int .i64 i] w (FromP w ⟨[], 0, why, pos⟩) := by
  have hne : (why == 0) = false := by simpa using hw
  have hi1 : ¬ (s.size : Int) < (i : Int) := by omega
  have HS : Hid (SetAt s i (w.alloc (.cells #[.int .i64 0, .int .i64 0] 48)) ⟨L, n, why, pos⟩) := hide (h ▸ readSet_any s i hs _ (hU.alloc _))
  unfold SetAt at HS
  clear h hU
  go_enter Tryd.func35, Tryd.ntmps35
  go_wp2_with fail
  refine (unhide HS).mono ?_
  rintro q w1 ⟨v, rfl, hown, hb⟩
  obtain ⟨va, vc, rfl⟩ := ownsRow_slice hown
  have hfo := ((FX.start w 0 0).below hb (by simp)).alloc (.cells #[.int .i64 why, .int .i64 pos] 48)
  have hfi := FX.start w1 why pos
  have hB := (((Below.refl w.heap.size w).alloc (Nat.le_refl _) (.cells #[.int .i64 0, .int .i64 0] 48)).trans (belowLe hb (by simp)))
  have Hown := hide (ownsRow_le (hown.alloc (.cells #[.int .i64 why, .int .i64 pos] 48)) (show w.heap.size ≤ _ by simp)); have Hb := hide (hB.alloc hB.size (.cells #[.int .i64 why, .int .i64 pos] 48))
  have Hfo := hide hfo; have Hfi := hide hfi
  clear hown hb hfo hfi hB
  have i0 := (unhide Hfi).cell0; have i1 := (unhide Hfi).cell1
  have f0 := (unhide Hfo).cell0; have f1 := (unhide Hfo).cell1; have z0 := (unhide Hfo).fz 0; have z1 := (unhide Hfo).fz 1
  have g1 := (unhide Hfo).set0 why; have y0 := g1.fz 1; have y1 := g1.cell1
  have g2 := g1.set1 (pos : Int); have x0 := g2.cell0; have x1 := g2.cell1
  have HB := hide (below_fault (unhide Hb) (Nat.le_refl _) (.int .i64 why) (.int .i64 (pos : Int)))
  clear g1 g2
  go_wp2
  generalize w1.alloc (.cells #[.int .i64 why, .int .i64 pos] 48) = W at *
  go_region
  go_wp2
  refine bodyPost_ret (v := .tuple #[.slice none 0 0, .int .i64 0, .agg #[.int .i64 why, .int .i64 pos]]) (by simp [results, Tryd.results35, go_sem, x0, x1]) rfl ⟨_, rfl, own_nil _ _, ?_⟩
  exact (unhide HB).drew
set_option maxHeartbeats 2000000 in
set_option maxRecDepth 100000 in
theorem from_long (s : ByteArray) (hs : s.size ≤ 1048576) (i : Nat) (hi : i ≤ s.size) (L : List Rng) (n pos : Nat) (why : Int) (h : setM s i = ⟨L, n, why, pos⟩) (hw : why = 0) (hp : pos = 0) (hL : 2048 < L.length) (w : World) (hU : UT w) :
    Calls Tryd.prog 35 #[.string s, .int .i64 i] w (FromP w ⟨[], 0, 21, i⟩) := by
  subst hw hp
  have hi1 : ¬ (s.size : Int) < (i : Int) := by omega
  have hm : (2048 : Int) < (L.length : Int) := by omega
  have HS : Hid (SetAt s i (w.alloc (.cells #[.int .i64 0, .int .i64 0] 48)) ⟨L, n, 0, 0⟩) := hide (h ▸ readSet_any s i hs _ (hU.alloc _))
  unfold SetAt at HS
  clear h hU
  go_enter Tryd.func35, Tryd.ntmps35
  go_wp2_with fail
  refine (unhide HS).mono ?_
  rintro q w1 ⟨v, rfl, hown, hb⟩
  obtain ⟨va, vc, rfl⟩ := ownsRow_slice hown
  have hfo := ((FX.start w 0 0).below hb (by simp)).alloc (.cells #[.int .i64 0, .int .i64 0] 48)
  have hfi := FX.start w1 0 0
  have hB := (((Below.refl w.heap.size w).alloc (Nat.le_refl _) (.cells #[.int .i64 0, .int .i64 0] 48)).trans (belowLe hb (by simp)))
  have Hown := hide (ownsRow_le (hown.alloc (.cells #[.int .i64 0, .int .i64 0] 48)) (show w.heap.size ≤ _ by simp)); have Hb := hide (hB.alloc hB.size (.cells #[.int .i64 0, .int .i64 0] 48))
  have Hfo := hide hfo; have Hfi := hide hfi
  clear hown hb hfo hfi hB
  have i0 := (unhide Hfi).cell0; have i1 := (unhide Hfi).cell1
  have f0 := (unhide Hfo).cell0; have f1 := (unhide Hfo).cell1; have z0 := (unhide Hfo).fz 0; have z1 := (unhide Hfo).fz 1
  have g1 := (unhide Hfo).set0 21; have y0 := g1.fz 1; have y1 := g1.cell1
  have g2 := g1.set1 (i : Int); have x0 := g2.cell0; have x1 := g2.cell1
  have HB := hide (below_fault (unhide Hb) (Nat.le_refl _) (.int .i64 21) (.int .i64 (i : Int)))
  clear g1 g2
  go_wp2
  refine bodyPost_ret (v := .tuple #[.slice none 0 0, .int .i64 0, .agg #[.int .i64 21, .int .i64 i]]) (by simp [results, Tryd.results35, go_sem, x0, x1]) rfl ⟨_, rfl, own_nil _ _, ?_⟩
  exact (unhide HB)
set_option maxHeartbeats 2000000 in
set_option maxRecDepth 100000 in
theorem from_good (s : ByteArray) (hs : s.size ≤ 1048576) (i : Nat) (hi : i ≤ s.size) (L : List Rng) (n pos : Nat) (why : Int) (h : setM s i = ⟨L, n, why, pos⟩) (hw : why = 0) (hp : pos = 0) (hL : ¬ 2048 < L.length) (w : World) (hU : UT w) :
    Calls Tryd.prog 35 #[.string s, .int .i64 i] w (FromP w ⟨L, n, 0, 0⟩) := by
  subst hw hp
  have hi1 : ¬ (s.size : Int) < (i : Int) := by omega
  have hm : ¬ (2048 : Int) < (L.length : Int) := by omega
  have HS : Hid (SetAt s i (w.alloc (.cells #[.int .i64 0, .int .i64 0] 48)) ⟨L, n, 0, 0⟩) := hide (h ▸ readSet_any s i hs _ (hU.alloc _))
  unfold SetAt at HS
  clear h hU
  go_enter Tryd.func35, Tryd.ntmps35
  go_wp2_with fail
  refine (unhide HS).mono ?_
  rintro q w1 ⟨v, rfl, hown, hb⟩
  obtain ⟨va, vc, rfl⟩ := ownsRow_slice hown
  have hfo := ((FX.start w 0 0).below hb (by simp)).alloc (.cells #[.int .i64 0, .int .i64 0] 48)
  have hfi := FX.start w1 0 0
  have hB := (((Below.refl w.heap.size w).alloc (Nat.le_refl _) (.cells #[.int .i64 0, .int .i64 0] 48)).trans (belowLe hb (by simp)))
  have Hown := hide (ownsRow_le (hown.alloc (.cells #[.int .i64 0, .int .i64 0] 48)) (show w.heap.size ≤ _ by simp)); have Hb := hide (hB.alloc hB.size (.cells #[.int .i64 0, .int .i64 0] 48))
  have Hfo := hide hfo; have Hfi := hide hfi
  clear hown hb hfo hfi hB
  have i0 := (unhide Hfi).cell0; have i1 := (unhide Hfi).cell1
  have x0 := (unhide Hfo).cell0; have x1 := (unhide Hfo).cell1; have z0 := (unhide Hfo).fz 0; have z1 := (unhide Hfo).fz 1; have q0 := (unhide Hfo).same0; have q1 := (unhide Hfo).same1
  have HB := Hb; have Hown2 := Hown
  go_wp2
  refine bodyPost_ret (v := .tuple #[.slice va L.length vc, .int .i64 n, .agg #[.int .i64 0, .int .i64 0]]) (by simp [results, Tryd.results35, go_sem, x0, x1]) rfl ⟨_, rfl, unhide Hown2, ?_⟩
  exact (unhide HB)
theorem setM_pos (s : ByteArray) (i : Nat) (h : (setM s i).why = 0) : (setM s i).pos = 0 := by
  unfold setM at h ⊢
  by_cases hw : (rdM s i).why = 0
  · rw [if_pos hw]
  · rw [if_neg hw] at h; exact absurd h hw
def parseM (s : ByteArray) : Rs := if (setM s 0).why ≠ 0 then ⟨[], 0, (setM s 0).why, (setM s 0).pos⟩ else if (setM s 0).n < s.size then ⟨[], 0, 6, (setM s 0).n⟩ else if 2048 < (setM s 0).l.length then ⟨[], 0, 21, 0⟩ else ⟨(setM s 0).l, 0, 0, 0⟩
def fromM (s : ByteArray) (a : Int) : Rs := if a < 0 ∨ (s.size : Int) < a then ⟨[], 0, 1, 0⟩ else if (setM s a.toNat).why ≠ 0 then ⟨[], 0, (setM s a.toNat).why, (setM s a.toNat).pos⟩ else if 2048 < (setM s a.toNat).l.length then ⟨[], 0, 21, a.toNat⟩ else ⟨(setM s a.toNat).l, (setM s a.toNat).n, 0, 0⟩
theorem parse_any (s : ByteArray) (hs : s.size ≤ 1048576) (w : World) (hU : UT w) : Calls Tryd.prog 33 #[.string s] w (ParseP w (parseM s).l (parseM s).why (parseM s).pos) := by
  unfold parseM
  have hp := setM_pos s 0
  obtain ⟨L, n, why, pos, e⟩ : ∃ L n why pos, setM s 0 = ⟨L, n, why, pos⟩ := ⟨_, _, _, _, rfl⟩
  simp only [e] at hp ⊢
  by_cases h1 : why ≠ 0
  · rw [if_pos h1]; exact parse_bad s hs L n pos why e h1 w hU
  rw [if_neg h1]
  have h0 : why = 0 := by simpa using h1
  by_cases h2 : n < s.size
  · rw [if_pos h2]; exact parse_more s hs L n pos why e h0 (hp h0) h2 w hU
  rw [if_neg h2]
  by_cases h3 : 2048 < L.length
  · rw [if_pos h3]; exact parse_long s hs L n pos why e h0 (hp h0) h2 h3 w hU
  · rw [if_neg h3]; exact parse_good s hs L n pos why e h0 (hp h0) h2 h3 w hU
theorem from_any (s : ByteArray) (hs : s.size ≤ 1048576) (a : Int) (w : World) (hU : UT w) : Calls Tryd.prog 35 #[.string s, .int .i64 a] w (FromP w (fromM s a)) := by
  unfold fromM
  by_cases ha : a < 0 ∨ (s.size : Int) < a
  · rw [if_pos ha]; exact from_out s a ha w
  rw [if_neg ha]
  obtain ⟨i, rfl⟩ : ∃ i : Nat, a = i := ⟨a.toNat, by omega⟩
  have hp := setM_pos s i
  obtain ⟨L, n, why, pos, e⟩ : ∃ L n why pos, setM s i = ⟨L, n, why, pos⟩ := ⟨_, _, _, _, rfl⟩
  simp only [Int.toNat_natCast, e] at hp ⊢
  have hi : i ≤ s.size := by omega
  by_cases h1 : why ≠ 0
  · rw [if_pos h1]; exact from_bad s hs i hi L n pos why e h1 w hU
  rw [if_neg h1]
  have h0 : why = 0 := by simpa using h1
  by_cases h3 : 2048 < L.length
  · rw [if_pos h3]; exact from_long s hs i hi L n pos why e h0 (hp h0) h3 w hU
  · rw [if_neg h3]; exact from_good s hs i hi L n pos why e h0 (hp h0) h3 w hU
end Go.Proofs.YtkbhdojgdgiggaaDoor

/- The document's From and Parse, at any text. -/
import Derived.Test.YtkbhdojgdgiggaaDoorXH
namespace Go.Proofs.YtkbhdojgdgiggaaDoor
open Go.RowKit Go.Lib Go.Sort

theorem own_set {w : World} {B e z n c : Nat} {v : Value} {xs : List Value} (h : w.ownsRow B e z v n xs) (hc : c < B) (j : Nat) (x : Value) : (w.setCell ⟨c, j, none⟩ x).ownsRow B e z v n xs := by
  obtain ⟨hl, hh⟩ := h
  refine ⟨hl, ?_⟩
  rcases hh with hh | ⟨g, cap, cur, h1, h2, h3, h4⟩
  · exact .inl hh
  · refine .inr ⟨g, cap, cur, h1, h2, ?_, h4⟩
    rw [Go.Sort.setCell_eq]
    show (w.heap.modify c _)[g]? = _
    rw [Array.getElem?_modify, if_neg (by omega)]
    exact h3
theorem rFrom_any (s : ByteArray) (hs : s.size ≤ 1048576) (a : Int) (w : World) : Calls Tryd.prog 36 #[.string s, .int .i64 a] w (FromP w (fromM s a)) := by
  unfold fromM
  by_cases ha : a < 0 ∨ (s.size : Int) < a
  · rw [if_pos ha]; exact rFrom_out s a ha w
  rw [if_neg ha]
  obtain ⟨i, rfl⟩ : ∃ i : Nat, a = i := ⟨a.toNat, by omega⟩
  have hok := rdM_ok s i
  have hi : i ≤ s.size := by omega
  rw [Int.toNat_natCast]
  unfold setM
  obtain ⟨L, n, why, pos, e⟩ : ∃ L n why pos, rdM s i = ⟨L, n, why, pos⟩ := ⟨_, _, _, _, rfl⟩
  simp only [e] at hok ⊢
  by_cases h1 : why = 0
  · obtain ⟨h2, h3, h4, h5⟩ := hok.1 h1
    subst h1 h2
    simp only [if_true, ne_eq, not_true_eq_false, if_false]
    by_cases hl : 2048 < (setL (negB s i) L).length
    · rw [if_pos hl]; exact rFrom_long s hs i hi L n (by omega) h4 e hl w
    · rw [if_neg hl]; exact rFrom_good s hs i hi L n (by omega) h4 e hl w
  · obtain ⟨h2, h3⟩ := hok.2 h1
    subst h2 h3
    simp only [if_neg h1]
    rw [if_pos h1]
    exact rFrom_bad s hs i hi 0 pos why e h1 w
set_option maxHeartbeats 2000000 in
set_option maxRecDepth 100000 in
theorem rParse_bad (s : ByteArray) (hs : s.size ≤ 1048576) (n pos : Nat) (why : Int) (h : rdM s 0 = ⟨[], n, why, pos⟩) (hw : why ≠ 0) (w : World) :
    Calls Tryd.prog 34 #[.string s] w (ParseP w [] why pos) := by
  have hne : (why == 0) = false := by simpa using hw
  have HS : Hid (ReadP s 0 (w.alloc (.cells #[.int .i64 0, .int .i64 0] 48)) (negB s 0) ⟨[], n, why, pos⟩) := hide (h ▸ rReads_any s 0 hs _)
  unfold ReadP at HS
  simp only [if_neg hw] at HS
  clear h
  go_enter Tryd.func34, Tryd.ntmps34
  go_wp2_with fail
  refine (unhide HS).mono ?_
  rintro q w1 ⟨v, rfl, hown, hb⟩
  obtain ⟨va, vc, rfl⟩ := ownsRow_slice hown
  have hfo := ((FX.start w 0 0).below hb (by simp)).alloc (.cells #[.int .i64 why, .int .i64 pos] 48)
  have hfi := FX.start w1 why pos
  have hB := (((Below.refl w.heap.size w).alloc (Nat.le_refl _) (.cells #[.int .i64 0, .int .i64 0] 48)).trans (belowLe hb (by simp)))
  have Hb := hide (hB.alloc hB.size (.cells #[.int .i64 why, .int .i64 pos] 48))
  have hlt := hfo.lt
  have hlt1 := hfi.lt
  have hne1 : w1.heap.size ≠ w.heap.size := by have := ((FX.start w 0 0).below hb (by simp)).lt; omega
  have Hfo := hide hfo; have Hfi := hide hfi
  clear hown hb hfo hfi hB
  have i0 := (unhide Hfi).cell0; have i1 := (unhide Hfi).cell1
  have f0 := (unhide Hfo).cell0; have f1 := (unhide Hfo).cell1; have z0 := (unhide Hfo).fz 0; have z1 := (unhide Hfo).fz 1
  have g1 := (unhide Hfo).set0 why; have y0 := g1.fz 1; have y1 := g1.cell1
  have g2 := g1.set1 (pos : Int); have x0 := g2.cell0; have x1 := g2.cell1
  have HB := hide (below_fault (unhide Hb) (Nat.le_refl _) (.int .i64 why) (.int .i64 (pos : Int)))
  clear g1 g2
  go_wp2
  generalize w1.alloc (.cells #[.int .i64 why, .int .i64 pos] 48) = W at *
  go_region
  go_wp2
  refine bodyPost_ret (v := .tuple #[.slice none 0 0, .agg #[.int .i64 why, .int .i64 pos]]) (by simp [results, Tryd.results34, go_sem, x0, x1]) rfl ⟨_, rfl, own_nil _ _, ?_⟩
  exact (unhide HB).drew
set_option maxHeartbeats 2000000 in
set_option maxRecDepth 100000 in
theorem rParse_more (s : ByteArray) (hs : s.size ≤ 1048576) (L : List Rng) (n : Nat) (h : rdM s 0 = ⟨L, n, 0, 0⟩) (hn : n + 1 < s.size) (w : World) :
    Calls Tryd.prog 34 #[.string s] w (ParseP w [] 6 (n + 1)) := by
  have hl : ((n + 1 : Nat) : Int) < (s.size : Int) := by omega
  have HS : Hid (ReadP s 0 (w.alloc (.cells #[.int .i64 0, .int .i64 0] 48)) (negB s 0) ⟨L, n, 0, 0⟩) := hide (h ▸ rReads_any s 0 hs _)
  unfold ReadP at HS
  simp only [if_true] at HS
  clear h
  go_enter Tryd.func34, Tryd.ntmps34
  go_wp2_with fail
  refine (unhide HS).mono ?_
  rintro q w1 ⟨v, rfl, hown, hb⟩
  obtain ⟨va, vc, rfl⟩ := ownsRow_slice hown
  have h0 := (FX.start w 0 0).below hb (by simp)
  have hB := (((Below.refl w.heap.size w).alloc (Nat.le_refl _) (.cells #[.int .i64 0, .int .i64 0] 48)).trans (belowLe hb (by simp)))
  have Hfo := hide (h0.alloc (.cells #[.int .i64 6, .int .i64 ((n : Int) + 1)] 48))
  have Hfi := hide (FX.start w1 6 ((n : Int) + 1))
  have Hb := hide (hB.alloc hB.size (.cells #[.int .i64 6, .int .i64 ((n : Int) + 1)] 48))
  clear hown hb h0 hB
  go_wp2
  generalize w1.alloc (.cells #[.int .i64 6, .int .i64 ((n : Int) + 1)] 48) = W at *
  have i0 := (unhide Hfi).cell0; have i1 := (unhide Hfi).cell1
  have f0 := (unhide Hfo).cell0; have f1 := (unhide Hfo).cell1; have z0 := (unhide Hfo).fz 0; have z1 := (unhide Hfo).fz 1
  have g1 := (unhide Hfo).set0 6; have y0 := g1.fz 1; have y1 := g1.cell1
  have g2 := g1.set1 ((n : Int) + 1); have x0 := g2.cell0; have x1 := g2.cell1
  have HB := hide (below_fault (unhide Hb) (Nat.le_refl _) (.int .i64 6) (.int .i64 ((n : Int) + 1)))
  clear g1 g2
  go_region
  go_wp2
  refine bodyPost_ret (v := .tuple #[.slice none 0 0, .agg #[.int .i64 6, .int .i64 ((n + 1 : Nat) : Int)]]) (by simp [results, Tryd.results34, go_sem, x0, x1]) rfl ⟨_, rfl, own_nil _ _, ?_⟩
  exact (unhide HB).drew
set_option maxHeartbeats 2000000 in
set_option maxRecDepth 100000 in
theorem rParse_from (s : ByteArray) (hs : s.size ≤ 1048576) (L : List Rng) (n : Nat) (h : rdM s 0 = ⟨L, n, 0, 0⟩) (hn : ¬ n + 1 < s.size) (R : Rs) (hF : fromM s 0 = R) (w : World) :
    Calls Tryd.prog 34 #[.string s] w (ParseP w R.l R.why R.pos) := by
  have hl : ¬ ((n + 1 : Nat) : Int) < (s.size : Int) := by omega
  have HS : Hid (ReadP s 0 (w.alloc (.cells #[.int .i64 0, .int .i64 0] 48)) (negB s 0) ⟨L, n, 0, 0⟩) := hide (h ▸ rReads_any s 0 hs _)
  unfold ReadP at HS
  simp only [if_true] at HS
  have HF := hide (fun w => hF ▸ rFrom_any s hs 0 w)
  obtain ⟨Z, m, why, pos⟩ := R
  clear h hF
  go_enter Tryd.func34, Tryd.ntmps34
  go_wp2_with fail
  refine (unhide HS).mono ?_
  rintro q w1 ⟨v, rfl, hown, hb⟩
  obtain ⟨va, vc, rfl⟩ := ownsRow_slice hown
  have h0 := (FX.start w 0 0).below hb (by simp)
  have hB := (((Below.refl w.heap.size w).alloc (Nat.le_refl _) (.cells #[.int .i64 0, .int .i64 0] 48)).trans (belowLe hb (by simp)))
  have Hfo := hide (h0.alloc (.cells #[.int .i64 0, .int .i64 0] 48))
  have Hfi := hide (FX.start w1 0 0)
  have Hb := hide (hB.alloc hB.size (.cells #[.int .i64 0, .int .i64 0] 48))
  clear hown hb h0 hB
  go_wp2_with fail
  refine (unhide HF _).mono ?_
  rintro q w2 ⟨v2, rfl, hown2, hb2⟩
  obtain ⟨va2, vc2, rfl⟩ := ownsRow_slice hown2
  have Hfo2 := hide (((unhide Hfo).below hb2 (unhide Hfo).lt).alloc (.cells #[.int .i64 why, .int .i64 pos] 48))
  have Hfi2 := hide (FX.start w2 why pos)
  have hB2 := (unhide Hb).trans (belowLe hb2 (unhide Hb).size)
  have Hb2 := hide (hB2.alloc hB2.size (.cells #[.int .i64 why, .int .i64 pos] 48))
  have hcB : w.heap.size < (w1.alloc (.cells #[.int .i64 0, .int .i64 0] 48)).heap.size := (unhide Hfo).lt
  have Hown2 := hide (ownsRow_le (own_set (own_set (hown2.alloc (.cells #[.int .i64 why, .int .i64 pos] 48)) hcB 0 (.int .i64 why)) hcB 1 (.int .i64 (pos : Int))) (unhide Hb).size)
  clear hown2 hb2 hB2 Hfo Hfi Hb
  go_wp2
  generalize w2.alloc (.cells #[.int .i64 why, .int .i64 pos] 48) = W at *
  have i0 := (unhide Hfi2).cell0; have i1 := (unhide Hfi2).cell1
  have f0 := (unhide Hfo2).cell0; have f1 := (unhide Hfo2).cell1; have z0 := (unhide Hfo2).fz 0; have z1 := (unhide Hfo2).fz 1
  have g1 := (unhide Hfo2).set0 why; have y0 := g1.fz 1; have y1 := g1.cell1
  have g2 := g1.set1 (pos : Int); have x0 := g2.cell0; have x1 := g2.cell1
  have HB := hide (below_fault (unhide Hb2) (Nat.le_refl _) (.int .i64 why) (.int .i64 (pos : Int)))
  clear g1 g2
  go_region
  go_wp2
  refine bodyPost_ret (v := .tuple #[.slice va2 Z.length vc2, .agg #[.int .i64 why, .int .i64 pos]]) (by simp [results, Tryd.results34, go_sem, x0, x1]) rfl ⟨_, rfl, ownsRow_drew (unhide Hown2), ?_⟩
  exact (unhide HB).drew
theorem rParse_any (s : ByteArray) (hs : s.size ≤ 1048576) (w : World) : Calls Tryd.prog 34 #[.string s] w (ParseP w (parseM s).l (parseM s).why (parseM s).pos) := by
  have hok := rdM_ok s 0
  have key : parseM s = if (rdM s 0).why ≠ 0 then ⟨[], 0, (rdM s 0).why, (rdM s 0).pos⟩ else if (rdM s 0).n + 1 < s.size then ⟨[], 0, 6, (rdM s 0).n + 1⟩ else ⟨(fromM s 0).l, 0, (fromM s 0).why, (fromM s 0).pos⟩ := by
    unfold parseM fromM
    rw [if_neg (show ¬ ((0 : Int) < 0 ∨ (s.size : Int) < 0) by omega)]
    simp only [Int.toNat_zero]
    unfold setM
    by_cases h1 : (rdM s 0).why = 0
    · simp only [if_true, ne_eq, h1, not_true_eq_false, if_false]
      by_cases h2 : (rdM s 0).n + 1 < s.size
      · rw [if_pos h2, if_pos h2]
      · rw [if_neg h2, if_neg h2]
        by_cases h3 : 2048 < (setL (negB s 0) (rdM s 0).l).length
        · rw [if_pos h3, if_pos h3]
        · rw [if_neg h3, if_neg h3]
    · simp only [if_neg h1]
      rw [if_pos h1, if_pos h1]
  rw [key]
  obtain ⟨L, n, why, pos, e⟩ : ∃ L n why pos, rdM s 0 = ⟨L, n, why, pos⟩ := ⟨_, _, _, _, rfl⟩
  simp only [e] at hok ⊢
  by_cases h1 : why = 0
  · obtain ⟨h2, h3, h4, h5⟩ := hok.1 h1
    subst h1 h2
    rw [if_neg (by simp)]
    by_cases hl : n + 1 < s.size
    · rw [if_pos hl]; exact rParse_more s hs L n e hl w
    · rw [if_neg hl]; exact rParse_from s hs L n e hl _ rfl w
  · obtain ⟨h2, h3⟩ := hok.2 h1
    subst h2 h3
    rw [if_pos h1]
    exact rParse_bad s hs 0 pos why e h1 w
end Go.Proofs.YtkbhdojgdgiggaaDoor

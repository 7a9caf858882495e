/- Contract of the reference's with. -/
import Derived.Test.YtkbhdojgdgiggaaDoorV10
import Derived.Test.YtkbhdojgdgiggaaDoorM7
namespace Go.Proofs.YtkbhdojgdgiggaaDoor
open Go.RowKit

/-- The cells of a row of runes. -/
def rc (l : List Int) : List Value := l.map (Value.int .i32)
theorem rc_append (l m : List Int) : rc (l ++ m) = rc l ++ rc m := List.map_append
theorem rc_length (l : List Int) : (rc l).length = l.length := List.length_map _
theorem rc_one (l : List Int) : ∀ u ∈ rc l, u.oneCell' = true := by
  intro u hu
  simp only [rc, List.mem_map] at hu
  obtain ⟨z, _, rfl⟩ := hu
  rfl
theorem rc_at (l : List Int) (j : Nat) (hj : j < l.length) : (rc l)[j]? = some (.int .i32 (l.getD j 0)) := by
  simp [rc, List.getD_eq_getElem?_getD, List.getElem?_eq_getElem hj]
theorem hrune : (Tryd.prog.info? 21).map (fun i => (i.zero, i.size, i.bytes)) = some (some (.int .i32 0), 1, 4) := by kernel_rfl
theorem own_cells {w : World} {B g cap : Nat} {l : List Int} (h : w.ownsRow B 21 1 (.slice (some ⟨g, 0, none⟩) l.length cap) l.length (rc l)) (j : Nat) (hj : j < l.length) : w.cell? ⟨g, j, none⟩ = some (.int .i32 (l.getD j 0)) :=
  (h.cellAt j (by omega)).trans (rc_at l j hj)

set_option maxHeartbeats 4000000 in
set_option maxRecDepth 100000 in
theorem with_any (B : Nat) (v : Value) (l : List Int) (r : Int) (w : World) (hown : w.ownsRow B 21 1 v l.length (rc l)) (h0 : 0 < l.length) (hB : B ≤ w.heap.size) (hl : (l.length + 1) * 4 ≤ 140737488355328) :
    Calls Tryd.prog 67 #[v, .int .i32 r] w fun e w' => ∃ v', e = .returned v' ∧ w'.ownsRow B 21 1 v' (withL l r).length (rc (withL l r)) ∧ Below w.heap.size w w' := by
  obtain ⟨i0, hi, hz0, hz1, hz2⟩ := info_parts hrune
  obtain ⟨g, cap, rfl⟩ := ownsRow_some hown h0
  have hg := hown.lt g rfl
  have hcap : l.length ≤ cap ∧ cap ≤ 9223372036854775807 := by
    rcases hown.2 with ⟨h', _⟩ | ⟨g', cap', cur, h', _, _, hn, hm, _⟩
    · cases h'
    · simp only [Value.slice.injEq, true_and] at h'
      obtain ⟨_, rfl⟩ := h'
      exact ⟨hn, by unfold maxLen at hm; omega⟩
  have Hc := hide (own_cells hown)
  have Hown := hide hown
  clear hown
  go_enter Tryd.func67, Tryd.ntmps67
  go_wp2
  go_loopw [5] (fun x wr => ∃ n : Nat, x = .int .i64 n ∧ n ≤ l.length ∧ wr = w ∧ ∀ j, j < n → l.getD j 0 < r) (fun x _ => l.length - (intOf x).toNat)
  case atStart => exact ⟨0, rfl, by omega, rfl, fun j h => by omega⟩
  case round =>
    obtain ⟨n, rfl, hn, rfl, hlow⟩ := hrel
    have Hlow := hide hlow
    clear hlow
    by_cases hnl : n < l.length
    · have hnl' : (n : Int) < l.length := by omega
      have q := unhide Hc n hnl
      by_cases hr : l.getD n 0 < r
      · have Hr := hide (fun j (hj : j < n + 1) => show l.getD j 0 < r from if e : j = n then by subst e; exact hr else unhide Hlow j (by omega))
        generalize l.getD n 0 = c at *
        go_wp2
        go_roundw
        case rel => exact ⟨n + 1, by go_num, by omega, by trivial, unhide Hr⟩
        case measure => simp [intOf]; omega
      · have Hw := hide (withL_eq l r n hn (unhide Hlow) (fun _ => hr))
        by_cases he : l.getD n 0 = r
        · rw [if_pos ⟨hnl, he⟩] at Hw
          rw [he] at q
          have hr' : ¬ r < r := by omega
          clear hr he
          go_wp2
          go_ret
          refine ⟨_, rfl, ?_, Below.refl _ _⟩
          rw [unhide Hw]
          exact unhide Hown
        · rw [if_neg (by omega)] at Hw
          have he' : (l.getD n 0 == r) = false := by simpa using he
          generalize l.getD n 0 = c at *
          have hn0 : (0 : Int) ≤ n := by omega
          have hnc : (n : Int) ≤ cap := by omega
          have hnl2 : (n : Int) ≤ l.length := by omega
          have htk : (l.take n).length = n := by simp; omega
          have Htk := hide (fun j (hj : j < n) => show (l.take n).getD j 0 = l.getD j 0 by simp [List.getD_eq_getElem?_getD, hj])
          go_wp2_with (at_builtin; refine wpList_append_own _ rfl _ _ 39 rfl wr.heap.size 21 i0 (.int .i32 0) 1 4 Tryd.underlying39 hi hz0 hz1 hz2 rfl (by decide) _ _ _ rfl (World.ownsRow_made wr #[] 0 (Nat.le_refl _) (Nat.zero_le _) (by simp)) ⟨g, 0, none⟩ n cap (rc (l.take n)) rfl ?c1 ?c2 ?c3 ?c4 ?c5 ?c6 ?_)
          case c1 => rw [rc_length]; exact htk
          case c2 =>
            intro j u hj
            have hj2 : j < n := by
              have := (List.getElem?_eq_some_iff.1 hj).1
              rw [rc_length, htk] at this; exact this
            rw [rc_at _ _ (by omega), unhide Htk j hj2] at hj
            cases hj
            exact unhide Hc j (by omega)
          case c3 => exact rc_one _
          case c4 => unfold maxLen; omega
          case c5 => omega
          intro v1 w1 hown1 hgrow1 hne1
          have hb1 : Below wr.heap.size wr w1 := ((Below.refl _ wr).alloc (Nat.le_refl _) _).grown hgrow1 (by simp) (by intro k hk; simp [Value.ownBlock] at hk; omega)
          have hs1 := hb1.size
          have Hb1 := hide hb1; have Ho1 := hide hown1
          clear hb1 hown1 hgrow1 hne1
          go_wp2_with (at_builtin; refine wpList_append_own _ rfl _ _ 39 rfl wr.heap.size 21 i0 (.int .i32 0) 1 4 Tryd.underlying39 hi hz0 hz1 hz2 rfl (by decide) _ _ _ rfl ((unhide Ho1).alloc _) ⟨w1.heap.size, 0, none⟩ 1 1 [.int .i32 r] rfl rfl ?c1 ?c2 ?c3 ?c4 ?c5 ?_)
          case c1 => exact cell_one_new _ _ _
          case c2 => intro u hu; simp at hu; subst hu; rfl
          case c3 => unfold maxLen; omega
          case c4 => omega
          case c5 => simp; omega
          intro v2 w2 hown2 hgrow2 _
          have hb2 := ((unhide Hb1).alloc hs1 (.cells #[.int .i32 r] 21)).grown hgrow2 (by simp; omega) (fun x hx => ((unhide Ho1).lt x hx).1)
          have hs2 := hb2.size
          have Hc2 := hide (fun j (hj : j < l.length) => show w2.cell? ⟨g, j, none⟩ = some (.int .i32 (l.getD j 0)) by rw [hb2.cell (by exact hg.2)]; exact unhide Hc j hj)
          have Hb2 := hide hb2; have Ho2 := hide hown2
          clear hb2 hown2 hgrow2
          obtain ⟨va, vcap, rfl⟩ := ownsRow_slice (unhide Ho2)
          have hdl : (l.drop n).length = l.length - n := List.length_drop
          have Hdr := hide (fun j (hj : j < l.length - n) => show (l.drop n).getD j 0 = l.getD (n + j) 0 by simp [List.getD_eq_getElem?_getD])
          go_wp2_with (at_builtin; refine wpList_append_own _ rfl _ _ 39 rfl wr.heap.size 21 i0 (.int .i32 0) 1 4 Tryd.underlying39 hi hz0 hz1 hz2 rfl (by decide) _ _ _ rfl (unhide Ho2) ⟨g, n, none⟩ (l.length - n) (cap - n) (rc (l.drop n)) rfl ?d1 ?d2 ?d3 ?d4 ?d5 ?d6 ?_)
          case d1 => rw [rc_length, hdl]; omega
          case d2 =>
            intro j u hj
            have hj2 : j < l.length - n := by
              have := (List.getElem?_eq_some_iff.1 hj).1
              rw [rc_length, hdl] at this; exact this
            rw [rc_at _ _ (by omega), unhide Hdr j hj2] at hj
            cases hj
            have e : (⟨g, n, none⟩ : Addr).add j = ⟨g, n + j, none⟩ := by unfold Addr.add; split <;> simp_all
            rw [e]
            exact unhide Hc2 (n + j) (by omega)
          case d3 => exact rc_one _
          case d4 => unfold maxLen; omega
          case d5 => omega
          case d6 => omega
          intro v3 w3 hown3 hgrow3 _
          go_wp2
          go_ret
          refine ⟨_, rfl, ?_, ?_⟩
          · rw [unhide Hw]
            have e : rc (l.take n ++ r :: l.drop n) = rc (l.take n) ++ .int .i32 r :: rc (l.drop n) := by simp [rc]
            rw [e]
            have e2 : (l.take n ++ r :: l.drop n).length = n + 1 + (l.length - n) := by simp; omega
            rw [e2]
            exact ownsRow_le hown3 hB
          · exact (unhide Hb2).grown hgrow3 (by omega) (fun x hx => ((unhide Ho2).lt x hx).1)
    · have hnl' : ¬ (n : Int) < l.length := by omega
      have Hw := hide (withL_eq l r n hn (unhide Hlow) (fun h => absurd h hnl))
      rw [if_neg (by omega)] at Hw
      have hn0 : (0 : Int) ≤ n := by omega
      have hnc : (n : Int) ≤ cap := by omega
      have hnl2 : (n : Int) ≤ l.length := by omega
      have htk : (l.take n).length = n := by simp; omega
      have Htk := hide (fun j (hj : j < n) => show (l.take n).getD j 0 = l.getD j 0 by simp [List.getD_eq_getElem?_getD, hj])
      go_wp2_with (at_builtin; refine wpList_append_own _ rfl _ _ 39 rfl wr.heap.size 21 i0 (.int .i32 0) 1 4 Tryd.underlying39 hi hz0 hz1 hz2 rfl (by decide) _ _ _ rfl (World.ownsRow_made wr #[] 0 (Nat.le_refl _) (Nat.zero_le _) (by simp)) ⟨g, 0, none⟩ n cap (rc (l.take n)) rfl ?f1x ?f2x ?f3x ?f4x ?f5x ?f6x ?_)
      case f1x => rw [rc_length]; exact htk
      case f2x =>
        intro j u hj
        have hj2 : j < n := by
          have := (List.getElem?_eq_some_iff.1 hj).1
          rw [rc_length, htk] at this; exact this
        rw [rc_at _ _ (by omega), unhide Htk j hj2] at hj
        cases hj
        exact unhide Hc j (by omega)
      case f3x => exact rc_one _
      case f4x => unfold maxLen; omega
      case f5x => omega
      intro v1 w1 hown1 hgrow1 hne1
      have hb1 : Below wr.heap.size wr w1 := ((Below.refl _ wr).alloc (Nat.le_refl _) _).grown hgrow1 (by simp) (by intro k hk; simp [Value.ownBlock] at hk; omega)
      have hs1 := hb1.size
      have Hb1 := hide hb1; have Ho1 := hide hown1
      clear hb1 hown1 hgrow1 hne1
      go_wp2_with (at_builtin; refine wpList_append_own _ rfl _ _ 39 rfl wr.heap.size 21 i0 (.int .i32 0) 1 4 Tryd.underlying39 hi hz0 hz1 hz2 rfl (by decide) _ _ _ rfl ((unhide Ho1).alloc _) ⟨w1.heap.size, 0, none⟩ 1 1 [.int .i32 r] rfl rfl ?g1x ?g2x ?g3x ?g4x ?g5x ?_)
      case g1x => exact cell_one_new _ _ _
      case g2x => intro u hu; simp at hu; subst hu; rfl
      case g3x => unfold maxLen; omega
      case g4x => omega
      case g5x => simp; omega
      intro v2 w2 hown2 hgrow2 _
      have hb2 := ((unhide Hb1).alloc hs1 (.cells #[.int .i32 r] 21)).grown hgrow2 (by simp; omega) (fun x hx => ((unhide Ho1).lt x hx).1)
      have hs2 := hb2.size
      have Hc2 := hide (fun j (hj : j < l.length) => show w2.cell? ⟨g, j, none⟩ = some (.int .i32 (l.getD j 0)) by rw [hb2.cell (by exact hg.2)]; exact unhide Hc j hj)
      have Hb2 := hide hb2; have Ho2 := hide hown2
      clear hb2 hown2 hgrow2
      obtain ⟨va, vcap, rfl⟩ := ownsRow_slice (unhide Ho2)
      by_cases hcn : cap = n
      · go_wp2_with (at_builtin; refine wpList_append_own _ rfl _ _ 39 rfl wr.heap.size 21 i0 (.int .i32 0) 1 4 Tryd.underlying39 hi hz0 hz1 hz2 rfl (by decide) _ _ _ rfl (unhide Ho2) ⟨g, 0, none⟩ _ _ [] rfl ?p1 ?p2 ?p3 ?p4 ?p5 ?p6 ?_)
        case p1 => simp; omega
        case p2 => intro j u hj; simp at hj
        case p3 => intro u hu; simp at hu
        case p4 => unfold maxLen; omega
        case p5 => omega
        case p6 => omega
        intro v3 w3 hown3 hgrow3 _
        go_wp2
        go_ret
        refine ⟨_, rfl, ?_, ?_⟩
        · rw [unhide Hw, List.drop_eq_nil_of_le (by omega)]
          have e : rc (l.take n ++ [r]) = rc (l.take n) ++ [.int .i32 r] := by simp [rc]
          rw [e]
          have e2 : (l.take n ++ [r]).length = n + 1 := by simp; omega
          rw [e2]
          have h0 : n + 1 + (l.length - n) = n + 1 := by omega
          simp only [h0] at hown3
          exact ownsRow_le hown3 hB
        · exact (unhide Hb2).grown hgrow3 (by omega) (fun x hx => ((unhide Ho2).lt x hx).1)
      · go_wp2_with (at_builtin; refine wpList_append_own _ rfl _ _ 39 rfl wr.heap.size 21 i0 (.int .i32 0) 1 4 Tryd.underlying39 hi hz0 hz1 hz2 rfl (by decide) _ _ _ rfl (unhide Ho2) ⟨g, n, none⟩ _ _ [] rfl ?q1 ?q2 ?q3 ?q4 ?q5 ?q6 ?_)
        case q1 => simp; omega
        case q2 => intro j u hj; simp at hj
        case q3 => intro u hu; simp at hu
        case q4 => unfold maxLen; omega
        case q5 => omega
        case q6 => omega
        intro v3 w3 hown3 hgrow3 _
        go_wp2
        go_ret
        refine ⟨_, rfl, ?_, ?_⟩
        · rw [unhide Hw, List.drop_eq_nil_of_le (by omega)]
          have e : rc (l.take n ++ [r]) = rc (l.take n) ++ [.int .i32 r] := by simp [rc]
          rw [e]
          have e2 : (l.take n ++ [r]).length = n + 1 := by simp; omega
          rw [e2]
          have h0 : n + 1 + (l.length - n) = n + 1 := by omega
          simp only [h0] at hown3
          exact ownsRow_le hown3 hB
        · exact (unhide Hb2).grown hgrow3 (by omega) (fun x hx => ((unhide Ho2).lt x hx).1)
end Go.Proofs.YtkbhdojgdgiggaaDoor

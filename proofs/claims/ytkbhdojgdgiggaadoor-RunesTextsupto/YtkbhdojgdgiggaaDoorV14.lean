/- Contract of the reference's made. -/
import Derived.Test.YtkbhdojgdgiggaaDoorV13
import Derived.RegionTactic
namespace Go.Proofs.YtkbhdojgdgiggaaDoor
open Go.RowKit

/-- Where the piece of the i-th cut ends. -/
def endAt (cuts : List Int) (i : Nat) : Int := if i + 1 < cuts.length then cuts.getD (i + 1) 0 - 1 else 1114111
/-- What is made of the first i pieces. -/
def madeTo (P : Int → Bool) (cuts : List Int) : Nat → List Rng
  | 0 => []
  | i + 1 => if P (cuts.getD i 0) then madeStep (madeTo P cuts i) (cuts.getD i 0) (endAt cuts i) else madeTo P cuts i
theorem pieceEnd_drop (cuts : List Int) (i : Nat) : pieceEnd (cuts.drop (i + 1)) = endAt cuts i := by
  unfold endAt
  split
  · next h => rw [List.drop_eq_getElem_cons h]; simp [pieceEnd, List.getD_eq_getElem?_getD, List.getElem?_eq_getElem h]
  · next h => rw [List.drop_eq_nil_of_le (by omega)]; rfl
theorem madeTo_go (P : Int → Bool) (cuts : List Int) (i : Nat) (hi : i ≤ cuts.length) : madeGo P (cuts.drop i) (madeTo P cuts i) = madeL P cuts := by
  induction i with
  | zero => rfl
  | succ i ih =>
    rw [← ih (by omega), List.drop_eq_getElem_cons (show i < cuts.length by omega), madeGo, pieceEnd_drop]
    have e : cuts[i]'(by omega) = cuts.getD i 0 := by simp [List.getD_eq_getElem?_getD, List.getElem?_eq_getElem (show i < cuts.length by omega)]
    rw [e]; rfl
theorem madeTo_all (P : Int → Bool) (cuts : List Int) : madeTo P cuts cuts.length = madeL P cuts := by
  have := madeTo_go P cuts cuts.length (Nat.le_refl _)
  rwa [List.drop_length] at this
theorem madeStep_length (acc : List Rng) (c to : Int) : (madeStep acc c to).length ≤ acc.length + 1 := by
  rcases List.eq_nil_or_concat acc with rfl | ⟨pre, z, rfl⟩
  · simp [madeStep_nil]
  · rw [List.concat_eq_append]
    by_cases h : z.2 + 1 = c
    · rw [madeStep_join _ _ _ _ h]; simp
    · rw [madeStep_new _ _ _ _ h]; simp
theorem madeTo_length (P : Int → Bool) (cuts : List Int) (i : Nat) : (madeTo P cuts i).length ≤ i := by
  induction i with
  | zero => simp [madeTo]
  | succ i ih =>
    simp only [madeTo]
    split
    · have := madeStep_length (madeTo P cuts i) (cuts.getD i 0) (endAt cuts i); omega
    · omega
theorem madeStep_bd {acc : List Rng} {c to : Int} (h : ∀ y ∈ acc, -1 ≤ y.2 ∧ y.2 ≤ 1114111) (ht : -1 ≤ to ∧ to ≤ 1114111) : ∀ y ∈ madeStep acc c to, -1 ≤ y.2 ∧ y.2 ≤ 1114111 := by
  rcases List.eq_nil_or_concat acc with rfl | ⟨pre, z, rfl⟩
  · intro y hy; rw [madeStep_nil] at hy; simp at hy; subst hy; exact ht
  · rw [List.concat_eq_append] at *
    by_cases hj : z.2 + 1 = c
    · rw [madeStep_join _ _ _ _ hj]
      intro y hy
      rw [List.mem_append] at hy
      rcases hy with hy | hy
      · exact h y (by simp [hy])
      · simp at hy; subst hy; exact ht
    · rw [madeStep_new _ _ _ _ hj]
      intro y hy
      rw [List.mem_append] at hy
      rcases hy with hy | hy
      · exact h y hy
      · simp at hy; subst hy; exact ht

theorem ownsRow_below {w w' : World} {base : Nat} {e : TypeId} {size : Nat} {v : Value} {n : Nat} {xs : List Value} (h : w.ownsRow base e size v n xs) {B : Nat} (hb : Below B w w') (hB : w.heap.size ≤ B) : w'.ownsRow base e size v n xs := by
  refine ⟨h.1, ?_⟩
  rcases h.2 with hn | ⟨g, cap, cur, hv, hbg, hg, rest⟩
  · exact .inl hn
  · have hlt : g < w.heap.size := (Array.getElem?_eq_some_iff.1 hg).1
    exact .inr ⟨g, cap, cur, hv, hbg, (hb.block g (by omega)).trans hg, rest⟩
set_option maxHeartbeats 8000000 in
set_option maxRecDepth 100000 in
theorem made_loop (what : Int) (P : Int → Bool) (a : Option Addr) (cap : Nat) (ls : List (List Rng)) (cuts : List Int) (hcl : cuts.length ≤ 281474976710656) (hcb : ∀ j, j < cuts.length → 0 ≤ cuts.getD j 0 ∧ cuts.getD j 0 ≤ 1114111)
    (hL : ∀ i, i < cuts.length → ((madeTo P cuts i).length + 1) * 8 ≤ 140737488355328) (w : World)
    (HS : Hid (Calls Tryd.prog 51 #[.slice a ls.length cap] w fun e w' => ∃ v, e = .returned v ∧ w'.ownsRow w.heap.size 21 1 v cuts.length (rc cuts) ∧ Below w.heap.size w w'))
    (HH : Hid (∀ wr, Below w.heap.size w wr → ∀ c, Calls Tryd.prog 61 #[.slice a ls.length cap, .int .i32 c, .int .i64 what] wr fun e w' => e = .returned (.bool (P c)) ∧ Below wr.heap.size wr w')) :
    Calls Tryd.prog 41 #[.slice a ls.length cap, .int .i64 what] w fun e w' => ∃ v, e = .returned (.tuple #[v, .int .i64 (limC (madeL P cuts))]) ∧ w'.ownsRow w.heap.size 55 2 v (limL (madeL P cuts)).length (flat (limL (madeL P cuts))) ∧ Below w.heap.size w w' := by
  obtain ⟨i0, hi, hz0, hz1, hz2⟩ := info_parts hrange
  have Hcb := hide hcb; have HL := hide hL; have Hall := hide (madeTo_all P cuts)
  clear hcb hL
  go_enter Tryd.func41, Tryd.ntmps41
  go_wp2_with fail
  refine (unhide HS).mono ?_
  rintro e w1 ⟨v, rfl, hown1, hb1⟩
  obtain ⟨va, vcap, rfl⟩ := ownsRow_slice hown1
  have hsz1 := hb1.size
  have Hown1 := hide hown1; have Hb1 := hide hb1
  clear hown1 hb1 HS
  go_wp2
  go_loopw [7, 8] (fun u x wr => ∃ i : Nat, wr.ownsRow w1.heap.size 55 2 u (madeTo P cuts i).length (flat (madeTo P cuts i)) ∧ x = .int .i64 i ∧ i ≤ cuts.length ∧ Below w1.heap.size w1 wr ∧ ∀ y ∈ madeTo P cuts i, -1 ≤ y.2 ∧ y.2 ≤ 1114111) (fun _ x _ => cuts.length - (intOf x).toNat)
  case atStart => exact ⟨0, ⟨rfl, .inl ⟨rfl, rfl⟩⟩, rfl, by omega, Below.refl _ _, by simp [madeTo]⟩
  case round =>
    obtain ⟨i, hown, rfl, hil, hbel, hbd⟩ := hrel
    have hsz := hbel.size
    have Hown := hide hown; have Hbel := hide hbel; have Hbd := hide hbd
    clear hown hbel hbd
    by_cases hic : i < cuts.length
    · have hic' : (i : Int) < cuts.length := by omega
      obtain ⟨g, vc, hv⟩ := ownsRow_some (unhide Hown1) (show 0 < cuts.length by omega)
      simp only [Value.slice.injEq, true_and] at hv
      obtain ⟨rfl, rfl⟩ := hv
      have hg := (unhide Hown1).lt g rfl
      have Hcell := hide (fun wx (hb : Below w1.heap.size w1 wx) j (hj : j < cuts.length) => show wx.cell? ⟨g, j, none⟩ = some (.int .i32 (cuts.getD j 0)) by rw [hb.cell (by exact hg.2)]; exact own_cells (unhide Hown1) j hj)
      have q0 := unhide Hcell wr (unhide Hbel) i hic
      have hci := unhide Hcb i hic
      have hli := unhide HL i hic
      have Hst : Hid (madeTo P cuts (i + 1) = if P (cuts.getD i 0) then madeStep (madeTo P cuts i) (cuts.getD i 0) (endAt cuts i) else madeTo P cuts i) := hide rfl
      have HC := hide (unhide HH wr ((unhide Hb1).trans (below_le (unhide Hbel) hsz1)) (cuts.getD i 0))
      have Hend : Hid (endAt cuts i = if i + 1 < cuts.length then cuts.getD (i + 1) 0 - 1 else 1114111) := hide rfl
      have hend : -1 ≤ endAt cuts i ∧ endAt cuts i ≤ 1114111 := by
        unfold endAt; split
        · next h => have := unhide Hcb (i + 1) h; omega
        · omega
      generalize hcc : cuts.getD i 0 = c at *
      have Hcc := hide hcc
      clear hcc
      generalize madeTo P cuts i = acc at *
      cases hp : P c
      · rw [hp] at HC Hst
        have Hst' : Hid (madeTo P cuts (i + 1) = acc) := hide (by rw [unhide Hst]; rfl)
        clear hp Hst
        go_wp2_with fail
        refine (unhide HC).mono ?_
        rintro e w2 ⟨rfl, hb2⟩
        have Hb2 := hide ((unhide Hbel).trans (below_le hb2 hsz))
        have Hown2 := hide (ownsRow_below (unhide Hown) hb2 (Nat.le_refl _))
        clear hb2
        go_wp2
        go_roundw
        case rel => exact ⟨i + 1, by rw [unhide Hst']; exact unhide Hown2, by go_num, by omega, unhide Hb2, by rw [unhide Hst']; exact unhide Hbd⟩
        case measure => simp [intOf]; omega
      · rw [hp] at HC Hst
        have Hst' : Hid (madeTo P cuts (i + 1) = madeStep acc c (endAt cuts i)) := hide (by rw [unhide Hst]; rfl)
        clear hp Hst
        go_wp2_with fail
        refine (unhide HC).mono ?_
        rintro e w2 ⟨rfl, hb2⟩
        have hb12 := (unhide Hbel).trans (below_le hb2 hsz)
        have hsz2 := hb12.size
        have q2 := unhide Hcell w2 hb12 i hic
        rw [unhide Hcc] at q2
        have Hown2 := hide (ownsRow_below (unhide Hown) hb2 (Nat.le_refl _))
        have Hb2 := hide hb12
        by_cases hnx : i + 1 < cuts.length
        · have hnx' : (i : Int) + 1 < cuts.length := by omega
          have q3 := unhide Hcell w2 hb12 (i + 1) hnx
          have hdi := unhide Hcb (i + 1) hnx
          rw [if_pos hnx] at Hend
          generalize cuts.getD (i + 1) 0 = d at *
          have hwd : IntKind.i32.wrap (d - 1) = d - 1 := IntWalk.i32_in _ ⟨by omega, by omega⟩
          have Hend' := Hend
          have Hbe := hide hend
          rw [unhide Hend'] at hend
          clear hb12 hb2 q0 Hown Hbel HC Hend
          rcases List.eq_nil_or_concat acc with rfl | ⟨pre, z, rfl⟩
          · obtain ⟨ua, ucap, rfl⟩ := ownsRow_slice (unhide Hown2)
            have Hs2 : Hid (madeTo P cuts (i + 1) = [(c, d - 1)]) := hide (by rw [unhide Hst', madeStep_nil, unhide Hend'])
            simp only [List.length_nil] at *
            have Hown0 := hide (fun q o => (ownsRow_drewN (unhide Hown2) q).alloc o)
            go_wp2_with fail
            go_quiet (fail)
            go_wp2_with (at_builtin; refine wpList_append_own _ rfl _ _ 22 rfl w1.heap.size 55 i0 (.agg #[.int .i32 0, .int .i32 0]) 2 8 Tryd.underlying22 hi hz0 hz1 hz2 rfl (by decide) _ _ _ rfl (unhide Hown0 _ _) ⟨w2.heap.size, 0, none⟩ 1 1 [.int .i32 c, .int .i32 (d - 1)] rfl rfl ?k1a ?k1b ?k1c ?k1d ?k1e ?_)
            case k1a => exact cell_new2 _ _ (by simp) _ _ _
            case k1b => intro u hu; simp at hu; rcases hu with rfl | rfl <;> rfl
            case k1c => unfold maxLen; omega
            case k1d => omega
            case k1e => simp; omega
            intro v' w3 hown' hgrow _
            go_wp2
            go_roundw
            case rel =>
              refine ⟨i + 1, ?_, by go_num, by omega, ?_, ?_⟩
              · rw [unhide Hs2]
                simpa [flat, encR] using hown'
              · exact ((below_drewN (unhide Hb2) _).alloc (by simp; omega) _).grown hgrow (by simp; omega) (fun x hx => ((unhide Hown2).lt x hx).1)
              · rw [unhide Hst']
                exact madeStep_bd (unhide Hbd) (unhide Hbe)
            case measure => simp [intOf]; omega
          · rw [List.concat_eq_append] at *
            obtain ⟨z0, z⟩ := z
            have hzr := unhide Hbd (z0, z) (by simp)
            simp only at hzr
            obtain ⟨g2, ucap, rfl⟩ := ownsRow_some (unhide Hown2) (by simp)
            have hgl := (unhide Hown2).lt g2 rfl
            have hfl : (flat (pre ++ [(z0, z)]))[pre.length * 2 + 1]? = some (.int .i32 z) := by
              have := (flat_at (pre ++ [(z0, z)]) pre.length (by simp)).2
              simpa using this
            have s1 : w2.cell? ⟨g2, pre.length * 2 + 1, none⟩ = some (.int .i32 z) := ((unhide Hown2).cellAt _ (by simp; omega)).trans hfl
            have f1 : w2.frozen? ⟨g2, pre.length * 2 + 1, none⟩ = false := (unhide Hown2).frozenAt _
            simp only [List.length_append, List.length_cons, List.length_nil, Nat.zero_add] at *
            clear hfl
            have hwz : IntKind.i32.wrap (z + 1) = z + 1 := IntWalk.i32_in _ ⟨by omega, by omega⟩
            have hwl : IntKind.i64.wrap (((pre.length + 1 : Nat) : Int) - 1) = (pre.length : Int) := by rw [show ((pre.length + 1 : Nat) : Int) - 1 = (pre.length : Int) by omega]; exact IntWalk.i64_in _ ⟨by omega, by omega⟩
            have hpl : (pre.length : Int) < ((pre.length + 1 : Nat) : Int) := by omega
            have hgt : (0 : Int) < ((pre.length + 1 : Nat) : Int) := by omega
            by_cases hj : z + 1 = c
            · have Hs2 : Hid (madeTo P cuts (i + 1) = pre ++ [(z0, d - 1)]) := hide (by rw [unhide Hst', madeStep_join _ _ _ _ hj, unhide Hend'])
              have hj' : (z + 1 == c) = true := by simpa using hj
              have Hj := hide hj
              clear hj
              go_wp2_with fail
              go_quiet (fail)
              go_wp2
              go_roundw
              case rel =>
                refine ⟨i + 1, ?_, by go_num, by omega, ?_, ?_⟩
                · rw [unhide Hs2]
                  have h := ((ownsRow_drewN (unhide Hown2) nq).stored (pre.length * 2 + 1) (.int .i32 (d - 1))).1
                  rw [← flat_set] at h
                  simpa using h
                · exact (below_drewN (unhide Hb2) _).setCell (by exact hgl.1) _
                · rw [unhide Hst']
                  exact madeStep_bd (unhide Hbd) (unhide Hbe)
              case measure => simp [intOf]; omega
            · have Hs2 : Hid (madeTo P cuts (i + 1) = pre ++ [(z0, z)] ++ [(c, d - 1)]) := hide (by rw [unhide Hst', madeStep_new _ _ _ _ hj, unhide Hend'])
              have hj' : (z + 1 == c) = false := by simpa using hj
              have Hj := hide hj
              clear hj
              have Hown0 := hide (fun q o => (ownsRow_drewN (unhide Hown2) q).alloc o)
              go_wp2_with fail
              go_quiet (fail)
              go_wp2_with (at_builtin; refine wpList_append_own _ rfl _ _ 22 rfl w1.heap.size 55 i0 (.agg #[.int .i32 0, .int .i32 0]) 2 8 Tryd.underlying22 hi hz0 hz1 hz2 rfl (by decide) _ _ _ rfl (unhide Hown0 _ _) ⟨w2.heap.size, 0, none⟩ 1 1 [.int .i32 c, .int .i32 (d - 1)] rfl rfl ?k2a ?k2b ?k2c ?k2d ?k2e ?_)
              case k2a => exact cell_new2 _ _ (by simp) _ _ _
              case k2b => intro u hu; simp at hu; rcases hu with rfl | rfl <;> rfl
              case k2c => unfold maxLen; omega
              case k2d => omega
              case k2e => simp; omega
              intro v' w3 hown' hgrow _
              go_wp2
              go_roundw
              case rel =>
                refine ⟨i + 1, ?_, by go_num, by omega, ?_, ?_⟩
                · rw [unhide Hs2]
                  rw [flat_append]
                  simpa [flat, encR] using hown'
                · exact ((below_drewN (unhide Hb2) _).alloc (by simp; omega) _).grown hgrow (by simp; omega) (fun x hx => ((unhide Hown2).lt x hx).1)
                · rw [unhide Hst']
                  exact madeStep_bd (unhide Hbd) (unhide Hbe)
              case measure => simp [intOf]; omega
        · have hnx' : ¬ (i : Int) + 1 < cuts.length := by omega
          rw [if_neg hnx] at Hend
          have Hend' := Hend
          have Hbe := hide hend
          rw [unhide Hend'] at hend
          clear hb12 hb2 q0 Hown Hbel HC Hend
          rcases List.eq_nil_or_concat acc with rfl | ⟨pre, z, rfl⟩
          · obtain ⟨ua, ucap, rfl⟩ := ownsRow_slice (unhide Hown2)
            have Hs2 : Hid (madeTo P cuts (i + 1) = [(c, 1114111)]) := hide (by rw [unhide Hst', madeStep_nil, unhide Hend'])
            simp only [List.length_nil] at *
            have Hown0 := hide (fun q o => (ownsRow_drewN (unhide Hown2) q).alloc o)
            go_wp2_with fail
            go_quiet (fail)
            go_wp2_with (at_builtin; refine wpList_append_own _ rfl _ _ 22 rfl w1.heap.size 55 i0 (.agg #[.int .i32 0, .int .i32 0]) 2 8 Tryd.underlying22 hi hz0 hz1 hz2 rfl (by decide) _ _ _ rfl (unhide Hown0 _ _) ⟨w2.heap.size, 0, none⟩ 1 1 [.int .i32 c, .int .i32 (1114111)] rfl rfl ?k3a ?k3b ?k3c ?k3d ?k3e ?_)
            case k3a => exact cell_new2 _ _ (by simp) _ _ _
            case k3b => intro u hu; simp at hu; rcases hu with rfl | rfl <;> rfl
            case k3c => unfold maxLen; omega
            case k3d => omega
            case k3e => simp; omega
            intro v' w3 hown' hgrow _
            go_wp2
            go_roundw
            case rel =>
              refine ⟨i + 1, ?_, by go_num, by omega, ?_, ?_⟩
              · rw [unhide Hs2]
                simpa [flat, encR] using hown'
              · exact ((below_drewN (unhide Hb2) _).alloc (by simp; omega) _).grown hgrow (by simp; omega) (fun x hx => ((unhide Hown2).lt x hx).1)
              · rw [unhide Hst']
                exact madeStep_bd (unhide Hbd) (unhide Hbe)
            case measure => simp [intOf]; omega
          · rw [List.concat_eq_append] at *
            obtain ⟨z0, z⟩ := z
            have hzr := unhide Hbd (z0, z) (by simp)
            simp only at hzr
            obtain ⟨g2, ucap, rfl⟩ := ownsRow_some (unhide Hown2) (by simp)
            have hgl := (unhide Hown2).lt g2 rfl
            have hfl : (flat (pre ++ [(z0, z)]))[pre.length * 2 + 1]? = some (.int .i32 z) := by
              have := (flat_at (pre ++ [(z0, z)]) pre.length (by simp)).2
              simpa using this
            have s1 : w2.cell? ⟨g2, pre.length * 2 + 1, none⟩ = some (.int .i32 z) := ((unhide Hown2).cellAt _ (by simp; omega)).trans hfl
            have f1 : w2.frozen? ⟨g2, pre.length * 2 + 1, none⟩ = false := (unhide Hown2).frozenAt _
            simp only [List.length_append, List.length_cons, List.length_nil, Nat.zero_add] at *
            clear hfl
            have hwz : IntKind.i32.wrap (z + 1) = z + 1 := IntWalk.i32_in _ ⟨by omega, by omega⟩
            have hwl : IntKind.i64.wrap (((pre.length + 1 : Nat) : Int) - 1) = (pre.length : Int) := by rw [show ((pre.length + 1 : Nat) : Int) - 1 = (pre.length : Int) by omega]; exact IntWalk.i64_in _ ⟨by omega, by omega⟩
            have hpl : (pre.length : Int) < ((pre.length + 1 : Nat) : Int) := by omega
            have hgt : (0 : Int) < ((pre.length + 1 : Nat) : Int) := by omega
            by_cases hj : z + 1 = c
            · have Hs2 : Hid (madeTo P cuts (i + 1) = pre ++ [(z0, 1114111)]) := hide (by rw [unhide Hst', madeStep_join _ _ _ _ hj, unhide Hend'])
              have hj' : (z + 1 == c) = true := by simpa using hj
              have Hj := hide hj
              clear hj
              go_wp2_with fail
              go_quiet (fail)
              go_wp2
              go_roundw
              case rel =>
                refine ⟨i + 1, ?_, by go_num, by omega, ?_, ?_⟩
                · rw [unhide Hs2]
                  have h := ((ownsRow_drewN (unhide Hown2) nq).stored (pre.length * 2 + 1) (.int .i32 (1114111))).1
                  rw [← flat_set] at h
                  simpa using h
                · exact (below_drewN (unhide Hb2) _).setCell (by exact hgl.1) _
                · rw [unhide Hst']
                  exact madeStep_bd (unhide Hbd) (unhide Hbe)
              case measure => simp [intOf]; omega
            · have Hs2 : Hid (madeTo P cuts (i + 1) = pre ++ [(z0, z)] ++ [(c, 1114111)]) := hide (by rw [unhide Hst', madeStep_new _ _ _ _ hj, unhide Hend'])
              have hj' : (z + 1 == c) = false := by simpa using hj
              have Hj := hide hj
              clear hj
              have Hown0 := hide (fun q o => (ownsRow_drewN (unhide Hown2) q).alloc o)
              go_wp2_with fail
              go_quiet (fail)
              go_wp2_with (at_builtin; refine wpList_append_own _ rfl _ _ 22 rfl w1.heap.size 55 i0 (.agg #[.int .i32 0, .int .i32 0]) 2 8 Tryd.underlying22 hi hz0 hz1 hz2 rfl (by decide) _ _ _ rfl (unhide Hown0 _ _) ⟨w2.heap.size, 0, none⟩ 1 1 [.int .i32 c, .int .i32 (1114111)] rfl rfl ?k4a ?k4b ?k4c ?k4d ?k4e ?_)
              case k4a => exact cell_new2 _ _ (by simp) _ _ _
              case k4b => intro u hu; simp at hu; rcases hu with rfl | rfl <;> rfl
              case k4c => unfold maxLen; omega
              case k4d => omega
              case k4e => simp; omega
              intro v' w3 hown' hgrow _
              go_wp2
              go_roundw
              case rel =>
                refine ⟨i + 1, ?_, by go_num, by omega, ?_, ?_⟩
                · rw [unhide Hs2]
                  rw [flat_append]
                  simpa [flat, encR] using hown'
                · exact ((below_drewN (unhide Hb2) _).alloc (by simp; omega) _).grown hgrow (by simp; omega) (fun x hx => ((unhide Hown2).lt x hx).1)
                · rw [unhide Hst']
                  exact madeStep_bd (unhide Hbd) (unhide Hbe)
              case measure => simp [intOf]; omega
    · have hic' : ¬ (i : Int) < cuts.length := by omega
      have hie : i = cuts.length := by omega
      subst hie
      rw [unhide Hall] at Hown
      obtain ⟨ua, ucap, rfl⟩ := ownsRow_slice (unhide Hown)
      have HB := hide ((unhide Hb1).trans (below_le (unhide Hbel) hsz1))
      by_cases hM : 2048 < (madeL P cuts).length
      · have hM' : (2048 : Int) < (madeL P cuts).length := by omega
        have Hm : Hid (limL (madeL P cuts) = [] ∧ limC (madeL P cuts) = 21) := hide ⟨if_pos hM, if_pos hM⟩
        go_wp2
        go_ret2
        rw [(unhide Hm).1, (unhide Hm).2]
        exact ⟨_, rfl, ⟨rfl, .inl ⟨rfl, rfl⟩⟩, unhide HB⟩
      · have hM' : ¬ (2048 : Int) < (madeL P cuts).length := by omega
        have Hm : Hid (limL (madeL P cuts) = madeL P cuts ∧ limC (madeL P cuts) = 0) := hide ⟨if_neg hM, if_neg hM⟩
        go_wp2
        go_ret2
        rw [(unhide Hm).1, (unhide Hm).2]
        exact ⟨_, rfl, ownsRow_le (unhide Hown) hsz1, unhide HB⟩
end Go.Proofs.YtkbhdojgdgiggaaDoor

/- Contract of merged. -/
import Derived.Test.YtkbhdojgdgiggaaDoorV6
import Derived.RegionTactic
namespace Go.Proofs.YtkbhdojgdgiggaaDoor
open Go.RowKit Go.Sort Go.Lib

/-- The one list of the runes of ranges. -/
def mergedL (l : List Rng) : List Rng := mergeL (sortL l)

theorem cell_new2 (w : World) (n : Nat) (hn : w.heap.size = n) (x y : Value) (t : TypeId) : ∀ j u, [x, y][j]? = some u → (w.alloc (.cells #[x, y] t)).cell? ((⟨n, 0, none⟩ : Addr).add j) = some u := by
  subst hn
  intro j u hj
  have e : (⟨w.heap.size, 0, none⟩ : Addr).add j = ⟨w.heap.size, j, none⟩ := by unfold Addr.add; split <;> simp_all
  rw [e]
  refine (World.cell?_alloc_mark w #[x, y] t (0, 0) j).trans ?_
  simpa using hj

theorem flat_set (pre : List Rng) (a b c : Int) : flat (pre ++ [(a, c)]) = (flat (pre ++ [(a, b)])).set (pre.length * 2 + 1) (.int .i32 c) := by
  rw [flat_append, flat_append, List.set_append_right _ _ (by rw [flat_length]; omega), flat_length]
  rw [show pre.length * 2 + 1 - pre.length * 2 = 1 by omega]
  rfl
theorem ownsRow_le {w : World} {B B' : Nat} {e : TypeId} {size : Nat} {v : Value} {n : Nat} {xs : List Value} (h : w.ownsRow B e size v n xs) (hb : B' ≤ B) : w.ownsRow B' e size v n xs := by
  refine ⟨h.1, ?_⟩
  rcases h.2 with h0 | ⟨g, cap, cur, hv, hg, rest⟩
  · exact .inl h0
  · exact .inr ⟨g, cap, cur, hv, by omega, rest⟩
theorem ownsRow_drewN {w : World} {B : Nat} {e : TypeId} {size : Nat} {v : Value} {n : Nat} {xs : List Value} (h : w.ownsRow B e size v n xs) (q : Nat) : (w.drewN q).ownsRow B e size v n xs := h
set_option maxHeartbeats 4000000 in
set_option maxRecDepth 100000 in
theorem merged_any (a : Option Addr) (cap : Nat) (l : List Rng) (hl : l.length * 8 ≤ 140737488355328) (hR : ∀ x ∈ l, isR x = true) (w : World) (hrow : RowAt w a l) :
    Calls Tryd.prog 40 #[.slice a l.length cap] w fun e w' => ∃ v, e = .returned v ∧ w'.ownsRow w.heap.size 55 2 v (mergedL l).length (flat (mergedL l)) ∧ Below w.heap.size w w' := by
  obtain ⟨i0, hi, hz0, hz1, hz2⟩ := info_parts hrange
  have HC := hide (clone_any a cap l hl w hrow)
  have hsl := sortL_length l
  have HR : Hid (∀ k, k < l.length → isR ((sortL l).getD k (0, 0)) = true) := hide fun k hk => by
    refine hR _ ((sortL_perm l).mem_iff.1 ?_)
    rw [List.getD_eq_getElem?_getD, List.getElem?_eq_getElem (by omega)]
    exact List.getElem_mem _
  clear hR hrow
  go_enter Tryd.func40, Tryd.ntmps40
  go_wp2_with fail
  refine (unhide HC).mono ?_
  rintro e w1 ⟨v, rfl, hown1, hb1⟩
  -- the row in order
  have HS : Hid (Calls Tryd.prog 60 #[v, .func (.func 48) #[] #[]] w1 fun e w2 => e = .returned (.tuple #[]) ∧ ∃ a2 cap2, v = .slice a2 l.length cap2 ∧ RowAt w2 a2 (sortL l) ∧ Below w.heap.size w w2) := hide (by
    rcases hown1.2 with ⟨rfl, h0⟩ | ⟨g, cap1, cur, rfl, hg, rest⟩
    · have hnil : l = [] := List.eq_nil_of_length_eq_zero h0
      subst hnil
      refine (AnyF.slices_SortFunc_none { Tryd.sortR with } none 0 (.func (.func 48) #[] #[]) w1).mono ?_
      rintro e w2 ⟨rfl, rfl⟩
      exact ⟨rfl, none, 0, rfl, .inl (List.eq_nil_of_length_eq_zero (by rw [sortL_length]; rfl)), hb1⟩
    · refine (sort_own w.heap.size g cap1 l w1 hown1 (by omega)).mono ?_
      rintro e w2 ⟨rfl, hr2, hb2, _⟩
      exact ⟨rfl, _, _, rfl, hr2, hb1.trans (below_le hb2 hg)⟩)
  clear hown1 hb1 HC
  go_wp2_with fail
  refine (unhide HS).mono ?_
  rintro e w2 ⟨rfl, a2, cap2, rfl, hr2, hb2⟩
  have hsz2 := hb2.size
  have Hr2 := hide hr2; have Hb2 := hide hb2
  clear hr2 hb2 HS
  go_wp2
  go_loopw [4, 14] (fun u x wr => ∃ (k : Nat) (acc : List Rng), wr.ownsRow w2.heap.size 55 2 u acc.length (flat acc) ∧ x = .int .i64 k ∧ k ≤ l.length ∧ Below w2.heap.size w2 wr ∧ mergeL ((sortL l).take k) = acc ∧ acc.length ≤ k ∧ ∀ y ∈ acc, isR y = true) (fun _ x _ => l.length - (intOf x).toNat)
  case atStart => exact ⟨0, [], ⟨rfl, .inl ⟨rfl, rfl⟩⟩, rfl, by omega, Below.refl _ _, rfl, by simp, by simp⟩
  case round =>
    obtain ⟨k, acc, hown, rfl, hk, hbel, hacc, hlen, hisr⟩ := hrel
    have hsz := hbel.size
    have Hown := hide hown; have Hbel := hide hbel; have Hacc := hide hacc; have Hisr := hide hisr
    clear hown hbel hacc hisr
    by_cases hkl : k < l.length
    · obtain ⟨b, off, rfl, hlt, hc⟩ := rowAt_cells (unhide Hr2) (unhide Hbel) (show k < (sortL l).length by omega)
      have hkl' : (k : Int) < l.length := by omega
      have q0 := (hc k (by omega)).1
      have q1 := (hc k (by omega)).2
      have hx := unhide HR k hkl
      have Hst := hide (mergeL_take (sortL l) k (by omega))
      clear hc
      generalize (sortL l).getD k (0, 0) = x at *
      have Hix := hide hx
      obtain ⟨x, y⟩ := x
      have hxr : 0 ≤ x ∧ x ≤ y ∧ y ≤ 1114111 := by simpa [isR] using hx
      simp only at q0 q1
      rw [unhide Hacc] at Hst
      clear hx
      rcases List.eq_nil_or_concat acc with rfl | ⟨pre, z, rfl⟩
      · obtain ⟨ua, ucap, rfl⟩ := ownsRow_slice (unhide Hown)
        simp only [List.length_nil] at *
        have Hown0 := hide (fun q o => (ownsRow_drewN ((unhide Hown).alloc (.cells #[.int .i32 x, .int .i32 y] 55)) q).alloc o)
        go_wp2_with fail
        go_quiet (fail)
        go_wp2_with (at_builtin; refine wpList_append_own _ rfl _ _ 22 rfl w2.heap.size 55 i0 (.agg #[.int .i32 0, .int .i32 0]) 2 8 Tryd.underlying22 hi hz0 hz1 hz2 rfl (by decide) _ _ _ rfl (unhide Hown0 _ _) ⟨wr.heap.size + 1, 0, none⟩ 1 1 [.int .i32 x, .int .i32 y] rfl rfl ?c1 ?c2 ?c3 ?c4 ?c5 ?_)
        case c1 => exact cell_new2 _ _ (by simp) _ _ _
        case c2 => intro u hu; simp at hu; rcases hu with rfl | rfl <;> rfl
        case c3 => unfold maxLen; omega
        case c4 => omega
        case c5 => simp; omega
        intro v' w3 hown' hgrow _
        go_wp2
        go_roundw
        case rel =>
          refine ⟨k + 1, [(x, y)], by simpa [flat, encR] using hown', by go_num, by omega, ?_, by rw [unhide Hst]; rfl, by simp, ?_⟩
          · exact (((below_drewN ((unhide Hbel).alloc hsz _) _).alloc (by simp; omega) _).grown hgrow (by simp; omega) (fun x hx => ((unhide Hown).lt x hx).1))
          · intro y hy; simp at hy; subst hy; exact unhide Hix
        case measure => simp [intOf]; omega
      · rw [List.concat_eq_append] at *
        obtain ⟨z0, z⟩ := z
        have hzr : 0 ≤ z0 ∧ z0 ≤ z ∧ z ≤ 1114111 := by
          have := unhide Hisr (z0, z) (by simp)
          simpa [isR] using this
        obtain ⟨g, ucap, rfl⟩ := ownsRow_some (unhide Hown) (by simp)
        have hgl := (unhide Hown).lt g rfl
        have hfl : (flat (pre ++ [(z0, z)]))[pre.length * 2 + 1]? = some (.int .i32 z) := by
          have := (flat_at (pre ++ [(z0, z)]) pre.length (by simp)).2
          simpa using this
        have s1 : wr.cell? ⟨g, pre.length * 2 + 1, none⟩ = some (.int .i32 z) := ((unhide Hown).cellAt _ (by simp; omega)).trans hfl
        have f1 : wr.frozen? ⟨g, pre.length * 2 + 1, none⟩ = false := (unhide Hown).frozenAt _
        simp only [List.length_append, List.length_cons, List.length_nil, Nat.zero_add] at *
        clear hfl
        by_cases hj : x ≤ z + 1
        · go_wp2_with fail
          go_quiet (fail)
          go_wp2_with fail
          go_region
          go_wp2
          go_roundw
          case rel =>
            refine ⟨k + 1, pre ++ [(z0, max z y)], ?_, by go_num, by omega, ?_, by rw [unhide Hst, mergeStep_join _ _ _ hj], by simp; omega, ?_⟩
            · have h := ((ownsRow_drewN ((unhide Hown).alloc (.cells #[.int .i32 x, .int .i32 y] 55)) (nq + 1)).stored (pre.length * 2 + 1) (.int .i32 (max z y))).1
              rw [← flat_set] at h
              simpa using h
            · exact (below_drewN ((unhide Hbel).alloc hsz _) _).setCell (by exact hgl.1) _
            · rw [← mergeStep_join pre (z0, z) (x, y) hj]
              exact mergeStep_isR (unhide Hisr) (unhide Hix)
          case measure => simp [intOf]; omega
        · have Hj := hide (mergeStep_new pre (z0, z) (x, y) hj)
          have Hown0 := hide (fun q o => (ownsRow_drewN ((unhide Hown).alloc (.cells #[.int .i32 x, .int .i32 y] 55)) q).alloc o)
          go_wp2_with fail
          go_quiet (fail)
          go_wp2_with (at_builtin; refine wpList_append_own _ rfl _ _ 22 rfl w2.heap.size 55 i0 (.agg #[.int .i32 0, .int .i32 0]) 2 8 Tryd.underlying22 hi hz0 hz1 hz2 rfl (by decide) _ _ _ rfl (unhide Hown0 _ _) ⟨wr.heap.size + 1, 0, none⟩ 1 1 [.int .i32 x, .int .i32 y] rfl rfl ?c1 ?c2 ?c3 ?c4 ?c5 ?_)
          case c1 => exact cell_new2 _ _ (by simp) _ _ _
          case c2 => intro u hu; simp at hu; rcases hu with rfl | rfl <;> rfl
          case c3 => unfold maxLen; omega
          case c4 => omega
          case c5 => simp; omega
          intro v' w3 hown' hgrow _
          go_wp2
          go_roundw
          case rel =>
            refine ⟨k + 1, pre ++ [(z0, z)] ++ [(x, y)], ?_, by go_num, by omega, ?_, by rw [unhide Hst, unhide Hj], by simp; omega, ?_⟩
            · rw [flat_append]
              simpa [flat, encR] using hown'
            · exact (((below_drewN ((unhide Hbel).alloc hsz _) _).alloc (by simp; omega) _).grown hgrow (by simp; omega) (fun x hx => ((unhide Hown).lt x hx).1))
            · rw [← unhide Hj]
              exact mergeStep_isR (unhide Hisr) (unhide Hix)
          case measure => simp [intOf]; omega
    · have hkl' : ¬ (k : Int) < l.length := by omega
      have hke : k = l.length := by omega
      subst hke
      go_wp2
      go_ret
      refine ⟨_, rfl, ?_, (unhide Hb2).trans (below_le (unhide Hbel) hsz2)⟩
      have e : mergedL l = acc := by rw [← unhide Hacc]; unfold mergedL; rw [← hsl, List.take_length]
      rw [e]
      exact ownsRow_le (unhide Hown) hsz2
end Go.Proofs.YtkbhdojgdgiggaaDoor

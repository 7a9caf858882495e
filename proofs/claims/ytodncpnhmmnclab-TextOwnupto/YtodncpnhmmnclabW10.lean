/- Contracts of the reference's Runes and Same. -/
import Derived.Test.YtodncpnhmmnclabW8
import Derived.Test.YtodncpnhmmnclabW9
namespace Go.Proofs.Ytodncpnhmmnclab
open Go.RowKit

set_option maxHeartbeats 1000000 in
set_option maxRecDepth 100000 in
theorem rRunes_own (s : ByteArray) (hs : s.size ≤ 8388608) (w : World) :
    Calls Try.prog 11 #[.string s] w fun e w' => ∃ v, e = .returned (.tuple #[v, .int .i64 (validVals s).1, .int .i64 (validVals s).2]) ∧ w'.ownsRow w.heap.size 21 1 v (runesOr s).length ((runesOr s).map (Value.int .i32)) ∧ Below w.heap.size w w' := by
  obtain ⟨i0, hi, hz0, hz1, hz2⟩ := info_parts hrune
  go_enter Try.func11, Try.ntmps11
  go_wp2
  go_loopw [5, 6] (fun u p wr => ∃ (zs : List Int) (pos f : Nat), p = .int .i64 pos ∧ wr.ownsRow w.heap.size 21 1 u zs.length (zs.map (Value.int .i32)) ∧ Below w.heap.size w wr ∧ zs ++ runesF s f pos = runesL s ∧ noneF s f pos = badB s ∧ s.size ≤ pos + f ∧ zs.length ≤ pos ∧ pos ≤ s.size) (fun _ p _ => s.size - (intOf p).toNat)
  case atStart => exact ⟨[], 0, s.size, rfl, World.ownsRow_nil _ _ _ _, Below.refl _ _, rfl, rfl, by omega, by simp, by omega⟩
  case round =>
    obtain ⟨zs, pos, f, rfl, hown, hbel, hacc, hbad, hf, hlen, hpos⟩ := hrel
    have hs1 := hbel.size
    have Hown := hide hown; have Hbel := hide hbel; have Hacc := hide hacc; have Hbad := hide hbad
    clear hown hbel hacc hbad
    by_cases hp : pos < s.size
    · obtain ⟨g, rfl⟩ : ∃ g, f = g + 1 := ⟨f - 1, by omega⟩
      have hw := width_pos s pos hp
      have HX := hide (rNext_any s pos (by omega))
      have Hst := hide (runesF_step s g pos hp)
      cases hn : noneB s pos
      · have Hbs := hide (noneF_step s g pos hp hn)
        have e : nextV s pos = .tuple #[.int .i32 ((Utf8.decode s pos).1 : Int), .int .i64 ((Utf8.decode s pos).2 : Int), .bool true] := by unfold nextV; rw [nextT_rune s pos hp hn]
        rw [e] at HX
        clear e hn
        generalize (Utf8.decode s pos).2 = d at *
        generalize (Utf8.decode s pos).1 = r at *
        go_wp2_with fail
        refine (unhide HX _).mono ?_
        rintro e w1 ⟨rfl, hb1⟩
        have ho1 := ownsRow_below (unhide Hown) hb1 (Nat.le_refl _)
        have hb2 := (unhide Hbel).trans (hb1.mono hs1)
        have hs2 := hb2.size
        have Ho1 := hide ho1; have Hb2 := hide hb2
        clear ho1 hb2 hb1
        go_wp2_with (at_builtin; refine wpList_append_own _ rfl _ _ 30 rfl w.heap.size 21 i0 (.int .i32 0) 1 4 Try.underlying30 hi hz0 hz1 hz2 rfl (by decide) _ _ _ rfl ((unhide Ho1).alloc _) ⟨w1.heap.size, 0, none⟩ 1 1 [.int .i32 r] rfl rfl ?c1 ?c2 ?c3 ?c4 ?c5 ?_)
        case c1 => exact cell_one_new _ _ _
        case c2 => intro u hu; simp at hu; subst hu; rfl
        case c3 => unfold maxLen; omega
        case c4 => omega
        case c5 => simp; omega
        intro v' w2' hown' hgrow _
        go_wp2
        go_roundw
        case rel =>
          refine ⟨zs ++ [(r : Int)], pos + d, g, by go_num, ?_, ((unhide Hb2).alloc hs2 _).grown hgrow (by simp; omega) (fun x hx => ((unhide Ho1).lt x hx).1), ?_, ?_, by omega, by rw [List.length_append]; simp; omega, by omega⟩
          · rw [List.length_append, List.map_append]
            exact hown'
          · rw [List.append_assoc, ← unhide Hacc, unhide Hst]
            rfl
          · rw [← unhide Hbad, unhide Hbs]
        case measure => simp [intOf]; omega
      · have hb : badB s = some pos := by rw [← unhide Hbad, noneF_here s g pos hp hn]
        have e : nextV s pos = .tuple #[.int .i32 0, .int .i64 1, .bool false] := by unfold nextV; rw [nextT_none s pos hp hn]
        rw [e] at HX
        have Hv := hide (validVals_bad s pos hb)
        clear e hn hb
        go_wp2_with fail
        refine (unhide HX _).mono ?_
        rintro e w1 ⟨rfl, hb1⟩
        go_wp2
        go_ret3
        refine ⟨.slice none 0 0, ?_, ?_, (unhide Hbel).trans (hb1.mono hs1)⟩
        · rw [(unhide Hv).1]; rfl
        · rw [(unhide Hv).2]; exact World.ownsRow_nil _ _ _ _
    · have hb : badB s = none := by rw [← unhide Hbad, noneF_end s f pos hp]
      have Hv := hide (validVals_good s hb)
      have Hz := hide (show zs = runesL s by rw [← unhide Hacc, runesF_end s f pos hp, List.append_nil])
      clear hb
      go_wp2
      go_ret3
      refine ⟨u5, ?_, ?_, unhide Hbel⟩
      · rw [(unhide Hv).1]; rfl
      · rw [(unhide Hv).2, ← unhide Hz]; exact unhide Hown

theorem list_ext_getD {xs ys : List Int} (hl : xs.length = ys.length) (h : ∀ j, j < xs.length → xs.getD j 0 = ys.getD j 0) : xs = ys := by
  apply List.ext_getElem hl
  intro j h1 h2
  have := h j h1
  simpa [h1, h2] using this

set_option maxHeartbeats 400000 in
theorem same_len (a b : Option Addr) (n m c d : Nat) (h : ((n : Int) != (m : Int)) = true) (w : World) :
    Calls Try.prog 13 #[.slice a n c, .slice b m d] w fun e w' => e = .returned (.bool false) ∧ Below w.heap.size w w' := by
  go_enter Try.func13, Try.ntmps13
  go_wp2
  go_ret
  exact ⟨rfl, Below.refl _ _⟩
set_option maxHeartbeats 400000 in
theorem same_none (a b : Option Addr) (c d : Nat) (w : World) :
    Calls Try.prog 13 #[.slice a 0 c, .slice b 0 d] w fun e w' => e = .returned (.bool true) ∧ Below w.heap.size w w' := by
  go_enter Try.func13, Try.ntmps13
  go_wp2
  refine wp_loop_rounds 1 ?_
  rw [rounds_succ]
  go_wp2
  go_ret
  exact ⟨rfl, Below.refl _ _⟩
set_option maxHeartbeats 1000000 in
set_option maxRecDepth 100000 in
theorem same_some (b off b' off' c d : Nat) (xs ys : List Int) (hl : ys.length = xs.length) (hm : xs.length ≤ 9223372036854775807) (w : World)
    (hx : ∀ j, j < xs.length → w.cell? ⟨b, off + j, none⟩ = some (.int .i32 (xs.getD j 0))) (hy : ∀ j, j < ys.length → w.cell? ⟨b', off' + j, none⟩ = some (.int .i32 (ys.getD j 0))) :
    Calls Try.prog 13 #[.slice (some ⟨b, off, none⟩) xs.length c, .slice (some ⟨b', off', none⟩) xs.length d] w fun e w' => e = .returned (.bool (decide (xs = ys))) ∧ Below w.heap.size w w' := by
  have Hx := hide hx; have Hy := hide hy
  clear hx hy
  go_enter Try.func13, Try.ntmps13
  go_wp2
  go_loopw [5] (fun v wr => ∃ k : Nat, k ≤ xs.length ∧ v = .int .i64 k ∧ (∀ j, j < k → xs.getD j 0 = ys.getD j 0) ∧ ∃ nd, wr = w.drewN nd) (fun v _ => xs.length - (intOf v).toNat)
  case atStart => exact ⟨0, Nat.zero_le _, rfl, fun j hj => by omega, 0, rfl⟩
  case round =>
    obtain ⟨k, hk, rfl, heq, nd, rfl⟩ := hrel
    have Heq := hide heq
    clear heq
    by_cases hlt : k < xs.length
    · have hlt' : (k : Int) < (xs.length : Int) := by omega
      have h0 : (0 : Int) ≤ (k : Int) := by omega
      have h1 : w.cell? ⟨b, off + k, none⟩ = some (.int .i32 (xs.getD k 0)) := unhide Hx k hlt
      have h2 : w.cell? ⟨b', off' + k, none⟩ = some (.int .i32 (ys.getD k 0)) := unhide Hy k (by omega)
      generalize hp : xs.getD k 0 = p at h1
      generalize hq : ys.getD k 0 = q at h2
      have Hp := hide hp; have Hq := hide hq
      clear hp hq
      by_cases e : p = q
      · have e1 : (p != q) = false := by simp [e]
        have E := hide e
        clear e
        go_wp2
        go_quiet (fail)
        go_wp2
        go_roundw
        case rel =>
          refine ⟨k + 1, by omega, by go_num, fun j hj => ?_, _, rfl⟩
          by_cases ej : j = k
          · subst ej; rw [unhide Hp, unhide Hq]; exact unhide E
          · exact unhide Heq j (by omega)
        case measure => simp [intOf]; omega
      · have e1 : (p != q) = true := by simp [e]
        have E := hide e
        clear e
        go_wp2
        go_quiet (fail)
        go_wp2
        go_ret
        refine ⟨ret_bool ?_, below_drewN (below_drewN (Below.refl _ _) _) _⟩
        symm
        rw [decide_eq_false_iff_not]
        intro e2
        apply unhide E
        rw [← unhide Hp, ← unhide Hq, e2]
    · have hlt' : ¬ (k : Int) < (xs.length : Int) := by omega
      go_wp2
      go_ret
      refine ⟨ret_bool ?_, below_drewN (Below.refl _ _) _⟩
      symm
      rw [decide_eq_true_eq]
      exact list_ext_getD hl.symm fun j hj => unhide Heq j (by omega)
theorem same_any (v u : Value) (xs ys : List Int) (w : World) (h1 : IsRunes w v xs) (h2 : IsRunes w u ys) (hm : xs.length ≤ 9223372036854775807) :
    Calls Try.prog 13 #[v, u] w fun e w' => e = .returned (.bool (decide (xs = ys))) ∧ Below w.heap.size w w' := by
  obtain ⟨a, c, rfl, h1⟩ := h1
  obtain ⟨b, d, rfl, h2⟩ := h2
  by_cases hl : ys.length = xs.length
  · rcases h1 with rfl | ⟨b1, o1, rfl, _, hc1⟩
    · have : ys = [] := List.length_eq_zero_iff.1 hl
      subst this
      exact same_none a b c d w
    · rcases h2 with rfl | ⟨b2, o2, rfl, _, hc2⟩
      · have : xs = [] := List.length_eq_zero_iff.1 hl.symm
        subst this
        exact same_none _ b c d w
      · rw [hl]
        exact same_some b1 o1 b2 o2 c d xs ys hl hm w hc1 hc2
  · rw [show decide (xs = ys) = false by rw [decide_eq_false_iff_not]; intro e; exact hl (by rw [e])]
    exact same_len a b _ _ c d (by simp; omega) w
end Go.Proofs.Ytodncpnhmmnclab

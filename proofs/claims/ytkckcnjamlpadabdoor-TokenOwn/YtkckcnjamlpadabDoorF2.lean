/- Only, by both. -/
import Derived.Test.YtkckcnjamlpadabDoorF1
namespace Go.Proofs.YtkckcnjamlpadabDoor
open Go.RowKit Go.Maps

def okN (n : Int) : Prop := -9223372036854775808 ≤ n ∧ n ≤ 9223372036854775807
theorem set_grown {W W3 : World} {mb B : Nat} {v : Value} {n : Nat} {xs : List Value} {ks : List Int} (h : SetMap W mb ks) (o : W.ownsRow B 27 3 v n xs) (b1 b2 b3 : Obj) (hg : (((W.alloc b1).alloc b2).alloc b3).grownBy W3 v.ownBlock) : SetMap W3 mb ks := by
  obtain ⟨D, hm, rest⟩ := h
  refine ⟨D, ?_, rest⟩
  have hl := hm.lt
  have hne : v.ownBlock ≠ some mb := fun e => by
    rcases o.2 with ⟨rfl, _⟩ | ⟨g, cap, cur, rfl, _, hh, _⟩
    · simp [Value.ownBlock] at e
    · simp only [Value.ownBlock, Option.some.injEq] at e
      subst e
      obtain ⟨es, c, hh2, -⟩ := hm
      rw [hh] at hh2
      cases hh2
  obtain ⟨es, c, hh, r⟩ := hm
  refine ⟨es, c, ?_, r⟩
  rw [hg.block mb (by simp; omega) (fun e => hne e.symm), Below.heap_alloc _ _ _ (by simp; omega), Below.heap_alloc _ _ _ (by simp; omega), Below.heap_alloc _ _ _ hl]
  exact hh

set_option maxHeartbeats 4000000 in
set_option maxRecDepth 100000 in
theorem only_any (a b : Option Addr) (ca cb : Nat) (l : List T3) (ks : List Int) (hl : l.length * 24 ≤ 140737488351232) (hkl : ks.length * 8 ≤ 140737488351232) (hlo : ∀ j, j < l.length → okN (l.getD j (0, 0, 0)).1) (hko : ∀ j, j < ks.length → okN (ks.getD j 0)) (w : World) (h1 : TRow w a l) (h2 : NRow w b ks) :
    Calls Tryd.prog 12 #[.slice a l.length ca, .slice b ks.length cb] w fun e w' => ∃ v, e = .returned v ∧ w'.ownsRow w.heap.size 27 3 v (onlyL l ks).length (flat3 (onlyL l ks)) ∧ Below w.heap.size w w' := by
  obtain ⟨i0, hi, hz0, hz1, hz2⟩ := info_parts htok
  have q := makeMap94 (ks.length : Int) w
  have H1 := hide h1; have H2 := hide h2; have Hlo := hide hlo; have Hko := hide hko
  clear h1 h2 hlo hko
  go_enter Tryd.func12, Tryd.ntmps12
  go_wp2
  go_loopw [18] (fun x wr => ∃ k : Nat, x = .int .i64 k ∧ k ≤ ks.length ∧ SetMap wr w.heap.size (ks.take k) ∧ Below w.heap.size w wr) (fun x _ => ks.length - (intOf x).toNat)
  case atStart => exact ⟨0, rfl, Nat.zero_le _, by simpa using set_zero w, (Below.refl _ _).alloc (Nat.le_refl _) _⟩
  case round =>
    obtain ⟨k, rfl, hk, hset, hbel⟩ := hrel
    have hsz := hbel.size
    have Hset := hide hset; have Hbel := hide hbel
    clear hset hbel
    by_cases hlt : k < ks.length
    · have hlt' : (k : Int) < ks.length := by omega
      obtain ⟨kb, ko, rfl, hkb, hc⟩ := nrow_pos (nrow_below (unhide H2) (Nat.le_refl _) (unhide Hbel)) hlt
      have ck := hc k hlt
      have hok := unhide Hko k hlt
      have Ht := hide (take_snoc ks k 0 hlt)
      clear hc
      generalize ks.getD k 0 = n at *
      obtain ⟨D, hm, hh⟩ := unhide Hset
      have htl : (ks.take k).length = k := by rw [List.length_take]; omega
      have Hm := hide hm
      have Hput := hide (fun w' => set_put (w' := w') (n := n) hm hh)
      clear hm hh Hset
      rw [htl] at Hput Hm
      have Hk := hide (keyOf_int_mk Tryd.underlying3 (WalkArith.wf_i64 hok))
      go_wp2_with (at_mapUpdate; refine wpList_mapUpdate_own _ rfl _ _ _ 54 rfl 3 55 law3 Tryd.underlying54 _ _ k D rfl (unhide Hm) ?zd1 _ _ (.int .i64 n) rfl rfl (unhide Hk) (.agg []) [] ?zd2 ?_)
      case zd1 => unfold maxLen; omega
      case zd2 => exact unitElem_mk
      intro W3 hm3 hg3
      have Hn3 := hide (unhide Hput W3 hm3)
      have Hb3 := hide ((unhide Hbel).grown hg3 hsz (fun x hx => by simp at hx; omega))
      clear hm3 hg3
      go_wp2
      go_roundw
      case rel => exact ⟨k + 1, by go_num, by omega, by rw [unhide Ht]; exact unhide Hn3, unhide Hb3⟩
      case measure => simp [intOf]; omega
    · obtain rfl : k = ks.length := by omega
      rw [List.take_length] at Hset
      clear q
      go_wp2
      go_loopw [8, 28] (fun u x W => ∃ k : Nat, x = .int .i64 k ∧ k ≤ l.length ∧ W.ownsRow w.heap.size 27 3 u (onlyL (l.take k) ks).length (flat3 (onlyL (l.take k) ks)) ∧ SetMap W w.heap.size ks ∧ Below w.heap.size w W) (fun _ x _ => l.length - (intOf x).toNat)
      case atStart => exact ⟨0, rfl, Nat.zero_le _, World.ownsRow_nil _ _ _ _, unhide Hset, unhide Hbel⟩
      case round =>
        obtain ⟨k, rfl, hk, hown, hset, hbel⟩ := hrel
        obtain ⟨ua, uc, rfl⟩ := own_form hown
        have hsz := hbel.size
        have hle := onlyL_le l ks k
        have Hown := hide hown; have Hst := hide hset; have Hbl := hide hbel
        clear hown hset hbel
        by_cases hlt : k < l.length
        · have hlt' : (k : Int) < l.length := by omega
          obtain ⟨tb, toff, rfl, htb, hc⟩ := trow_pos (trow_below (unhide H1) (Nat.le_refl _) (unhide Hbl)) hlt
          obtain ⟨q0, q1, q2⟩ := hc k hlt
          have hok := unhide Hlo k hlt
          have Hsp := hide (onlyL_step l ks k hlt)
          clear hc
          generalize l.getD k (0, 0, 0) = x at *
          obtain ⟨x0, x1, x2⟩ := x
          simp only at q0 q1 q2 Hsp hok
          have Hl1 := hide (fun o => set_look (set_below (unhide Hst) (Nat.le_refl _) ((Below.refl _ wr).alloc (Nat.le_refl _) o)) x0 hok (wr.alloc o) rfl)
          have hl1 := unhide Hl1 (.cells #[.int .i64 x0, .int .i64 x1, .int .i64 x2] 27)
          by_cases hin : x0 ∈ ks
          · rw [decide_eq_true hin] at hl1
            rw [if_pos hin] at Hsp
            generalize onlyL (l.take k) ks = acc at *
            generalize hac : onlyL (l.take (k + 1)) ks = acc2 at *
            have Hac := hide hac
            clear hac hin Hl1
            go_wp2_with (at_builtin; refine wpList_append_own _ rfl _ _ 22 rfl w.heap.size 27 i0 (.agg #[.int .i64 0, .int .i64 0, .int .i64 0]) 3 24 Tryd.underlying22 hi hz0 hz1 hz2 rfl (by decide) _ _ _ rfl ((((unhide Hown).alloc _).alloc _).alloc _) ⟨wr.heap.size + 1 + 1, 0, none⟩ 1 1 [.int .i64 x0, .int .i64 x1, .int .i64 x2] rfl rfl ?zc1 ?zc2 ?zc3 ?zc4 ?zc5 ?_)
            case zc1 =>
              have h := cells_three_new ((wr.alloc (.cells #[.int .i64 x0, .int .i64 x1, .int .i64 x2] 27)).alloc (.cells #[] 55)) (.int .i64 x0) (.int .i64 x1) (.int .i64 x2) 27
              rw [show ((wr.alloc (.cells #[.int .i64 x0, .int .i64 x1, .int .i64 x2] 27)).alloc (.cells #[] 55)).heap.size = wr.heap.size + 1 + 1 by simp] at h
              exact h
            case zc2 => intro u hu; simp at hu; rcases hu with rfl | rfl | rfl <;> rfl
            case zc3 => unfold maxLen; omega
            case zc4 => omega
            case zc5 => simp; omega
            intro v' W3 hown' hgrow _
            have Hb3 := hide (((((unhide Hbl).alloc hsz _).alloc (by simp; omega) _).alloc (by simp; omega) _).grown hgrow (by simp; omega) (fun k hk => ((unhide Hown).lt k hk).1))
            have Hs3 := hide (set_grown (unhide Hst) (unhide Hown) _ _ _ hgrow)
            have Ho3 := hide (show W3.ownsRow w.heap.size 27 3 v' acc2.length (flat3 acc2) by rw [unhide Hsp, flat3_snoc, List.length_append]; exact hown')
            clear hown' hgrow
            go_wp2
            go_roundw
            case rel => exact ⟨k + 1, by go_num, by omega, by rw [unhide Hac]; exact unhide Ho3, unhide Hs3, unhide Hb3⟩
            case measure => simp [intOf]; omega
          · rw [decide_eq_false hin] at hl1
            rw [if_neg hin] at Hsp
            generalize onlyL (l.take k) ks = acc at *
            generalize hac : onlyL (l.take (k + 1)) ks = acc2 at *
            have Hac := hide hac
            clear hac hin Hl1
            go_wp2
            go_roundw
            case rel =>
              have hb := ((Below.refl _ wr).alloc (Nat.le_refl _) (.cells #[.int .i64 x0, .int .i64 x1, .int .i64 x2] 27)).alloc (by simp) (.cells #[] 55)
              refine ⟨k + 1, by go_num, by omega, by rw [unhide Hac, unhide Hsp]; exact ((unhide Hown).alloc _).alloc _, set_below (unhide Hst) (Nat.le_refl _) hb, (unhide Hbl).trans (hb.mono hsz)⟩
            case measure => simp [intOf]; omega
        · obtain rfl : k = l.length := by omega
          simp only [List.take_length] at Hown ⊢
          go_wp2
          go_ret
          exact ⟨_, rfl, unhide Hown, unhide Hbl⟩
end Go.Proofs.YtkckcnjamlpadabDoor

/- The document's Only. -/
import Derived.Test.YtkckcnjamlpadabDoorF2
namespace Go.Proofs.YtkckcnjamlpadabDoor
open Go.RowKit Go.Maps

theorem mem_take {ks : List Int} {n : Int} {i : Nat} (h : i < ks.length) : n ∈ ks.take (i + 1) ↔ n ∈ ks.take i ∨ n = ks.getD i 0 := by
  rw [take_snoc ks i 0 h, List.mem_append, List.mem_singleton]
theorem mem_getDI {ks : List Int} {i : Nat} (h : i < ks.length) : ks.getD i 0 ∈ ks := by
  rw [List.getD_eq_getElem?_getD, List.getElem?_eq_getElem h]; exact List.getElem_mem h

set_option maxHeartbeats 4000000 in
set_option maxRecDepth 100000 in
theorem rOnly_any (a b : Option Addr) (ca cb : Nat) (l : List T3) (ks : List Int) (hl : l.length * 24 ≤ 140737488351232) (hkl : ks.length * 8 ≤ 140737488351232) (w : World) (h1 : TRow w a l) (h2 : NRow w b ks) :
    Calls Tryd.prog 16 #[.slice a l.length ca, .slice b ks.length cb] w fun e w' => ∃ v, e = .returned v ∧ w'.ownsRow w.heap.size 27 3 v (onlyL l ks).length (flat3 (onlyL l ks)) ∧ Below w.heap.size w w' := by
  obtain ⟨i0, hi, hz0, hz1, hz2⟩ := info_parts htok
  have H1 := hide h1; have H2 := hide h2
  clear h1 h2
  go_enter Tryd.func16, Tryd.ntmps16
  go_wp2
  go_loopw [5, 6] (fun u x wr => ∃ k : Nat, x = .int .i64 k ∧ k ≤ l.length ∧ wr.ownsRow w.heap.size 27 3 u (onlyL (l.take k) ks).length (flat3 (onlyL (l.take k) ks)) ∧ Below w.heap.size w wr) (fun _ x _ => l.length - (intOf x).toNat)
  case atStart => exact ⟨0, rfl, Nat.zero_le _, World.ownsRow_nil _ _ _ _, Below.refl _ _⟩
  case round =>
    obtain ⟨k, rfl, hk, hown, hbel⟩ := hrel
    obtain ⟨ua, uc, rfl⟩ := own_form hown
    have hsz := hbel.size
    have hle := onlyL_le l ks k
    have Hown := hide hown; have Hbl := hide hbel
    clear hown hbel
    by_cases hlt : k < l.length
    · have hlt' : (k : Int) < l.length := by omega
      have Hsp := hide (onlyL_step l ks k hlt)
      generalize hx : l.getD k (0, 0, 0) = x at *
      obtain ⟨x0, x1, x2⟩ := x
      have Hx := hide hx
      clear hx
      simp only at Hsp
      have hk0 : (0 : Int) ≤ k := by omega
      generalize onlyL (l.take k) ks = acc at *
      generalize hac : onlyL (l.take (k + 1)) ks = acc2 at *
      have Hac := hide hac
      clear hac
      go_wp2
      go_loopw [5, 7] (fun u y W => ∃ i : Nat, u = .slice ua acc.length uc ∧ y = .int .i64 i ∧ i ≤ ks.length ∧ x0 ∉ ks.take i ∧ W.ownsRow w.heap.size 27 3 (.slice ua acc.length uc) acc.length (flat3 acc) ∧ Below w.heap.size w W) (fun _ y _ => ks.length - (intOf y).toNat)
      case atStart => exact ⟨0, rfl, rfl, Nat.zero_le _, by simp, unhide Hown, unhide Hbl⟩
      case round =>
        obtain ⟨i, rfl, rfl, hi2, hni, hown2, hbel2⟩ := hrel
        have hsz2 := hbel2.size
        have Hni := hide hni; have Hown2 := hide hown2; have Hbl2 := hide hbel2
        clear hni hown2 hbel2
        by_cases hil : i < ks.length
        · have hil' : (i : Int) < ks.length := by omega
          obtain ⟨tb, toff, rfl, htb, hc⟩ := trow_pos (trow_below (unhide H1) (Nat.le_refl _) (unhide Hbl2)) hlt
          obtain ⟨q0, q1, q2⟩ := hc k hlt
          obtain ⟨kb, ko, rfl, hkb, hc2⟩ := nrow_pos (nrow_below (unhide H2) (Nat.le_refl _) (unhide Hbl2)) hil
          have ck := hc2 i hil
          rw [unhide Hx] at q0 q1 q2
          simp only at q0 q1 q2
          clear hc hc2
          by_cases he : ks.getD i 0 = x0
          · have hin : x0 ∈ ks := by rw [← he]; exact mem_getDI hil
            rw [if_pos hin] at Hsp
            have he' : (ks.getD i 0 == x0) = true := by rw [beq_iff_eq]; exact he
            clear he hin
            generalize ks.getD i 0 = n at *
            go_wp2
            go_quiet (fail)
            have Ho3 := hide (show (wr.drewN nq).ownsRow w.heap.size 27 3 (.slice ua acc.length uc) acc.length (flat3 acc) from unhide Hown2)
            have Hb3 := hide (below_drewN (unhide Hbl2) nq)
            have t0 : (wr.drewN nq).cell? ⟨tb, toff + k * 3, none⟩ = some (.int .i64 x0) := q0
            have t1 : (wr.drewN nq).cell? ⟨tb, toff + k * 3 + 1, none⟩ = some (.int .i64 x1) := q1
            have t2 : (wr.drewN nq).cell? ⟨tb, toff + k * 3 + 2, none⟩ = some (.int .i64 x2) := q2
            have hsz3 := (unhide Hb3).size
            clear q0 q1 q2 ck Hown2 Hbl2 Hni
            generalize wr.drewN nq = W2 at *
            go_wp2_with (at_builtin; refine wpList_append_own _ rfl _ _ 22 rfl w.heap.size 27 i0 (.agg #[.int .i64 0, .int .i64 0, .int .i64 0]) 3 24 Tryd.underlying22 hi hz0 hz1 hz2 rfl (by decide) _ _ _ rfl ((unhide Ho3).alloc _) ⟨W2.heap.size, 0, none⟩ 1 1 [.int .i64 x0, .int .i64 x1, .int .i64 x2] rfl rfl ?zc1 ?zc2 ?zc3 ?zc4 ?zc5 ?_)
            case zc1 => exact cells_three_new _ _ _ _ _
            case zc2 => intro u hu; simp at hu; rcases hu with rfl | rfl | rfl <;> rfl
            case zc3 => unfold maxLen; omega
            case zc4 => omega
            case zc5 => simp; omega
            intro v' W3 hown' hgrow _
            have Hb4 := hide (((unhide Hb3).alloc hsz3 _).grown hgrow (by simp; omega) (fun k hk => ((unhide Ho3).lt k hk).1))
            have Ho4 := hide (show W3.ownsRow w.heap.size 27 3 v' acc2.length (flat3 acc2) by rw [unhide Hsp, flat3_snoc, List.length_append]; exact hown')
            clear hown' hgrow
            go_wp2
            go_roundw
            case rel => exact ⟨k + 1, by go_num, by omega, by rw [unhide Hac]; exact unhide Ho4, unhide Hb4⟩
            case measure => simp [intOf]; omega
          · have Hn2 := hide (show x0 ∉ ks.take (i + 1) by rw [mem_take hil]; rintro (h | h); exact unhide Hni h; exact he h.symm)
            have he' : (ks.getD i 0 == x0) = false := by rw [beq_eq_false_iff_ne]; exact he
            clear he
            generalize ks.getD i 0 = n at *
            go_wp2
            go_quiet (fail)
            go_wp2
            go_roundw
            case rel => exact ⟨i + 1, rfl, by go_num, by omega, unhide Hn2, unhide Hown2, below_drewN (unhide Hbl2) _⟩
            case measure => simp [intOf]; omega
        · obtain rfl : i = ks.length := by omega
          rw [List.take_length] at Hni
          rw [if_neg (unhide Hni)] at Hsp
          go_wp2
          go_roundw
          case rel => exact ⟨k + 1, by go_num, by omega, by rw [unhide Hac, unhide Hsp]; exact unhide Hown2, unhide Hbl2⟩
          case measure => simp [intOf]; omega
    · obtain rfl : k = l.length := by omega
      simp only [List.take_length] at Hown ⊢
      go_wp2
      go_ret
      exact ⟨_, rfl, unhide Hown, unhide Hbl⟩
end Go.Proofs.YtkckcnjamlpadabDoor

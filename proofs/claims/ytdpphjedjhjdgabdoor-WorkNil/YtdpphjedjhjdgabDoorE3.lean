/- The law WorkNil, walked. -/
import Derived.Test.YtdpphjedjhjdgabDoorE2
namespace Go.Proofs.YtdpphjedjhjdgabDoor
open Go.RowKit Go.Maps

/-- Add to a set that no call made: what is answered, and how many there are. -/
theorem add_plain (N B : Nat) (hN : N = 1048576) (a : Option Addr) (c : Nat) (l : List Int) (hl48 : l.length ≤ 281474976710656) (w : World) (hB : w.heap[B]? = some (.cells #[.slice none 0 0, .int .i64 0] 60 (0, 0))) (hrow : NRow w a l) (hap : l ≠ [] → ∀ x, a = some x → x.block ≠ B) :
    Calls Tryd.prog 13 #[.pointer (some ⟨B, 0, none⟩), .slice a l.length c] w fun e w' => ∃ k : Int, e = .returned (.tuple #[.int .i64 k, .int .i64 (if numsB l then 0 else 1)]) ∧ Off (fun j => j = B) w w' ∧ ∃ bl O, SetOk w' B O bl k := by
  cases hn : numsB l
  · exact (add_wrong B a c l hn hl48 w hrow).mono fun e w' ⟨h1, h2⟩ => ⟨0, h1, by rw [h2]; exact off_refl _ _, [], fun k => k = B, by rw [h2]; exact set_zero hB⟩
  · have hv : ∀ k, k < l.length → 0 ≤ l.getD k 0 ∧ l.getD k 0 < N := fun k hk => by
      have := List.all_eq_true.1 hn (l.getD k 0) (by rw [List.getD_eq_getElem?_getD, List.getElem?_eq_getElem hk]; exact List.getElem_mem _)
      simp only [decide_eq_true_eq] at this
      omega
    have hz : cnt N (hasB []) = 0 := cnt_zero N _ has_nil
    refine (add_all B _ [] 0 a c l hn hl48 (fun k hk => ?_) w (set_zero hB) hrow hap).mono fun e w' ⟨h1, h2, bl, O, h3, _⟩ => ⟨_, h1, h2, bl, O, ?_⟩
    · have h1 := addS_cnt N (hasB []) l hv k hk
      have h2 := cnt_le N (addS (hasB []) (l.take k)).1
      have h3 := addS_le (hasB []) l k hk
      omega
    · rw [Int.zero_add] at h3; exact h3

set_option maxHeartbeats 8000000 in
set_option maxRecDepth 100000 in
theorem nil_walk (a : Option Addr) (c : Nat) (l : List Int) (hl48 : l.length ≤ 281474976710656) (n wt : Int) (hn : -9223372036854775808 ≤ n ∧ n ≤ 9223372036854775807) (hw : -9223372036854775808 ≤ wt ∧ wt ≤ 9223372036854775807) (w : World) (hrow : NRow w a l) :
    Calls Tryd.prog 4 #[.slice a l.length c, .int .i64 n, .int .i64 wt] w fun e w' => e = .returned (.bool true) ∧ Below w.heap.size w w' := by
  have ha : l ≠ [] → ∀ x, a = some x → x.block < w.heap.size := fun h0 x hx => by
    rcases hrow with h | ⟨g, off, h, hg, -⟩
    · exact absurd h h0
    · rw [h] at hx; cases hx; exact hg
  have Hrow := hide hrow; have Ha := hide ha; have Hn := hide hn; have Hw := hide hw
  have H1 := hide (nil_add a l.length c w)
  have H2 := hide (nil_push n wt w)
  have H3 := hide (nil_pop w)
  have H4 := hide (fun s => nil_at s w)
  have H5 := hide (fun s => nil_find s w)
  have H6 := hide (nil_key n w)
  have H7 := hide (new_zero w)
  clear hrow ha hn hw
  go_enter Tryd.func4, Tryd.ntmps4
  go_wp2_with fail
  refine (unhide H1).mono ?_
  rintro e w1 ⟨rfl, hw⟩
  obtain rfl := hw.symm
  go_wp2_with fail
  refine (unhide H2).mono ?_
  rintro e w1 ⟨rfl, hw⟩
  obtain rfl := hw.symm
  go_wp2_with fail
  refine (unhide H3).mono ?_
  rintro e w1 ⟨rfl, hw⟩
  obtain rfl := hw.symm
  go_wp2_with fail
  refine (unhide H4 _).mono ?_
  rintro e w1 ⟨rfl, hw⟩
  obtain rfl := hw.symm
  go_wp2_with fail
  refine (unhide H5 _).mono ?_
  rintro e w1 ⟨rfl, hw⟩
  obtain rfl := hw.symm
  go_wp2_with fail
  refine (unhide H6).mono ?_
  rintro e w1 ⟨rfl, hw⟩
  obtain rfl := hw.symm
  go_wp2_with fail
  refine (unhide H7).mono ?_
  rintro e w1 ⟨rfl, hw1⟩
  have hb1 : Below w.heap.size w w1 := by rw [hw1]; exact (Below.refl _ _).alloc (Nat.le_refl _) _
  have hB1 : w1.heap[w.heap.size]? = some (.cells #[.slice none 0 0, .int .i64 0] 60 (0, 0)) := by rw [hw1]; exact (MapKept.heap_alloc w _).1
  have Hb1 := hide hb1
  have HB1 := hide hB1
  have J1 := hide (nil_drop a l.length c w1)
  have J2 := hide (nil_has n w1)
  clear H1 H2 H3 H4 H5 H6 H7 hw1 hb1 hB1
  go_wp2_with fail
  refine (unhide J1).mono ?_
  rintro e w2 ⟨rfl, hw⟩
  obtain rfl := hw.symm
  go_wp2_with fail
  refine (unhide J2).mono ?_
  rintro e w2 ⟨rfl, hb2⟩
  have hB2 := (hb2.block _ (lt_of_some (unhide HB1))).trans (unhide HB1)
  have HB2 := hide hB2
  have Hb2 := hide ((unhide Hb1).trans (hb2.mono (unhide Hb1).size))
  have I1 := hide (nil_len w2)
  have I2 := hide (nil_all w2)
  have I3 := hide (nil_copy w2)
  have I4 := hide (nil_llen w2)
  have I5 := hide (nil_ilen w2)
  have I6 := hide (nil_skey w2)
  have I7 := hide (none_key w.heap.size w2 hB2)
  clear J1 J2 hB2 hb2 HB1 Hb1
  go_wp2_with fail
  refine (unhide I1).mono ?_
  rintro e w3 ⟨rfl, hw⟩
  obtain rfl := hw.symm
  go_wp2_with fail
  refine (unhide I2).mono ?_
  rintro e w3 ⟨rfl, hw⟩
  obtain rfl := hw.symm
  go_wp2_with fail
  refine (unhide I3).mono ?_
  rintro e w3 ⟨rfl, hw⟩
  obtain rfl := hw.symm
  go_wp2_with fail
  refine (unhide I4).mono ?_
  rintro e w3 ⟨rfl, hw⟩
  obtain rfl := hw.symm
  go_wp2_with fail
  refine (unhide I5).mono ?_
  rintro e w3 ⟨rfl, hw⟩
  obtain rfl := hw.symm
  go_wp2_with fail
  refine (unhide I6).mono ?_
  rintro e w3 ⟨rfl, hw⟩
  obtain rfl := hw.symm
  go_wp2_with fail
  refine (unhide I7).mono ?_
  rintro e w3 ⟨rfl, hb3⟩
  have hB3 := (hb3.block _ (lt_of_some (unhide HB2))).trans (unhide HB2)
  have hbw3 := (unhide Hb2).trans (hb3.mono (unhide Hb2).size)
  have Hb3 := hide hbw3
  have K1 := hide (nil_join w.heap.size w3)
  have K2 := hide (none_meets w.heap.size w3 hB3)
  have hb4 : Below w3.heap.size w3 (w3.alloc (.cells #[.slice none 0 0, .int .i64 0] 60)) := (Below.refl _ _).alloc (Nat.le_refl _) _
  have hbw4 := hbw3.trans (hb4.mono hbw3.size)
  have Hb4 := hide hbw4
  have hrow4 := nrow_below (unhide Hrow) hbw4 (Nat.le_refl _)
  have hap : l ≠ [] → ∀ x, a = some x → x.block ≠ w3.heap.size := fun h0 x hx => by have := unhide Ha h0 x hx; have := hbw3.size; omega
  have K3 := hide (add_plain 1048576 w3.heap.size rfl a c l hl48 _ (MapKept.heap_alloc w3 _).1 hrow4 hap)
  clear I1 I2 I3 I4 I5 I6 I7 hB3 hb3 HB2 Hb2 hbw3 hb4 hbw4 hrow4 hap
  go_wp2_with fail
  refine (unhide K1).mono ?_
  rintro e w4 ⟨rfl, hw⟩
  obtain rfl := hw.symm
  go_wp2_with fail
  refine (unhide K2).mono ?_
  rintro e w4 ⟨rfl, hw⟩
  obtain rfl := hw.symm
  go_wp2_with fail
  refine (unhide K3).mono ?_
  rintro e w5 ⟨k, rfl, ho5, bl, O, hok5⟩
  have hbw5 : Below w.heap.size w w5 := (unhide Hb4).trans (off_to ho5 (fun j hj => by have := (unhide Hb3).size; omega) (unhide Hb4).size)
  have hrow5 := nrow_below (unhide Hrow) hbw5 (Nat.le_refl _)
  have L1 := hide (refNumbers_any a c l hl48 w5 hrow5)
  have L2 := hide (lenS_any w3.heap.size O bl k w5 hok5.is)
  have hb6 : Below w5.heap.size w5 (w5.alloc (.cells #[.slice none 0 0, .map none] 64)) := (Below.refl _ _).alloc (Nat.le_refl _) _
  have Hb6 := hide (hbw5.trans (hb6.mono hbw5.size))
  have L3 := hide (at_int w5.heap.size n (unhide Hn) (w5.alloc (.cells #[.slice none 0 0, .map none] 64)) (MapKept.heap_alloc w5 _).1)
  have hs5 := hbw5.size
  have kb : k == k := by simp
  generalize numsB l = nb at *
  clear K1 K2 K3 Hrow Ha ho5 hok5 hbw5 hrow5 hb6 Hb3 Hb4
  cases nb
  all_goals
    go_wp2_with fail
    refine (unhide L1).mono ?_
    rintro e w6 ⟨rfl, hw⟩
    obtain rfl := hw.symm
    go_wp2_with fail
    refine (unhide L2).mono ?_
    rintro e w6 ⟨rfl, hw⟩
    obtain rfl := hw.symm
    go_wp2_with fail
    refine (unhide L3).mono ?_
    rintro e w6 ⟨rfl, ho6⟩
    have hbw6 : Below w.heap.size w w6 := (unhide Hb6).trans (off_to ho6 (fun j hj => by omega) (unhide Hb6).size)
    have M1 := hide (push_new w6.heap.size (fun k => k = w6.heap.size) [] 1 wt ⟨by decide, by decide, (unhide Hw).1, (unhide Hw).2⟩ (by simp) (by decide) (w6.alloc (.cells #[.slice none 0 0, .map none] 71)) (lst_new w6))
    have hb7 : Below w6.heap.size w6 (w6.alloc (.cells #[.slice none 0 0, .map none] 71)) := (Below.refl _ _).alloc (Nat.le_refl _) _
    have Hb7 := hide (hbw6.trans (hb7.mono hbw6.size))
    have hs6 := hbw6.size
    clear ho6 hbw6 hb7 L1 L2 L3 Hb6
    go_wp2_with fail
    refine (unhide M1).mono ?_
    rintro e w7 ⟨rfl, ho7, T, hl7⟩
    have hbw7 : Below w.heap.size w w7 := (unhide Hb7).trans (off_to ho7 (fun j hj => by omega) (unhide Hb7).size)
    have M2 := hide (llen_any _ _ _ w7 hl7)
    rw [upL_length] at M2
    have M3 := hide (alive_any w7)
    have Hb8 := hide hbw7
    clear ho7 hl7 hbw7 M1 Hb7
    go_wp2_with fail
    refine (unhide M2).mono ?_
    rintro e w8 ⟨rfl, hw⟩
    obtain rfl := hw.symm
    go_wp2_with fail
    refine (unhide M3).mono ?_
    rintro e w8 ⟨rfl, hb8⟩
    have Hb9 := hide ((unhide Hb8).trans (hb8.mono (unhide Hb8).size))
    clear hb8 M2 M3 Hb8
    go_wp2
    go_ret
    exact ⟨rfl, unhide Hb9⟩
end Go.Proofs.YtdpphjedjhjdgabDoor

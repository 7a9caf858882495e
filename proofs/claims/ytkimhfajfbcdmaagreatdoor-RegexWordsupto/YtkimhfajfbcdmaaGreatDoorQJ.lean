/- runes: merged of one range. (and what it leads to) -/
import Derived.Test.YtkimhfajfbcdmaaGreatDoorI2
import Derived.Test.YtkimhfajfbcdmaaGreatDoorQG
import Derived.Test.YtkimhfajfbcdmaaGreatDoorGN
/- runes: merged of one range. -/
namespace Go.Proofs.YtkimhfajfbcdmaaGreatDoor
open Go.RowKit Go.Maps

theorem below_dq {B : Nat} {a w : World} (h : Below B a w) (n : Nat) : Below B a (w.drewN n) := ⟨h.os, h.tape, h.output, h.size, h.block⟩
set_option maxRecDepth 100000 in
set_option maxHeartbeats 2000000 in
theorem ins1 (v f : Value) (w : World) : Calls Tryz.prog 160 #[v, .int .i64 0, .int .i64 1, f] w fun e w' => (∃ u, e = .returned u) ∧ w = w' := by
  go_enter Tryz.func160, Tryz.ntmps160
  go_wp2
  go_loopw [8] (fun x wr => x = .int .i64 1 ∧ w = wr) (fun _ _ => 0)
  case atStart => exact ⟨rfl, rfl⟩
  case round =>
    obtain ⟨rfl, rfl⟩ := hrel
    go_wp2
    go_end0
    exact ⟨⟨_, rfl⟩, rfl⟩
set_option maxRecDepth 100000 in
set_option maxHeartbeats 2000000 in
theorem pdq1 (v f : Value) (lim : Int) (w : World) : Calls Tryz.prog 153 #[v, .int .i64 0, .int .i64 1, .int .i64 lim, f] w fun e w' => (∃ u, e = .returned u) ∧ w = w' := by
  have HI := hide (ins1 v f)
  go_enter Tryz.func153, Tryz.ntmps153
  go_wp2
  go_loopw [1, 2] (fun x y wr => x = .int .i64 0 ∧ y = .int .i64 1 ∧ w = wr) (fun _ _ _ => 0)
  case atStart => exact ⟨rfl, rfl, rfl⟩
  case round =>
    obtain ⟨rfl, rfl, rfl⟩ := hrel
    go_wp2_with fail
    refine (unhide HI _).mono ?_
    rintro e2 w2 ⟨⟨u, rfl⟩, rfl⟩
    go_wp2
    refine bodyPost_ret (results_none rfl _ _ _) rfl ?_
    exact ⟨⟨_, rfl⟩, rfl⟩
set_option maxRecDepth 100000 in
set_option maxHeartbeats 2000000 in
theorem sort1 (a : Option Addr) (cap : Nat) (f : Value) (w : World) : Calls Tryz.prog 138 #[.slice a 1 cap, f] w fun e w' => (∃ u, e = .returned u) ∧ w = w' := by
  have HI := hide (fun lim => pdq1 (.slice a 1 cap) f lim)
  have HL := hide (fun W => Any.bits_Len Tryz.lays125 (1 : Int) W (by omega) (by omega))
  go_enter Tryz.func138, Tryz.ntmps138
  go_wp2_with fail
  refine (unhide HL _).mono ?_
  rintro e1 w1 ⟨rfl, hw⟩
  obtain rfl := hw.symm
  go_wp2_with fail
  refine (unhide HI _ _).mono ?_
  rintro e2 w2 ⟨⟨u, rfl⟩, rfl⟩
  go_wp2
  go_end0
  exact ⟨⟨_, rfl⟩, rfl⟩
set_option maxRecDepth 100000 in
set_option maxHeartbeats 2000000 in
theorem merged1 (a : Option Addr) (cap : Nat) (lo hi : Int) (w : World) (hrow : RRow w a [(lo, hi)]) :
    Calls Tryz.prog 111 #[.slice a 1 cap] w fun e w' => ∃ v, e = .returned v ∧ w'.ownsRow w.heap.size 45 2 v 1 (flatR [(lo, hi)]) ∧ Below w.heap.size w w' := by
  obtain ⟨i0, hi0, hz0, hz1, hz2⟩ := info_parts hrange
  have HC := hide (clone_any a cap [(lo, hi)] (by simp) w hrow)
  clear hrow
  go_enter Tryz.func111, Tryz.ntmps111
  go_wp2_with fail
  refine (unhide HC).mono ?_
  rintro e w1 ⟨b, c, rfl, hown, hb1⟩
  have HS := hide (sort1 b c)
  obtain ⟨hrr, -⟩ := rrow_own hown
  have Hrr := hide hrr; have Hb1 := hide hb1
  clear hown hrr hb1 HC
  go_wp2_with fail
  refine (unhide HS _ _).mono ?_
  rintro e2 w2 ⟨⟨u, rfl⟩, rfl⟩
  clear HS
  go_wp2
  go_loopw [4, 14] (fun v x wr => ∃ k : Nat, x = .int .i64 k ∧ k ≤ 1 ∧ (k = 0 → v = .slice none 0 0) ∧ wr.ownsRow w.heap.size 45 2 v k (flatR ([(lo, hi)].take k)) ∧ RRow wr b [(lo, hi)] ∧ Below w.heap.size w wr) (fun _ x _ => 1 - (intOf x).toNat)
  case atStart => exact ⟨0, rfl, Nat.zero_le _, fun _ => rfl, World.ownsRow_nil _ _ _ _, unhide Hrr, unhide Hb1⟩
  case round =>
    obtain ⟨k, rfl, hk, hz, hown, hrr, hbel⟩ := hrel
    have hsz := hbel.size
    by_cases hlt : k < 1
    · obtain rfl : k = 0 := by omega
      obtain rfl := hz rfl
      rcases hrr with h9 | ⟨gb, off, rfl, hgl, hc⟩
      · cases h9
      have q := hc 0 (by simp)
      simp only [List.getD_cons_zero, Nat.zero_mul, Nat.add_zero] at q
      obtain ⟨q0, q1⟩ := q
      have Hown := hide hown; have Hbel := hide hbel; have Hc := hide hc
      clear hc hown hbel
      go_wp2
      go_quiet (fail)
      go_wp2_with (at_builtin; refine wpList_append_own _ rfl _ _ 22 rfl w.heap.size 45 i0 (.agg #[.int .i32 0, .int .i32 0]) 2 8 Tryz.underlying22 hi0 hz0 hz1 hz2 rfl (by decide) _ _ _ rfl (World.ownsRow_nil _ _ _ _) _ 1 1 [.int .i32 lo, .int .i32 hi] rfl rfl ?zc1 ?zc2 ?zc3 ?zc4 ?zc5 ?_)
      case zc1 =>
        have h := heap_new ((wr.alloc (.cells #[.int .i32 lo, .int .i32 hi] 45)).drewN nq) (.cells #[.int .i32 lo, .int .i32 hi] 45)
        rw [show ((wr.alloc (.cells #[.int .i32 lo, .int .i32 hi] 45)).drewN nq).heap.size = wr.heap.size + 1 by simp [World.drewN]] at h
        intro j u hu
        exact World.news_of_block h j u (by simpa using hu)
      case zc2 => intro u hu; simp at hu; rcases hu with rfl | rfl <;> rfl
      case zc3 => unfold maxLen; omega
      case zc4 => omega
      case zc5 => simp [World.drewN]; omega
      intro v' W3 hown' hgrow _
      have hb3 : Below wr.heap.size wr W3 := ((below_dq ((Below.refl wr.heap.size wr).alloc (Nat.le_refl _) (.cells #[.int .i32 lo, .int .i32 hi] 45)) nq).alloc (by simp [World.drewN]) (.cells #[.int .i32 lo, .int .i32 hi] 45)).grown hgrow (by simp [World.drewN]; omega) (fun k hk => by simp [Value.ownBlock] at hk)
      have HR3 : Hid (RRow W3 (some ⟨gb, off, none⟩) [(lo, hi)]) := hide (.inr ⟨gb, off, rfl, Nat.lt_of_lt_of_le hgl hb3.size, fun j hj => by
        have := unhide Hc j hj
        exact ⟨(hb3.cell (p := ⟨gb, off + j * 2, none⟩) hgl).trans this.1, (hb3.cell (p := ⟨gb, off + j * 2 + 1, none⟩) hgl).trans this.2⟩⟩)
      have HB3 := hide ((unhide Hbel).trans (hb3.mono hsz))
      have HO3 := hide hown'
      clear hown' hgrow hb3 Hc Hbel Hown
      go_wp2
      go_roundw
      case rel => exact ⟨1, by go_num, by omega, (fun h => by cases h), unhide HO3, unhide HR3, unhide HB3⟩
      case measure => simp [intOf]
    · obtain rfl : k = 1 := by omega
      obtain ⟨va, vc, rfl⟩ := own_form hown
      have Hown := hide hown; have Hbel := hide hbel
      clear hown hbel hrr hz
      go_wp2
      go_ret
      exact ⟨_, rfl, unhide Hown, unhide Hbel⟩
end Go.Proofs.YtkimhfajfbcdmaaGreatDoor

/- runes: From where a set of one range of plain runes stands. -/
namespace Go.Proofs.YtkimhfajfbcdmaaGreatDoor
open Go.RowKit Go.Maps

theorem own_lower {w : World} {B B' : Nat} {e : TypeId} {size : Nat} {v : Value} {n : Nat} {xs : List Value} (h : w.ownsRow B' e size v n xs) (hB : B ≤ B') : w.ownsRow B e size v n xs := by
  refine ⟨h.1, ?_⟩
  rcases h.2 with h0 | ⟨g, cap, cur, h0, hb, rest⟩
  · exact .inl h0
  · exact .inr ⟨g, cap, cur, h0, Nat.le_trans hB hb, rest⟩
/-- A set of one range of plain runes stands at place p. -/
structure SetAt (s : ByteArray) (p c1 c2 : Nat) : Prop where
  sz : s.size ≤ 281474976710656
  lt : p + 4 < s.size
  b0 : (s.data.getD p 0).toNat = 91
  b1 : (s.data.getD (p + 1) 0).toNat = c1
  b2 : (s.data.getD (p + 2) 0).toNat = 45
  b3 : (s.data.getD (p + 3) 0).toNat = c2
  b4 : (s.data.getD (p + 4) 0).toNat = 93
  p1 : plainB c1 = true
  p2 : plainB c2 = true
  le : c1 ≤ c2
  hat : c1 ≠ 94
theorem byteB_yes {s : ByteArray} {p c : Nat} (hp : p < s.size) (h : (s.data.getD p 0).toNat = c) : byteB s p c = true := by
  unfold byteB; rw [decide_eq_true hp, decide_eq_true h]; rfl
theorem byteB_no {s : ByteArray} {p c d : Nat} (h : (s.data.getD p 0).toNat = d) (hd : d ≠ c) : byteB s p c = false := by
  unfold byteB; rw [h, decide_eq_false hd, Bool.and_false]
theorem plain_ne {c : Nat} (h : plainB c = true) : c ≠ 93 ∧ c ≠ 32 := by
  constructor
  · intro e; subst e; exact absurd h (by decide +kernel)
  · intro e; subst e; exact absurd h (by decide +kernel)
set_option maxRecDepth 100000 in
set_option maxHeartbeats 1000000 in
theorem readSet1 (s : ByteArray) (p c1 c2 : Nat) (h : SetAt s p c1 c2) (w : World) :
    Calls Tryz.prog 168 #[.string s, .int .i64 p] w fun e w' => ∃ v, e = .returned (.tuple #[v, .int .i64 ((p + 5 : Nat) : Int), .agg #[.int .i64 0, .int .i64 0]]) ∧ w'.ownsRow w.heap.size 45 2 v 1 (flatR [((c1 : Int), (c2 : Int))]) ∧ Below w.heap.size w w' := by
  obtain ⟨i0, hi0, hz0, hz1, hz2⟩ := info_parts hrange
  have hlt := h.lt
  have hsz := h.sz
  have HB0 := hide (isByte_any s p 91)
  rw [byteB_yes (by omega) h.b0] at HB0
  have HB1 := hide (isByte_any s (p + 1) 94)
  rw [byteB_no h.b1 h.hat] at HB1
  have HB2 := hide (isByte_any s (p + 1) 93)
  rw [byteB_no h.b1 (plain_ne h.p1).1] at HB2
  have HB3 := hide (isByte_any s (p + 1) 32)
  rw [byteB_no h.b1 (plain_ne h.p1).2] at HB3
  have HB4 := hide (isByte_any s (p + 4) 93)
  rw [byteB_yes h.lt h.b4] at HB4
  have HR := hide (readRange_plain s (p + 1) c1 c2 h.sz (by omega) h.b1 h.b2 h.b3 h.p1 h.p2 h.le)
  have HM := hide (fun a cap W hr => merged1 a cap c1 c2 W hr)
  have qn := neq49_0
  have g49 := guard49
  clear h
  go_enter Tryz.func168, Tryz.ntmps168
  go_wp2_with fail
  refine (unhide HB0 _).mono ?_
  rintro e w1 ⟨rfl, hw⟩
  rw [← hw]
  clear hw w1
  go_wp2_with fail
  refine (unhide HB1 _).mono ?_
  rintro e w1 ⟨rfl, hw⟩
  rw [← hw]
  clear hw w1
  go_wp2_with fail
  go_loopw [1, 8] (fun x v wr => ((x = .int .i64 ((p : Int) + 1) ∧ v = .slice none 0 0) ∨ (x = .int .i64 ((p : Int) + 4) ∧ ∃ a c, v = .slice a 1 c ∧ wr.ownsRow w.heap.size 45 2 (.slice a 1 c) 1 (flatR [((c1 : Int), (c2 : Int))]))) ∧ wr.heap[w.heap.size]? = some (.cells #[.int .i64 0, .int .i64 0] 49 (0, 0)) ∧ Below w.heap.size w wr) (fun x _ _ => p + 5 - (intOf x).toNat)
  case atStart => exact ⟨.inl ⟨rfl, rfl⟩, heap_new w _, (Below.refl _ _).alloc (Nat.le_refl _) _⟩
  case round =>
    obtain ⟨hr, hF, hbel⟩ := hrel
    have hfs := hbel.size
    rcases hr with ⟨rfl, rfl⟩ | ⟨rfl, a, c, rfl, hown⟩
    · have HF := hide hF; have Hbel := hide hbel
      clear hF hbel
      go_wp2_with fail
      refine (unhide HB2 _).mono ?_
      rintro e w1 ⟨rfl, hw⟩
      rw [← hw]
      clear hw w1
      go_wp2_with fail
      refine (unhide HB3 _).mono ?_
      rintro e w1 ⟨rfl, hw⟩
      rw [← hw]
      clear hw w1
      go_wp2_with fail
      refine (unhide HR _).mono ?_
      rintro e w1 ⟨rfl, hb1⟩
      have HF1 := hide ((hb1.block _ (lt_of_some (unhide HF))).trans (unhide HF))
      have HB1' := hide ((unhide Hbel).trans (hb1.mono (unhide Hbel).size))
      clear hb1 HF Hbel
      go_wp2_with (at_builtin; refine wpList_append_own _ rfl _ _ 22 rfl w.heap.size 45 i0 (.agg #[.int .i32 0, .int .i32 0]) 2 8 Tryz.underlying22 hi0 hz0 hz1 hz2 rfl (by decide) _ _ _ rfl (World.ownsRow_nil _ _ _ _) _ 1 1 [.int .i32 c1, .int .i32 c2] rfl rfl ?zc1 ?zc2 ?zc3 ?zc4 ?zc5 ?_)
      case zc1 =>
        have h := heap_new ((w1.alloc (.cells #[.int .i32 c1, .int .i32 c2] 45)).alloc (.cells #[.int .i64 0, .int .i64 0] 49)) (.cells #[.int .i32 c1, .int .i32 c2] 45)
        rw [show ((w1.alloc (.cells #[.int .i32 c1, .int .i32 c2] 45)).alloc (.cells #[.int .i64 0, .int .i64 0] 49)).heap.size = w1.heap.size + 1 + 1 by simp] at h
        intro j u hu
        exact World.news_of_block h j u (by simpa using hu)
      case zc2 => intro u hu; simp at hu; rcases hu with rfl | rfl <;> rfl
      case zc3 => unfold maxLen; omega
      case zc4 => omega
      case zc5 => have := (unhide HB1').size; simp; omega
      intro v' W3 hown' hgrow _
      have hb3 : Below w1.heap.size w1 W3 := ((((Below.refl w1.heap.size w1).alloc (Nat.le_refl _) (.cells #[.int .i32 c1, .int .i32 c2] 45)).alloc (by simp) (.cells #[.int .i64 0, .int .i64 0] 49)).alloc (by simp; omega) (.cells #[.int .i32 c1, .int .i32 c2] 45)).grown hgrow (by simp; omega) (fun k hk => by simp [Value.ownBlock] at hk)
      have HF3 := hide ((hb3.block _ (lt_of_some (unhide HF1))).trans (unhide HF1))
      have HB3' := hide ((unhide HB1').trans (hb3.mono (unhide HB1').size))
      obtain ⟨va, vc, rfl⟩ := own_form hown'
      have HO3 := hide hown'
      clear hown' hgrow hb3 HF1 HB1'
      go_wp2
      go_roundw
      case rel => exact ⟨.inr ⟨by go_num, va, vc, rfl, unhide HO3⟩, unhide HF3, unhide HB3'⟩
      case measure => simp [intOf]; omega
    · have HF := hide hF; have Hbel := hide hbel; have Hown := hide hown
      clear hF hbel hown
      go_wp2_with fail
      refine (unhide HB4 _).mono ?_
      rintro e w1 ⟨rfl, hw⟩
      rw [← hw]
      clear hw w1
      have HM' := hide (unhide HM a c wr (rrow_own (l := [((c1 : Int), (c2 : Int))]) (unhide Hown)).1)
      go_wp2_with fail
      refine (unhide HM').mono ?_
      rintro e w1 ⟨v, rfl, ho1, hb1⟩
      have hF1 := (hb1.block _ (lt_of_some (unhide HF))).trans (unhide HF)
      obtain ⟨va, vc, rfl⟩ := own_form ho1
      have HO1 := hide ho1; have HB1' := hide ((unhide Hbel).trans (hb1.mono (unhide Hbel).size))
      have d0 := cell_block hF1 0 _ rfl
      have d1 := cell_block hF1 1 _ rfl
      have f0 := frozen_block hF1 0
      have f1 := frozen_block hF1 1
      have s0 := set_self (v := .int .i64 0) hF1 (i := 0) rfl
      have s1 := set_self (v := .int .i64 0) hF1 (i := 1) rfl
      clear ho1 hb1 hF1 HF Hbel Hown HM' HM
      go_wp2
      refine bodyPost_ret (v := .tuple #[.slice va 1 vc, .int .i64 ((p + 5 : Nat) : Int), .agg #[.int .i64 0, .int .i64 0]]) (by simp [results, Tryz.results168, go_sem, d0, d1]; omega) rfl ?_
      exact ⟨_, rfl, own_lower (unhide HO1) hfs, unhide HB1'⟩
set_option maxRecDepth 100000 in
set_option maxHeartbeats 1000000 in
theorem from1 (s : ByteArray) (p c1 c2 : Nat) (h : SetAt s p c1 c2) (w : World) :
    Calls Tryz.prog 155 #[.string s, .int .i64 p] w fun e w' => ∃ v, e = .returned (.tuple #[v, .int .i64 ((p + 5 : Nat) : Int), .agg #[.int .i64 0, .int .i64 0]]) ∧ w'.ownsRow w.heap.size 45 2 v 1 (flatR [((c1 : Int), (c2 : Int))]) ∧ Below w.heap.size w w' := by
  have HS := hide (readSet1 s p c1 c2 h)
  have hp := h.lt; have hz := h.sz
  have hp' : ¬ (s.size : Int) < p := by omega
  have qn := neq49_0
  have g49 := guard49
  clear h
  go_enter Tryz.func155, Tryz.ntmps155
  go_wp2_with fail
  refine (unhide HS _).mono ?_
  rintro e w1 ⟨v, rfl, ho1, hb1⟩
  obtain ⟨va, vc, rfl⟩ := own_form ho1
  have hs0 : (w.alloc (.cells #[.int .i64 0, .int .i64 0] 49)).heap.size = w.heap.size + 1 := by simp
  have hR := (hb1.block w.heap.size (by simp)).trans (heap_new w _)
  have hB1 : Below w.heap.size w w1 := ((Below.refl w.heap.size w).alloc (Nat.le_refl _) (.cells #[.int .i64 0, .int .i64 0] 49)).trans (hb1.mono (by simp))
  have HO := hide (own_lower (B := w.heap.size) (ho1.alloc (.cells #[.int .i64 0, .int .i64 0] 49)) (by simp))
  have hR2 := (Below.heap_alloc w1 (.cells #[.int .i64 0, .int .i64 0] 49) w.heap.size (lt_of_some hR)).trans hR
  have HB := hide (hB1.alloc hB1.size (.cells #[.int .i64 0, .int .i64 0] 49))
  have d0 := cell_block hR2 0 _ rfl
  have d1 := cell_block hR2 1 _ rfl
  have f0 := frozen_block hR2 0
  have f1 := frozen_block hR2 1
  have s0 := set_self (v := .int .i64 0) hR2 (i := 0) rfl
  have s1 := set_self (v := .int .i64 0) hR2 (i := 1) rfl
  clear ho1 hb1 hs0 hR hB1 hR2 HS
  go_wp2
  refine bodyPost_ret (v := .tuple #[.slice va 1 vc, .int .i64 ((p + 5 : Nat) : Int), .agg #[.int .i64 0, .int .i64 0]]) (by simp [results, Tryz.results155, go_sem, d0, d1]) rfl ?_
  exact ⟨_, rfl, unhide HO, unhide HB⟩
end Go.Proofs.YtkimhfajfbcdmaaGreatDoor

/- Pools: SortFunc of up to twelve numbers. (and what it leads to) -/
import Derived.Test.YtkimhfajfbcdmaaGreatDoorGM
import Derived.Test.YtkimhfajfbcdmaaGreatDoorQB
import Derived.Test.YtkimhfajfbcdmaaGreatDoorQF
/- Pools: SortFunc of up to twelve numbers. -/
namespace Go.Proofs.YtkimhfajfbcdmaaGreatDoor
open Go.RowKit Go.Sort

set_option maxRecDepth 100000 in
set_option maxHeartbeats 2000000 in
theorem pdqP_any (pb : Nat) (good : Int → Prop) (cf : Int → Int → Int) (b cap n : Nat) (lim : Int) (d : Array Int) (hn : n ≤ 12) (w : World) (h : NW w b cap n d) (hg : Good good d) (hcf : ∀ W, OfB b w W → ∀ x y, good x → good y → Calls Tryz.prog 25 #[.pointer (some ⟨pb, 0, none⟩), .int .i64 x, .int .i64 y] W fun e w' => e = .returned (.int .i64 (cf x y)) ∧ ∃ q, w' = W.drewN q) :
    Calls Tryz.prog 103 #[.slice (some ⟨b, 0, none⟩) n cap, .int .i64 0, .int .i64 n, .int .i64 lim, .func (.func 25) #[.pointer (some ⟨pb, 0, none⟩)] #[]] w fun e w' => (∃ v, e = .returned v) ∧ NW w' b cap n (insertionSort (ltC cf) d 0 n) ∧ OfB b w w' ∧ Good good (insertionSort (ltC cf) d 0 n) := by
  have HI := hide (insP_any pb good cf b cap n 0 n d (Nat.le_refl _) (by omega) (Nat.zero_le _) w h hg hcf)
  have hn' : (n : Int) ≤ 12 := by omega
  clear h hg hcf
  go_enter Tryz.func103, Tryz.ntmps103
  go_wp2
  go_loopw [1, 2] (fun x y wr => x = .int .i64 0 ∧ y = .int .i64 n ∧ wr = w) (fun _ _ _ => 0)
  case atStart => exact ⟨rfl, rfl, rfl⟩
  case round =>
    obtain ⟨rfl, rfl, rfl⟩ := hrel
    go_wp2_with fail
    refine (unhide HI).mono ?_
    rintro e2 w2 ⟨⟨v, rfl⟩, hn2, ho2, hg2⟩
    have Hn2 := hide hn2; have Ho2 := hide ho2; have Hg2 := hide hg2
    clear hn2 ho2 hg2
    go_wp2
    refine bodyPost_ret (results_none rfl _ _ _) rfl ?_
    exact ⟨⟨_, rfl⟩, unhide Hn2, unhide Ho2, unhide Hg2⟩
set_option maxRecDepth 100000 in
set_option maxHeartbeats 2000000 in
theorem sortFP_any (pb : Nat) (good : Int → Prop) (cf : Int → Int → Int) (b cap n : Nat) (d : Array Int) (hn : n ≤ 12) (w : World) (h : NW w b cap n d) (hg : Good good d) (hcf : ∀ W, OfB b w W → ∀ x y, good x → good y → Calls Tryz.prog 25 #[.pointer (some ⟨pb, 0, none⟩), .int .i64 x, .int .i64 y] W fun e w' => e = .returned (.int .i64 (cf x y)) ∧ ∃ q, w' = W.drewN q) :
    Calls Tryz.prog 94 #[.slice (some ⟨b, 0, none⟩) n cap, .func (.func 25) #[.pointer (some ⟨pb, 0, none⟩)] #[]] w fun e w' => (∃ v, e = .returned v) ∧ NW w' b cap n (insertionSort (ltC cf) d 0 n) ∧ OfB b w w' ∧ Good good (insertionSort (ltC cf) d 0 n) := by
  have HI := hide (fun lim => pdqP_any pb good cf b cap n lim d hn w h hg hcf)
  have HL := hide (fun W => Any.bits_Len Tryz.lays125 (n : Int) W (by omega) (by omega))
  clear h hg hcf
  go_enter Tryz.func94, Tryz.ntmps94
  go_wp2_with fail
  refine (unhide HL _).mono ?_
  rintro e1 w1 ⟨rfl, hw⟩
  obtain rfl := hw.symm
  go_wp2_with fail
  refine (unhide HI _).mono ?_
  rintro e2 w2 ⟨⟨v, rfl⟩, hn2, ho2, hg2⟩
  have Hn2 := hide hn2; have Ho2 := hide ho2; have Hg2 := hide hg2
  clear hn2 ho2 hg2
  go_wp2
  go_end0
  exact ⟨⟨_, rfl⟩, unhide Hn2, unhide Ho2, unhide Hg2⟩

set_option maxRecDepth 100000 in
set_option maxHeartbeats 2000000 in
theorem pdqC_any (good : Int → Prop) (cf : Int → Int → Int) (b cap n : Nat) (lim : Int) (d : Array Int) (hn : n ≤ 12) (w : World) (h : NW w b cap n d) (hg : Good good d) (hcf : ∀ W, OfB b w W → ∀ x y, good x → good y → Calls Tryz.prog 37 #[.int .i64 x, .int .i64 y] W fun e w' => e = .returned (.int .i64 (cf x y)) ∧ ∃ q, w' = W.drewN q) :
    Calls Tryz.prog 103 #[.slice (some ⟨b, 0, none⟩) n cap, .int .i64 0, .int .i64 n, .int .i64 lim, .func (.func 37) #[] #[]] w fun e w' => (∃ v, e = .returned v) ∧ NW w' b cap n (insertionSort (ltC cf) d 0 n) ∧ OfB b w w' ∧ Good good (insertionSort (ltC cf) d 0 n) := by
  have HI := hide (insC_any good cf b cap n 0 n d (Nat.le_refl _) (by omega) (Nat.zero_le _) w h hg hcf)
  have hn' : (n : Int) ≤ 12 := by omega
  clear h hg hcf
  go_enter Tryz.func103, Tryz.ntmps103
  go_wp2
  go_loopw [1, 2] (fun x y wr => x = .int .i64 0 ∧ y = .int .i64 n ∧ wr = w) (fun _ _ _ => 0)
  case atStart => exact ⟨rfl, rfl, rfl⟩
  case round =>
    obtain ⟨rfl, rfl, rfl⟩ := hrel
    go_wp2_with fail
    refine (unhide HI).mono ?_
    rintro e2 w2 ⟨⟨v, rfl⟩, hn2, ho2, hg2⟩
    have Hn2 := hide hn2; have Ho2 := hide ho2; have Hg2 := hide hg2
    clear hn2 ho2 hg2
    go_wp2
    refine bodyPost_ret (results_none rfl _ _ _) rfl ?_
    exact ⟨⟨_, rfl⟩, unhide Hn2, unhide Ho2, unhide Hg2⟩
set_option maxRecDepth 100000 in
set_option maxHeartbeats 2000000 in
theorem sortFC_any (good : Int → Prop) (cf : Int → Int → Int) (b cap n : Nat) (d : Array Int) (hn : n ≤ 12) (w : World) (h : NW w b cap n d) (hg : Good good d) (hcf : ∀ W, OfB b w W → ∀ x y, good x → good y → Calls Tryz.prog 37 #[.int .i64 x, .int .i64 y] W fun e w' => e = .returned (.int .i64 (cf x y)) ∧ ∃ q, w' = W.drewN q) :
    Calls Tryz.prog 94 #[.slice (some ⟨b, 0, none⟩) n cap, .func (.func 37) #[] #[]] w fun e w' => (∃ v, e = .returned v) ∧ NW w' b cap n (insertionSort (ltC cf) d 0 n) ∧ OfB b w w' ∧ Good good (insertionSort (ltC cf) d 0 n) := by
  have HI := hide (fun lim => pdqC_any good cf b cap n lim d hn w h hg hcf)
  have HL := hide (fun W => Any.bits_Len Tryz.lays125 (n : Int) W (by omega) (by omega))
  clear h hg hcf
  go_enter Tryz.func94, Tryz.ntmps94
  go_wp2_with fail
  refine (unhide HL _).mono ?_
  rintro e1 w1 ⟨rfl, hw⟩
  obtain rfl := hw.symm
  go_wp2_with fail
  refine (unhide HI _).mono ?_
  rintro e2 w2 ⟨⟨v, rfl⟩, hn2, ho2, hg2⟩
  have Hn2 := hide hn2; have Ho2 := hide ho2; have Hg2 := hide hg2
  clear hn2 ho2 hg2
  go_wp2
  go_end0
  exact ⟨⟨_, rfl⟩, unhide Hn2, unhide Ho2, unhide Hg2⟩
end Go.Proofs.YtkimhfajfbcdmaaGreatDoor

/- runes: merged of one range. -/
namespace Go.Proofs.YtkimhfajfbcdmaaGreatDoor
open Go.RowKit Go.Maps

theorem below_dq {B : Nat} {a w : World} (h : Below B a w) (n : Nat) : Below B a (w.drewN n) := ⟨h.os, h.tape, h.output, h.size, h.block⟩
set_option maxRecDepth 100000 in
set_option maxHeartbeats 2000000 in
theorem ins1 (v f : Value) (w : World) : Calls Tryz.prog 160 #[v, .int .i64 0, .int .i64 1, f] w fun e w' => (∃ u, e = .returned u) ∧ w = w' := by
  go_enter Tryz.func160, Tryz.ntmps160
  go_wp2
  go_loopw [8] (fun x wr => x = .int .i64 1 ∧ w = wr) (fun _ _ => 0)
  case atStart => exact ⟨rfl, rfl⟩
  case round =>
    obtain ⟨rfl, rfl⟩ := hrel
    go_wp2
    go_end0
    exact ⟨⟨_, rfl⟩, rfl⟩
set_option maxRecDepth 100000 in
set_option maxHeartbeats 2000000 in
theorem pdq1 (v f : Value) (lim : Int) (w : World) : Calls Tryz.prog 153 #[v, .int .i64 0, .int .i64 1, .int .i64 lim, f] w fun e w' => (∃ u, e = .returned u) ∧ w = w' := by
  have HI := hide (ins1 v f)
  go_enter Tryz.func153, Tryz.ntmps153
  go_wp2
  go_loopw [1, 2] (fun x y wr => x = .int .i64 0 ∧ y = .int .i64 1 ∧ w = wr) (fun _ _ _ => 0)
  case atStart => exact ⟨rfl, rfl, rfl⟩
  case round =>
    obtain ⟨rfl, rfl, rfl⟩ := hrel
    go_wp2_with fail
    refine (unhide HI _).mono ?_
    rintro e2 w2 ⟨⟨u, rfl⟩, rfl⟩
    go_wp2
    refine bodyPost_ret (results_none rfl _ _ _) rfl ?_
    exact ⟨⟨_, rfl⟩, rfl⟩
set_option maxRecDepth 100000 in
set_option maxHeartbeats 2000000 in
theorem sort1 (a : Option Addr) (cap : Nat) (f : Value) (w : World) : Calls Tryz.prog 138 #[.slice a 1 cap, f] w fun e w' => (∃ u, e = .returned u) ∧ w = w' := by
  have HI := hide (fun lim => pdq1 (.slice a 1 cap) f lim)
  have HL := hide (fun W => Any.bits_Len Tryz.lays125 (1 : Int) W (by omega) (by omega))
  go_enter Tryz.func138, Tryz.ntmps138
  go_wp2_with fail
  refine (unhide HL _).mono ?_
  rintro e1 w1 ⟨rfl, hw⟩
  obtain rfl := hw.symm
  go_wp2_with fail
  refine (unhide HI _ _).mono ?_
  rintro e2 w2 ⟨⟨u, rfl⟩, rfl⟩
  go_wp2
  go_end0
  exact ⟨⟨_, rfl⟩, rfl⟩
set_option maxRecDepth 100000 in
set_option maxHeartbeats 2000000 in
theorem merged1 (a : Option Addr) (cap : Nat) (lo hi : Int) (w : World) (hrow : RRow w a [(lo, hi)]) :
    Calls Tryz.prog 111 #[.slice a 1 cap] w fun e w' => ∃ v, e = .returned v ∧ w'.ownsRow w.heap.size 45 2 v 1 (flatR [(lo, hi)]) ∧ Below w.heap.size w w' := by
  obtain ⟨i0, hi0, hz0, hz1, hz2⟩ := info_parts hrange
  have HC := hide (clone_any a cap [(lo, hi)] (by simp) w hrow)
  clear hrow
  go_enter Tryz.func111, Tryz.ntmps111
  go_wp2_with fail
  refine (unhide HC).mono ?_
  rintro e w1 ⟨b, c, rfl, hown, hb1⟩
  have HS := hide (sort1 b c)
  obtain ⟨hrr, -⟩ := rrow_own hown
  have Hrr := hide hrr; have Hb1 := hide hb1
  clear hown hrr hb1 HC
  go_wp2_with fail
  refine (unhide HS _ _).mono ?_
  rintro e2 w2 ⟨⟨u, rfl⟩, rfl⟩
  clear HS
  go_wp2
  go_loopw [4, 14] (fun v x wr => ∃ k : Nat, x = .int .i64 k ∧ k ≤ 1 ∧ (k = 0 → v = .slice none 0 0) ∧ wr.ownsRow w.heap.size 45 2 v k (flatR ([(lo, hi)].take k)) ∧ RRow wr b [(lo, hi)] ∧ Below w.heap.size w wr) (fun _ x _ => 1 - (intOf x).toNat)
  case atStart => exact ⟨0, rfl, Nat.zero_le _, fun _ => rfl, World.ownsRow_nil _ _ _ _, unhide Hrr, unhide Hb1⟩
  case round =>
    obtain ⟨k, rfl, hk, hz, hown, hrr, hbel⟩ := hrel
    have hsz := hbel.size
    by_cases hlt : k < 1
    · obtain rfl : k = 0 := by omega
      obtain rfl := hz rfl
      rcases hrr with h9 | ⟨gb, off, rfl, hgl, hc⟩
      · cases h9
      have q := hc 0 (by simp)
      simp only [List.getD_cons_zero, Nat.zero_mul, Nat.add_zero] at q
      obtain ⟨q0, q1⟩ := q
      have Hown := hide hown; have Hbel := hide hbel; have Hc := hide hc
      clear hc hown hbel
      go_wp2
      go_quiet (fail)
      go_wp2_with (at_builtin; refine wpList_append_own _ rfl _ _ 22 rfl w.heap.size 45 i0 (.agg #[.int .i32 0, .int .i32 0]) 2 8 Tryz.underlying22 hi0 hz0 hz1 hz2 rfl (by decide) _ _ _ rfl (World.ownsRow_nil _ _ _ _) _ 1 1 [.int .i32 lo, .int .i32 hi] rfl rfl ?zc1 ?zc2 ?zc3 ?zc4 ?zc5 ?_)
      case zc1 =>
        have h := heap_new ((wr.alloc (.cells #[.int .i32 lo, .int .i32 hi] 45)).drewN nq) (.cells #[.int .i32 lo, .int .i32 hi] 45)
        rw [show ((wr.alloc (.cells #[.int .i32 lo, .int .i32 hi] 45)).drewN nq).heap.size = wr.heap.size + 1 by simp [World.drewN]] at h
        intro j u hu
        exact World.news_of_block h j u (by simpa using hu)
      case zc2 => intro u hu; simp at hu; rcases hu with rfl | rfl <;> rfl
      case zc3 => unfold maxLen; omega
      case zc4 => omega
      case zc5 => simp [World.drewN]; omega
      intro v' W3 hown' hgrow _
      have hb3 : Below wr.heap.size wr W3 := ((below_dq ((Below.refl wr.heap.size wr).alloc (Nat.le_refl _) (.cells #[.int .i32 lo, .int .i32 hi] 45)) nq).alloc (by simp [World.drewN]) (.cells #[.int .i32 lo, .int .i32 hi] 45)).grown hgrow (by simp [World.drewN]; omega) (fun k hk => by simp [Value.ownBlock] at hk)
      have HR3 : Hid (RRow W3 (some ⟨gb, off, none⟩) [(lo, hi)]) := hide (.inr ⟨gb, off, rfl, Nat.lt_of_lt_of_le hgl hb3.size, fun j hj => by
        have := unhide Hc j hj
        exact ⟨(hb3.cell (p := ⟨gb, off + j * 2, none⟩) hgl).trans this.1, (hb3.cell (p := ⟨gb, off + j * 2 + 1, none⟩) hgl).trans this.2⟩⟩)
      have HB3 := hide ((unhide Hbel).trans (hb3.mono hsz))
      have HO3 := hide hown'
      clear hown' hgrow hb3 Hc Hbel Hown
      go_wp2
      go_roundw
      case rel => exact ⟨1, by go_num, by omega, (fun h => by cases h), unhide HO3, unhide HR3, unhide HB3⟩
      case measure => simp [intOf]
    · obtain rfl : k = 1 := by omega
      obtain ⟨va, vc, rfl⟩ := own_form hown
      have Hown := hide hown; have Hbel := hide hbel
      clear hown hbel hrr hz
      go_wp2
      go_ret
      exact ⟨_, rfl, unhide Hown, unhide Hbel⟩
end Go.Proofs.YtkimhfajfbcdmaaGreatDoor

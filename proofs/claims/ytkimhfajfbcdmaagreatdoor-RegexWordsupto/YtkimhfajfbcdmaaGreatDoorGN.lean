/- Pools: SortFunc of up to twelve numbers. -/
import Derived.Test.YtkimhfajfbcdmaaGreatDoorGM
namespace Go.Proofs.YtkimhfajfbcdmaaGreatDoor
open Go.RowKit Go.Sort

set_option maxRecDepth 100000 in
set_option maxHeartbeats 2000000 in
theorem pdqP_any (pb : Nat) (good : Int → Prop) (cf : Int → Int → Int) (b cap n : Nat) (lim : Int) (d : Array Int) (hn : n ≤ 12) (w : World) (h : NW w b cap n d) (hg : Good good d) (hcf : ∀ W, OfB b w W → ∀ x y, good x → good y → Calls Tryz.prog 25 #[.pointer (some ⟨pb, 0, none⟩), .int .i64 x, .int .i64 y] W fun e w' => e = .returned (.int .i64 (cf x y)) ∧ ∃ q, w' = W.drewN q) :
    Calls Tryz.prog 103 #[.slice (some ⟨b, 0, none⟩) n cap, .int .i64 0, .int .i64 n, .int .i64 lim, .func (.func 25) #[.pointer (some ⟨pb, 0, none⟩)] #[]] w fun e w' => (∃ v, e = .returned v) ∧ NW w' b cap n (insertionSort (ltC cf) d 0 n) ∧ OfB b w w' ∧ Good good (insertionSort (ltC cf) d 0 n) := by
  have HI := hide (insP_any pb good cf b cap n 0 n d (Nat.le_refl _) (by omega) (Nat.zero_le _) w h hg hcf)
  have hn' : (n : Int) ≤ 12 := by omega
  clear h hg hcf
  go_enter Tryz.func103, Tryz.ntmps103
  go_wp2
  go_loopw [1, 2] (fun x y wr => x = .int .i64 0 ∧ y = .int .i64 n ∧ wr = w) (fun _ _ _ => 0)
  case atStart => exact ⟨rfl, rfl, rfl⟩
  case round =>
    obtain ⟨rfl, rfl, rfl⟩ := hrel
    go_wp2_with fail
    refine (unhide HI).mono ?_
    rintro e2 w2 ⟨⟨v, rfl⟩, hn2, ho2, hg2⟩
    have Hn2 := hide hn2; have Ho2 := hide ho2; have Hg2 := hide hg2
    clear hn2 ho2 hg2
    go_wp2
    refine bodyPost_ret (results_none rfl _ _ _) rfl ?_
    exact ⟨⟨_, rfl⟩, unhide Hn2, unhide Ho2, unhide Hg2⟩
set_option maxRecDepth 100000 in
set_option maxHeartbeats 2000000 in
theorem sortFP_any (pb : Nat) (good : Int → Prop) (cf : Int → Int → Int) (b cap n : Nat) (d : Array Int) (hn : n ≤ 12) (w : World) (h : NW w b cap n d) (hg : Good good d) (hcf : ∀ W, OfB b w W → ∀ x y, good x → good y → Calls Tryz.prog 25 #[.pointer (some ⟨pb, 0, none⟩), .int .i64 x, .int .i64 y] W fun e w' => e = .returned (.int .i64 (cf x y)) ∧ ∃ q, w' = W.drewN q) :
    Calls Tryz.prog 94 #[.slice (some ⟨b, 0, none⟩) n cap, .func (.func 25) #[.pointer (some ⟨pb, 0, none⟩)] #[]] w fun e w' => (∃ v, e = .returned v) ∧ NW w' b cap n (insertionSort (ltC cf) d 0 n) ∧ OfB b w w' ∧ Good good (insertionSort (ltC cf) d 0 n) := by
  have HI := hide (fun lim => pdqP_any pb good cf b cap n lim d hn w h hg hcf)
  have HL := hide (fun W => Any.bits_Len Tryz.lays125 (n : Int) W (by omega) (by omega))
  clear h hg hcf
  go_enter Tryz.func94, Tryz.ntmps94
  go_wp2_with fail
  refine (unhide HL _).mono ?_
  rintro e1 w1 ⟨rfl, hw⟩
  obtain rfl := hw.symm
  go_wp2_with fail
  refine (unhide HI _).mono ?_
  rintro e2 w2 ⟨⟨v, rfl⟩, hn2, ho2, hg2⟩
  have Hn2 := hide hn2; have Ho2 := hide ho2; have Hg2 := hide hg2
  clear hn2 ho2 hg2
  go_wp2
  go_end0
  exact ⟨⟨_, rfl⟩, unhide Hn2, unhide Ho2, unhide Hg2⟩

set_option maxRecDepth 100000 in
set_option maxHeartbeats 2000000 in
theorem pdqC_any (good : Int → Prop) (cf : Int → Int → Int) (b cap n : Nat) (lim : Int) (d : Array Int) (hn : n ≤ 12) (w : World) (h : NW w b cap n d) (hg : Good good d) (hcf : ∀ W, OfB b w W → ∀ x y, good x → good y → Calls Tryz.prog 37 #[.int .i64 x, .int .i64 y] W fun e w' => e = .returned (.int .i64 (cf x y)) ∧ ∃ q, w' = W.drewN q) :
    Calls Tryz.prog 103 #[.slice (some ⟨b, 0, none⟩) n cap, .int .i64 0, .int .i64 n, .int .i64 lim, .func (.func 37) #[] #[]] w fun e w' => (∃ v, e = .returned v) ∧ NW w' b cap n (insertionSort (ltC cf) d 0 n) ∧ OfB b w w' ∧ Good good (insertionSort (ltC cf) d 0 n) := by
  have HI := hide (insC_any good cf b cap n 0 n d (Nat.le_refl _) (by omega) (Nat.zero_le _) w h hg hcf)
  have hn' : (n : Int) ≤ 12 := by omega
  clear h hg hcf
  go_enter Tryz.func103, Tryz.ntmps103
  go_wp2
  go_loopw [1, 2] (fun x y wr => x = .int .i64 0 ∧ y = .int .i64 n ∧ wr = w) (fun _ _ _ => 0)
  case atStart => exact ⟨rfl, rfl, rfl⟩
  case round =>
    obtain ⟨rfl, rfl, rfl⟩ := hrel
    go_wp2_with fail
    refine (unhide HI).mono ?_
    rintro e2 w2 ⟨⟨v, rfl⟩, hn2, ho2, hg2⟩
    have Hn2 := hide hn2; have Ho2 := hide ho2; have Hg2 := hide hg2
    clear hn2 ho2 hg2
    go_wp2
    refine bodyPost_ret (results_none rfl _ _ _) rfl ?_
    exact ⟨⟨_, rfl⟩, unhide Hn2, unhide Ho2, unhide Hg2⟩
set_option maxRecDepth 100000 in
set_option maxHeartbeats 2000000 in
theorem sortFC_any (good : Int → Prop) (cf : Int → Int → Int) (b cap n : Nat) (d : Array Int) (hn : n ≤ 12) (w : World) (h : NW w b cap n d) (hg : Good good d) (hcf : ∀ W, OfB b w W → ∀ x y, good x → good y → Calls Tryz.prog 37 #[.int .i64 x, .int .i64 y] W fun e w' => e = .returned (.int .i64 (cf x y)) ∧ ∃ q, w' = W.drewN q) :
    Calls Tryz.prog 94 #[.slice (some ⟨b, 0, none⟩) n cap, .func (.func 37) #[] #[]] w fun e w' => (∃ v, e = .returned v) ∧ NW w' b cap n (insertionSort (ltC cf) d 0 n) ∧ OfB b w w' ∧ Good good (insertionSort (ltC cf) d 0 n) := by
  have HI := hide (fun lim => pdqC_any good cf b cap n lim d hn w h hg hcf)
  have HL := hide (fun W => Any.bits_Len Tryz.lays125 (n : Int) W (by omega) (by omega))
  clear h hg hcf
  go_enter Tryz.func94, Tryz.ntmps94
  go_wp2_with fail
  refine (unhide HL _).mono ?_
  rintro e1 w1 ⟨rfl, hw⟩
  obtain rfl := hw.symm
  go_wp2_with fail
  refine (unhide HI _).mono ?_
  rintro e2 w2 ⟨⟨v, rfl⟩, hn2, ho2, hg2⟩
  have Hn2 := hide hn2; have Ho2 := hide ho2; have Hg2 := hide hg2
  clear hn2 ho2 hg2
  go_wp2
  go_end0
  exact ⟨⟨_, rfl⟩, unhide Hn2, unhide Ho2, unhide Hg2⟩
end Go.Proofs.YtkimhfajfbcdmaaGreatDoor

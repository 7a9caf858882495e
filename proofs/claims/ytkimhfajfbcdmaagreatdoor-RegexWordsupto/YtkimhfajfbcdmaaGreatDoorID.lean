/- The reader at awake's text: alt; all. -/
import Derived.Test.YtkimhfajfbcdmaaGreatDoorQP
import Derived.Defers
import Derived.Recover
namespace Go.Proofs.YtkimhfajfbcdmaaGreatDoor
open Go.RowKit Go.Maps

set_option maxHeartbeats 1000000 in
set_option maxRecDepth 100000 in
theorem compareS (v : Value) (a : Int) (w : World) : Calls Tryz.prog 25 #[v, .int .i64 a, .int .i64 a] w fun e w' => e = .returned (.int .i64 0) ∧ ∃ q, w' = w.drewN q := by
  go_enter Tryz.func25, Tryz.ntmps25
  go_wp2
  go_ret
  exact ⟨rfl, 0, rfl⟩
def A5 : List Ab := A4 ++ [⟨5, [], [6, 4], 7, 3, true⟩]
def cfA (a b : Int) : Int := cmpI (A4.getD a.toNat ab0).kind (A4.getD b.toNat ab0).kind
theorem spl5 : splA A4 5 [4, 6] = [4, 6] := by
  unfold splA
  rw [show flatA A4 5 [4, 6] = [4, 6] by kernel_rfl, List.mergeSort_of_pairwise (by decide)]
  kernel_rfl
theorem spl4 : splA A5 4 [7] = [7] := by
  unfold splA
  rw [show flatA A5 4 [7] = [7] by kernel_rfl, List.mergeSort_of_pairwise (by decide)]
  kernel_rfl
theorem rest5 : restA A4 5 [4, 6] = [4, 6] := by unfold restA; rw [spl5]; kernel_rfl
theorem rest4 : restA A5 4 [7] = [7] := by unfold restA; rw [spl4]; kernel_rfl
theorem sort5 : sortA cfA [4, 6] = [6, 4] := by
  unfold sortA Go.Sort.insertionSort
  rw [Go.Sort.insOuter, if_pos (by decide), Go.Sort.insOuter, if_neg (by decide)]
  kernel_rfl
theorem ch5 : chX A4 5 cfA [4, 6] = 7 ∧ chL A4 5 cfA [4, 6] = A5 := by
  unfold chX chL
  rw [spl5, rest5, sort5]
  exact ⟨by kernel_rfl, by kernel_rfl⟩
theorem ch4 : chX A5 4 (fun _ _ => 0) [7] = 7 ∧ chL A5 4 (fun _ _ => 0) [7] = A5 := by
  unfold chX chL
  rw [spl4, rest4]
  exact ⟨by kernel_rfl, by kernel_rfl⟩
theorem few5 : ((splA A4 5 [4, 6]).filter (isSet A4)).length < 2 := by rw [spl5]; decide +kernel
theorem few4 : ((splA A5 4 [7]).filter (isSet A5)).length < 2 := by rw [spl4]; decide +kernel
section
variable {B rb pb mb sb : Nat} {sn : Nat} {DS : DataW Unit}
theorem cmpA (av : Nat → Prop) (e : Int) (W : World) (hP : Pool av W B pb mb sb A4 (cmpV pb) e sn DS) : ∀ a ∈ restA A4 5 [4, 6], ∀ b ∈ restA A4 5 [4, 6], Calls Tryz.prog 25 #[.pointer (some ⟨pb, 0, none⟩), .int .i64 a, .int .i64 b] W fun e w' => e = .returned (.int .i64 (cfA a b)) ∧ ∃ q, w' = W.drewN q := by
  rw [rest5]
  intro a ha b hb
  have ha' : a = 4 ∨ a = 6 := by simpa using ha
  have hb' : b = 4 ∨ b = 6 := by simpa using hb
  rcases ha' with rfl | rfl <;> rcases hb' with rfl | rfl
  · exact compareS _ 4 W
  · exact compareK_any W B pb mb sb A4 _ e sn DS hP 4 6 (by decide) (by decide) (by decide)
  · exact compareK_any W B pb mb sb A4 _ e sn DS hP 6 4 (by decide) (by decide) (by decide)
  · exact compareS _ 6 W
theorem sk9 : skipN awk (7 + 1) = 9 := by kernel_rfl
theorem r12 : RdC 74 B rb pb mb sb awk (cmpV pb) sn DS ⟨0, 0, 0, base3, 0⟩ ⟨13, 13, 0, A5, 0⟩ 7 :=
  rdc_eq (rdc_and2 (s1 := ⟨6, 7, 0, A2, 0⟩) (s2 := ⟨13, 13, 0, A4, 0⟩) (x1 := 4) (x2 := 6) (by decide) r5 (by kernel_rfl) (by simp only [sk9]; exact r11) (by kernel_rfl) (by decide) (by decide) (by decide) few5 (by show (restA A4 5 [4, 6]).length ≤ 12; rw [rest5]; decide) cfA (fun av W hP => cmpA av 0 W hP) 7 ch5.1 (by show 7 < (chL A4 5 cfA [4, 6]).length; rw [ch5.2]; decide)) (by simp only [ch5.2]; kernel_rfl) (by simp only [ch5.2]; kernel_rfl)
theorem r13 : RdC 55 B rb pb mb sb awk (cmpV pb) sn DS ⟨0, 0, 0, base3, 0⟩ ⟨13, 13, 0, A5, 0⟩ 7 :=
  rdc_eq (rdc_alt1 (s' := ⟨13, 13, 0, A5, 0⟩) (x := 7) r12 (by kernel_rfl) (by decide) (by decide) (by decide) few4 (by show (restA A5 4 [7]).length ≤ 12; rw [rest4]; decide) (fun _ _ => 0) (fun av W hP a ha b hb => by
    have ha' : a ∈ restA A5 4 [7] := ha
    have hb' : b ∈ restA A5 4 [7] := hb
    rw [rest4] at ha' hb'
    obtain rfl : a = 7 := by simpa using ha'
    obtain rfl : b = 7 := by simpa using hb'
    exact compareS _ 7 W) 7 ch4.1 (by show 7 < (chL A5 4 (fun _ _ => 0) [7]).length; rw [ch4.2]; decide)) (by simp only [ch4.2]; kernel_rfl) (by simp only [ch4.2]; kernel_rfl)
end
end Go.Proofs.YtkimhfajfbcdmaaGreatDoor

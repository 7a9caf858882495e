/- The reader at awake's text. (and what it leads to) -/
import Derived.Test.YtkimhfajfbcdmaaGreatDoorQQ
import Derived.Defers
import Derived.Recover
import Derived.Laws.Pointers
import Derived.Test.YtkimhfajfbcdmaaGreatDoorQG
/- The reader at awake's text. -/
namespace Go.Proofs.YtkimhfajfbcdmaaGreatDoor
open Go.RowKit Go.Maps

/-- What awake reads. -/
def awk : ByteArray := ⟨#[91, 97, 45, 99, 93, 42, 32, 38, 32, 33, 34, 98, 34]⟩
def A1 : List Ab := base3 ++ [⟨2, [(97, 99)], [], 2, 1, false⟩]
def A2 : List Ab := A1 ++ [⟨7, [], [3], 3, 2, true⟩]
def A3 : List Ab := A2 ++ [⟨2, [(98, 98)], [], 2, 1, false⟩]
def A4 : List Ab := A3 ++ [⟨6, [], [5], 3, 2, true⟩]
theorem rdc_eq {f B rb pb mb sb : Nat} {txt : ByteArray} {ov : Value} {sn : Nat} {DS : DataW Unit} {s s' s'' : RSt} {r r' : Int} (h : RdC f B rb pb mb sb txt ov sn DS s s' r) (e : s' = s'') (er : r = r') : RdC f B rb pb mb sb txt ov sn DS s s'' r' := by
  subst e; subst er; exact h
theorem awk_set : SetAt awk 0 97 99 := ⟨by decide, by decide, rfl, rfl, rfl, rfl, rfl, by decide +kernel, by decide +kernel, by decide, by decide⟩
section
variable {B rb pb mb sb : Nat} {ov : Value} {sn : Nat} {DS : DataW Unit}
theorem r1 : RdC 146 B rb pb mb sb awk ov sn DS ⟨0, 0, 0, base3, 0⟩ ⟨5, 5, 0, A1, 0⟩ 3 := rdc_eq (rdc_set (s := ⟨0, 0, 0, base3, 0⟩) awk_set (by decide)) (by kernel_rfl) (by kernel_rfl)
theorem r2 : RdC 124 B rb pb mb sb awk ov sn DS ⟨0, 0, 0, base3, 0⟩ ⟨5, 5, 0, A1, 0⟩ 3 := rdc_atomS r1 (by kernel_rfl) (by kernel_rfl)
theorem r3 : RdC 105 B rb pb mb sb awk ov sn DS ⟨0, 0, 0, base3, 0⟩ ⟨6, 7, 0, A2, 0⟩ 4 :=
  rdc_eq (rdc_post1 (s2 := ⟨6, 7, 0, A2, 0⟩) (x := 3) (by decide) r2 (by kernel_rfl) (by decide) (by decide) 4 (by kernel_rfl) (by decide +kernel) (by kernel_rfl) (by decide) ⟨by kernel_rfl, by kernel_rfl, by kernel_rfl, by kernel_rfl⟩) rfl (by kernel_rfl)
theorem r4 : RdC 96 B rb pb mb sb awk ov sn DS ⟨0, 0, 0, base3, 0⟩ ⟨6, 7, 0, A2, 0⟩ 4 := rdc_pre0 r3 (by kernel_rfl)
theorem r5 : RdC 84 B rb pb mb sb awk ov sn DS ⟨0, 0, 0, base3, 0⟩ ⟨6, 7, 0, A2, 0⟩ 4 :=
  rdc_eq (rdc_cat1 r4 (by kernel_rfl) (by decide) (by decide) (by decide) 4 (by kernel_rfl) (by decide +kernel)) (by kernel_rfl) (by kernel_rfl)
theorem r6 : RdC 147 B rb pb mb sb awk ov sn DS ⟨10, 10, 1, A2, 0⟩ ⟨13, 13, 1, A3, 0⟩ 5 :=
  rdc_eq (rdc_quoted (s := ⟨10, 10, 1, A2, 0⟩) (by decide) (by decide) (by kernel_rfl) (by decide) (by decide) 5 (by kernel_rfl) (by decide +kernel)) (by kernel_rfl) (by kernel_rfl)
theorem r7 : RdC 124 B rb pb mb sb awk ov sn DS ⟨10, 10, 1, A2, 0⟩ ⟨13, 13, 1, A3, 0⟩ 5 := rdc_atomQ r6 (by kernel_rfl) (by kernel_rfl) (by kernel_rfl)
theorem r8 : RdC 105 B rb pb mb sb awk ov sn DS ⟨10, 10, 1, A2, 0⟩ ⟨13, 13, 1, A3, 0⟩ 5 := rdc_post0 r7 ⟨by kernel_rfl, by kernel_rfl, by kernel_rfl, by kernel_rfl⟩
theorem r9 : RdC 96 B rb pb mb sb awk ov sn DS ⟨10, 10, 1, A2, 0⟩ ⟨13, 13, 1, A3, 0⟩ 5 := rdc_pre0 r8 (by kernel_rfl)
theorem sk10 : skipN awk (9 + 1) = 10 := by kernel_rfl
theorem r10 : RdC 96 B rb pb mb sb awk ov sn DS ⟨8, 9, 0, A2, 0⟩ ⟨13, 13, 0, A4, 0⟩ 6 :=
  rdc_eq (rdc_pre1 (s := ⟨8, 9, 0, A2, 0⟩) (s' := ⟨13, 13, 1, A3, 0⟩) (x := 5) (by decide) (by decide) (by simp only [sk10]; exact r9) rfl (by kernel_rfl) (by decide) (by decide) 6 (by kernel_rfl) (by decide +kernel)) (by kernel_rfl) (by kernel_rfl)
theorem r11 : RdC 84 B rb pb mb sb awk ov sn DS ⟨8, 9, 0, A2, 0⟩ ⟨13, 13, 0, A4, 0⟩ 6 :=
  rdc_eq (rdc_cat1 r10 (by kernel_rfl) (by decide) (by decide) (by decide) 6 (by kernel_rfl) (by decide +kernel)) (by kernel_rfl) (by kernel_rfl)
end
end Go.Proofs.YtkimhfajfbcdmaaGreatDoor

/- The reader at awake's text: alt; all. -/
namespace Go.Proofs.YtkimhfajfbcdmaaGreatDoor
open Go.RowKit Go.Maps

set_option maxHeartbeats 1000000 in
set_option maxRecDepth 100000 in
theorem compareS (v : Value) (a : Int) (w : World) : Calls Tryz.prog 25 #[v, .int .i64 a, .int .i64 a] w fun e w' => e = .returned (.int .i64 0) ∧ ∃ q, w' = w.drewN q := by
  go_enter Tryz.func25, Tryz.ntmps25
  go_wp2
  go_ret
  exact ⟨rfl, 0, rfl⟩
def A5 : List Ab := A4 ++ [⟨5, [], [6, 4], 7, 3, true⟩]
def cfA (a b : Int) : Int := cmpI (A4.getD a.toNat ab0).kind (A4.getD b.toNat ab0).kind
theorem spl5 : splA A4 5 [4, 6] = [4, 6] := by
  unfold splA
  rw [show flatA A4 5 [4, 6] = [4, 6] by kernel_rfl, List.mergeSort_of_pairwise (by decide)]
  kernel_rfl
theorem spl4 : splA A5 4 [7] = [7] := by
  unfold splA
  rw [show flatA A5 4 [7] = [7] by kernel_rfl, List.mergeSort_of_pairwise (by decide)]
  kernel_rfl
theorem rest5 : restA A4 5 [4, 6] = [4, 6] := by unfold restA; rw [spl5]; kernel_rfl
theorem rest4 : restA A5 4 [7] = [7] := by unfold restA; rw [spl4]; kernel_rfl
theorem sort5 : sortA cfA [4, 6] = [6, 4] := by
  unfold sortA Go.Sort.insertionSort
  rw [Go.Sort.insOuter, if_pos (by decide), Go.Sort.insOuter, if_neg (by decide)]
  kernel_rfl
theorem ch5 : chX A4 5 cfA [4, 6] = 7 ∧ chL A4 5 cfA [4, 6] = A5 := by
  unfold chX chL
  rw [spl5, rest5, sort5]
  exact ⟨by kernel_rfl, by kernel_rfl⟩
theorem ch4 : chX A5 4 (fun _ _ => 0) [7] = 7 ∧ chL A5 4 (fun _ _ => 0) [7] = A5 := by
  unfold chX chL
  rw [spl4, rest4]
  exact ⟨by kernel_rfl, by kernel_rfl⟩
theorem few5 : ((splA A4 5 [4, 6]).filter (isSet A4)).length < 2 := by rw [spl5]; decide +kernel
theorem few4 : ((splA A5 4 [7]).filter (isSet A5)).length < 2 := by rw [spl4]; decide +kernel
section
variable {B rb pb mb sb : Nat} {sn : Nat} {DS : DataW Unit}
theorem cmpA (av : Nat → Prop) (e : Int) (W : World) (hP : Pool av W B pb mb sb A4 (cmpV pb) e sn DS) : ∀ a ∈ restA A4 5 [4, 6], ∀ b ∈ restA A4 5 [4, 6], Calls Tryz.prog 25 #[.pointer (some ⟨pb, 0, none⟩), .int .i64 a, .int .i64 b] W fun e w' => e = .returned (.int .i64 (cfA a b)) ∧ ∃ q, w' = W.drewN q := by
  rw [rest5]
  intro a ha b hb
  have ha' : a = 4 ∨ a = 6 := by simpa using ha
  have hb' : b = 4 ∨ b = 6 := by simpa using hb
  rcases ha' with rfl | rfl <;> rcases hb' with rfl | rfl
  · exact compareS _ 4 W
  · exact compareK_any W B pb mb sb A4 _ e sn DS hP 4 6 (by decide) (by decide) (by decide)
  · exact compareK_any W B pb mb sb A4 _ e sn DS hP 6 4 (by decide) (by decide) (by decide)
  · exact compareS _ 6 W
theorem sk9 : skipN awk (7 + 1) = 9 := by kernel_rfl
theorem r12 : RdC 74 B rb pb mb sb awk (cmpV pb) sn DS ⟨0, 0, 0, base3, 0⟩ ⟨13, 13, 0, A5, 0⟩ 7 :=
  rdc_eq (rdc_and2 (s1 := ⟨6, 7, 0, A2, 0⟩) (s2 := ⟨13, 13, 0, A4, 0⟩) (x1 := 4) (x2 := 6) (by decide) r5 (by kernel_rfl) (by simp only [sk9]; exact r11) (by kernel_rfl) (by decide) (by decide) (by decide) few5 (by show (restA A4 5 [4, 6]).length ≤ 12; rw [rest5]; decide) cfA (fun av W hP => cmpA av 0 W hP) 7 ch5.1 (by show 7 < (chL A4 5 cfA [4, 6]).length; rw [ch5.2]; decide)) (by simp only [ch5.2]; kernel_rfl) (by simp only [ch5.2]; kernel_rfl)
theorem r13 : RdC 55 B rb pb mb sb awk (cmpV pb) sn DS ⟨0, 0, 0, base3, 0⟩ ⟨13, 13, 0, A5, 0⟩ 7 :=
  rdc_eq (rdc_alt1 (s' := ⟨13, 13, 0, A5, 0⟩) (x := 7) r12 (by kernel_rfl) (by decide) (by decide) (by decide) few4 (by show (restA A5 4 [7]).length ≤ 12; rw [rest4]; decide) (fun _ _ => 0) (fun av W hP a ha b hb => by
    have ha' : a ∈ restA A5 4 [7] := ha
    have hb' : b ∈ restA A5 4 [7] := hb
    rw [rest4] at ha' hb'
    obtain rfl : a = 7 := by simpa using ha'
    obtain rfl : b = 7 := by simpa using hb'
    exact compareS _ 7 W) 7 ch4.1 (by show 7 < (chL A5 4 (fun _ _ => 0) [7]).length; rw [ch4.2]; decide)) (by simp only [ch4.2]; kernel_rfl) (by simp only [ch4.2]; kernel_rfl)
end
end Go.Proofs.YtkimhfajfbcdmaaGreatDoor

/- The reader: all, where nothing is wrong. -/
namespace Go.Proofs.YtkimhfajfbcdmaaGreatDoor
open Go.RowKit Go.Maps

set_option maxHeartbeats 1000000 in
theorem catch_idle (p : Addr) (w : World) :
    CallsD Tryz.prog 54 #[.pointer (some p)] .returning w fun e u' w' => e = .returned (.tuple #[]) ∧ u' = .returning ∧ w' = w := by
  refine callsD_of_wpS Tryz.func54 rfl fun c₀ cs hu => ?_
  apply wpS_seq
  apply wpS_region
  simp [wpOpsS, go_sem, recoverD, hu, Tryz.ntmps54, Exit.thenS]
  apply wpS_seq
  apply wpS_region
  simp [wpOpsS, go_sem, Exit.thenS]
  refine wpS_cond (t := false) (by simp [Act.eval]) ?_
  simp only [Bool.false_eq_true, if_false]
  refine wpS_of_wp (wp_skip ?_)
  cases c₀
  simp_all [bodyPostS, results, Tryz.results54]
set_option maxHeartbeats 2000000 in
set_option maxRecDepth 100000 in
theorem all_ok {av : Nat → Prop} {B rb pb mb sb : Nat} {txt : ByteArray} {ov : Value} {sn : Nat} {DS : DataW Unit} {s s' : RSt} {x : Int} (h : RdC 55 B rb pb mb sb txt ov sn DS s s' x) (W : World) (hav : ∀ k, av k → k < W.heap.size) (hB : B ≤ W.heap.size) (hR : RP av W B rb pb mb sb txt s.at' s.nx s.op s.L ov s.e sn DS) :
    Calls Tryz.prog 35 #[.pointer (some ⟨rb, 0, none⟩)] W fun e w' => e = .returned (.tuple #[.int .i64 x, .agg #[.int .i64 0, .int .i64 0]]) ∧ RP av w' B rb pb mb sb txt s'.at' s'.nx s'.op s'.L ov s'.e sn DS ∧ RFr B mb sb rb W w' := by
  have hmf : ∀ (fn : Fn) (first cap : Array Value) (w : World), (Instr.makeFunc fn first cap).run Tryz.prog w = .ok (.func fn first cap) w := fun _ _ _ _ => rfl
  have HR := hide hR; have H := hide h
  clear hR h
  go_enter_defers Tryz.func35, Tryz.ntmps35
  go_wp2_with fail
  have hb0 : Below W.heap.size W (W.alloc (.cells #[.int .i64 0, .int .i64 0] 49)) := (Below.refl _ _).alloc (Nat.le_refl _) _
  have HP := hide (unhide H av (W.alloc (.cells #[.int .i64 0, .int .i64 0] 49)) (fun k hk => by have := hav k hk; simp; omega) (by simp; omega) (rp_below (unhide HR) hb0))
  refine (unhide HP).mono ?_
  rintro e1 w1 ⟨rfl, hr1, hf1⟩
  have hF := (hf1.block W.heap.size (by simp) (.inr (.inl ⟨_, 49, _, heap_new W _, by decide, by decide, by decide⟩)) (by have := rd_lt (unhide HR).rd; omega)).trans (heap_new W (.cells #[.int .i64 0, .int .i64 0] 49))
  have Hr1 := hide hr1; have Hf1 : Hid (RFr B mb sb rb W w1) := hide (rfr_t (rfr_below hb0) hf1)
  have d0 := cell_block hF 0 _ rfl
  have d1 := cell_block hF 1 _ rfl
  have f0 := frozen_block hF 0
  have f1 := frozen_block hF 1
  have s0 := set_self (v := .int .i64 0) hF (i := 0) rfl
  have s1 := set_self (v := .int .i64 0) hF (i := 1) rfl
  clear hr1 hf1 hF HP H HR hb0
  go_wp2
  refine leaves_cons (f := 54) (args := #[.pointer (some ⟨W.heap.size, 0, none⟩)]) (by simp) (by simp [go_sem]) ?_
  refine (catch_idle ⟨W.heap.size, 0, none⟩ _).mono ?_
  rintro e u' w'' ⟨rfl, rfl, rfl⟩
  refine ⟨.tuple #[.int .i64 x, .agg #[.int .i64 0, .int .i64 0]], ?_, rfl, unhide Hr1, unhide Hf1⟩
  simp [results, Tryz.results35, go_sem, d0, d1]
end Go.Proofs.YtkimhfajfbcdmaaGreatDoor

/- Parse of awake's text. -/
namespace Go.Proofs.YtkimhfajfbcdmaaGreatDoor
open Go.RowKit Go.Maps

set_option maxHeartbeats 2000000 in
set_option maxRecDepth 100000 in
theorem parse_awk (w : World) :
    Calls Tryz.prog 21 #[.string awk] w fun e w' => ∃ v0 v1 v2, e = .returned (.tuple #[.agg #[v0, v1, v2], .agg #[.int .i64 0, .int .i64 0]]) ∧ RxAt (fun k => w.heap.size ≤ k) w' (treeA A5 7) v0 v1 v2 ∧ Below w.heap.size w w' := by
  have h13 : awk.size = 13 := rfl
  have qe := eql49_0
  have qn := neq49_0
  have g49 := guard49
  go_enter Tryz.func21, Tryz.ntmps21
  go_wp2_with fail
  refine (newReader_any ((w.alloc (.cells #[.int .i64 0, .slice none 0 0, .slice none 0 0] 26)).alloc (.cells #[.int .i64 0, .int .i64 0] 49)) awk 0).mono ?_
  rintro e w1 ⟨rb, pb, mb, sb, rfl, hrb, hrd, hpool, hb1⟩
  have hs2 : ((w.alloc (.cells #[.int .i64 0, .slice none 0 0, .slice none 0 0] 26)).alloc (.cells #[.int .i64 0, .int .i64 0] 49)).heap.size = w.heap.size + 2 := by simp
  have hT2 : ((w.alloc (.cells #[.int .i64 0, .slice none 0 0, .slice none 0 0] 26)).alloc (.cells #[.int .i64 0, .int .i64 0] 49)).heap[w.heap.size]? = some (.cells #[.int .i64 0, .slice none 0 0, .slice none 0 0] 26 (0, 0)) := (Below.heap_alloc _ _ _ (by simp)).trans (heap_new w _)
  have hF2 : ((w.alloc (.cells #[.int .i64 0, .slice none 0 0, .slice none 0 0] 26)).alloc (.cells #[.int .i64 0, .int .i64 0] 49)).heap[w.heap.size + 1]? = some (.cells #[.int .i64 0, .int .i64 0] 49 (0, 0)) := by
    have := heap_new (w.alloc (.cells #[.int .i64 0, .slice none 0 0, .slice none 0 0] 26)) (.cells #[.int .i64 0, .int .i64 0] 49)
    rwa [show (w.alloc (.cells #[.int .i64 0, .slice none 0 0, .slice none 0 0] 26)).heap.size = w.heap.size + 1 by simp] at this
  have hB2 : Below w.heap.size w ((w.alloc (.cells #[.int .i64 0, .slice none 0 0, .slice none 0 0] 26)).alloc (.cells #[.int .i64 0, .int .i64 0] 49)) := ((Below.refl _ _).alloc (Nat.le_refl _) _).alloc (by simp) _
  rw [hs2] at hrb hpool hb1
  have hT1 := (hb1.block w.heap.size (by omega)).trans hT2
  have hF1 := (hb1.block (w.heap.size + 1) (by omega)).trans hF2
  have hB1 : Below w.heap.size w w1 := hB2.trans (hb1.mono (by omega))
  have hw1 : w.heap.size + 2 ≤ w1.heap.size := by have := hb1.size; omega
  clear hs2 hT2 hF2 hB2 hb1
  have hrp1 : RP (fun _ => False) w1 (w.heap.size + 2) rb pb mb sb awk ((0 : Nat) : Int) ((0 : Nat) : Int) ((0 : Nat) : Int) base3 (cmpV pb) 0 0 (.map []) := ⟨hrd, hpool, hrb⟩
  have HA := hide (all_ok (s := ⟨0, 0, 0, base3, 0⟩) (s' := ⟨13, 13, 0, A5, 0⟩) r13 w1 (fun k hk => hk.elim) hw1 hrp1)
  have HT1 := hide hT1; have HF1 := hide hF1; have HB1 := hide hB1
  clear hrd hpool hrp1 hT1 hF1 hB1
  go_wp2_with fail
  refine (unhide HA).mono ?_
  rintro e w3 ⟨rfl, hrp3, hf3⟩
  have hb3 : Below (w.heap.size + 2) w1 w3 := rfr_base hf3 hrb hw1
  have hT3 := (hb3.block w.heap.size (by omega)).trans (unhide HT1)
  have hF3 := (hb3.block (w.heap.size + 1) (by omega)).trans (unhide HF1)
  have hB3 := (unhide HB1).trans (hb3.mono (by omega))
  have hw3 := hb3.size
  have hrp4 := rp_below hrp3 (w' := w3.alloc (.cells #[.int .i64 0, .int .i64 0] 49)) ((Below.refl _ _).alloc (Nat.le_refl _) _)
  have ca := cell_block hrp4.rd 1 _ rfl
  have c4 := cell_block hrp4.rd 4 _ rfl
  have HT4 := hide ((Below.heap_alloc w3 (.cells #[.int .i64 0, .int .i64 0] 49) w.heap.size (lt_of_some hT3)).trans hT3)
  have HF4 := hide ((Below.heap_alloc w3 (.cells #[.int .i64 0, .int .i64 0] 49) (w.heap.size + 1) (lt_of_some hF3)).trans hF3)
  have HB4 := hide (hB3.alloc hB3.size (.cells #[.int .i64 0, .int .i64 0] 49))
  have HAn := hide (answer_any (w3.alloc (.cells #[.int .i64 0, .int .i64 0] 49)) (w.heap.size + 2) pb mb sb A5 (cmpV pb) 0 0 (.map []) hrp4.pool (by decide) (by decide) 7 (by decide) (fun k hk => hk.elim))
  have hw4 : w.heap.size + 2 ≤ w3.heap.size := by omega
  clear hrp3 hf3 hb3 hT3 hF3 hB3 hrp4 HA HT1 HF1 HB1
  go_wp2_with fail
  refine (unhide HAn).mono ?_
  rintro e w5 ⟨v0, v1, v2, rfl, hb5, hx⟩
  rw [show heldE A5 0 7 = 0 by kernel_rfl] at hx ⊢
  rw [if_pos rfl, show heldX A5 7 = 7 by kernel_rfl] at hx
  obtain ⟨k, sa, n, sc, ka, m, kc, rfl, rfl, rfl⟩ := rxAt_form hx
  have hw5 := hb5.size
  have hs4 : (w3.alloc (.cells #[.int .i64 0, .int .i64 0] 49)).heap.size = w3.heap.size + 1 := by simp
  rw [hs4] at hw5 hx
  have hT5 := (hb5.block w.heap.size (by omega)).trans (unhide HT4)
  have hF5 := (hb5.block (w.heap.size + 1) (by omega)).trans (unhide HF4)
  have hB5 := (unhide HB4).trans (hb5.mono (by omega))
  have HX := hide hx; have HB5 := hide hB5; have HT5 := hide hT5; have HF5 := hide hF5
  clear hb5 hx hT5 hF5 hB5 HAn HT4 HF4 HB4 ca c4
  go_upto_region 8 with fail
  have hT6 := (Below.heap_alloc w5 (.cells #[.int .i64 k, .slice sa n sc, .slice ka m kc] 26) w.heap.size (lt_of_some (unhide HT5))).trans (unhide HT5)
  have hF6 := (Below.heap_alloc w5 (.cells #[.int .i64 k, .slice sa n sc, .slice ka m kc] 26) (w.heap.size + 1) (lt_of_some (unhide HF5))).trans (unhide HF5)
  have HB6 := hide ((unhide HB5).alloc (unhide HB5).size (.cells #[.int .i64 k, .slice sa n sc, .slice ka m kc] 26))
  have t0 := cell_block hT6 0 _ rfl
  have t1 := cell_block hT6 1 _ rfl
  have t2 := cell_block hT6 2 _ rfl
  have g0 := frozen_block hT6 0
  have g1 := frozen_block hT6 1
  have g2 := frozen_block hT6 2
  have d0 := cell_block hF6 0 _ rfl
  have d1 := cell_block hF6 1 _ rfl
  have f0 := frozen_block hF6 0
  have f1 := frozen_block hF6 1
  have hl5 := lt_of_some (unhide HF5)
  have n0 := cell_block (heap_new w5 (.cells #[.int .i64 k, .slice sa n sc, .slice ka m kc] 26)) 0 _ rfl
  have n1 := cell_block (heap_new w5 (.cells #[.int .i64 k, .slice sa n sc, .slice ka m kc] 26)) 1 _ rfl
  have n2 := cell_block (heap_new w5 (.cells #[.int .i64 k, .slice sa n sc, .slice ka m kc] 26)) 2 _ rfl
  have HK : Hid (∀ q, w3.heap.size + 1 ≤ q → q < w5.heap.size → (w5.alloc (.cells #[.int .i64 k, .slice sa n sc, .slice ka m kc] 26)).heap[q]? = w5.heap[q]?) := hide (fun q _ hq => Below.heap_alloc w5 _ q hq)
  have hs6 : w5.heap.size ≤ (w5.alloc (.cells #[.int .i64 k, .slice sa n sc, .slice ka m kc] 26)).heap.size := by simp
  clear hT6 hF6 HT5 HF5 HB5
  generalize w5.alloc (.cells #[.int .i64 k, .slice sa n sc, .slice ka m kc] 26) = W6 at *
  go_wp2
  refine bodyPost_ret (v := .tuple #[.agg #[.int .i64 k, .slice sa n sc, .slice ka m kc], .agg #[.int .i64 0, .int .i64 0]]) (by simp [results, Tryz.results21, go_sem, t0, t1, t2, d0, d1]) rfl ?_
  have hset : ∀ (V : World) (b o : Nat) (u : Value) (q : Nat), b < q → (V.setCell ⟨b, o, none⟩ u).heap[q]? = V.heap[q]? := fun V b o u q hq => Below.heap_setCell V ⟨b, o, none⟩ u q (by show q ≠ b; omega)
  refine ⟨_, _, _, rfl, rxAt_kept (by simp; omega) (fun q h1 h2 => ?_) (fun q h1 _ => by show w.heap.size ≤ q; have : w3.heap.size + 1 ≤ q := h1; omega) _ _ _ _ (unhide HX), ?_⟩
  · have h1' : w3.heap.size + 1 ≤ q := h1
    rw [hset _ _ _ _ q (by omega), hset _ _ _ _ q (by omega), hset _ _ _ _ q (by omega), hset _ _ _ _ q (by omega), hset _ _ _ _ q (by omega)]
    exact unhide HK q h1' h2
  · exact (((((unhide HB6).setCell (p := ⟨w.heap.size, 0, none⟩) (Nat.le_refl _) _).setCell (p := ⟨w.heap.size, 1, none⟩) (Nat.le_refl _) _).setCell (p := ⟨w.heap.size, 2, none⟩) (Nat.le_refl _) _).setCell (p := ⟨w.heap.size + 1, 0, none⟩) (Nat.le_succ _) _).setCell (p := ⟨w.heap.size + 1, 1, none⟩) (Nat.le_succ _) _
end Go.Proofs.YtkimhfajfbcdmaaGreatDoor

/-
  GramFirsts returns true for every grammar, every number and every row (its row is the given one, with no condition but the table that it lists, which the card ties to the program's text): what a row begins with is made of what its first letter and its rest begin with.
-/
import Derived.Test.YtagohbpbgjelaaaGreatDoorH2
import Derived.Test.YtagohbpbgjelaaaGreatDoorO2
import Derived.Test.YtagohbpbgjelaaaGreatDoorTie
import Derived.Test.YtagohbpbgjelaaaGreatDoorCards
import Derived.Test.YtagohbpbgjelaaaGreatDoorTA
import Derived.WalkKit
import Derived.ProofKit
import Derived.OpenShut
import Derived.Deep.Slices
import Derived.ChangeOld
import Derived.Below
import Derived.SizedLaws
import Derived.LaidMore
import Derived.Lay
import Derived.SevenTiedAt
namespace Go.Proofs.YtagohbpbgjelaaaGreatDoor.gramFirsts
open Go.ChangeShapes Go.WideShapes Go.ChangeAt Go.RowKit

set_option maxRecDepth 100000 in
theorem own : ownKnob Tryz.prog.godebug = none := by kernel_rfl
set_option maxRecDepth 100000 in
theorem laidOut : laidOutB Tryz.prog = true := by kernel_rfl
set_option maxRecDepth 100000 in
theorem slice_nil {W : World} {base : Nat} {a : Option Addr} {len cap : Nat} (h : Value.okWide Tryz.prog W .any base 27 (.slice a len cap)) : (∃ ad, a = some ad) ∨ (a = none ∧ len = 0 ∧ cap = 0) := by
  cases a with
  | some ad => exact .inl ⟨ad, rfl⟩
  | none =>
    refine .inr ⟨rfl, ?_⟩
    simp only [Value.okWide, Tryz.underlying27, Cell.okWide, Cell.ok] at h
    cases len <;> cases cap <;> simp_all
set_option maxRecDepth 100000 in
theorem lifted (hF : FirstC 11) (hLY : LookYes 9) (hMY : LeastYes 24) (os : Os) (started : os.Started) (H : Type) (enc : TypeId × Value → H) :
    ReturnsInHanded {} Tryz.checked os 8 .any (fun w args => (Rows.gramFirstsSpec.pre enc Tryz.prog Tryz.f8 Rows.gramFirstsRow.domain false w args ∧ laidMetH Tryz.prog Rows.gramFirstsRow.laid w) ∧ sizedMet enc Tryz.prog Tryz.f8 (OpenSpec.ofChange Rows.gramFirstsSpec) false w args) (Rows.gramFirstsSpec.post enc Tryz.prog Tryz.f8 false true false false) := by
  refine returnsInHanded_of_change_and (C := Tryz.checked) (X := fun w _ => laidMetH Tryz.prog Rows.gramFirstsRow.laid w) (fun _ _ _ hh h => h.of_heap hh) own started (by kernel_rfl) Tryz.func8
    (ChangeSpec.witness_shaped (enc := enc) (C := Tryz.checked) (os := os) (X := fun w _ => laidMetH Tryz.prog Rows.gramFirstsRow.laid w) false (World.laidAll Tryz.prog os Rows.gramFirstsRow.laid) #[.agg #[.slice none 0 0, .slice none 0 0, .slice none 0 0, .slice none 0 0, .int .i64 0], .int .i64 0, .slice none 0 0] 8 (World.laidAll_os _ _ _)
      (World.shaped_of_ZipB (by kernel_rfl) (by kernel_rfl)) (by kernel_rfl) (by kernel_rfl) (by kernel_rfl)
      (by rw [MakeChecks.laidMetH_plain _ _ _ (by kernel_rfl)]; exact laidMet_laidAll _ (by kernel_rfl) (by kernel_rfl))) ?_
  intro W base args ds gs before hval0 hW _ hsz hL9 _
  have hval : ∀ (j : Nat) t v, Tryz.f8.params[j]? = some t → args[j]? = some v → Value.okWide Tryz.prog W .any base t v := hval0
  have hW' := hW
  obtain ⟨p, q, hA0, hV, rfl, hfz, hnd⟩ := hW
  have hA : DataW.TrodAll enc Tryz.prog W 0 (fun _ => true) true Tryz.f8.params.toList args.toList ds p := hA0
  rw [Tryz.params8] at hA hval hsz
  obtain ⟨v0, vs0, d0, ds0, p0, q0, hargs, rfl, rfl, h0, r0⟩ := trodAll_cons hA
  obtain ⟨v1, vs1, d1, ds1, p1, q1, rfl, rfl, rfl, h1, r1⟩ := trodAll_cons r0
  obtain ⟨v2, vs2, d2, ds2, p2, q2, rfl, rfl, rfl, h2, r2⟩ := trodAll_cons r1
  obtain ⟨rfl, rfl, rfl⟩ := trodAll_nil r2
  obtain rfl : args = #[v0, v1, v2] := by cases args; simp_all
  obtain ⟨rfl, rfl⟩ := trodVars_none hV
  have k0 := h0
  have lt0 : ∀ x ∈ p0, x.block < W.heap.size := by obtain ⟨n, hn⟩ := k0; exact DataW.trod_lt n _ _ _ hn
  have k1 := h1
  have lt1 : ∀ x ∈ p1, x.block < W.heap.size := by obtain ⟨n, hn⟩ := k1; exact DataW.trod_lt n _ _ _ hn
  have htab9 := tab_of (show laidMetH Tryz.prog [("math/bits.deBruijn64tab", Rows.laid_math_bits_deBruijn64tab)] W from hL9)
  obtain ⟨G, ka, pa, ra, qa, kc, pc, rc, qc, rfl, hin, hsm, -, -⟩ := open_plain htab9 (hval 0 26 v0 rfl rfl) h0 (wok_arg hsz (j := 0) rfl rfl)
  have k2 := h2
  have lt2 : ∀ x ∈ p2, x.block < W.heap.size := by obtain ⟨n, hn⟩ := k2; exact DataW.trod_lt n _ _ _ hn
  obtain ⟨x1, rfl, -, -⟩ := open_int Tryz.underlying3 (hval 1 3 v1 rfl rfl) h1
  have hnil := hval 2 27 v2 rfl rfl
  obtain ⟨a1, len1, cap1, rfl⟩ := okWide_slice Tryz.underlying27 (hval 2 27 v2 rfl rfl)
  have hro := slice_nil hnil
  obtain ⟨fuel1, hf1⟩ := h2
  obtain ⟨ro, rcap, row, e1, hrow, -, hrb⟩ := open_ints hf1 (wok_arg hsz (j := 2) rfl rfl)
  simp [Value.cells] at e1
  obtain ⟨rfl, rfl, rfl⟩ := e1
  unfold reachBytes at hrb
  refine (firsts_walk hF hLY hMY G ka pa ra qa kc pc rc qc x1 a1 cap1 row (by omega) (hro.imp id (fun h => ⟨h.1, h.2.2, List.eq_nil_of_length_eq_zero h.2.1⟩)) W hin hsm hrow).mono fun e W' ⟨he, bel⟩ => ?_
  subst he
  exact ⟨_, rfl, _, _, _, [], _, [], hW', trodAll_mk1 (shut_bool Tryz.underlying4 _), (trodAll_cons_mk (Below.trod laidOut (by kernel_rfl) (of_decide_eq_true (by kernel_rfl)) k0 bel lt0) (trodAll_cons_mk (Below.trod laidOut (by kernel_rfl) (of_decide_eq_true (by kernel_rfl)) k1 bel lt1) (trodAll_cons_mk (Below.trod laidOut (by kernel_rfl) (of_decide_eq_true (by kernel_rfl)) k2 bel lt2) trodAll_mk0))), rfl, bel.frame _, fun h => by cases h⟩
end Go.Proofs.YtagohbpbgjelaaaGreatDoor.gramFirsts
namespace Go.Proofs.YtagohbpbgjelaaaGreatDoor
set_option maxRecDepth 100000 in
theorem gramFirsts_row : Rows.GramFirstsSaid :=
  OpenClaim.holds_of_wide 8 Tryz.f8 rfl rfl rfl rfl rfl rfl rfl ⟨rfl, rfl, rfl, rfl, rfl⟩ rfl rfl rfl rfl rfl (by kernel_rfl) Tryz.func8 (by kernel_rfl)
    (of_decide_eq_true (by kernel_rfl)) (by unfold Func.isWrapper; first | (rw [if_pos (by decide +kernel)]; kernel_rfl) | (rw [if_neg (by decide +kernel)]; exact ⟨rfl, rfl⟩))
    (fun os started H enc _ => gramFirsts.lifted first11 lookyes9 leastyes24 os started H enc)
set_option maxRecDepth 100000 in
theorem gramFirsts_card : Rows.GramFirstsCardSaid :=
  Claim7.holds_tied_plain_at .later [] [.data] true Rows.gramFirstsCard.stood.harness true gramFirsts_row (fun _ h => by cases h) (by kernel_rfl) (fun _ h => by cases h) gramFirsts_row_tie rfl ⟨rfl, rfl⟩ (by kernel_rfl) rfl
    (fun f fn hf hfn => by
      obtain rfl : f = 8 := Option.some.inj ((show Tryz.prog.funcNamed Rows.gramFirstsRow.func = some 8 by kernel_rfl).symm.trans hf) |>.symm
      obtain rfl : fn = Tryz.f8 := (Option.some.inj (Tryz.func8.symm.trans hfn)).symm
      exact ⟨by kernel_rfl, fun j t ht => by
        rw [Tryz.params8] at ht
        have hm : t ∈ [26, 3, 27] := by simpa using Array.mem_of_getElem? ht
        have hall : ([26, 3, 27].all fun u => !Tryz.prog.wantsStandIn u) = true := by kernel_rfl
        exact (show Tryz.prog.wantsStandIn t = false by simpa using List.all_eq_true.1 hall t hm)⟩)
    (by kernel_rfl)
end Go.Proofs.YtagohbpbgjelaaaGreatDoor

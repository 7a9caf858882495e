/-
  TokenOwn returns true for every row of tokens and every row of numbers (its row is the given one, with no condition but the variables of the library that it lists, which the card ties to the program's text): rows that were handed in or answered may be written over without turning anything else, and a cursor that no call made tells nothing.
-/
import Derived.Test.YtkckcnjamlpadabDoorV3
import Derived.Test.YtkckcnjamlpadabDoorO3
import Derived.Test.YtkckcnjamlpadabDoorTie
import Derived.Test.YtkckcnjamlpadabDoorCards
import Derived.WalkKit
import Derived.ProofKit
import Derived.OpenShut
import Derived.LaidMore
import Derived.Lay
import Derived.SevenTiedAt
import Derived.ChangeOld
import Derived.ShutString
import Derived.Below
namespace Go.Proofs.YtkckcnjamlpadabDoor.tokenOwn
open Go.ChangeShapes Go.WideShapes Go.ChangeAt Go.RowKit
open Go.ChangeMaps (open_string shut_string)

theorem own : ownKnob Tryd.prog.godebug = none := by kernel_rfl
theorem laidOut : laidOutB Tryd.prog = true := by kernel_rfl

set_option maxRecDepth 100000 in
theorem lifted (os : Os) (started : os.Started) (H : Type) (enc : TypeId × Value → H) :
    ReturnsInHanded {} Tryd.checked os 4 .any (fun w args => (Rows.tokenOwnSpec.pre enc Tryd.prog Tryd.f4 Rows.tokenOwnRow.domain false w args ∧ laidMetH Tryd.prog Rows.tokenOwnRow.laid w) ∧ sizedMet enc Tryd.prog Tryd.f4 (OpenSpec.ofChange Rows.tokenOwnSpec) false w args)
      (Rows.tokenOwnSpec.post enc Tryd.prog Tryd.f4 false true false false) := by
  refine returnsInHanded_of_change_and (C := Tryd.checked) (X := fun w _ => laidMetH Tryd.prog Rows.tokenOwnRow.laid w) (fun _ _ _ hh h => h.of_heap hh) own started (by kernel_rfl) Tryd.func4
    (ChangeSpec.witness_shaped (enc := enc) (C := Tryd.checked) (os := os) (X := fun w _ => laidMetH Tryd.prog Rows.tokenOwnRow.laid w) false (World.laidAll Tryd.prog os Rows.tokenOwnRow.laid) #[.slice none 0 0, .slice none 0 0] 8 (World.laidAll_os _ _ _)
      (World.shaped_of_ZipB (by kernel_rfl) (by kernel_rfl)) (by kernel_rfl) (by kernel_rfl) (by kernel_rfl)
      (by rw [MakeChecks.laidMetH_plain _ _ _ (by kernel_rfl)]; exact laidMet_laidAll _ (by kernel_rfl) (by kernel_rfl))) ?_
  intro W base args ds gs before hval0 hW _ hsz hL _
  have hval : ∀ (j : Nat) t v, Tryd.f4.params[j]? = some t → args[j]? = some v → Value.okWide Tryd.prog W .any base t v := hval0
  have hW' := hW
  obtain ⟨p, q, hA0, hV, rfl, _, _⟩ := hW
  have hA : DataW.TrodAll enc Tryd.prog W 0 (fun _ => true) true Tryd.f4.params.toList args.toList ds p := hA0
  rw [Tryd.params4] at hA hval hsz
  obtain ⟨v0, vs0, d0, ds0, p0, q0, hargs, rfl, rfl, h0, r0⟩ := trodAll_cons hA
  obtain ⟨v1, vs1, d1, ds1, p1, q1, rfl, rfl, rfl, h1, r1⟩ := trodAll_cons r0
  obtain ⟨rfl, rfl, rfl⟩ := trodAll_nil r1
  obtain rfl : args = #[v0, v1] := by cases args; simp_all
  obtain ⟨rfl, rfl⟩ := trodVars_none hV
  have k0 := h0
  have lt0 : ∀ x ∈ p0, x.block < W.heap.size := by obtain ⟨n, hn⟩ := k0; exact DataW.trod_lt n _ _ _ hn
  have k1 := h1
  have lt1 : ∀ x ∈ p1, x.block < W.heap.size := by obtain ⟨n, hn⟩ := k1; exact DataW.trod_lt n _ _ _ hn
  obtain ⟨fu0, hf0⟩ := arg_slice Tryd.underlying22 (hval 0 22 v0 rfl rfl) h0
  obtain ⟨a, ca, l, rfl, hl, hll, hokl⟩ := open_trow hf0 (fun elems spare hd => by
    have := sized_slice hsz (j := 0) (t := 22) (e := 27) (elems := elems) (spare := spare) rfl (by rw [← hd]; rfl) Tryd.underlying22
    rwa [show Tryd.checked.prog.bytesOf 27 = 24 from bytes55] at this)
  obtain ⟨fu1, hf1⟩ := arg_slice Tryd.underlying33 (hval 1 33 v1 rfl rfl) h1
  obtain ⟨b, cb, m, rfl, hm, hlm, hokm⟩ := open_nrow hf1 (fun elems spare hd => by
    have := sized_slice hsz (j := 1) (t := 33) (e := 3) (elems := elems) (spare := spare) rfl (by rw [← hd]; rfl) Tryd.underlying33
    rwa [show Tryd.checked.prog.bytesOf 3 = 8 from bytes3] at this)
  refine (own_walk a b ca cb l m hll hlm (fun j hj => (hokl _ (mem_getDT hj)).1) (fun j hj => hokm _ (mem_getDI hj)) (fun e => by subst e; exact slice_nil hf0) W hl hm (env_of hL)).mono fun e W' ⟨he, bel⟩ => ?_
  subst he
  exact ⟨_, rfl, _, _, _, [], _, [], hW', trodAll_mk1 (shut_bool Tryd.underlying4 _), (trodAll_cons_mk (Below.trod laidOut (by kernel_rfl) (of_decide_eq_true (by kernel_rfl)) k0 bel lt0) (trodAll_cons_mk (Below.trod laidOut (by kernel_rfl) (of_decide_eq_true (by kernel_rfl)) k1 bel lt1) trodAll_mk0)), rfl, bel.frame _, fun h => by cases h⟩
end Go.Proofs.YtkckcnjamlpadabDoor.tokenOwn
namespace Go.Proofs.YtkckcnjamlpadabDoor
theorem tokenOwn_row : Rows.TokenOwnSaid :=
  OpenClaim.holds_of_wide 4 Tryd.f4 rfl rfl rfl rfl rfl rfl rfl ⟨rfl, rfl, rfl, rfl, rfl⟩ rfl rfl rfl rfl rfl (by kernel_rfl) Tryd.func4 (by kernel_rfl)
    (of_decide_eq_true (by kernel_rfl)) (by unfold Func.isWrapper; first | (rw [if_pos (by decide +kernel)]; kernel_rfl) | (rw [if_neg (by decide +kernel)]; exact ⟨rfl, rfl⟩))
    (fun os started H enc _ => tokenOwn.lifted os started H enc)
theorem tokenOwn_card : Rows.TokenOwnCardSaid :=
  Claim7.holds_tied_plain_at .later [] [.data, .data, .data, .data, .sentinel, .sentinel, .pinned] true Rows.tokenOwnCard.stood.harness true tokenOwn_row (fun _ h => by cases h) (by kernel_rfl) (fun _ h => by cases h) tokenOwn_row_tie rfl ⟨rfl, rfl⟩ (by kernel_rfl) rfl
    (fun f fn hf hfn => by
      obtain rfl : f = 4 := Option.some.inj ((show Tryd.prog.funcNamed Rows.tokenOwnRow.func = some 4 by kernel_rfl).symm.trans hf) |>.symm
      obtain rfl : fn = Tryd.f4 := (Option.some.inj (Tryd.func4.symm.trans hfn)).symm
      exact ⟨by kernel_rfl, fun j t ht => by
        rw [Tryd.params4] at ht
        have hm : t ∈ [22, 33] := by simpa using Array.mem_of_getElem? ht
        have hall : ([22, 33].all fun u => !Tryd.prog.wantsStandIn u) = true := by kernel_rfl
        exact (show Tryd.prog.wantsStandIn t = false by simpa using List.all_eq_true.1 hall t hm)⟩)
    (by kernel_rfl)
end Go.Proofs.YtkckcnjamlpadabDoor

/-
  TokenCursors returns true for every row of tokens and every row of steps (its row is the given one, with no condition but the variables of the library that it lists, which the card ties to the program's text): a cursor answers every call, in every order, as the document says.
-/
import Derived.Test.YtkckcnjamlpadaaDoorO3
import Derived.Test.YtkckcnjamlpadaaDoorTie
import Derived.Test.YtkckcnjamlpadaaDoorCards
import Derived.WalkKit
import Derived.ProofKit
import Derived.OpenShut
import Derived.LaidMore
import Derived.Lay
import Derived.SevenTiedAt
import Derived.ChangeOld
import Derived.ShutString
import Derived.Below
namespace Go.Proofs.YtkckcnjamlpadaaDoor.tokenCursors
open Go.ChangeShapes Go.WideShapes Go.ChangeAt Go.RowKit
open Go.ChangeMaps (open_string shut_string)

theorem own : ownKnob Tryd.prog.godebug = none := by kernel_rfl
theorem laidOut : laidOutB Tryd.prog = true := by kernel_rfl

set_option maxRecDepth 100000 in
theorem lifted (os : Os) (started : os.Started) (H : Type) (enc : TypeId × Value → H) :
    ReturnsInHanded {} Tryd.checked os 8 .any (fun w args => (Rows.tokenCursorsSpec.pre enc Tryd.prog Tryd.f8 Rows.tokenCursorsRow.domain false w args ∧ laidMetH Tryd.prog Rows.tokenCursorsRow.laid w) ∧ sizedMet enc Tryd.prog Tryd.f8 (OpenSpec.ofChange Rows.tokenCursorsSpec) false w args)
      (Rows.tokenCursorsSpec.post enc Tryd.prog Tryd.f8 false true false false) := by
  refine returnsInHanded_of_change_and (C := Tryd.checked) (X := fun w _ => laidMetH Tryd.prog Rows.tokenCursorsRow.laid w) (fun _ _ _ hh h => h.of_heap hh) own started (by kernel_rfl) Tryd.func8
    (ChangeSpec.witness_shaped (enc := enc) (C := Tryd.checked) (os := os) (X := fun w _ => laidMetH Tryd.prog Rows.tokenCursorsRow.laid w) false (World.laidAll Tryd.prog os Rows.tokenCursorsRow.laid) #[.slice none 0 0, .slice none 0 0] 8 (World.laidAll_os _ _ _)
      (World.shaped_of_ZipB (by kernel_rfl) (by kernel_rfl)) (by kernel_rfl) (by kernel_rfl) (by kernel_rfl)
      (by rw [MakeChecks.laidMetH_plain _ _ _ (by kernel_rfl)]; exact laidMet_laidAll _ (by kernel_rfl) (by kernel_rfl))) ?_
  intro W base args ds gs before hval0 hW _ hsz hL _
  have hval : ∀ (j : Nat) t v, Tryd.f8.params[j]? = some t → args[j]? = some v → Value.okWide Tryd.prog W .any base t v := hval0
  have hW' := hW
  obtain ⟨p, q, hA0, hV, rfl, _, _⟩ := hW
  have hA : DataW.TrodAll enc Tryd.prog W 0 (fun _ => true) true Tryd.f8.params.toList args.toList ds p := hA0
  rw [Tryd.params8] at hA hval hsz
  obtain ⟨v0, vs0, d0, ds0, p0, q0, hargs, rfl, rfl, h0, r0⟩ := trodAll_cons hA
  obtain ⟨v1, vs1, d1, ds1, p1, q1, rfl, rfl, rfl, h1, r1⟩ := trodAll_cons r0
  obtain ⟨rfl, rfl, rfl⟩ := trodAll_nil r1
  obtain rfl : args = #[v0, v1] := by cases args; simp_all
  obtain ⟨rfl, rfl⟩ := trodVars_none hV
  have k0 := h0
  have lt0 : ∀ x ∈ p0, x.block < W.heap.size := by obtain ⟨n, hn⟩ := k0; exact DataW.trod_lt n _ _ _ hn
  have k1 := h1
  have lt1 : ∀ x ∈ p1, x.block < W.heap.size := by obtain ⟨n, hn⟩ := k1; exact DataW.trod_lt n _ _ _ hn
  obtain ⟨fu0, hf0⟩ := arg_slice Tryd.underlying23 (hval 0 23 v0 rfl rfl) h0
  obtain ⟨a, ca, l, rfl, hl, hll, hokl⟩ := open_trow hf0 (fun elems spare hd => by
    have := sized_slice hsz (j := 0) (t := 23) (e := 55) (elems := elems) (spare := spare) rfl (by rw [← hd]; rfl) Tryd.underlying23
    rwa [show Tryd.checked.prog.bytesOf 55 = 24 from bytes55] at this)
  obtain ⟨fu1, hf1⟩ := arg_slice Tryd.underlying57 (hval 1 57 v1 rfl rfl) h1
  obtain ⟨b, cb, m, rfl, hm, hlm⟩ := open_prow hf1 (fun elems spare hd => by
    have := sized_slice hsz (j := 1) (t := 57) (e := 61) (elems := elems) (spare := spare) rfl (by rw [← hd]; rfl) Tryd.underlying57
    rwa [show Tryd.checked.prog.bytesOf 61 = 16 from bytes61] at this)
  refine (cursors_walk a b ca cb l m hll (fun e => by subst e; exact slice_nil hf0) (by omega) W hl hm (env_of hL)).mono fun e W' ⟨he, bel⟩ => ?_
  subst he
  exact ⟨_, rfl, _, _, _, [], _, [], hW', trodAll_mk1 (shut_bool Tryd.underlying4 _), (trodAll_cons_mk (Below.trod laidOut (by kernel_rfl) (of_decide_eq_true (by kernel_rfl)) k0 bel lt0) (trodAll_cons_mk (Below.trod laidOut (by kernel_rfl) (of_decide_eq_true (by kernel_rfl)) k1 bel lt1) trodAll_mk0)), rfl, bel.frame _, fun h => by cases h⟩
end Go.Proofs.YtkckcnjamlpadaaDoor.tokenCursors
namespace Go.Proofs.YtkckcnjamlpadaaDoor
theorem tokenCursors_row : Rows.TokenCursorsSaid :=
  OpenClaim.holds_of_wide 8 Tryd.f8 rfl rfl rfl rfl rfl rfl rfl ⟨rfl, rfl, rfl, rfl, rfl⟩ rfl rfl rfl rfl rfl (by kernel_rfl) Tryd.func8 (by kernel_rfl)
    (of_decide_eq_true (by kernel_rfl)) (by unfold Func.isWrapper; first | (rw [if_pos (by decide +kernel)]; kernel_rfl) | (rw [if_neg (by decide +kernel)]; exact ⟨rfl, rfl⟩))
    (fun os started H enc _ => tokenCursors.lifted os started H enc)
theorem tokenCursors_card : Rows.TokenCursorsCardSaid :=
  Claim7.holds_tied_plain_at .later [] [.data, .data, .data, .data, .sentinel, .sentinel, .pinned] true Rows.tokenCursorsCard.stood.harness true tokenCursors_row (fun _ h => by cases h) (by kernel_rfl) (fun _ h => by cases h) tokenCursors_row_tie rfl ⟨rfl, rfl⟩ (by kernel_rfl) rfl
    (fun f fn hf hfn => by
      obtain rfl : f = 8 := Option.some.inj ((show Tryd.prog.funcNamed Rows.tokenCursorsRow.func = some 8 by kernel_rfl).symm.trans hf) |>.symm
      obtain rfl : fn = Tryd.f8 := (Option.some.inj (Tryd.func8.symm.trans hfn)).symm
      exact ⟨by kernel_rfl, fun j t ht => by
        rw [Tryd.params8] at ht
        have hm : t ∈ [23, 57] := by simpa using Array.mem_of_getElem? ht
        have hall : ([23, 57].all fun u => !Tryd.prog.wantsStandIn u) = true := by kernel_rfl
        exact (show Tryd.prog.wantsStandIn t = false by simpa using List.all_eq_true.1 hall t hm)⟩)
    (by kernel_rfl)
end Go.Proofs.YtkckcnjamlpadaaDoor

/-
  GramTrims returns true for every grammar (its row is the given one, with no condition but the table that it lists, which the card ties to the program's text): a grammar without what is of no use is as the document says, and its lines.
-/
import Derived.Test.YtagohbpbgjelaaaGreatDoorX3
import Derived.Test.YtagohbpbgjelaaaGreatDoorO2
import Derived.Test.YtagohbpbgjelaaaGreatDoorTie
import Derived.Test.YtagohbpbgjelaaaGreatDoorCards
import Derived.Test.YtagohbpbgjelaaaGreatDoorTA
import Derived.Test.YtagohbpbgjelaaaGreatDoorIK
import Derived.Test.YtagohbpbgjelaaaGreatDoorJE
import Derived.WalkKit
import Derived.ProofKit
import Derived.OpenShut
import Derived.Deep.Slices
import Derived.ChangeOld
import Derived.Below
import Derived.SizedLaws
import Derived.LaidMore
import Derived.Lay
import Derived.SevenTiedAt
namespace Go.Proofs.YtagohbpbgjelaaaGreatDoor.gramTrims
open Go.ChangeShapes Go.WideShapes Go.ChangeAt Go.RowKit

theorem own:ownKnob Tryz.prog.godebug=none:=by kernel_rfl
theorem zq6:laidOutB Tryz.prog=true:=by kernel_rfl
set_option maxRecDepth 100000 in
theorem lifted (hT:zpU 18) (hN:zkU 20) (hLY:zic 9) (hMY:zfH 24) (os:Os) (started:os.Started) (H:Type) (enc:TypeId × Value→H) :
 ReturnsInHanded {} Tryz.checked os 4 .any (fun w args=>(Rows.gramTrimsSpec.pre enc Tryz.prog Tryz.f4 Rows.gramTrimsRow.domain false w args∧laidMetH Tryz.prog Rows.gramTrimsRow.laid w)∧sizedMet enc Tryz.prog Tryz.f4 (OpenSpec.ofChange Rows.gramTrimsSpec) false w args) (Rows.gramTrimsSpec.post enc Tryz.prog Tryz.f4 false true false false):=by
 refine returnsInHanded_of_change_and (C:=Tryz.checked) (X:=fun w _=>laidMetH Tryz.prog Rows.gramTrimsRow.laid w) (fun _ _ _ hh h=>h.of_heap hh) own started (by kernel_rfl) Tryz.func4
  (ChangeSpec.witness_shaped (enc:=enc) (C:=Tryz.checked) (os:=os) (X:=fun w _=>laidMetH Tryz.prog Rows.gramTrimsRow.laid w) false (World.laidAll Tryz.prog os Rows.gramTrimsRow.laid) #[.agg #[.slice none 0 0,.slice none 0 0,.slice none 0 0,.slice none 0 0,.int .i64 0]] 8 (World.laidAll_os _ _ _)
   (World.shaped_of_ZipB (by kernel_rfl) (by kernel_rfl)) (by kernel_rfl) (by kernel_rfl) (by kernel_rfl)
   (by rw[MakeChecks.laidMetH_plain _ _ _ (by kernel_rfl)];exact laidMet_laidAll _ (by kernel_rfl) (by kernel_rfl))) ?_
 intro W base args ds gs before hval0 hW _ hsz hL9 _
 have hval:∀ (j:Nat) t v,Tryz.f4.params[j]? = some t→args[j]? = some v→Value.okWide Tryz.prog W .any base t v:=hval0
 have hW':=hW
 obtain⟨p,q,hA0,hV,rfl,hfz,hnd⟩:=hW
 have hA:DataW.TrodAll enc Tryz.prog W 0 (fun _=>true) true Tryz.f4.params.toList args.toList ds p:=hA0
 rw[Tryz.params4] at hA hval hsz
 obtain⟨v0,vs0,d0,ds0,p0,q0,hargs,rfl,rfl,h0,r0⟩:=trodAll_cons hA
 obtain⟨rfl,rfl,rfl⟩:=trodAll_nil r0
 obtain rfl:args=#[v0]:=Array.toList_inj.1 hargs
 obtain⟨rfl,rfl⟩:=trodVars_none hV
 have k0:=h0
 have lt0:∀ x ∈ p0,x.block<W.heap.size:=by obtain⟨n,hn⟩:=k0;exact DataW.trod_lt n _ _ _ hn
 have htab9 := tab_of (show laidMetH Tryz.prog [("math/bits.deBruijn64tab", Rows.laid_math_bits_deBruijn64tab)] W from hL9)
 obtain⟨G,ka,pa,ra,qa,kc,pc,rc,qc,rfl,hin,hsm,hac,-⟩:=zlj htab9 (hval 0 26 v0 rfl rfl) h0 (zqq hsz (j:=0) rfl rfl)
 refine(zkY hT hN hLY hMY G ka pa ra qa kc pc rc qc W hin hsm hac).mono fun e W' ⟨he,bel⟩=>?_
 subst he
 exact⟨_,rfl,_,_,_,[],_,[],hW',trodAll_mk1 (shut_bool Tryz.underlying4 _),(trodAll_cons_mk (Below.trod zq6 (by kernel_rfl) (of_decide_eq_true (by kernel_rfl)) k0 bel lt0) trodAll_mk0),rfl,bel.frame _,fun h=>by cases h⟩
end Go.Proofs.YtagohbpbgjelaaaGreatDoor.gramTrims
namespace Go.Proofs.YtagohbpbgjelaaaGreatDoor
theorem gramTrims_row:Rows.GramTrimsSaid :=
 OpenClaim.holds_of_wide 4 Tryz.f4 rfl rfl rfl rfl rfl rfl rfl ⟨rfl,rfl,rfl,rfl,rfl⟩ rfl rfl rfl rfl rfl (by kernel_rfl) Tryz.func4 (by kernel_rfl)
  (of_decide_eq_true (by kernel_rfl)) (by unfold Func.isWrapper;first | (rw[if_pos (by decide +kernel)];kernel_rfl) | (rw[if_neg (by decide +kernel)];exact⟨rfl,rfl⟩))
  (fun os started H enc _=>gramTrims.lifted trim18 zq1 zpi zls os started H enc)
theorem gramTrims_card:Rows.GramTrimsCardSaid :=
 Claim7.holds_tied_plain_at .later [] [.data] true Rows.gramTrimsCard.stood.harness true gramTrims_row (fun _ h=>by cases h) (by kernel_rfl) (fun _ h=>by cases h) gramTrims_row_tie rfl ⟨rfl,rfl⟩ (by kernel_rfl) rfl
  (fun f fn hf hfn=>by
   obtain rfl:f=4:=Option.some.inj ((show Tryz.prog.funcNamed Rows.gramTrimsRow.func=some 4 by kernel_rfl).symm.trans hf) |>.symm
   obtain rfl:fn=Tryz.f4:=(Option.some.inj (Tryz.func4.symm.trans hfn)).symm
   exact⟨by kernel_rfl,fun j t ht=>by
    rw[Tryz.params4] at ht
    have hm:t ∈ [26]:=by simpa using Array.mem_of_getElem? ht
    have hall:([26].all fun u=>!Tryz.prog.wantsStandIn u)=true:=by kernel_rfl
    exact(show Tryz.prog.wantsStandIn t=false by simpa using List.all_eq_true.1 hall t hm)⟩)
  (by kernel_rfl)
end Go.Proofs.YtagohbpbgjelaaaGreatDoor

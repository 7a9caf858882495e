/-
  ItemsAgain returns true for every grammar, every row of items and every row of numbers (its row is the given one, with no condition but the table that it lists, which the card ties to the program's text): closing a state again turns nothing, in whatever order its items come, and each item that is closed is there.
-/
import Derived.Test.YtieciibnajeibaaGreatDoorUF
import Derived.Test.YtieciibnajeibaaGreatDoorUW
import Derived.Test.YtieciibnajeibaaGreatDoorJE
import Derived.Test.YtieciibnajeibaaGreatDoorCards
set_option maxHeartbeats 8000000
set_option maxRecDepth 100000
namespace Go.Proofs.YtieciibnajeibaaGreatDoor.itemsAgain
open Go.ChangeShapes Go.WideShapes Go.ChangeAt Go.RowKit
theorem own:ownKnob Tryz.prog.godebug=none:=by kernel_rfl
theorem zlu:laidOutB Tryz.prog=true:=by kernel_rfl
theorem lifted(hLY:zd3 64)(os:Os)(started:os.Started)(H:Type)(enc:TypeId × Value->H) :
 ReturnsInHanded {} Tryz.checked os 6 .any (λw args=>(Rows.itemsAgainSpec.pre enc Tryz.prog Tryz.f6 Rows.itemsAgainRow.domain false w args/\laidMetH Tryz.prog Rows.itemsAgainRow.laid w)/\sizedMet enc Tryz.prog Tryz.f6 (OpenSpec.ofChange Rows.itemsAgainSpec) false w args) (Rows.itemsAgainSpec.post enc Tryz.prog Tryz.f6 false true false false):=by
 refine returnsInHanded_of_change_and (C:=Tryz.checked) (X:=λw _=>laidMetH Tryz.prog Rows.itemsAgainRow.laid w) (λ_ _ _ hh h=>h.of_heap hh) own started (by kernel_rfl) Tryz.func6
  (ChangeSpec.witness_shaped (enc:=enc) (C:=Tryz.checked) (os:=os) (X:=λw _=>laidMetH Tryz.prog Rows.itemsAgainRow.laid w) false (World.laidAll Tryz.prog os Rows.itemsAgainRow.laid) #[.agg #[.slice none 0 0,.slice none 0 0,.slice none 0 0,.slice none 0 0,.int .i64 0],.slice none 0 0,.slice none 0 0] 8 (World.laidAll_os _ _ _)
   (World.shaped_of_ZipB (by kernel_rfl) (by kernel_rfl)) (by kernel_rfl) (by kernel_rfl) (by kernel_rfl)
   (by rw[MakeChecks.laidMetH_plain _ _ _ (by kernel_rfl)];exact laidMet_laidAll _ (by kernel_rfl) (by kernel_rfl))) ?_
 intro W base args ds gs before hval0 hW _ hsz hL9 _;have hval:∀ (j:Nat) t v,Tryz.f6.params[j]? = some t->args[j]? = some v->Value.okWide Tryz.prog W .any base t v:=hval0;have hW':=hW;obtain⟨p,q,hA0,hV,rfl,hfz,hnd⟩:=hW;have hA:DataW.TrodAll enc Tryz.prog W 0 (λ_=>true) true Tryz.f6.params.toList args.toList ds p:=hA0;rw[Tryz.params6] at hA hval hsz;obtain⟨v0,vs0,d0,ds0,p0,q0,hargs,rfl,rfl,h0,r0⟩:=trodAll_cons hA;obtain⟨v1,vs1,d1,ds1,p1,q1,rfl,rfl,rfl,h1,r1⟩:=trodAll_cons r0;obtain⟨v2,vs2,d2,ds2,p2,q2,rfl,rfl,rfl,h2,r2⟩:=trodAll_cons r1;obtain⟨rfl,rfl,rfl⟩:=trodAll_nil r2;obtain rfl:args=#[v0,v1,v2]:=by cases args;simp_all
 obtain⟨rfl,rfl⟩:=trodVars_none hV;have k0:=h0;have lt0:∀ x ∈ p0,x.block<W.heap.size:=by obtain⟨n,hn⟩:=k0;exact DataW.trod_lt n _ _ _ hn
 have k1:=h1;have lt1:∀ x ∈ p1,x.block<W.heap.size:=by obtain⟨n,hn⟩:=k1;exact DataW.trod_lt n _ _ _ hn
 have k2:=h2;have lt2:∀ x ∈ p2,x.block<W.heap.size:=by obtain⟨n,hn⟩:=k2;exact DataW.trod_lt n _ _ _ hn
 have htab9 := tab_of (show laidMetH Tryz.prog [("math/bits.deBruijn64tab", Rows.laid_math_bits_deBruijn64tab)] W from hL9);obtain⟨G,ka,pa,ra,qa,kc,pc,rc,qc,rfl,hin,hsm,-,-⟩:=znI htab9 (hval 0 26 v0 rfl rfl) h0 (zkV hsz (j:=0) rfl rfl);obtain⟨a1,len1,cap1,rfl⟩:=okWide_slice Tryz.underlying27 (hval 1 27 v1 rfl rfl);obtain⟨fuel1,hf1⟩:=h1;obtain⟨ia,icap,l,e1,hirow,hib,hnil⟩:=znJ hf1 (zkV hsz (j:=1) rfl rfl);simp[Value.cells] at e1;obtain⟨rfl,rfl,rfl⟩:=e1;obtain⟨a2,len2,cap2,rfl⟩:=okWide_slice Tryz.underlying50 (hval 2 50 v2 rfl rfl);obtain⟨fuel2,hf2⟩:=h2;obtain⟨ro,rcap,row,e2,hrow,-,hrb⟩:=zjZ hf2 (zkV hsz (j:=2) rfl rfl);simp[Value.cells] at e2;obtain⟨rfl,rfl,rfl⟩:=e2;unfold reachBytes at hrb hib;refine(zoq hLY G ka pa ra qa kc pc rc qc a1 cap1 l (by omega) hnil a2 cap2 row (by omega) W hin hsm htab9 hirow hrow).mono λe W' ⟨he,bel⟩=>?_;subst he;exact⟨_,rfl,_,_,_,[],_,[],hW',trodAll_mk1 (shut_bool Tryz.underlying4 _),(trodAll_cons_mk (Below.trod zlu (by kernel_rfl) (of_decide_eq_true (by kernel_rfl)) k0 bel lt0) (trodAll_cons_mk (Below.trod zlu (by kernel_rfl) (of_decide_eq_true (by kernel_rfl)) k1 bel lt1) (trodAll_cons_mk (Below.trod zlu (by kernel_rfl) (of_decide_eq_true (by kernel_rfl)) k2 bel lt2) trodAll_mk0))),rfl,bel.frame _,λh=>by cases h⟩
end Go.Proofs.YtieciibnajeibaaGreatDoor.itemsAgain
namespace Go.Proofs.YtieciibnajeibaaGreatDoor
theorem zhD:Rows.ItemsAgainSaid :=
 OpenClaim.holds_of_wide 6 Tryz.f6 rfl rfl rfl rfl rfl rfl rfl ⟨rfl,rfl,rfl,rfl,rfl⟩ rfl rfl rfl rfl rfl (by kernel_rfl) Tryz.func6 (by kernel_rfl)
  (of_decide_eq_true (by kernel_rfl)) (by unfold Func.isWrapper;first | (rw[if_pos (by decide +kernel)];kernel_rfl) | (rw[if_neg (by decide +kernel)];exact⟨rfl,rfl⟩))
  (λos started H enc _=>itemsAgain.lifted zth os started H enc)
theorem zqf:Rows.ItemsAgainCardSaid :=
 Claim7.holds_tied_plain_at .later [] [.data] true Rows.itemsAgainCard.stood.harness true zhD (λ_ h=>by cases h) (by kernel_rfl) (λ_ h=>by cases h) itemsAgain_row_tie rfl ⟨rfl,rfl⟩ (by kernel_rfl) rfl
  (λf fn hf hfn=>by
   obtain rfl:f=6:=Option.some.inj ((show Tryz.prog.funcNamed Rows.itemsAgainRow.func=some 6 by kernel_rfl).symm.trans hf) |>.symm
   obtain rfl:fn=Tryz.f6:=(Option.some.inj (Tryz.func6.symm.trans hfn)).symm
   exact⟨by kernel_rfl,λj t ht=>by
    rw[Tryz.params6] at ht;have hm:t ∈ [26,27,50]:=by simpa using Array.mem_of_getElem? ht
    have hall:([26,27,50].all λu=>!Tryz.prog.wantsStandIn u)=true:=by kernel_rfl
    exact(show Tryz.prog.wantsStandIn t=false by simpa using List.all_eq_true.1 hall t hm)⟩)
  (by kernel_rfl)
end Go.Proofs.YtieciibnajeibaaGreatDoor

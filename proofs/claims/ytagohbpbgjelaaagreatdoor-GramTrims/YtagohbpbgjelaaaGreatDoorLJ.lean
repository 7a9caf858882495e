/- The code's only: a grammar of some of its rules and productions. -/
import Derived.Test.YtagohbpbgjelaaaGreatDoorGZ
import Derived.Test.YtagohbpbgjelaaaGreatDoorX2
namespace Go.Proofs.YtagohbpbgjelaaaGreatDoor
open Go.RowKit

theorem zf8 {N:Nat} {W W':World} {own:Option Nat} {p:Pd} {v0 v1 v2 v3 v4 v5 v6:Value} (h:PqO (fun b=>(N≤b∧b<W.heap.size)∧own≠some b) N W p v0 v1 v2 v3 v4 v5 v6) (hb:Below W.heap.size W W'):PqO (fun b=>(N≤b∧b<W'.heap.size)∧own≠some b) N W' p v0 v1 v2 v3 v4 v5 v6 :=
 ⟨h.1,zas h.2.1 hb,h.2.2.1,zeo (fun b h=>⟨⟨h.1.1,by have:=h.1.2;have:=hb.size;omega⟩,h.2⟩) (fun b h=>hb.block b h.1.2) _ _ _ _ _ h.2.2.2⟩
theorem zpT {G:Gm} (hc:za6 G=true) {p:Pd} (hp:p ∈ G.prods):acS p.act:=by
 have h:=(of_decide_eq_true hc)
 obtain⟨i,hi,rfl⟩:=zdN hp
 have h2:=of_decide_eq_true (h.2.2.2.2.2.2.2 i hi)
 exact zqk _ _ 256 (Int.le_refl _) h2.2.2.2.2.2
set_option maxHeartbeats 8000000 in
set_option maxRecDepth 100000 in
theorem zoX (G : Gm) (hc : za6 G = true) (hgs : zcQ G G.start.toNat = true) (ka pa ra qa : Option Addr) (kc pc rc qc gb ob ub M gx mx bb mb : Nat) (w : World) (hM : M ≤ w.heap.size) (hg : GrAt M w G ka kc pa pc ra rc qa qc gb ob ub)
    (hgx:w.cell? ⟨gx,0,none⟩=some (.pointer (some ⟨gb,0,none⟩))) (hmx:w.cell? ⟨mx,0,none⟩=some (.slice (some ⟨bb,0,none⟩) G.rules.length G.rules.length)) (hbb:w.rowIs bb 4 G.rules.length (fun r=>.bool (zcQ G r))) (hmb:w.rowIs mb 4 G.rules.length (fun r=>.bool (zhu G r))) :
    Calls Tryz.prog 59 #[.pointer (some ⟨gb,0,none⟩),.slice (some ⟨mb,0,none⟩) G.rules.length G.rules.length,.func (.func 98) #[] #[.pointer (some ⟨gx,0,none⟩),.pointer (some ⟨mx,0,none⟩)]] w fun e w'=>∃ ka' pa' ra' qa' kc' pc' rc' qc',e=.returned (gV (zbB G) ka' pa' ra' qa' kc' pc' rc' qc')∧(∀ (r:Nat) (W:World),0<r→r<w.heap.size→Fr (· = r) w' W→GIn W.heap.size W (zbB G) ka' pa' ra' qa')∧Below w.heap.size w w':=by
  have hG:=zbS hc
  have hpk:G.precs.length=G.kinds.length:=(of_decide_eq_true hc).2.1
  have hk2:=hG.k2;have hk3:=hG.k3;have hr2:=hG.r2;have hr1:=hG.r1;have hps:=hG.ps;have hst0:=hG.s0;have hst1:=hG.s1
  unfold Gm.nk at hk2 hk3
  unfold Gm.nr at hr2 hr1 hst1
  obtain⟨i9,hi9,hz90,hz91,hz92⟩:=zao znv
  obtain⟨i7,hi7,hz70,hz71,hz72⟩:=zao zqd
  obtain⟨w1,hw1⟩:∃ w1,w1=w.alloc (.cells #[.slice none 0 0,.slice none 0 0,.slice none 0 0,.slice none 0 0,.int .i64 0] 26):=⟨_,rfl⟩
  have hb1:Below w.heap.size w w1:=by rw[hw1];exact(Below.refl _ _).alloc (Nat.le_refl _) _
  have hs1:w1.heap.size=w.heap.size+1:=by rw[hw1];simp
  have hbr:w1.heap[w.heap.size]? = some (.cells #[.slice none 0 0,.slice none 0 0,.slice none 0 0,.slice none 0 0,.int .i64 0] 26):=by rw[hw1];exact Go.Deep.blk_alloc_new _ _
  have hg1:=zaJ hg (zab hb1 hM)
  have HG1:Hid (∀ W,Below w1.heap.size w1 W→GrAt M W G ka kc pa pc ra rc qa qc gb ob ub):=zaa (fun W hW=>zaJ hg1 (zab hW (by omega)))
  have hMM:=zaa (show M≤w1.heap.size by omega)
  have HS:Hid (∀ W:World,Below w1.heap.size w1 W→W.cell? ⟨gb,0,none⟩=some (.slice ka G.kinds.length kc)∧W.cell? ⟨gb,1,none⟩=some (.slice pa G.precs.length pc)):=zaa (fun W hW=>by
    have h:=(uh HG1 W hW).box
    exact⟨by unfold World.cell?;rw[h];rfl,by unfold World.cell?;rw[h];rfl⟩)
  have HWd:=zaa (fun(W:World) (hW:Below w1.heap.size w1 W)=>zlT ka kc G.kinds (by omega) W (by
    have h:=(uh HG1 W hW).gin.kinds
    rcases h with h | ⟨b,off,h1,h2,h3⟩
    · exact .inl h
    · exact .inr ⟨b,off,h1,by have:=hW.size;have:=uh hMM;omega,h3⟩))
  have HPn:=zaa (fun(W:World) (hW:Below w1.heap.size w1 W)=>zng (uh HG1 W hW).gin.precs)
  have hS:Below w1.heap.size w1 w1.drew:=(Below.refl _ _).drew
  have hpl:G.precs.length≤1024:=by omega
  have Hb1:=zaa hb1;have HG:=zaa hG;have Hcc:=zaa hc;have Hbr:=zaa hbr;have Hs1:=zaa hs1;have Hgs:=zaa hgs;have Hpk:=zaa hpk
  have Hgx:=zaa hgx;have Hmx:=zaa hmx;have Hbb:=zaa hbb;have Hmb:=zaa (zaw hmb hb1)
  have hw1':=zaa hw1;have Hg0:=zaa hg
  clear hw1 hb1 hbr hs1 hg1 hg hgx hmx hbb hmb hG hc hgs hpk
  go_enter Tryz.func59,Tryz.ntmps59
  go_wp2_with fail
  rw[← uh hw1']
  clear hw1'
  go_cut [7] (fun v wx=>∃ tb a0 c0 a1 c1,v=.pointer (some ⟨tb,0,none⟩)∧w1.heap.size≤tb∧wx.heap[tb]? = some (.cells #[.slice a0 G.kinds.length c0,.slice a1 G.precs.length c1,.slice none 0 0,.slice none 0 0,.int .i64 0] 26)∧wx.ownsRow w1.heap.size 9 1 (.slice a0 G.kinds.length c0) G.kinds.length (zaY G.kinds)∧wx.ownsRow w1.heap.size 98 2 (.slice a1 G.precs.length c1) G.precs.length (zaH G.precs)∧Below w1.heap.size w1 wx)
  case first =>
    refine wp_region_held_drew (S:=fun W:World=>W.cell? ⟨gb,0,none⟩=some (.slice ka G.kinds.length kc)∧W.cell? ⟨gb,1,none⟩=some (.slice pa G.precs.length pc)) (by kernel_rfl) (uh HS _ hS) (fun hH_=>?_)
    refine zac (i:=0) (dst:=some 13) (v:=?_) rfl rfl (by kernel_rfl) (by kernel_rfl) (by kernel_rfl) (fun _ _ _ h=>h) (Or.inl ⟨by rfl,?_⟩) hH_ ?_
    rotate_left
    · intro w hSw;obtain⟨k0,k1⟩:=hSw;go_simp;try (with_reducible rfl)
    simp only[Act.put,zsA,zsB,zsC]
    refine zac (i:=1) (dst:=some 14) (v:=?_) rfl rfl (by kernel_rfl) (by kernel_rfl) (by kernel_rfl) (fun _ _ _ h=>h) (Or.inl ⟨by rfl,?_⟩) hH_ ?_
    rotate_left
    · intro w hSw;obtain⟨k0,k1⟩:=hSw;go_simp;try (with_reducible rfl)
    simp only[Act.put,zsA,zsB,zsC]
    refine zac (i:=2) (dst:=some 15) (v:=?_) rfl rfl (by kernel_rfl) (by kernel_rfl) (by kernel_rfl) (fun _ _ _ h=>h) (Or.inl ⟨by rfl,?_⟩) hH_ ?_
    rotate_left
    · intro w hSw;obtain⟨k0,k1⟩:=hSw;go_simp;try (with_reducible rfl)
    simp only[Act.put,zsA,zsB,zsC]
    refine zac (i:=3) (dst:=some 16) (v:=?_) rfl rfl (by kernel_rfl) (by kernel_rfl) (by kernel_rfl) (fun _ _ _ h=>h) (Or.inl ⟨by rfl,?_⟩) hH_ ?_
    rotate_left
    · intro w hSw;obtain⟨k0,k1⟩:=hSw;go_simp;try (with_reducible rfl)
    simp only[Act.put,zsA,zsB,zsC]
    refine zac (i:=4) (dst:=some 17) (v:=?_) rfl rfl (by kernel_rfl) (by kernel_rfl) (by kernel_rfl) (fun _ _ _ h=>h) (Or.inl ⟨by rfl,?_⟩) hH_ ?_
    rotate_left
    · intro w hSw;obtain⟨k0,k1⟩:=hSw;go_simp;try (with_reducible rfl)
    simp only[Act.put,zsA,zsB,zsC]
    refine zac (i:=6) (dst:=some 19) (v:=?_) rfl rfl (by kernel_rfl) (by kernel_rfl) (by kernel_rfl) (fun _ _ _ h=>h) (Or.inl ⟨by rfl,?_⟩) hH_ ?_
    rotate_left
    · intro w hSw;obtain⟨k0,k1⟩:=hSw;go_simp;try (with_reducible rfl)
    simp only[Act.put,zsA,zsB,zsC]
    refine zac (i:=7) (dst:=some 20) (v:=?_) rfl rfl (by kernel_rfl) (by kernel_rfl) (by kernel_rfl) (fun _ _ _ h=>h) (Or.inl ⟨by rfl,?_⟩) hH_ ?_
    rotate_left
    · intro w hSw;obtain⟨k0,k1⟩:=hSw;go_simp;try (with_reducible rfl)
    simp only[Act.put,zsA,zsB,zsC]
    refine zac (i:=8) (dst:=some 21) (v:=?_) rfl rfl (by kernel_rfl) (by kernel_rfl) (by kernel_rfl) (fun _ _ _ h=>h) (Or.inl ⟨by rfl,?_⟩) hH_ ?_
    rotate_left
    · intro w hSw;obtain⟨k0,k1⟩:=hSw;go_simp;try (with_reducible rfl)
    simp only[Act.put,zsA,zsB,zsC]
    refine zac (i:=9) (dst:=some 22) (v:=?_) rfl rfl (by kernel_rfl) (by kernel_rfl) (by kernel_rfl) (fun _ _ _ h=>h) (Or.inl ⟨by rfl,?_⟩) hH_ ?_
    rotate_left
    · intro w hSw;obtain⟨k0,k1⟩:=hSw;go_simp;try (with_reducible rfl)
    simp only[Act.put,zsA,zsB,zsC]
    refine zac (i:=10) (dst:=some 23) (v:=?_) rfl rfl (by kernel_rfl) (by kernel_rfl) (by kernel_rfl) (fun _ _ _ h=>h) (Or.inl ⟨by rfl,?_⟩) hH_ ?_
    rotate_left
    · intro w hSw;obtain⟨k0,k1⟩:=hSw;go_simp;try (with_reducible rfl)
    simp only[Act.put,zsA,zsB,zsC]
    refine wpAnyH_ready (rs:=[5,13]) (by kernel_rfl) (by simp) ?_
    refine AllReadyH.cons rfl (fun K hK=>?_) (AllReadyH.cons rfl (fun K hK=>?_) AllReadyH.nil)
    · skip
      go_simp
      go_at_call 101
      refine(uh HWd _ hS).mono ?_
      rintro e V2 ⟨v0,rfl,k0,hb2⟩
      have k0:=zaK k0 hS.size
      replace hS:=hS.trans (zab hb2 hS.size)
      obtain⟨a0,c0,rfl⟩:=zad k0
      clear hb2
      go_wp2_with fail
      refine hK.out _ _ (uh HS _ hS) (fun hH_=>?_)
      clear hK K
      refine wpAnyH_ready (rs:=[11,13]) (by kernel_rfl) (by simp) ?_
      refine AllReadyH.cons rfl (fun K hK=>?_) (AllReadyH.cons rfl (fun K hK=>?_) AllReadyH.nil)
      · skip
        refine zcH rfl (.const (.slice none 0 0)) (.tmp 23) 23 rfl w1.heap.size 98 i7 (.agg #[.int .i64 0,.int .i64 0]) 2 16 Tryz.underlying23 hi7 hz70 hz71 hz72 rfl (by decide) (.slice none 0 0) 0 [] (by simp[Act.eval]) (World.ownsRow_nil _ _ _ _) pa G.precs.length pc (zaH G.precs) (by simp[Act.eval]) (by rw[zaE]) (uh HPn _ hS) (zaM _) (by unfold maxLen;omega) (by omega) hS.size ?_
        intro v1 W7 ho hg
        have k0:=zat k0 (World.ownsRow_nil _ w1.heap.size 98 2) hg (by decide)
        replace hS:=hS.grown hg hS.size (fun j hj=>by simp[Value.ownBlock] at hj)
        have k1:W7.ownsRow w1.heap.size 98 2 v1 G.precs.length (zaH G.precs):=by simpa using ho
        obtain⟨a1,c1,rfl⟩:=zad k1
        clear ho hg
        go_simp
        refine hK.out _ _ (uh HS _ hS) (fun hH_=>?_)
        clear hK K
        refine zac (i:=12) (dst:=some 25) (v:=?_) rfl rfl (by kernel_rfl) (by kernel_rfl) (by kernel_rfl) (fun _ _ _ h=>h) (Or.inl ⟨by rfl,?_⟩) hH_ ?_
        rotate_left
        · intro w hSw;obtain⟨k0,k1⟩:=hSw;go_simp;try (with_reducible rfl)
        simp only[Act.put,zsA,zsB,zsC]
        refine wpAnyH_ready (rs:=[13]) (by kernel_rfl) (by simp) ?_
        refine AllReadyH.cons rfl (fun K hK=>?_) AllReadyH.nil
        go_simp
        have hbt:=hS.size
        refine hK.out _ _ (uh HS _ (hS.alloc hS.size _)) (fun hH_=>?_)
        clear hK K
        refine wpAnyH_ready (rs:=[14]) (by kernel_rfl) (by simp) ?_
        refine AllReadyH.cons rfl (fun K hK=>?_) AllReadyH.nil
        go_simp
        refine hK.out _ _ (uh HS _ (hS.alloc hS.size _)) (fun hH_=>?_)
        clear hK K
        refine wpAnyH_done (by kernel_rfl) ?_ _
        go_wp2_with fail
        go_meet
        exact⟨_,_,_,_,_,rfl,hbt,Go.Deep.blk_alloc_new _ _,k0.alloc _,k1.alloc _,hS.alloc hS.size _⟩
      · skip
        go_simp
        have hbt:=hS.size
        have bx:=zcP hS (.cells #[.slice none 0 0,.slice none 0 0,.slice none 0 0,.slice none 0 0,.int .i64 0] 26)
        try simp only[zbZ] at bx hbt
        try simp only[zcG] at bx hbt
        have k0:=k0.alloc (.cells #[.slice none 0 0,.slice none 0 0,.slice none 0 0,.slice none 0 0,.int .i64 0] 26)
        have hS:=hS.alloc hS.size (.cells #[.slice none 0 0,.slice none 0 0,.slice none 0 0,.slice none 0 0,.int .i64 0] 26)
        refine hK.out _ _ (uh HS _ hS) (fun hH_=>?_)
        clear hK K
        refine wpAnyH_ready (rs:=[11]) (by kernel_rfl) (by simp) ?_
        refine AllReadyH.cons rfl (fun K hK=>?_) AllReadyH.nil
        refine zcH rfl (.const (.slice none 0 0)) (.tmp 23) 23 rfl w1.heap.size 98 i7 (.agg #[.int .i64 0,.int .i64 0]) 2 16 Tryz.underlying23 hi7 hz70 hz71 hz72 rfl (by decide) (.slice none 0 0) 0 [] (by simp[Act.eval]) (World.ownsRow_nil _ _ _ _) pa G.precs.length pc (zaH G.precs) (by simp[Act.eval]) (by rw[zaE]) (uh HPn _ hS) (zaM _) (by unfold maxLen;omega) (by omega) hS.size ?_
        intro v1 W7 ho hg
        have k0:=zat k0 (World.ownsRow_nil _ w1.heap.size 98 2) hg (by decide)
        have bx:=zaD bx (World.ownsRow_nil _ w1.heap.size 98 2) hg (by decide)
        replace hS:=hS.grown hg hS.size (fun j hj=>by simp[Value.ownBlock] at hj)
        have k1:W7.ownsRow w1.heap.size 98 2 v1 G.precs.length (zaH G.precs):=by simpa using ho
        obtain⟨a1,c1,rfl⟩:=zad k1
        clear ho hg
        go_simp
        refine hK.out _ _ (uh HS _ hS) (fun hH_=>?_)
        clear hK K
        refine zac (i:=12) (dst:=some 25) (v:=?_) rfl rfl (by kernel_rfl) (by kernel_rfl) (by kernel_rfl) (fun _ _ _ h=>h) (Or.inl ⟨by rfl,?_⟩) hH_ ?_
        rotate_left
        · intro w hSw;obtain⟨k0,k1⟩:=hSw;go_simp;try (with_reducible rfl)
        simp only[Act.put,zsA,zsB,zsC]
        refine wpAnyH_ready (rs:=[14]) (by kernel_rfl) (by simp) ?_
        refine AllReadyH.cons rfl (fun K hK=>?_) AllReadyH.nil
        obtain⟨r0,r1,r2,r3,r4,z0,z1,z2,z3,z4⟩:=zae bx
        have hsix:=zgJ bx (.slice a0 G.kinds.length c0) (.slice a1 G.precs.length c1) (.slice none 0 0) (.slice none 0 0) (.int .i64 0)
        replace hS:=hS.trans (zah hsix.2 hS.size (fun j hj=>by have hj:j=_:=hj;rw[hj];exact hbt))
        go_simp
        refine hK.out _ _ (uh HS _ hS) (fun hH_=>?_)
        clear hK K
        refine wpAnyH_done (by kernel_rfl) ?_ _
        go_wp2_with fail
        go_meet
        exact⟨_,_,_,_,_,rfl,hbt,hsix.1,zaV k0 bx hsix.2 (by decide),zaV k1 bx hsix.2 (by decide),hS⟩
    · skip
      go_simp
      have hbt:=hS.size
      have bx:=zcP hS (.cells #[.slice none 0 0,.slice none 0 0,.slice none 0 0,.slice none 0 0,.int .i64 0] 26)
      try simp only[zbZ] at bx hbt
      try simp only[zcG] at bx hbt
      have hS:=hS.alloc hS.size (.cells #[.slice none 0 0,.slice none 0 0,.slice none 0 0,.slice none 0 0,.int .i64 0] 26)
      refine hK.out _ _ (uh HS _ hS) (fun hH_=>?_)
      clear hK K
      refine wpAnyH_ready (rs:=[5]) (by kernel_rfl) (by simp) ?_
      refine AllReadyH.cons rfl (fun K hK=>?_) AllReadyH.nil
      go_simp
      go_at_call 101
      refine(uh HWd _ hS).mono ?_
      rintro e V2 ⟨v0,rfl,k0,hb2⟩
      have k0:=zaK k0 hS.size
      have bx:=(hb2.block _ (Array.getElem?_eq_some_iff.1 bx).1).trans bx
      replace hS:=hS.trans (zab hb2 hS.size)
      obtain⟨a0,c0,rfl⟩:=zad k0
      clear hb2
      go_wp2_with fail
      refine hK.out _ _ (uh HS _ hS) (fun hH_=>?_)
      clear hK K
      refine wpAnyH_ready (rs:=[11]) (by kernel_rfl) (by simp) ?_
      refine AllReadyH.cons rfl (fun K hK=>?_) AllReadyH.nil
      refine zcH rfl (.const (.slice none 0 0)) (.tmp 23) 23 rfl w1.heap.size 98 i7 (.agg #[.int .i64 0,.int .i64 0]) 2 16 Tryz.underlying23 hi7 hz70 hz71 hz72 rfl (by decide) (.slice none 0 0) 0 [] (by simp[Act.eval]) (World.ownsRow_nil _ _ _ _) pa G.precs.length pc (zaH G.precs) (by simp[Act.eval]) (by rw[zaE]) (uh HPn _ hS) (zaM _) (by unfold maxLen;omega) (by omega) hS.size ?_
      intro v1 W7 ho hg
      have k0:=zat k0 (World.ownsRow_nil _ w1.heap.size 98 2) hg (by decide)
      have bx:=zaD bx (World.ownsRow_nil _ w1.heap.size 98 2) hg (by decide)
      replace hS:=hS.grown hg hS.size (fun j hj=>by simp[Value.ownBlock] at hj)
      have k1:W7.ownsRow w1.heap.size 98 2 v1 G.precs.length (zaH G.precs):=by simpa using ho
      obtain⟨a1,c1,rfl⟩:=zad k1
      clear ho hg
      go_simp
      refine hK.out _ _ (uh HS _ hS) (fun hH_=>?_)
      clear hK K
      refine zac (i:=12) (dst:=some 25) (v:=?_) rfl rfl (by kernel_rfl) (by kernel_rfl) (by kernel_rfl) (fun _ _ _ h=>h) (Or.inl ⟨by rfl,?_⟩) hH_ ?_
      rotate_left
      · intro w hSw;obtain⟨k0,k1⟩:=hSw;go_simp;try (with_reducible rfl)
      simp only[Act.put,zsA,zsB,zsC]
      refine wpAnyH_ready (rs:=[14]) (by kernel_rfl) (by simp) ?_
      refine AllReadyH.cons rfl (fun K hK=>?_) AllReadyH.nil
      obtain⟨r0,r1,r2,r3,r4,z0,z1,z2,z3,z4⟩:=zae bx
      have hsix:=zgJ bx (.slice a0 G.kinds.length c0) (.slice a1 G.precs.length c1) (.slice none 0 0) (.slice none 0 0) (.int .i64 0)
      replace hS:=hS.trans (zah hsix.2 hS.size (fun j hj=>by have hj:j=_:=hj;rw[hj];exact hbt))
      go_simp
      refine hK.out _ _ (uh HS _ hS) (fun hH_=>?_)
      clear hK K
      refine wpAnyH_done (by kernel_rfl) ?_ _
      go_wp2_with fail
      go_meet
      exact⟨_,_,_,_,_,rfl,hbt,hsix.1,zaV k0 bx hsix.2 (by decide),zaV k1 bx hsix.2 (by decide),hS⟩
  case rest =>
    obtain⟨tb,a0,c0,a1,c1,rfl,htb,hbx,hk0,hk1,hbc⟩:=hcut
    have hsc:=hbc.size
    have hgc:=uh HG1 wc hbc
    have e2:wc.cell? ⟨gb,2,none⟩=some (.slice ra G.rules.length rc):=by unfold World.cell?;rw[hgc.box];rfl
    have htbl:=(Array.getElem?_eq_some_iff.1 hbx).1
    have hmk:=fun w=>run_make_row' (P:=Tryz.prog) 27 3 (.int .i64 0) 8 Tryz.underlying27 zc0 rfl .i64 .i64 G.rules.length (by omega) (by omega) w
    obtain⟨w5,hw5⟩:∃ w5,w5=wc.alloc (.cells (madeCells #[.int .i64 0] G.rules.length) 3):=⟨_,rfl⟩
    have hr5:=World.rowIs_made wc (.int .i64 0) G.rules.length 3
    have hb5:Below wc.heap.size wc w5:=by rw[hw5];exact(Below.refl _ _).alloc (Nat.le_refl _) _
    have hs5:w5.heap.size=wc.heap.size+1:=by rw[hw5];simp
    rw[← hw5] at hr5
    have Hr5:=zaa hr5;have Hbx5:=zaa (zaP hbx hb5)
    have HK01:Hid (∀ W,Fr (fun j=>j=tb∨j=wc.heap.size) w5 W→W.ownsRow w1.heap.size 9 1 (.slice a0 G.kinds.length c0) G.kinds.length (zaY G.kinds)∧W.ownsRow w1.heap.size 98 2 (.slice a1 G.precs.length c1) G.precs.length (zaH G.precs)):=zaa (fun W hf=>⟨zhz hk0 hbx (by decide) hb5 hf (Nat.le_refl _),zhz hk1 hbx (by decide) hb5 hf (Nat.le_refl _)⟩)
    have HW:Hid (∀ W,Fr (fun j=>j=tb∨j=wc.heap.size) w5 W→Below w1.heap.size w1 W):=zaa (fun W hf=>(hbc.trans (zab hb5 hsc)).trans (zah hf (by omega) (fun j hj=>by rcases hj with rfl | rfl <;> omega)))
    have e2':=(hb5.cell (p:=⟨gb,2,none⟩) (World.block_lt_of_cell? wc _ e2)).trans e2
    rw[hw5] at e2'
    clear hbx hk0 hk1 hbc hgc HS HPn HWd hS hr5 hb5
    go_wp2
    rw[← hw5]
    clear hmk hw5 e2 e2'
    have Hs5:=zaa hs5
    clear hs5
    have hnb:wc.heap.size<w5.heap.size:=by have:=uh Hs5;omega
    generalize wc.heap.size=nb at *
    go_loopw [39] (fun x W=>∃ (k:Nat) (rv:Value),x=.int .i64 k∧k≤G.rules.length∧Fr (fun j=>j=tb∨j=nb) w5 W∧W.heap[tb]? = some (.cells #[.slice a0 G.kinds.length c0,.slice a1 G.precs.length c1,rv,.slice none 0 0,.int .i64 0] 26)∧W.rowIs nb 3 G.rules.length (fun r=>.int .i64 (if r<k then(zaZ G r:Int) else 0))∧W.ownsRow w5.heap.size 9 1 rv (zap G k).length (zaY (zap G k))) (fun x _=>G.rules.length - (intOf x).toNat)
    case atStart=>exact⟨0,_,rfl,Nat.zero_le _,zav _ _,uh Hbx5,(uh Hr5).congr (fun j _=>by simp),World.ownsRow_nil _ _ _ _⟩
    case round =>
      obtain⟨k,rv,rfl,hk,hF,bx,nrw,ow⟩:=hrel
      have hbW:=uh HW wr hF
      have hgr:=uh HG1 wr hbW
      obtain⟨ua,uc,rfl⟩:=zad ow
      by_cases hlt:k<G.rules.length
      · have hlt':(k:Int)<G.rules.length:=by omega
        obtain⟨rb,ro,hra,hrbB,cr⟩:=zcb hgr.gin.rules hlt
        have ca:wr.cell? ⟨mb,k,none⟩=some (.bool (zhu G k)):=(zaw (uh Hmb) hbW).cell hlt
        have Hrt0:Hid (zap G (k+1)=zap G k ++ if zgj G k then[G.rules.getD k []] else[]):=zaa rfl
        have Hkp:=zaa (zpr (uh Hgs) k)
        have Hcg0:Hid (∀ j,j<G.rules.length→j≠k→(if j<k then(zaZ G j:Int) else 0)=if j<k+1 then(zaZ G j:Int) else 0):=zaa (fun j _ hne=>by
          by_cases h:j<k
          · rw[if_pos h,if_pos (by omega)]
          · rw[if_neg h,if_neg (by omega)])
        have hrl:=zdb G k
        clear hgr
        cases ha:zhu G k
        · rw [ha] at ca Hkp
          have hkp:zgj G k=false:=uh Hkp
          have Hs1:Hid (zap G (k+1)=zap G k):=zaa (by rw[uh Hrt0,hkp];simp)
          have Hs2:Hid (wr.rowIs nb 3 G.rules.length (fun r=>.int .i64 (if r<k+1 then(zaZ G r:Int) else 0))):=zaa (nrw.congr (fun j hj=>by
            by_cases e:j=k
            · subst e
              rw[if_neg (by omega),if_pos (by omega)]
              unfold zaZ
              rw[hkp]
              rfl
            · rw[uh Hcg0 j hj e]))
          have HF:=zaa hF;have Hbx:=zaa bx;have How:=zaa ow
          clear ha hF bx ow nrw hkp hbW
          subst hra
          generalize zap G k=RT at *
          go_wp2
          go_roundw
          case rel=>exact⟨k+1,_,by go_num,by omega,uh HF,uh Hbx,uh Hs2,by rw[uh Hs1];exact uh How⟩
          case measure=>simp[intOf];omega
        · rw [ha] at ca Hkp
          have hkp:zgj G k=true:=uh Hkp
          have Hrt:Hid (zap G (k+1)=zap G k ++ [G.rules.getD k []]):=zaa (by rw[uh Hrt0,hkp];rfl)
          have Hnm:Hid ((zaZ G k:Int)=((zap G k).length:Int)):=zaa (by unfold zaZ;rw[hkp];rfl)
          have fo:=nrw.frozen k
          have cn:=nrw.cell hlt
          obtain⟨r0,r1,r2,r3,r4,z0,z1,z2,z3,z4⟩:=zae bx
          subst hra
          generalize G.rules.getD k []=rn at *
          generalize hRT:zap G k=RT at *
          obtain⟨Wa,hWa⟩:∃ Wa,Wa=wr.setCell ⟨nb,k,none⟩ (.int .i64 (RT.length:Int)):=⟨_,rfl⟩
          have frA:Fr (· = nb) wr Wa:=by rw[hWa];exact zaz (zav _ _) (by rfl) _
          have hFa:Fr (fun j=>j=tb∨j=nb) w5 Wa:=zfr hF (zbE frA (fun _ _ h=>.inr h))
          have bxa:Wa.heap[tb]? = some (.cells #[.slice a0 G.kinds.length c0,.slice a1 G.precs.length c1,.slice ua RT.length uc,.slice none 0 0,.int .i64 0] 26):=(frA.2.1 tb (Array.getElem?_eq_some_iff.1 bx).1 (fun e=>by have e:tb=nb:=e;omega)).trans bx
          have nrwa:=nrw.set k (.int .i64 (RT.length:Int))
          rw[← hWa] at nrwa
          have owa:Wa.ownsRow w5.heap.size 9 1 (.slice ua RT.length uc) RT.length (zaY RT):=zbA ow frA (by omega)
          have Hcg:Hid (∀ j,j<G.rules.length→(if j=k then Value.int .i64 (RT.length:Int) else Value.int .i64 (if j<k then(zaZ G j:Int) else 0))=Value.int .i64 (if j<k+1 then(zaZ G j:Int) else 0)):=zaa (fun j hj=>by
            by_cases e:j=k
            · subst e
              rw[if_pos rfl,if_pos (by omega),uh Hnm]
            · rw[if_neg e,uh Hcg0 j hj e])
          have hsa:=hFa.1
          obtain⟨y0,y1,y2,y3,y4,-⟩:=zae bxa
          rw[hWa] at y0 y1 y2 y3 y4
          have HFa:=zaa hFa;have Hbxa:=zaa bxa;have Hnrwa:=zaa nrwa;have Howa:=zaa owa;have HWa:=zaa hWa
          clear hF bx ow nrw hkp hbW hFa bxa nrwa owa frA ha hRT
          rw[hWa] at hsa
          clear hWa
          go_wp2_with (at_builtin;refine wpList_append_own _ rfl _ _ 22 rfl w5.heap.size 9 i9 (.string ⟨#[]⟩) 1 16 Tryz.underlying22 hi9 hz90 hz91 hz92 rfl (by decide) _ _ _ rfl (((uh HWa)▸uh Howa).alloc _) ⟨wr.heap.size,0,none⟩ 1 1 [.string (bs rn)] rfl rfl ?zc1 ?zc2 ?zc3 ?zc4 ?zc5 ?_)
          case zc1=>exact fun j u hu=>zcK (by have h:=Go.Deep.blk_alloc_new (wr.setCell ⟨nb,k,none⟩ (.int .i64 (RT.length:Int))) (.cells #[.string (bs rn)] 9);rw[show (wr.setCell ⟨nb,k,none⟩ (.int .i64 (RT.length:Int))).heap.size=wr.heap.size by simp] at h;exact h) hu
          case zc2=>intro u hu;simp at hu;rcases hu with rfl;rfl
          case zc3=>unfold maxLen;omega
          case zc4=>omega
          case zc5=>simp;simp at hsa;omega
          intro v6 W6 ho6 hg6 _
          rw[← uh HWa] at hg6
          have c9:=(uh Howa).alloc (.cells #[.string (bs rn)] 9)
          have bx6:=zaD (zaS (uh Hbxa) (.cells #[.string (bs rn)] 9)) c9 hg6 (by decide)
          have nrw6:=zgc ((uh Hnrwa).alloc (.cells #[.string (bs rn)] 9)) c9 hg6 (by decide)
          have hF6:=zb4 (zbR (uh HFa) (.cells #[.string (bs rn)] 9)) hg6 (fun j hj=>(c9.lt j hj).1)
          have ow6:W6.ownsRow w5.heap.size 9 1 v6 (zap G (k+1)).length (zaY (zap G (k+1))):=by rw[uh Hrt,← zc9,List.length_append];exact ho6
          obtain⟨va,vc,rfl⟩:=zad ow6
          obtain⟨x0,x1,x2,x3,x4,f0,f1,f2,f3,f4⟩:=zae bx6
          have bx7:_:=zaI (i:=2) bx6 (.slice va (zap G (k+1)).length vc)
          have fr7:Fr (· = tb) W6 (W6.setCell ⟨tb,2,none⟩ (.slice va (zap G (k+1)).length vc)):=zaz (zav _ _) (by rfl) _
          have ow7:=zaV ow6 bx6 fr7 (by decide)
          have nrw7:=zfp nrw6 fr7 (zfZ bx6 nrw6 (by decide))
          have hF7:=zfr hF6 (zbE fr7 (fun _ _ h=>.inl h))
          have Hbx7:=zaa bx7;have How7:=zaa ow7;have Hnrw7:=zaa nrw7;have HF7:=zaa hF7
          clear ho6 hg6 c9 bx6 nrw6 hF6 ow6 bx7 fr7 ow7 nrw7 hF7
          go_wp2
          go_roundw
          case rel=>exact⟨k+1,_,by go_num,by omega,uh HF7,uh Hbx7,(uh Hnrw7).congr (fun j hj=>uh Hcg j hj),uh How7⟩
          case measure=>simp[intOf];omega
      · obtain rfl:k=G.rules.length:=by omega
        obtain⟨st,hst⟩:∃ st:Nat,G.start=(st:Int):=⟨G.start.toNat,by omega⟩
        have hst':st<G.rules.length:=by omega
        have hst'':(st:Int)<G.rules.length:=by omega
        have Hse:=zaa hst
        have cst:=nrw.cell hst'
        rw[if_pos hst'] at cst
        have hgr:=uh HG1 wr hbW
        have e4:wr.cell? ⟨gb,4,none⟩=some (.int .i64 (st:Int)):=by rw[← hst];unfold World.cell?;rw[hgr.box];rfl
        have e3:wr.cell? ⟨gb,3,none⟩=some (.slice qa G.prods.length qc):=by unfold World.cell?;rw[hgr.box];rfl
        obtain⟨r0,r1,r2,r3,r4,z0,z1,z2,z3,z4⟩:=zae bx
        obtain⟨w9,hw9⟩:∃ w9,w9=wr.setCell ⟨tb,4,none⟩ (.int .i64 (zaZ G st:Int)):=⟨_,rfl⟩
        have fr9:Fr (· = tb) wr w9:=by rw[hw9];exact zaz (zav _ _) (by rfl) _
        have bx9:w9.heap[tb]? = some (.cells #[.slice a0 G.kinds.length c0,.slice a1 G.precs.length c1,.slice ua (zap G G.rules.length).length uc,.slice none 0 0,.int .i64 (zaZ G st:Int)] 26):=by rw[hw9];exact zaI (i:=4) bx _
        have ow9:=zaV ow bx fr9 (by decide)
        have nrw9:=(zfp nrw fr9 (zfZ bx nrw (by decide))).congr (g:=fun r=>.int .i64 (zaZ G r:Int)) (fun j hj=>by rw[if_pos hj])
        have hF9:=zfr hF (zbE fr9 (fun _ _ h=>.inl h))
        have HW9:Hid (∀ W,Fr (· = tb) w9 W→Fr (fun j=>j=tb∨j=nb) w5 W∧Below w1.heap.size w1 W∧W.rowIs nb 3 G.rules.length (fun r=>.int .i64 (zaZ G r:Int))):=zaa (fun W hf=>by
          have h1:=zfr hF9 (zbE hf (fun _ _ h=>.inl h))
          exact⟨h1,uh HW W h1,zfp nrw9 hf (zfZ bx9 nrw9 (by decide))⟩)
        have hs9:=fr9.1
        have hsF:=hF.1
        have hgb9:w9.cell? ⟨gb,3,none⟩=some (.slice qa G.prods.length qc):=by
          have h:=uh HG1 w9 (uh HW w9 hF9)
          unfold World.cell?;rw[h.box];rfl
        rw[hw9] at hgb9
        have Hbx9:=zaa bx9;have How9:=zaa ow9
        obtain⟨i71,hi71,hy0,hy1,hy2⟩:=zao zqe
        clear hbW hgr Hr5 Hbx5 HW bx nrw ow hF fr9 bx9 ow9 nrw9 hF9 hst
        go_wp2
        rw[← hw9]
        clear hw9 r0 r1 r2 r3 r4 z0 z1 z2 z3 z4 cst e3 e4 hgb9
        go_loopw [76] (fun x W=>∃ (k:Nat) (qv:Value) (vs:List Value),x=.int .i64 k∧k≤G.prods.length∧Fr (· = tb) w9 W∧W.heap[tb]? = some (.cells #[.slice a0 G.kinds.length c0,.slice a1 G.precs.length c1,.slice ua (zap G G.rules.length).length uc,qv,.int .i64 (zaZ G st:Int)] 26)∧PqR w9.heap.size W qv (zaB G k) vs) (fun x _=>G.prods.length - (intOf x).toNat)
        case atStart=>exact⟨0,_,[],rfl,Nat.zero_le _,zav _ _,uh Hbx9,⟨World.ownsRow_nil _ _ _ _,by unfold zaB PqS;rfl⟩⟩
        case round =>
          obtain⟨k,qv,vs,rfl,hk,hF,bx,pq⟩:=hrel
          obtain⟨-,hbW,nrw⟩:=uh HW9 wr hF
          have hgr:=uh HG1 wr hbW
          obtain⟨va,vc,rfl⟩:=zad pq.ow
          have hsW:=hF.1
          have hw1l:=hbW.size
          by_cases hlt:k<G.prods.length
          · have hlt':(k:Int)<G.prods.length:=by omega
            obtain⟨b,off,hqa,hbB,rr,rrc,x3,x4,x5,x6,n6,c6,hrc,hrr,hac,q0,q1,q2,q3,q4,q5,q6⟩:=zhx hgr.gin.prods hlt
            have hmem:=zag (l:=G.prods) hlt
            obtain⟨hl0,hl1⟩:=(uh HG).pl _ hmem
            have hpr:=(uh HG).pr _ hmem
            have hpy:=(uh HG).py _ hmem
            have hpa:=zpT (uh Hcc) hmem
            have Hpt0:Hid (zaB G (k+1)=zaB G k ++ if ziI G (G.prods.getD k pd0) then[pdT G (G.prods.getD k pd0)] else[]):=zaa rfl
            have hpl9:=zeH G k
            have Hkp:=zaa (zpq (uh Hgs) (G.prods.getD k pd0))
            have hbp0:Below wr.heap.size wr (wr.alloc (.cells #[.int .i64 (G.prods.getD k pd0).left,.slice rr (G.prods.getD k pd0).right.length rrc,.int .i64 (G.prods.getD k pd0).level,.int .i64 x3,.int .i64 x4,.string x5,.slice x6 n6 c6] 89)):=(Below.refl _ _).alloc (Nat.le_refl _) _
            have HU:=zaa (zgP G (uh HG) ka pa ra qa kc pc rc qc gb ob ub M gx mx bb w hM (uh Hg0) (uh Hgx) (uh Hmx) (uh Hbb) _ k hlt ((uh Hb1).trans (zab (hbW.trans (zab hbp0 hw1l)) (by have:=uh Hs1;omega))))
            have Hpd0:Hid (pdT G (G.prods.getD k pd0)=⟨zaZ G (G.prods.getD k pd0).left.toNat,(G.prods.getD k pd0).right.map (zda G),(G.prods.getD k pd0).level,(G.prods.getD k pd0).act⟩):=zaa rfl
            generalize G.prods.getD k pd0=p at *
            obtain⟨pl,prt,plv,pac⟩:=p
            simp only at hl0 hl1 hpr hpy hpa hrc hrr hac q0 q1 q2 Hkp HU hbp0 Hpd0
            obtain⟨l,rfl⟩:∃ l:Nat,pl=(l:Int):=⟨pl.toNat,by omega⟩
            have hl2:l<G.rules.length:=by unfold Gm.nr at hl1;omega
            have hl1':(l:Int)<G.rules.length:=by omega
            rw[Int.toNat_natCast] at Hkp Hpd0
            have ca:wr.cell? ⟨mb,l,none⟩=some (.bool (zhu G l)):=(zaw (uh Hmb) hbW).cell hl2
            have ca2:=(hbp0.cell (p:=⟨mb,l,none⟩) (World.block_lt_of_cell? wr _ ca)).trans ca
            subst hqa
            have hF2:=zbR hF (.cells #[.int .i64 (l:Int),.slice rr prt.length rrc,.int .i64 plv,.int .i64 x3,.int .i64 x4,.string x5,.slice x6 n6 c6] 89)
            have bx2:=zaS bx (.cells #[.int .i64 (l:Int),.slice rr prt.length rrc,.int .i64 plv,.int .i64 x3,.int .i64 x4,.string x5,.slice x6 n6 c6] 89)
            have pq2:=zcn pq hbp0
            have hcf:=zn0
            have hbx0:(wr.alloc (.cells #[.int .i64 (l:Int),.slice rr prt.length rrc,.int .i64 plv,.int .i64 x3,.int .i64 x4,.string x5,.slice x6 n6 c6] 89)).heap[wr.heap.size]? = some (.cells #[.int .i64 (l:Int),.slice rr prt.length rrc,.int .i64 plv,.int .i64 x3,.int .i64 x4,.string x5,.slice x6 n6 c6] 89):=Go.Deep.blk_alloc_new _ _
            have Hne0:=zaa (fun k hk=>(pq.ow.lt k hk).2)
            clear hF bx pq hgr nrw
            cases ha:zhu G l
            · rw[ha] at ca ca2 Hkp
              have Hs:Hid (zaB G (k+1)=zaB G k):=zaa (by rw[uh Hpt0,uh Hkp];simp)
              have HF2:=zaa hF2;have Hbx2:=zaa bx2;have Hpq2:=zaa pq2
              clear ha hF2 bx2 pq2 hbx0 HU hbp0 hrr hac hbW
              generalize zaB G k=PT at *
              go_wp2
              go_roundw
              case rel=>exact⟨k+1,_,vs,by go_num,by omega,uh HF2,uh Hbx2,by rw[uh Hs];exact uh Hpq2⟩
              case measure=>simp[intOf];omega
            · rw [ha] at ca ca2 Hkp
              have hs2:=hF2.1
              have HF2:=zaa hF2;have Hbx2:=zaa bx2;have Hpq2:=zaa pq2;have Hbx0:=zaa hbx0;have Hbp0:=zaa hbp0
              clear ha hF2 bx2 pq2 hbx0 hbp0
              go_wp2_with fail
              refine(uh HU).mono ?_
              rintro e w2 ⟨rfl,hb2⟩
              have hF3:=zb3 (uh HF2) hb2
              have bx3:=(hb2.block tb (Array.getElem?_eq_some_iff.1 (uh Hbx2)).1).trans (uh Hbx2)
              have pq3:=zcn (uh Hpq2) hb2
              have hbx3:=(hb2.block wr.heap.size (Array.getElem?_eq_some_iff.1 (uh Hbx0)).1).trans (uh Hbx0)
              have hb23:Below wr.heap.size wr w2:=(uh Hbp0).trans (zab hb2 (uh Hbp0).size)
              clear HU HF2 Hbx2 Hpq2 Hbx0 Hbp0 hs2 hb2 q0 q1 q2 q3 q4 q5 q6 ca ca2
              cases hwh:za9 G.nk (zcQ G) prt
              · rw[hwh] at Hkp
                have Hs:Hid (zaB G (k+1)=zaB G k):=zaa (by rw[uh Hpt0,uh Hkp];simp)
                have HF2:=zaa hF3;have Hbx2:=zaa bx3;have Hpq2:=zaa pq3
                clear hwh hF3 bx3 pq3 hbx3 hb23 hrr hac hbW
                generalize zaB G k=PT at *
                go_wp2
                go_roundw
                case rel=>exact⟨k+1,_,vs,by go_num,by omega,uh HF2,uh Hbx2,by rw[uh Hs];exact uh Hpq2⟩
                case measure=>simp[intOf];omega
              · rw [hwh] at Hkp
                have Hpt:Hid (zaB G (k+1)=zaB G k ++ [⟨zaZ G l,prt.map (zda G),plv,pac⟩]):=zaa (by rw[uh Hpt0,uh Hkp,uh Hpd0];rfl)
                clear hwh Hpt0 Hpd0 Hkp
                generalize zaB G k=PT at *
                go_wp2
                have hwl:=hb23.size
                have htb9:tb<w9.heap.size:=by have h1:=(Array.getElem?_eq_some_iff.1 (uh Hbx9)).1;exact h1
                have Hne:Hid (∀ k,(Value.slice va PT.length vc).ownBlock=some k→k<wr.heap.size):=Hne0
                have Hmv:=zaa (fun(V:World) (hV:Below w2.heap.size w2 V)=>zna G (uh HG) ka pa ra (some ⟨b,off,none⟩) kc pc rc qc gb ob ub M nb l hl2 prt hpr hpy plv pac hpa rr rrc x3 x4 x5 x6 n6 c6 V (by have h1:=hV.size;have h2:=uh hMM;omega) (uh HG1 V (hbW.trans ((zab hb23 hw1l).trans (zab hV (by omega))))) (zhH (zch (by have h2:=uh hMM;omega) hrr) (hb23.trans (zab hV hwl))) (zfl (hb23.trans (zab hV hwl)) (zcZ (by have h2:=uh hMM;omega) _ _ _ _ _ hac)) (uh HW9 V (zb3 hF3 hV)).2.2)
                have HSb:Hid (∀ W:World,W.heap[wr.heap.size]? = some (.cells #[.int .i64 (l:Int),.slice rr prt.length rrc,.int .i64 plv,.int .i64 x3,.int .i64 x4,.string x5,.slice x6 n6 c6] 89)→W.cell? ⟨wr.heap.size,0,none⟩=some (.int .i64 (l:Int))∧W.cell? ⟨wr.heap.size,1,none⟩=some (.slice rr prt.length rrc)∧W.cell? ⟨wr.heap.size,2,none⟩=some (.int .i64 plv)∧W.cell? ⟨wr.heap.size,3,none⟩=some (.int .i64 x3)∧W.cell? ⟨wr.heap.size,4,none⟩=some (.int .i64 x4)∧W.cell? ⟨wr.heap.size,5,none⟩=some (.string x5)∧W.cell? ⟨wr.heap.size,6,none⟩=some (.slice x6 n6 c6)):=zaa (fun W h=>za7 h)
                have hS:Below w2.heap.size w2 w2.drew:=(Below.refl _ _).drew
                have hF:Fr (· = tb) w9 w2.drew:=hF3
                have bx:w2.drew.heap[tb]? = _:=bx3
                have pq:=zcn pq3 hS
                have hbp:w2.drew.heap[wr.heap.size]? = some (.cells #[.int .i64 (l:Int),.slice rr prt.length rrc,.int .i64 plv,.int .i64 x3,.int .i64 x4,.string x5,.slice x6 n6 c6] 89):=hbx3
                clear hF3 bx3 pq3 hbx3 hb23 hrr hac hbW hpy
                refine wp_region_held_drew (S:=fun W:World=>W.cell? ⟨wr.heap.size,0,none⟩=some (.int .i64 (l:Int))∧W.cell? ⟨wr.heap.size,1,none⟩=some (.slice rr prt.length rrc)∧W.cell? ⟨wr.heap.size,2,none⟩=some (.int .i64 plv)∧W.cell? ⟨wr.heap.size,3,none⟩=some (.int .i64 x3)∧W.cell? ⟨wr.heap.size,4,none⟩=some (.int .i64 x4)∧W.cell? ⟨wr.heap.size,5,none⟩=some (.string x5)∧W.cell? ⟨wr.heap.size,6,none⟩=some (.slice x6 n6 c6)) (by kernel_rfl) (uh HSb _ hbp) (fun hH_=>?_)
                refine zac (i:=0) (dst:=some 91) (v:=?_) rfl rfl (by kernel_rfl) (by kernel_rfl) (by kernel_rfl) (fun _ _ _ h=>h) (Or.inl ⟨by rfl,?_⟩) hH_ ?_
                rotate_left
                · intro w hSw;obtain⟨k0,k1,k2,k3,k4,k5,k6⟩:=hSw;go_simp;try (with_reducible rfl)
                simp only[Act.put,zsA,zsB,zsC]
                refine zac (i:=2) (dst:=some 93) (v:=?_) rfl rfl (by kernel_rfl) (by kernel_rfl) (by kernel_rfl) (fun _ _ _ h=>h) (Or.inl ⟨by rfl,?_⟩) hH_ ?_
                rotate_left
                · intro w hSw;obtain⟨k0,k1,k2,k3,k4,k5,k6⟩:=hSw;go_simp;try (with_reducible rfl)
                simp only[Act.put,zsA,zsB,zsC]
                refine zac (i:=3) (dst:=some 94) (v:=?_) rfl rfl (by kernel_rfl) (by kernel_rfl) (by kernel_rfl) (fun _ _ _ h=>h) (Or.inl ⟨by rfl,?_⟩) hH_ ?_
                rotate_left
                · intro w hSw;obtain⟨k0,k1,k2,k3,k4,k5,k6⟩:=hSw;go_simp;try (with_reducible rfl)
                simp only[Act.put,zsA,zsB,zsC]
                refine zac (i:=4) (dst:=some 95) (v:=?_) rfl rfl (by kernel_rfl) (by kernel_rfl) (by kernel_rfl) (fun _ _ _ h=>h) (Or.inl ⟨by rfl,?_⟩) hH_ ?_
                rotate_left
                · intro w hSw;obtain⟨k0,k1,k2,k3,k4,k5,k6⟩:=hSw;go_simp;try (with_reducible rfl)
                simp only[Act.put,zsA,zsB,zsC]
                refine wpAnyH_ready (rs:=[1,5]) (by kernel_rfl) (by simp) ?_
                refine AllReadyH.cons rfl (fun K hK=>?_) (AllReadyH.cons rfl (fun K hK=>?_) AllReadyH.nil)
                · skip
                  obtain⟨r0,r1,r2,r3,r4,z0,z1,z2,z3',z4⟩:=zae bx
                  go_simp
                  clear r0 r1 r2 r3 r4 z0 z1 z2 z3' z4
                  refine hK.out _ _ (uh HSb _ hbp) (fun hH_=>?_)
                  clear hK K
                  refine wpAnyH_ready (rs:=[5]) (by kernel_rfl) (by simp) ?_
                  refine AllReadyH.cons rfl (fun K hK=>?_) AllReadyH.nil
                  go_simp
                  go_at_call 102
                  refine(uh Hmv _ hS).mono ?_
                  rintro e V3 ⟨L,ca,cc,v6,rfl,⟨hL1,hL2⟩,how,hac3,hb3⟩
                  obtain⟨_,_,_,z3,n3,q3,-,-,-,rfl⟩:=zej hac3
                  have hs3:w2.heap.size≤V3.heap.size:=Nat.le_trans hS.size hb3.size
                  have hL1:w2.heap.size≤L:=Nat.le_trans hS.size hL1
                  have hq:PqO (fun b=>(w9.heap.size≤b∧b<V3.heap.size)∧(Value.slice va PT.length vc).ownBlock≠some b) w9.heap.size V3 ⟨zaZ G l,prt.map (zda G),plv,pac⟩ (.int .i64 (zaZ G l:Int)) (.slice ca prt.length cc) (.int .i64 plv) (.int .i64 x3) (.int .i64 x4) (.string x5) (.slice z3 n3 q3):=⟨rfl,by
                    show V3.ownsRow _ 3 1 _ (prt.map (zda G)).length _
                    rw[List.length_map]
                    exact zaK how (by omega),rfl,zeo (fun b h=>⟨⟨by have:=h.1;have:=hS.size;omega,by have:=h.2;omega⟩,fun e=>by have h1:=uh Hne b e;have h2:=h.1;have h3:=hS.size;omega⟩) (fun _ _=>rfl) _ _ _ _ _ hac3⟩
                  replace hF:=zb3 hF hb3
                  replace pq:=zcn pq hb3
                  replace bx:=(hb3.block tb (Array.getElem?_eq_some_iff.1 bx).1).trans bx
                  replace hbp:=(hb3.block wr.heap.size (Array.getElem?_eq_some_iff.1 hbp).1).trans hbp
                  clear how hac3 hb3 hL1 hL2 hs3
                  go_wp2_with fail
                  refine hK.out _ _ (uh HSb _ hbp) (fun hH_=>?_)
                  clear hK K
                  refine wpAnyH_ready (rs:=[6]) (by kernel_rfl) (by simp) ?_
                  refine AllReadyH.cons rfl (fun K hK=>?_) AllReadyH.nil
                  go_simp
                  have hj:=zeW hF (.cells #[.int .i64 (zaZ G l:Int),.slice ca prt.length cc,.int .i64 plv,.int .i64 x3,.int .i64 x4,.string x5,.slice z3 n3 q3] 89)
                  replace pq:=zcn pq ((Below.refl _ _).alloc (Nat.le_refl _) (.cells #[.int .i64 (zaZ G l:Int),.slice ca prt.length cc,.int .i64 plv,.int .i64 x3,.int .i64 x4,.string x5,.slice z3 n3 q3] 89))
                  replace hq:=zf8 hq ((Below.refl _ _).alloc (Nat.le_refl _) (.cells #[.int .i64 (zaZ G l:Int),.slice ca prt.length cc,.int .i64 plv,.int .i64 x3,.int .i64 x4,.string x5,.slice z3 n3 q3] 89))
                  replace bx:=zaS bx (.cells #[.int .i64 (zaZ G l:Int),.slice ca prt.length cc,.int .i64 plv,.int .i64 x3,.int .i64 x4,.string x5,.slice z3 n3 q3] 89)
                  replace hbp:=zaS hbp (.cells #[.int .i64 (zaZ G l:Int),.slice ca prt.length cc,.int .i64 plv,.int .i64 x3,.int .i64 x4,.string x5,.slice z3 n3 q3] 89)
                  replace hF:=zbR hF (.cells #[.int .i64 (zaZ G l:Int),.slice ca prt.length cc,.int .i64 plv,.int .i64 x3,.int .i64 x4,.string x5,.slice z3 n3 q3] 89)
                  refine hK.out _ _ (uh HSb _ hbp) (fun hH_=>?_)
                  clear hK K
                  refine wpAnyH_ready (rs:=[7]) (by kernel_rfl) (by simp) ?_
                  refine AllReadyH.cons rfl (fun K hK=>?_) AllReadyH.nil
                  refine step_append_lies _ rfl (.tmp 92) (.tmp 97) 24 rfl w9.heap.size 89 i71 (.agg #[.int .i64 0,.slice none 0 0,.int .i64 0,.int .i64 0,.int .i64 0,.string ⟨#[]⟩,.slice none 0 0]) 7 96 Tryz.underlying24 hi71 hy0 hy1 hy2 rfl (by decide) (.slice va PT.length vc) PT.length vs (by simp[Act.eval]) pq.ow ⟨_,0,none⟩ 1 1 [.int .i64 (zaZ G l:Int),.slice ca prt.length cc,.int .i64 plv,.int .i64 x3,.int .i64 x4,.string x5,.slice z3 n3 q3] (by simp[Act.eval]) rfl (World.news_of_block hj) (fun u hu=>by simp at hu;rcases hu with rfl | rfl | rfl | rfl | rfl | rfl | rfl <;> rfl) (by decide) (by unfold maxLen;omega) (by omega) hF.1 _ rfl ?_
                  intro g cap' W6 ho6 hg6 hat6 _
                  have pq6:=zhy pq rfl hq ho6 hg6 hat6
                  rw[show (PT ++ [(⟨zaZ G l,prt.map (zda G),plv,pac⟩:Pd)]).length=PT.length+1 by simp] at pq6
                  have bx6:=(hg6.block tb (Array.getElem?_eq_some_iff.1 bx).1 (fun e=>by have h1:=(pq.ow.lt tb e.symm).1;omega)).trans bx
                  have hbp6:=(hg6.block wr.heap.size (Array.getElem?_eq_some_iff.1 hbp).1 (fun e=>by have h1:=uh Hne _ e.symm;omega)).trans hbp
                  have hF6:=zb4 hF hg6 (fun j hj=>(pq.ow.lt j hj).1)
                  clear ho6 hg6 hat6 pq hq bx hbp hF hj
                  go_simp
                  refine hK.out _ _ (uh HSb _ hbp6) (fun hH_=>?_)
                  clear hK K
                  refine zac (i:=8) (dst:=some 99) (v:=?_) rfl rfl (by kernel_rfl) (by kernel_rfl) (by kernel_rfl) (fun _ _ _ h=>h) (Or.inl ⟨by rfl,?_⟩) hH_ ?_
                  rotate_left
                  · intro w hSw;obtain⟨k0,k1,k2,k3,k4,k5,k6⟩:=hSw;go_simp;try (with_reducible rfl)
                  simp only[Act.put,zsA,zsB,zsC]
                  refine wpAnyH_ready (rs:=[9]) (by kernel_rfl) (by simp) ?_
                  refine AllReadyH.cons rfl (fun K hK=>?_) AllReadyH.nil
                  obtain⟨r0,r1,r2,r3,r4,z0,z1,z2,z3',z4⟩:=zae bx6
                  have bx7:_:=zaI (i:=3) bx6 (.slice (some ⟨g,0,none⟩) (PT.length+1) cap')
                  have fr7:Fr (· = tb) W6 (W6.setCell ⟨tb,3,none⟩ (.slice (some ⟨g,0,none⟩) (PT.length+1) cap')):=zaz (zav _ _) (by rfl) _
                  have pq7:=zdD pq6 fr7 htb9
                  have hF7:=zfr hF6 fr7
                  have hbp7:=(fr7.2.1 wr.heap.size (Array.getElem?_eq_some_iff.1 hbp6).1 (by show ¬ _=_;omega)).trans hbp6
                  go_simp
                  refine hK.out _ _ (uh HSb _ hbp7) (fun hH_=>?_)
                  clear hK K
                  refine wpAnyH_done (by kernel_rfl) ?_ _
                  have Hbx7:=zaa bx7;have Hpq7:=zaa pq7;have HF7:=zaa hF7
                  clear bx7 pq7 hF7 fr7 hbp7 hbp6 bx6 pq6 hF6 r0 r1 r2 r3 r4 z0 z1 z2 z3' z4
                  go_wp2
                  go_roundw
                  case rel=>exact⟨k+1,_,_,by go_num,by omega,uh HF7,uh Hbx7,by rw[uh Hpt];exact uh Hpq7⟩
                  case measure=>simp[intOf];omega
                · skip
                  go_simp
                  go_at_call 102
                  refine(uh Hmv _ hS).mono ?_
                  rintro e V3 ⟨L,ca,cc,v6,rfl,⟨hL1,hL2⟩,how,hac3,hb3⟩
                  obtain⟨_,_,_,z3,n3,q3,-,-,-,rfl⟩:=zej hac3
                  have hs3:w2.heap.size≤V3.heap.size:=Nat.le_trans hS.size hb3.size
                  have hL1:w2.heap.size≤L:=Nat.le_trans hS.size hL1
                  have hq:PqO (fun b=>(w9.heap.size≤b∧b<V3.heap.size)∧(Value.slice va PT.length vc).ownBlock≠some b) w9.heap.size V3 ⟨zaZ G l,prt.map (zda G),plv,pac⟩ (.int .i64 (zaZ G l:Int)) (.slice ca prt.length cc) (.int .i64 plv) (.int .i64 x3) (.int .i64 x4) (.string x5) (.slice z3 n3 q3):=⟨rfl,by
                    show V3.ownsRow _ 3 1 _ (prt.map (zda G)).length _
                    rw[List.length_map]
                    exact zaK how (by omega),rfl,zeo (fun b h=>⟨⟨by have:=h.1;have:=hS.size;omega,by have:=h.2;omega⟩,fun e=>by have h1:=uh Hne b e;have h2:=h.1;have h3:=hS.size;omega⟩) (fun _ _=>rfl) _ _ _ _ _ hac3⟩
                  replace hF:=zb3 hF hb3
                  replace pq:=zcn pq hb3
                  replace bx:=(hb3.block tb (Array.getElem?_eq_some_iff.1 bx).1).trans bx
                  replace hbp:=(hb3.block wr.heap.size (Array.getElem?_eq_some_iff.1 hbp).1).trans hbp
                  clear how hac3 hb3 hL1 hL2 hs3
                  go_wp2_with fail
                  refine hK.out _ _ (uh HSb _ hbp) (fun hH_=>?_)
                  clear hK K
                  refine wpAnyH_ready (rs:=[1,6]) (by kernel_rfl) (by simp) ?_
                  refine AllReadyH.cons rfl (fun K hK=>?_) (AllReadyH.cons rfl (fun K hK=>?_) AllReadyH.nil)
                  · skip
                    obtain⟨r0,r1,r2,r3,r4,z0,z1,z2,z3',z4⟩:=zae bx
                    go_simp
                    clear r0 r1 r2 r3 r4 z0 z1 z2 z3' z4
                    refine hK.out _ _ (uh HSb _ hbp) (fun hH_=>?_)
                    clear hK K
                    refine wpAnyH_ready (rs:=[6]) (by kernel_rfl) (by simp) ?_
                    refine AllReadyH.cons rfl (fun K hK=>?_) AllReadyH.nil
                    go_simp
                    have hj:=zeW hF (.cells #[.int .i64 (zaZ G l:Int),.slice ca prt.length cc,.int .i64 plv,.int .i64 x3,.int .i64 x4,.string x5,.slice z3 n3 q3] 89)
                    replace pq:=zcn pq ((Below.refl _ _).alloc (Nat.le_refl _) (.cells #[.int .i64 (zaZ G l:Int),.slice ca prt.length cc,.int .i64 plv,.int .i64 x3,.int .i64 x4,.string x5,.slice z3 n3 q3] 89))
                    replace hq:=zf8 hq ((Below.refl _ _).alloc (Nat.le_refl _) (.cells #[.int .i64 (zaZ G l:Int),.slice ca prt.length cc,.int .i64 plv,.int .i64 x3,.int .i64 x4,.string x5,.slice z3 n3 q3] 89))
                    replace bx:=zaS bx (.cells #[.int .i64 (zaZ G l:Int),.slice ca prt.length cc,.int .i64 plv,.int .i64 x3,.int .i64 x4,.string x5,.slice z3 n3 q3] 89)
                    replace hbp:=zaS hbp (.cells #[.int .i64 (zaZ G l:Int),.slice ca prt.length cc,.int .i64 plv,.int .i64 x3,.int .i64 x4,.string x5,.slice z3 n3 q3] 89)
                    replace hF:=zbR hF (.cells #[.int .i64 (zaZ G l:Int),.slice ca prt.length cc,.int .i64 plv,.int .i64 x3,.int .i64 x4,.string x5,.slice z3 n3 q3] 89)
                    refine hK.out _ _ (uh HSb _ hbp) (fun hH_=>?_)
                    clear hK K
                    refine wpAnyH_ready (rs:=[7]) (by kernel_rfl) (by simp) ?_
                    refine AllReadyH.cons rfl (fun K hK=>?_) AllReadyH.nil
                    refine step_append_lies _ rfl (.tmp 92) (.tmp 97) 24 rfl w9.heap.size 89 i71 (.agg #[.int .i64 0,.slice none 0 0,.int .i64 0,.int .i64 0,.int .i64 0,.string ⟨#[]⟩,.slice none 0 0]) 7 96 Tryz.underlying24 hi71 hy0 hy1 hy2 rfl (by decide) (.slice va PT.length vc) PT.length vs (by simp[Act.eval]) pq.ow ⟨_,0,none⟩ 1 1 [.int .i64 (zaZ G l:Int),.slice ca prt.length cc,.int .i64 plv,.int .i64 x3,.int .i64 x4,.string x5,.slice z3 n3 q3] (by simp[Act.eval]) rfl (World.news_of_block hj) (fun u hu=>by simp at hu;rcases hu with rfl | rfl | rfl | rfl | rfl | rfl | rfl <;> rfl) (by decide) (by unfold maxLen;omega) (by omega) hF.1 _ rfl ?_
                    intro g cap' W6 ho6 hg6 hat6 _
                    have pq6:=zhy pq rfl hq ho6 hg6 hat6
                    rw[show (PT ++ [(⟨zaZ G l,prt.map (zda G),plv,pac⟩:Pd)]).length=PT.length+1 by simp] at pq6
                    have bx6:=(hg6.block tb (Array.getElem?_eq_some_iff.1 bx).1 (fun e=>by have h1:=(pq.ow.lt tb e.symm).1;omega)).trans bx
                    have hbp6:=(hg6.block wr.heap.size (Array.getElem?_eq_some_iff.1 hbp).1 (fun e=>by have h1:=uh Hne _ e.symm;omega)).trans hbp
                    have hF6:=zb4 hF hg6 (fun j hj=>(pq.ow.lt j hj).1)
                    clear ho6 hg6 hat6 pq hq bx hbp hF hj
                    go_simp
                    refine hK.out _ _ (uh HSb _ hbp6) (fun hH_=>?_)
                    clear hK K
                    refine zac (i:=8) (dst:=some 99) (v:=?_) rfl rfl (by kernel_rfl) (by kernel_rfl) (by kernel_rfl) (fun _ _ _ h=>h) (Or.inl ⟨by rfl,?_⟩) hH_ ?_
                    rotate_left
                    · intro w hSw;obtain⟨k0,k1,k2,k3,k4,k5,k6⟩:=hSw;go_simp;try (with_reducible rfl)
                    simp only[Act.put,zsA,zsB,zsC]
                    refine wpAnyH_ready (rs:=[9]) (by kernel_rfl) (by simp) ?_
                    refine AllReadyH.cons rfl (fun K hK=>?_) AllReadyH.nil
                    obtain⟨r0,r1,r2,r3,r4,z0,z1,z2,z3',z4⟩:=zae bx6
                    have bx7:_:=zaI (i:=3) bx6 (.slice (some ⟨g,0,none⟩) (PT.length+1) cap')
                    have fr7:Fr (· = tb) W6 (W6.setCell ⟨tb,3,none⟩ (.slice (some ⟨g,0,none⟩) (PT.length+1) cap')):=zaz (zav _ _) (by rfl) _
                    have pq7:=zdD pq6 fr7 htb9
                    have hF7:=zfr hF6 fr7
                    have hbp7:=(fr7.2.1 wr.heap.size (Array.getElem?_eq_some_iff.1 hbp6).1 (by show ¬ _=_;omega)).trans hbp6
                    go_simp
                    refine hK.out _ _ (uh HSb _ hbp7) (fun hH_=>?_)
                    clear hK K
                    refine wpAnyH_done (by kernel_rfl) ?_ _
                    have Hbx7:=zaa bx7;have Hpq7:=zaa pq7;have HF7:=zaa hF7
                    clear bx7 pq7 hF7 fr7 hbp7 hbp6 bx6 pq6 hF6 r0 r1 r2 r3 r4 z0 z1 z2 z3' z4
                    go_wp2
                    go_roundw
                    case rel=>exact⟨k+1,_,_,by go_num,by omega,uh HF7,uh Hbx7,by rw[uh Hpt];exact uh Hpq7⟩
                    case measure=>simp[intOf];omega
                  · skip
                    go_simp
                    have hj:=zeW hF (.cells #[.int .i64 (zaZ G l:Int),.slice ca prt.length cc,.int .i64 plv,.int .i64 x3,.int .i64 x4,.string x5,.slice z3 n3 q3] 89)
                    replace pq:=zcn pq ((Below.refl _ _).alloc (Nat.le_refl _) (.cells #[.int .i64 (zaZ G l:Int),.slice ca prt.length cc,.int .i64 plv,.int .i64 x3,.int .i64 x4,.string x5,.slice z3 n3 q3] 89))
                    replace hq:=zf8 hq ((Below.refl _ _).alloc (Nat.le_refl _) (.cells #[.int .i64 (zaZ G l:Int),.slice ca prt.length cc,.int .i64 plv,.int .i64 x3,.int .i64 x4,.string x5,.slice z3 n3 q3] 89))
                    replace bx:=zaS bx (.cells #[.int .i64 (zaZ G l:Int),.slice ca prt.length cc,.int .i64 plv,.int .i64 x3,.int .i64 x4,.string x5,.slice z3 n3 q3] 89)
                    replace hbp:=zaS hbp (.cells #[.int .i64 (zaZ G l:Int),.slice ca prt.length cc,.int .i64 plv,.int .i64 x3,.int .i64 x4,.string x5,.slice z3 n3 q3] 89)
                    replace hF:=zbR hF (.cells #[.int .i64 (zaZ G l:Int),.slice ca prt.length cc,.int .i64 plv,.int .i64 x3,.int .i64 x4,.string x5,.slice z3 n3 q3] 89)
                    refine hK.out _ _ (uh HSb _ hbp) (fun hH_=>?_)
                    clear hK K
                    refine wpAnyH_ready (rs:=[1]) (by kernel_rfl) (by simp) ?_
                    refine AllReadyH.cons rfl (fun K hK=>?_) AllReadyH.nil
                    obtain⟨r0,r1,r2,r3,r4,z0,z1,z2,z3',z4⟩:=zae bx
                    go_simp
                    clear r0 r1 r2 r3 r4 z0 z1 z2 z3' z4
                    refine hK.out _ _ (uh HSb _ hbp) (fun hH_=>?_)
                    clear hK K
                    refine wpAnyH_ready (rs:=[7]) (by kernel_rfl) (by simp) ?_
                    refine AllReadyH.cons rfl (fun K hK=>?_) AllReadyH.nil
                    refine step_append_lies _ rfl (.tmp 92) (.tmp 97) 24 rfl w9.heap.size 89 i71 (.agg #[.int .i64 0,.slice none 0 0,.int .i64 0,.int .i64 0,.int .i64 0,.string ⟨#[]⟩,.slice none 0 0]) 7 96 Tryz.underlying24 hi71 hy0 hy1 hy2 rfl (by decide) (.slice va PT.length vc) PT.length vs (by simp[Act.eval]) pq.ow ⟨_,0,none⟩ 1 1 [.int .i64 (zaZ G l:Int),.slice ca prt.length cc,.int .i64 plv,.int .i64 x3,.int .i64 x4,.string x5,.slice z3 n3 q3] (by simp[Act.eval]) rfl (World.news_of_block hj) (fun u hu=>by simp at hu;rcases hu with rfl | rfl | rfl | rfl | rfl | rfl | rfl <;> rfl) (by decide) (by unfold maxLen;omega) (by omega) hF.1 _ rfl ?_
                    intro g cap' W6 ho6 hg6 hat6 _
                    have pq6:=zhy pq rfl hq ho6 hg6 hat6
                    rw[show (PT ++ [(⟨zaZ G l,prt.map (zda G),plv,pac⟩:Pd)]).length=PT.length+1 by simp] at pq6
                    have bx6:=(hg6.block tb (Array.getElem?_eq_some_iff.1 bx).1 (fun e=>by have h1:=(pq.ow.lt tb e.symm).1;omega)).trans bx
                    have hbp6:=(hg6.block wr.heap.size (Array.getElem?_eq_some_iff.1 hbp).1 (fun e=>by have h1:=uh Hne _ e.symm;omega)).trans hbp
                    have hF6:=zb4 hF hg6 (fun j hj=>(pq.ow.lt j hj).1)
                    clear ho6 hg6 hat6 pq hq bx hbp hF hj
                    go_simp
                    refine hK.out _ _ (uh HSb _ hbp6) (fun hH_=>?_)
                    clear hK K
                    refine zac (i:=8) (dst:=some 99) (v:=?_) rfl rfl (by kernel_rfl) (by kernel_rfl) (by kernel_rfl) (fun _ _ _ h=>h) (Or.inl ⟨by rfl,?_⟩) hH_ ?_
                    rotate_left
                    · intro w hSw;obtain⟨k0,k1,k2,k3,k4,k5,k6⟩:=hSw;go_simp;try (with_reducible rfl)
                    simp only[Act.put,zsA,zsB,zsC]
                    refine wpAnyH_ready (rs:=[9]) (by kernel_rfl) (by simp) ?_
                    refine AllReadyH.cons rfl (fun K hK=>?_) AllReadyH.nil
                    obtain⟨r0,r1,r2,r3,r4,z0,z1,z2,z3',z4⟩:=zae bx6
                    have bx7:_:=zaI (i:=3) bx6 (.slice (some ⟨g,0,none⟩) (PT.length+1) cap')
                    have fr7:Fr (· = tb) W6 (W6.setCell ⟨tb,3,none⟩ (.slice (some ⟨g,0,none⟩) (PT.length+1) cap')):=zaz (zav _ _) (by rfl) _
                    have pq7:=zdD pq6 fr7 htb9
                    have hF7:=zfr hF6 fr7
                    have hbp7:=(fr7.2.1 wr.heap.size (Array.getElem?_eq_some_iff.1 hbp6).1 (by show ¬ _=_;omega)).trans hbp6
                    go_simp
                    refine hK.out _ _ (uh HSb _ hbp7) (fun hH_=>?_)
                    clear hK K
                    refine wpAnyH_done (by kernel_rfl) ?_ _
                    have Hbx7:=zaa bx7;have Hpq7:=zaa pq7;have HF7:=zaa hF7
                    clear bx7 pq7 hF7 fr7 hbp7 hbp6 bx6 pq6 hF6 r0 r1 r2 r3 r4 z0 z1 z2 z3' z4
                    go_wp2
                    go_roundw
                    case rel=>exact⟨k+1,_,_,by go_num,by omega,uh HF7,uh Hbx7,by rw[uh Hpt];exact uh Hpq7⟩
                    case measure=>simp[intOf];omega
          · obtain rfl:k=G.prods.length:=by omega
            have hbr9:wr.heap[w.heap.size]? = some (.cells #[.slice none 0 0,.slice none 0 0,.slice none 0 0,.slice none 0 0,.int .i64 0] 26):=(hbW.block _ (by have:=uh Hs1;omega)).trans (uh Hbr)
            have hF5:=(uh HW9 wr hF).1
            obtain⟨hk0,hk1⟩:=uh HK01 wr hF5
            have hru:=zaV (uh How9) (uh Hbx9) hF (by decide)
            obtain⟨r0,r1,r2,r3,r4,z0,z1,z2,z3,z4⟩:=zae bx
            obtain⟨s0,s1,s2,s3,s4,u0,u1,u2,u3,u4⟩:=zae hbr9
            have h5:=zgJ hbr9 (.slice a0 G.kinds.length c0) (.slice a1 G.precs.length c1) (.slice ua (zap G G.rules.length).length uc) (.slice va (zaB G G.prods.length).length vc) (.int .i64 (zaZ G st:Int))
            have hs55:=hF5.1
            have hw11:=uh Hs1
            have h95:w5.heap.size≤w9.heap.size:=by omega
            have Hh5:=zaa h5;have Hk0:=zaa hk0;have Hk1:=zaa hk1;have Hru:=zaa hru;have Hpq:=zaa pq;have HbW:=zaa hbW
            clear h5 hk0 hk1 hru pq hbW hbr9 bx nrw hgr hF5 hF hw11
            generalize hRL:zap G G.rules.length=RL at *
            generalize hPL:zaB G G.prods.length=PL at *
            go_wp2
            obtain⟨WF,hWF⟩:∃ WF,WF=((((wr.setCell ⟨w.heap.size,0,none⟩ (.slice a0 G.kinds.length c0)).setCell ⟨w.heap.size,1,none⟩ (.slice a1 G.precs.length c1)).setCell ⟨w.heap.size,2,none⟩ (.slice ua RL.length uc)).setCell ⟨w.heap.size,3,none⟩ (.slice va PL.length vc)).setCell ⟨w.heap.size,4,none⟩ (.int .i64 (zaZ G st:Int)):=⟨_,rfl⟩
            have h5:=uh Hh5
            rw[← hWF] at h5 ⊢
            clear hWF Hh5
            obtain⟨hbF,hFr⟩:=h5
            have hw11:=uh Hs1
            obtain⟨y0,y1,y2,y3,y4,-⟩:=zae hbF
            have o0:=zbA (uh Hk0) hFr (by omega)
            have o1:=zbA (uh Hk1) hFr (by omega)
            have o2:=zbA (uh Hru) hFr (by omega)
            have hszF:=hFr.1
            have pqF:=zdD (uh Hpq) hFr (by omega)
            have hstart:(zbB G).start=(zaZ G st:Int):=by
              show ((zaZ G G.start.toNat:Nat):Int)=_
              rw[uh Hse,Int.toNat_natCast]
            have hbZ:Below w.heap.size w WF:=(uh Hb1).trans ((zab (uh HbW) (by omega)).trans (zah hFr (by omega) (fun j hj=>by have hj:j=w.heap.size:=hj;omega)))
            refine bodyPost_ret (v:=.agg #[.slice a0 G.kinds.length c0,.slice a1 G.precs.length c1,.slice ua RL.length uc,.slice va PL.length vc,.int .i64 (zaZ G st:Int)]) ?zz9 rfl ⟨a0,a1,ua,va,c0,c1,uc,vc,?_,fun r W hr0 hr hf=>?_,hbZ⟩
            case zz9=>simp[results,Tryz.results59,go_sem,y0,y1,y2,y3,y4]
            · unfold gV
              rw[hstart,← hRL,← hPL];rfl
            · have pqW:=zdD pqF hf (by omega)
              have pdW:=zp8 (B:=W.heap.size) (fun b h=>h.1.2) _ _ pqW.pq
              obtain⟨_,_,v0,e0⟩:=zd8 (zbA o0 hf (by omega))
              obtain⟨_,_,v1,e1⟩:=zkm (zbA o1 hf (by omega))
              obtain⟨_,_,v2,e2⟩:=zd8 (zbA o2 hf (by omega))
              obtain⟨_,_,v3,e3⟩:=zkl pqW.ow pdW (Nat.le_refl _)
              cases v0;cases v1;cases v2;cases v3
              have ht:=ze6 (uh Hg0).gin.tab hM (zab hbZ hM)
              have hfs:=hf.1
              refine⟨e0,e1,?_,?_,by omega,fun j hj=>(World.cell?_of_block (a:=⟨0,j,none⟩) (hf.2.1 0 (by omega) (by show ¬ 0=r;omega))).trans (ht.2 j hj)⟩
              · show zez _ _ _ (zap G G.rules.length)
                rw[hRL];exact e2
              · show zpV _ _ _ (zaB G G.prods.length)
                rw[hPL];exact e3
end Go.Proofs.YtagohbpbgjelaaaGreatDoor

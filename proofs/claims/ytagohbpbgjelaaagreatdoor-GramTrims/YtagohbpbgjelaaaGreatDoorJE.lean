/- The code's follow. -/
import Derived.Test.YtagohbpbgjelaaaGreatDoorJD
import Derived.Test.YtagohbpbgjelaaaGreatDoorJA
import Derived.Test.YtagohbpbgjelaaaGreatDoorHR
import Derived.Test.YtagohbpbgjelaaaGreatDoorL2
namespace Go.Proofs.YtagohbpbgjelaaaGreatDoor
open Go.RowKit

def zlP (G:Gm) (W:World) (e:Ending) (w':World):Prop:=∃ tb tc B A OO rep C,e=.returned (.slice (some ⟨tb,0,none⟩) G.rules.length tc)∧SetsV B w' tb G.rules.length A OO rep C∧(∀ x,x<G.rules.length→∀ m,C (rep x) m=true↔0≤m∧Flw G x m.toNat)∧Below W.heap.size W w'
def zrR:Prop:=∀ (G:Gm) (_:GOk G) (ka pa ra qa:Option Addr) (kc pc rc qc gb ob ub:Nat) (M N:Nat) (bb nb sb sc rb:Nat) (A:Nat→Nat) (w:World) (_:M≤w.heap.size) (_:GrAt M w G ka kc pa pc ra rc qa qc gb ob ub) (_:BgAt N w G bb nb sb sc gb A) (_:w.rowIs rb 4 G.rules.length (fun r=>.bool (atF G r))),
 Calls Tryz.prog 37 #[.pointer (some ⟨bb,0,none⟩),.slice (some ⟨rb,0,none⟩) G.rules.length G.rules.length] w (zlP G w)
set_option maxHeartbeats 4000000 in
set_option maxRecDepth 100000 in
theorem zly:zrR:=fun G hG ka pa ra qa kc pc rc qc gb ob ub M N bb nb sb sc rb A0 w hM hg hbg hrb=>by
 have hbx:=hg.box
 have hr2:=hG.r2;have hr1:=hG.r1;have hs0:=hG.s0;have hs1:=hG.s1
 unfold Gm.nr at hr2 hr1 hs1
 have hgl:=hg.lt
 obtain⟨s,hs⟩:∃ s:Nat,G.start=(s:Int):=⟨G.start.toNat,by omega⟩
 have hst:G.start.toNat=s:=by omega
 have hsn:s<G.rules.length:=by omega
 have hsn':(s:Int)<G.rules.length:=by omega
 have hbl:bb<w.heap.size:=(Array.getElem?_eq_some_iff.1 hbg.bx).1
 have c0:w.cell? ⟨bb,0,none⟩=some (.pointer (some ⟨gb,0,none⟩)):=by unfold World.cell?;rw[hbg.bx];rfl
 have c2:w.cell? ⟨gb,2,none⟩=some (.slice ra G.rules.length rc):=by unfold World.cell?;rw[hbx];rfl
 have c4:w.cell? ⟨gb,4,none⟩=some (.int .i64 (s:Int)):=by unfold World.cell?;rw[hbx,hs];rfl
 have HNS:=zaa (zgd G.rules.length ⟨hr1,hr2⟩ w)
 have Hg:=zaa hg;have Hbg:=zaa hbg;have Hrb:=zaa hrb
 clear hg hbx hbg hrb hs
 go_enter Tryz.func37,Tryz.ntmps37
 go_wp2_with fail
 refine(uh HNS).mono ?_
 rintro e W1 ⟨tb,tc,A,OO1,rfl,hs1',hb1⟩
 have hsz1:=hb1.size
 have e0:=(hb1.cell (p:=⟨bb,0,none⟩) hbl).trans c0
 have e2:=(hb1.cell (p:=⟨gb,2,none⟩) (by show gb<_;omega)).trans c2
 have e4:=(hb1.cell (p:=⟨gb,4,none⟩) (by show gb<_;omega)).trans c4
 have scl:=(zb1 hs1' hsn).1
 have hal:Below W1.heap.size W1 (W1.alloc (.cells #[.int .i64 0] 3)):=(Below.refl _ _).alloc (Nat.le_refl _) _
 have hnw:(W1.alloc (.cells #[.int .i64 0] 3)).heap[W1.heap.size]? = some (.cells #[.int .i64 0] 3 (0,0)):=Go.Deep.blk_alloc_new _ _
 have HAd:=zaa (zj8 (zbb hs1' hal) (by have:=hal.size;omega) hsn 0 (by omega) ⟨W1.heap.size,0,none⟩ 1 rfl (Array.getElem?_eq_some_iff.1 hnw).1 (by unfold World.cell?;rw[hnw];rfl) (zaL hnw (by decide) (by decide)))
 have Hb1:=zaa (hb1.trans (zab hal hsz1))
 have hszA:w.heap.size≤(W1.alloc (.cells #[.int .i64 0] 3)).heap.size:=by have:=hal.size;omega
 clear hs1' hb1 hal hnw HNS
 go_wp2_with fail
 refine(uh HAd).mono ?_
 rintro e W2 ⟨⟨c9,rfl⟩,⟨OO2,hs2⟩,hf2⟩
 have hb2:Below w.heap.size w W2:=(uh Hb1).trans (zah hf2 hszA (fun k hk=>hk.1))
 have hsz2:=hb2.size
 have g0:=(hb2.cell (p:=⟨bb,0,none⟩) hbl).trans c0
 have g2:=(hb2.cell (p:=⟨gb,2,none⟩) (by show gb<_;omega)).trans c2
 have hgr2:=zaJ (uh Hg) (zab hb2 hM)
 have g3:W2.cell? ⟨gb,3,none⟩=some (.slice qa G.prods.length qc):=by unfold World.cell?;rw[hgr2.box];rfl
 have hmk:=fun w=>run_make_row' (P:=Tryz.prog) 109 27 (.slice none 0 0) 24 Tryz.underlying109 zg5 rfl .i64 .i64 G.rules.length (by omega) (by omega) w
 have hal2:Below W2.heap.size W2 (W2.alloc (.cells (madeCells #[.slice none 0 0] G.rules.length) 27)):=(Below.refl _ _).alloc (Nat.le_refl _) _
 have h0a:=(hal2.cell (p:=⟨bb,0,none⟩) (by show bb<_;omega)).trans g0
 have h3a:=(hal2.cell (p:=⟨gb,3,none⟩) (by show gb<_;omega)).trans g3
 have HSt:=zaa (zbb hs2 hal2)
 have HTab:Hid (zhj w.heap.size (W2.alloc (.cells (madeCells #[.slice none 0 0] G.rules.length) 27)) W2.heap.size G.rules.length (fun _=>[])):=zaa (by
  obtain⟨V,hV⟩:=zfS W2 G.rules.length
  exact⟨V,(zbg hV).1,fun k hk=>by rw[(zbg hV).2 k hk];exact hsz2⟩)
 have Hbl2:=zaa (hb2.trans (zab hal2 hsz2))
 have HF0:=zaa (show FlI G (fun q _=>q<0) (64 * 0) (upC (fun _ _=>false) s (zi8 (fun _=>false) 0)) (fun _=>[]) by rw[← hst];exact zpC G)
 clear hb2 hs2 hf2 hgr2 hal2 e0 e2 e4 scl HAd Hb1 hszA
 go_wp2_with fail
 generalize hwb:W2.heap.size=wb at *
 generalize W2.alloc (.cells (madeCells #[.slice none 0 0] G.rules.length) 27)=W3 at *
 go_loopw [51] (fun x V=>∃ (k:Nat) (C:Nat→Int→Bool) (W:Nat→List Nat),x=.int .i64 k∧k≤G.prods.length∧FlI G (fun q _=>q<k) (64 * k) C W∧(∃ OO,SetsV w.heap.size V tb G.rules.length A OO id C)∧zhj w.heap.size V wb G.rules.length W∧Below w.heap.size w V) (fun x _=>G.prods.length - (intOf x).toNat)
 case atStart=>exact⟨0,_,_,rfl,Nat.zero_le _,uh HF0,⟨_,uh HSt⟩,uh HTab,uh Hbl2⟩
 case round =>
  clear HF0 HSt HTab Hbl2
  obtain⟨k,C,W,rfl,hk,hFl,hSt,hTab,hb⟩:=hrel
  have hszw:=hb.size
  have hps:=hG.ps
  by_cases hlt:k<G.prods.length
  ·have hlt':(k:Int)<G.prods.length:=by omega
   have hgr:=zaJ (uh Hg) (zab hb hM)
   obtain⟨b,off,rfl,hbB,rr,rrc,x3,x4,x5,x6,n6,c6,hrr,-,q0,q1,q2,q3,q4,q5,q6⟩:=zbz hgr.gin.prods hlt
   have hpl:=hG.pl _ (zag hlt)
   have hrr0:NRow w.heap.size w rr (rhs G k):=by
    rcases hrr with h | ⟨b9,o9,h1,h2,h3⟩
    ·exact .inl h
    ·exact .inr ⟨b9,o9,h1,by omega,fun j hj=>(hb.cell (p:=⟨b9,o9+j,none⟩) (by show b9<_;omega)).symm.trans (h3 j hj)⟩
   have HFW:=zaa (fun(ha:atF G (lhs G k)=true) (V:World) (hV:Below w.heap.size w V) (h1:∃ OO,SetsV w.heap.size V tb G.rules.length A OO id C) (h2:zhj w.heap.size V wb G.rules.length W) (plv:Int) (x3 x4:Int) (x5:ByteArray) (x6:Option Addr) (n6 c6:Nat)=>zfw G hG ka kc gb bb nb sb sc N A0 w (by unfold World.cell?;rw[(uh Hg).box];rfl) (uh Hbg) tb tc wb G.rules.length (64 * k) A C W k hlt ha hFl (by omega) rr rrc plv x3 x4 x5 x6 n6 c6 hrr0 V hV h1 h2)
   have Hpass:=zaa (fun(ha:atF G (lhs G k)=false)=>zrh (n':=64 * (k+1)) hFl (by omega) ha)
   unfold zom at HFW
   have hpr:=hG.pr _ (zag hlt)
   unfold rhs lhs at HFW
   unfold lhs at Hpass
   clear hrr hrr0
   generalize G.prods.getD k pd0=p at *
   obtain⟨pl,prt,plv,pac⟩:=p
   simp only at q0 q1 q2 hpl HFW Hpass hpr
   obtain⟨l,rfl⟩:∃ l:Nat,pl=(l:Int):=⟨pl.toNat,by omega⟩
   rw[Int.toNat_natCast] at HFW Hpass
   have hl':l<G.rules.length:=by have:=hpl.2;unfold Gm.nr at this;omega
   have hli:(l:Int)<G.rules.length:=by omega
   obtain⟨W4,hW4⟩:∃ W4,W4=wr.alloc (.cells #[.int .i64 (l:Int),.slice rr prt.length rrc,.int .i64 plv,.int .i64 x3,.int .i64 x4,.string x5,.slice x6 n6 c6] 89):=⟨_,rfl⟩
   have hb4:Below wr.heap.size wr W4:=by rw[hW4];exact(Below.refl _ _).alloc (Nat.le_refl _) _
   have hpb:W4.heap[wr.heap.size]? = some (.cells #[.int .i64 (l:Int),.slice rr prt.length rrc,.int .i64 plv,.int .i64 x3,.int .i64 x4,.string x5,.slice x6 n6 c6] 89):=by rw[hW4];exact Go.Deep.blk_alloc_new _ _
   have hbb4:=hb.trans (zab hb4 hszw)
   have p0:W4.cell? ⟨wr.heap.size,0,none⟩=some (.int .i64 (l:Int)):=by unfold World.cell?;rw[hpb];rfl
   have p1:W4.cell? ⟨wr.heap.size,1,none⟩=some (.slice rr prt.length rrc):=by unfold World.cell?;rw[hpb];rfl
   have p2:W4.cell? ⟨wr.heap.size,2,none⟩=some (.int .i64 plv):=by unfold World.cell?;rw[hpb];rfl
   have p3:W4.cell? ⟨wr.heap.size,3,none⟩=some (.int .i64 x3):=by unfold World.cell?;rw[hpb];rfl
   have p4:W4.cell? ⟨wr.heap.size,4,none⟩=some (.int .i64 x4):=by unfold World.cell?;rw[hpb];rfl
   have p5:W4.cell? ⟨wr.heap.size,5,none⟩=some (.string x5):=by unfold World.cell?;rw[hpb];rfl
   have p6:W4.cell? ⟨wr.heap.size,6,none⟩=some (.slice x6 n6 c6):=by unfold World.cell?;rw[hpb];rfl
   have rl:=((uh Hrb).of_block (hbb4.block _ (uh Hrb).lt)).cell hl'
   have HSt4:Hid (∃ OO,SetsV w.heap.size W4 tb G.rules.length A OO id C):=zaa (by obtain⟨OO,h⟩:=hSt;exact⟨OO,zbb h hb4⟩)
   have HTab4:=zaa (zdZ hTab hb4)
   have Hbb4:=zaa hbb4
   clear hSt hTab hb hb4 hpb hgr hFl hbb4
   cases hat:atF G l with
   | true =>
     rw[hat] at rl
     have HFW:=zaa (uh HFW hat)
     clear Hpass
     rw[hW4] at rl p0 p1 p2 p3 p4 p5 p6
     go_wp2_with fail
     rw[← hW4]
     clear p0 p1 p2 p3 p4 p5 p6 rl hW4
     refine(uh HFW W4 (uh Hbb4) (uh HSt4) (uh HTab4) plv x3 x4 x5 x6 n6 c6).mono ?_
     rintro e W5 ⟨⟨v5,rfl⟩,C5,W5',hF5,hS5,hT5,hb5⟩
     have hF5':=zgn (n':=64 * (k+1)) hF5 (by omega) (fun _ _ _ _=>Iff.rfl)
     have HF5:=zaa hF5';have HS5:=zaa hS5;have HT5:=zaa hT5;have Hb5:=zaa hb5
     clear hF5 hF5' hS5 hT5 hb5
     go_wp2
     go_roundw
     case rel=>exact⟨k+1,C5,W5',by go_num,by omega,uh HF5,uh HS5,uh HT5,uh Hb5⟩
     case measure=>simp[intOf];omega
   | false =>
     rw[hat] at rl
     have Hpass:=zaa (uh Hpass hat)
     clear HFW
     rw[hW4] at rl p0
     go_wp2_with fail
     rw[← hW4]
     clear p0 p1 p2 p3 p4 p5 p6 rl hW4
     go_roundw
     case rel=>exact⟨k+1,C,W,by go_num,by omega,uh Hpass,uh HSt4,uh HTab4,uh Hbb4⟩
     case measure=>simp[intOf];omega
  ·obtain rfl:k=G.prods.length:=by omega
   obtain⟨OO,hSt⟩:=hSt
   obtain⟨hway,hwn,wcs,hwcs⟩:=zho hTab
   obtain⟨scs,hscs,-⟩:=hSt.row
   have hWb:∀ r,r<G.rules.length→∀ y,y ∈ W r→y<G.rules.length:=fun r _ y hy=>by
    obtain⟨q,i,-,hq,-,-,-,-,-,rfl⟩:=(hFl.w r y).1 hy
    have h1:=(hG.pl _ (zag hq))
    have h2:(G.prods.getD q pd0).left<((G.nr:Nat):Int):=h1.2
    unfold Gm.nr at h2
    show (G.prods.getD q pd0).left.toNat<_
    omega
   have hWl:∀ r,(W r).length≤1048576:=fun r=>by have:=hFl.l r;omega
   have HGa:=zaa (zg6 w.heap.size W C G.rules.length wb G.rules.length tb tc A OO hr2 hWb hWl wr hszw hway (fun r a c b o hr hc=>by
    obtain⟨cs,h1⟩:=hwn r a c b o hr hc
    exact⟨zaL h1 (by decide) (by decide),fun e=>by subst e;exact zaF h1 hscs (by decide) rfl⟩) ⟨zaL hwcs (by decide) (by decide),fun e=>by subst e;exact zaF hwcs hscs (by decide) rfl⟩ hSt)
   have Hfe:=zaa (fun r m=>fl_end hG hFl r m)
   have Hb:=zaa hb
   have htbB:=hSt.tbB
   clear hb hSt hway hwn hwcs hscs hFl hWb hWl hTab
   go_wp2_with fail
   refine(uh HGa).mono ?_
   rintro e V5 ⟨⟨v5,rfl⟩,⟨OO5,rep,C5,hs5,he5⟩,hf5⟩
   have Hbf:=zaa ((uh Hb).trans (zah hf5 hszw (fun q hq=>hq.elim (fun e=>by rw[e];exact hs5.tbB) (fun h=>h.1))))
   have Hs5:=zaa hs5
   have He5:=zaa (fun x hx m=>(he5 x hx m).trans (uh Hfe x m))
   clear hs5 he5 hf5
   go_wp2
   go_ret
   exact⟨tb,tc,w.heap.size,A,OO5,rep,C5,rfl,uh Hs5,uh He5,uh Hbf⟩
end Go.Proofs.YtagohbpbgjelaaaGreatDoor

namespace Go.Proofs.YtagohbpbgjelaaaGreatDoor
open Go.RowKit

theorem zes {V:World} {b r:Nat} (h:b≠r) (v0 v1 v2 v3 v4 v5:Value) (i:Nat):((((((V.setCell ⟨r,0,none⟩ v0).setCell ⟨r,1,none⟩ v1).setCell ⟨r,2,none⟩ v2).setCell ⟨r,3,none⟩ v3).setCell ⟨r,4,none⟩ v4).setCell ⟨r,5,none⟩ v5).cell? ⟨b,i,none⟩=V.cell? ⟨b,i,none⟩:=by
 refine World.cell?_of_block (a:=⟨b,i,none⟩) ?_
 show ((((((V.setCell ⟨r,0,none⟩ v0).setCell ⟨r,1,none⟩ v1).setCell ⟨r,2,none⟩ v2).setCell ⟨r,3,none⟩ v3).setCell ⟨r,4,none⟩ v4).setCell ⟨r,5,none⟩ v5).heap[b]? = V.heap[b]?
 rw[zaj _ h,zaj _ h,zaj _ h,zaj _ h,zaj _ h,zaj _ h]
set_option maxHeartbeats 2000000 in
set_option maxRecDepth 100000 in
theorem zpi:zic 9:=fun G hc ka pa ra qa kc pc rc qc w hin=>by
 have hG:=zbS hc
 obtain⟨w1,hw1⟩:∃ w1,w1=(w.alloc (.cells #[.slice ka G.kinds.length kc,.slice pa G.precs.length pc,.slice ra G.rules.length rc,.slice qa G.prods.length qc,.int .i64 G.start] 26)).alloc (.cells #[.slice none 0 0,.slice none 0 0,.slice none 0 0,.slice none 0 0,.slice none 0 0,.slice none 0 0] 31):=⟨_,rfl⟩
 obtain⟨hst,hb1,hs1,hbx⟩:=zq0 kc pc rc qc (Nat.le_refl _) hin hw1
 have d0:=hst.c0;have d1:=hst.c1;have d2:=hst.c2;have d3:=hst.c3;have d4:=hst.c4
 have hC:=zcL G ka pa ra qa kc pc rc qc w1 (zbD hin hb1) (zp4 hG)
 rw[hc] at hC
 have hnot:=zaG
 have HC:=zaa hC;have Hst:=zaa hst;have Hin:=zaa hin
 have Hb1:=zaa hb1;have Hbx:=zaa hbx
 clear hst hC hb1 hin hc hbx
 go_enter Tryz.func9,Tryz.ntmps9
 rw[hw1] at d0 d1 d2 d3 d4
 go_wp2_with fail
 rw[← hw1]
 refine(uh HC).mono ?_
 rintro e w2 ⟨rfl,hb2⟩
 clear d0 d1 d2 d3 d4 hw1
 have hs2:=hb2.size
 have hbw2:=(uh Hb1).trans (zab hb2 (by omega))
 have hst2:=zan (zab hb2 (by omega)) (Nat.le_refl _) (uh Hst)
 have d0:=hst2.c0;have d1:=hst2.c1;have d2:=hst2.c2;have d3:=hst2.c3;have d4:=hst2.c4
 have HNG:=zaa (zci G hG ka pa ra qa kc pc rc qc w2 (zbD (uh Hin) hbw2))
 have hbx2:=(hb2.block _ (by omega)).trans (uh Hbx)
 have Hbx2:=zaa hbx2
 have Hbw2:=zaa hbw2
 clear hb2 hbx2 hbw2 hst2 HC
 go_wp2_with fail
 refine(uh HNG).mono ?_
 rintro e w3 ⟨gb,ob,ub,rfl,hg3,hb3⟩
 have hs3:=hb3.size
 have HNB:=zaa (zfd G hG ka pa ra qa kc pc rc qc gb ob ub w3.heap.size w3 (Nat.le_refl _) hg3)
 have Hg3:=zaa hg3
 have Hbx3:=zaa ((hb3.block _ (by omega)).trans (uh Hbx2))
 have Hbw3:=zaa ((uh Hbw2).trans (zab hb3 (by have:=(uh Hbw2).size;omega)))
 clear hg3 hb3 HNG d0 d1 d2 d3 d4 Hbx2
 go_wp2_with fail
 refine(uh HNB).mono ?_
 rintro e w4 ⟨bb,nb,sb,sc,A,rfl,hbg4,hb4⟩
 have hs4:=hb4.size
 have hg4:=zaJ (uh Hg3) hb4
 have e0:w4.cell? ⟨bb,0,none⟩=some (.pointer (some ⟨gb,0,none⟩)):=by unfold World.cell?;rw[hbg4.bx];rfl
 have HRe:=zaa (zht G hG ka pa ra qa kc pc rc qc gb ob ub w3.heap.size w4 hs4 hg4)
 have Hg4:=zaa hg4;have Hbg4:=zaa hbg4
 have Hbx4:=zaa ((hb4.block _ (by omega)).trans (uh Hbx3))
 have Hbw4:=zaa ((uh Hbw3).trans (zab hb4 (uh Hbw3).size))
 clear hg4 hbg4 hb4 HNB Hbx3
 go_wp2_with fail
 refine(uh HRe).mono ?_
 rintro e w5 ⟨rb,rfl,hr5,hrb,hb5⟩
 have hs5:=hb5.size
 have hbg5:=zcf (uh Hbg4) hb5
 have hg5:=zaJ (uh Hg4) (zab hb5 hs4)
 have hbx5:=(hb5.block _ (by omega)).trans (uh Hbx4)
 have Hbw5:=zaa ((uh Hbw4).trans (zab hb5 (uh Hbw4).size))
 have hbxl:bb<w5.heap.size:=(Array.getElem?_eq_some_iff.1 hbg5.bx).1
 have f0:w5.cell? ⟨bb,0,none⟩=some (.pointer (some ⟨gb,0,none⟩)):=by unfold World.cell?;rw[hbg5.bx];rfl
 have f1:w5.cell? ⟨bb,1,none⟩=some (.slice (some ⟨nb,0,none⟩) G.rules.length G.rules.length):=by unfold World.cell?;rw[hbg5.bx];rfl
 have f2:w5.cell? ⟨bb,2,none⟩=some (.slice (some ⟨sb,0,none⟩) G.rules.length sc):=by unfold World.cell?;rw[hbg5.bx];rfl
 have hr2:=hG.r2;have hr1:=hG.r1
 unfold Gm.nr at hr2 hr1
 have HS:Hid (∀ V,Below w5.heap.size w5 V→V.cell? ⟨bb,0,none⟩=some (.pointer (some ⟨gb,0,none⟩))∧V.cell? ⟨bb,1,none⟩=some (.slice (some ⟨nb,0,none⟩) G.rules.length G.rules.length)∧V.cell? ⟨bb,2,none⟩=some (.slice (some ⟨sb,0,none⟩) G.rules.length sc)):=zaa (fun V hV=>⟨(hV.cell (p:=⟨bb,0,none⟩) hbxl).trans f0,(hV.cell (p:=⟨bb,1,none⟩) hbxl).trans f1,(hV.cell (p:=⟨bb,2,none⟩) hbxl).trans f2⟩)
 have H34:Hid (∀ V,Below w5.heap.size w5 V→Calls Tryz.prog 34 #[.pointer (some ⟨gb,0,none⟩)] V fun e w'=>∃ b:Nat,e=.returned (.slice (some ⟨b,0,none⟩) G.rules.length G.rules.length)∧w'.rowIs b 4 G.rules.length (fun r=>.bool (zcQ G r))∧Below V.heap.size V w'∧Below w5.heap.size w5 w'):=zaa (fun V hV=>(zbU G hG ka pa ra qa kc pc rc qc gb ob ub w3.heap.size V (by have:=hV.size;omega) (zaJ hg5 (zab hV (by omega)))).mono fun e w' ⟨b,h1,h2,_,h4⟩=>⟨b,h1,h2,h4,hV.trans (zab h4 hV.size)⟩)
 have H35:Hid (∀ V,Below w5.heap.size w5 V→Calls Tryz.prog 35 #[.pointer (some ⟨bb,0,none⟩)] V fun e w'=>∃ b:Nat,e=.returned (.slice (some ⟨b,0,none⟩) G.rules.length G.rules.length)∧w'.rowIs b 4 G.rules.length (fun r=>.bool (zop G r r))∧Below V.heap.size V w'∧Below w5.heap.size w5 w'):=zaa (fun V hV=>(zlH G hG ka pa ra qa kc pc rc qc gb ob ub w3.heap.size _ bb nb sb sc A V (by have:=hV.size;omega) (zaJ hg5 (zab hV (by omega))) (zcf hbg5 hV)).mono fun e w' ⟨b,h1,h2,_,h4⟩=>⟨b,h1,h2,h4,hV.trans (zab h4 hV.size)⟩)
 have H36:Hid (∀ V,Below w5.heap.size w5 V→Calls Tryz.prog 36 #[.slice (some ⟨sb,0,none⟩) G.rules.length sc] V fun e w'=>∃ a c,e=.returned (.slice a (zfC (zeu G) G.nk G.rules.length).length c)∧(∀ W,zc7 w5.heap.size w' W→zlO W a (zfC (zeu G) G.nk G.rules.length))∧Below V.heap.size V w'∧Below w5.heap.size w5 w'):=zaa (fun V hV=>by
  obtain⟨OO,rep,C,h1,h2⟩:=(zcf hbg5 hV).st
  exact(ziE sb sc G.rules.length G.nk _ A OO rep C (zeu G) (by omega) V (ze6 (uh Hin).tab (Nat.le_refl _) ((uh Hbw5).trans (zab hV (uh Hbw5).size))) (fun x hx m=>(h2 x hx m).trans (and_congr Iff.rfl (zdI _ _ _).symm)) (fun x k hk=>zqg hG ((zdI _ _ _).1 hk)) h1).mono fun e w' ⟨a,c,h1,h2,h4⟩=>⟨a,c,h1,fun W hW=>h2 W ⟨hW.1,fun k hk hl=>hW.2 k (Nat.le_trans hV.size hk) hl⟩,h4,hV.trans (zab h4 hV.size)⟩)
 have H37:Hid (∀ V,Below w5.heap.size w5 V→Calls Tryz.prog 37 #[.pointer (some ⟨bb,0,none⟩),.slice (some ⟨rb,0,none⟩) G.rules.length G.rules.length] V fun e w'=>∃ tb tc B A OO rep C,e=.returned (.slice (some ⟨tb,0,none⟩) G.rules.length tc)∧SetsV B w' tb G.rules.length A OO rep C∧(∀ x,x<G.rules.length→∀ m,C (rep x) m=true↔0≤m∧Flw G x m.toNat)∧Below V.heap.size V w'∧Below w5.heap.size w5 w'):=zaa (fun V hV=>(zly G hG ka pa ra qa kc pc rc qc gb ob ub w3.heap.size _ bb nb sb sc rb A V (by have:=hV.size;omega) (zaJ hg5 (zab hV (by omega))) (zcf hbg5 hV) (zaw hr5 hV)).mono fun e w' ⟨tb,tc,B,A,OO,rep,C,h1,h2,h3,h4⟩=>⟨tb,tc,B,A,OO,rep,C,h1,h2,h3,h4,hV.trans (zab h4 hV.size)⟩)
 have H38:Hid (∀ V tb tc B A OO rep C,SetsV B V tb G.rules.length A OO rep C→(∀ x,x<G.rules.length→∀ m,C (rep x) m=true↔0≤m∧Flw G x m.toNat)→Below w5.heap.size w5 V→Calls Tryz.prog 36 #[.slice (some ⟨tb,0,none⟩) G.rules.length tc] V fun e w'=>∃ a c,e=.returned (.slice a (zfC (zos G) G.nk G.rules.length).length c)∧(∀ W,zc7 w5.heap.size w' W→zlO W a (zfC (zos G) G.nk G.rules.length))∧Below V.heap.size V w'∧Below w5.heap.size w5 w'):=zaa (fun V tb tc B A OO rep C h1 h2 hV=>(ziE tb tc G.rules.length G.nk B A OO rep C (zos G) (by omega) V (ze6 (uh Hin).tab (Nat.le_refl _) ((uh Hbw5).trans (zab hV (uh Hbw5).size))) (fun x hx m=>(h2 x hx m).trans (and_congr Iff.rfl (znF _ _ _).symm)) (fun x k hk=>flw_lt hG ((znF _ _ _).1 hk)) h1).mono fun e w' ⟨a,c,h1,h2,h4⟩=>⟨a,c,h1,fun W hW=>h2 W ⟨hW.1,fun k hk hl=>hW.2 k (Nat.le_trans hV.size hk) hl⟩,h4,hV.trans (zab h4 hV.size)⟩)
 have hbne:bb≠w.heap.size+1:=by have h1:=hbg5.b1;have h2:=(uh Hbw2).size;omega
 have HSt:Hid (∀ V:World,(fun V:World=>V.cell? ⟨bb,0,none⟩=some (.pointer (some ⟨gb,0,none⟩))∧V.cell? ⟨bb,1,none⟩=some (.slice (some ⟨nb,0,none⟩) G.rules.length G.rules.length)∧V.cell? ⟨bb,2,none⟩=some (.slice (some ⟨sb,0,none⟩) G.rules.length sc)) V→∀ v0 v1 v2 v3 v4 v5:Value,(fun V:World=>V.cell? ⟨bb,0,none⟩=some (.pointer (some ⟨gb,0,none⟩))∧V.cell? ⟨bb,1,none⟩=some (.slice (some ⟨nb,0,none⟩) G.rules.length G.rules.length)∧V.cell? ⟨bb,2,none⟩=some (.slice (some ⟨sb,0,none⟩) G.rules.length sc)) ((((((V.setCell ⟨w.heap.size+1,0,none⟩ v0).setCell ⟨w.heap.size+1,1,none⟩ v1).setCell ⟨w.heap.size+1,2,none⟩ v2).setCell ⟨w.heap.size+1,3,none⟩ v3).setCell ⟨w.heap.size+1,4,none⟩ v4).setCell ⟨w.heap.size+1,5,none⟩ v5)):=zaa (fun V hV v0 v1 v2 v3 v4 v5=>by
  obtain⟨k0,k1,k2⟩:=hV
  exact⟨(zes hbne v0 v1 v2 v3 v4 v5 0).trans k0,(zes hbne v0 v1 v2 v3 v4 v5 1).trans k1,(zes hbne v0 v1 v2 v3 v4 v5 2).trans k2⟩)
 have Hnu:=zaa hbg5.nu
 have Hbx5:=zaa hbx5;have Hr5:=zaa hr5
 have HX:Hid (∀ V,Below w5.heap.size w5 V→V.heap[w.heap.size+1]? = some (.cells #[.slice none 0 0,.slice none 0 0,.slice none 0 0,.slice none 0 0,.slice none 0 0,.slice none 0 0] 31)):=zaa (fun V hV=>(hV.block _ (by omega)).trans hbx5)
 have hS:Below w5.heap.size w5 w5:=Below.refl _ _
 generalize hPF:zfC (zeu G) G.nk G.rules.length=PF at *
 generalize hPV:zfC (zos G) G.nk G.rules.length=PV at *
 have HPF:=zaa hPF;have HPV:=zaa hPV
 clear hbg5 hg5 hbx5 hb5 HRe e0 hr5 hPF hPV
 go_wp2_with fail
 have hS0:Below w5.heap.size w5 w5.drew:=(Below.refl _ _).drew
 refine wp_region_held_drew (S:=(fun V:World=>V.cell? ⟨bb,0,none⟩=some (.pointer (some ⟨gb,0,none⟩))∧V.cell? ⟨bb,1,none⟩=some (.slice (some ⟨nb,0,none⟩) G.rules.length G.rules.length)∧V.cell? ⟨bb,2,none⟩=some (.slice (some ⟨sb,0,none⟩) G.rules.length sc))) (by kernel_rfl) (uh HS _ hS0) (fun hH_=>?_)
 clear hS
 have hS:=hS0
 clear hS0
 refine zac (i:=0) (dst:=some 18) (v:=?_) rfl rfl (by kernel_rfl) (by kernel_rfl) (by kernel_rfl) (fun _ _ _ h=>h) (Or.inl ⟨by rfl,?_⟩) hH_ ?_
 rotate_left
 ·intro w hSw;obtain⟨k0,k1,k2⟩:=hSw;go_simp;try (with_reducible rfl)
 simp only[Act.put,zsA,zsB,zsC]
 refine zac (i:=1) (dst:=some 19) (v:=?_) rfl rfl (by kernel_rfl) (by kernel_rfl) (by kernel_rfl) (fun _ _ _ h=>h) (Or.inl ⟨by rfl,?_⟩) hH_ ?_
 rotate_left
 ·intro w hSw;obtain⟨k0,k1,k2⟩:=hSw;go_simp;try (with_reducible rfl)
 simp only[Act.put,zsA,zsB,zsC]
 refine zac (i:=2) (dst:=some 20) (v:=?_) rfl rfl (by kernel_rfl) (by kernel_rfl) (by kernel_rfl) (fun _ _ _ h=>h) (Or.inl ⟨by rfl,?_⟩) hH_ ?_
 rotate_left
 ·intro w hSw;obtain⟨k0,k1,k2⟩:=hSw;go_simp;try (with_reducible rfl)
 simp only[Act.put,zsA,zsB,zsC]
 refine zac (i:=3) (dst:=some 21) (v:=?_) rfl rfl (by kernel_rfl) (by kernel_rfl) (by kernel_rfl) (fun _ _ _ h=>h) (Or.inl ⟨by rfl,?_⟩) hH_ ?_
 rotate_left
 ·intro w hSw;obtain⟨k0,k1,k2⟩:=hSw;go_simp;try (with_reducible rfl)
 simp only[Act.put,zsA,zsB,zsC]
 refine zac (i:=4) (dst:=some 22) (v:=?_) rfl rfl (by kernel_rfl) (by kernel_rfl) (by kernel_rfl) (fun _ _ _ h=>h) (Or.inl ⟨by rfl,?_⟩) hH_ ?_
 rotate_left
 ·intro w hSw;obtain⟨k0,k1,k2⟩:=hSw;go_simp;try (with_reducible rfl)
 simp only[Act.put,zsA,zsB,zsC]
 refine zac (i:=5) (dst:=some 23) (v:=?_) rfl rfl (by kernel_rfl) (by kernel_rfl) (by kernel_rfl) (fun _ _ _ h=>h) (Or.inl ⟨by rfl,?_⟩) hH_ ?_
 rotate_left
 ·intro w hSw;obtain⟨k0,k1,k2⟩:=hSw;go_simp;try (with_reducible rfl)
 simp only[Act.put,zsA,zsB,zsC]
 refine zac (i:=6) (dst:=some 24) (v:=?_) rfl rfl (by kernel_rfl) (by kernel_rfl) (by kernel_rfl) (fun _ _ _ h=>h) (Or.inl ⟨by rfl,?_⟩) hH_ ?_
 rotate_left
 ·intro w hSw;obtain⟨k0,k1,k2⟩:=hSw;go_simp;try (with_reducible rfl)
 simp only[Act.put,zsA,zsB,zsC]
 refine zac (i:=7) (dst:=some 25) (v:=?_) rfl rfl (by kernel_rfl) (by kernel_rfl) (by kernel_rfl) (fun _ _ _ h=>h) (Or.inl ⟨by rfl,?_⟩) hH_ ?_
 rotate_left
 ·intro w hSw;obtain⟨k0,k1,k2⟩:=hSw;go_simp;try (with_reducible rfl)
 simp only[Act.put,zsA,zsB,zsC]
 refine zac (i:=9) (dst:=some 27) (v:=?_) rfl rfl (by kernel_rfl) (by kernel_rfl) (by kernel_rfl) (fun _ _ _ h=>h) (Or.inl ⟨by rfl,?_⟩) hH_ ?_
 rotate_left
 ·intro w hSw;obtain⟨k0,k1,k2⟩:=hSw;go_simp;try (with_reducible rfl)
 simp only[Act.put,zsA,zsB,zsC]
 refine zac (i:=10) (dst:=some 28) (v:=?_) rfl rfl (by kernel_rfl) (by kernel_rfl) (by kernel_rfl) (fun _ _ _ h=>h) (Or.inl ⟨by rfl,?_⟩) hH_ ?_
 rotate_left
 ·intro w hSw;obtain⟨k0,k1,k2⟩:=hSw;go_simp;try (with_reducible rfl)
 simp only[Act.put,zsA,zsB,zsC]
 refine zac (i:=12) (dst:=some 30) (v:=?_) rfl rfl (by kernel_rfl) (by kernel_rfl) (by kernel_rfl) (fun _ _ _ h=>h) (Or.inl ⟨by rfl,?_⟩) hH_ ?_
 rotate_left
 ·intro w hSw;obtain⟨k0,k1,k2⟩:=hSw;go_simp;try (with_reducible rfl)
 simp only[Act.put,zsA,zsB,zsC]
 refine zac (i:=13) (dst:=some 31) (v:=?_) rfl rfl (by kernel_rfl) (by kernel_rfl) (by kernel_rfl) (fun _ _ _ h=>h) (Or.inl ⟨by rfl,?_⟩) hH_ ?_
 rotate_left
 ·intro w hSw;obtain⟨k0,k1,k2⟩:=hSw;go_simp;try (with_reducible rfl)
 simp only[Act.put,zsA,zsB,zsC]
 refine zac (i:=14) (dst:=some 32) (v:=?_) rfl rfl (by kernel_rfl) (by kernel_rfl) (by kernel_rfl) (fun _ _ _ h=>h) (Or.inl ⟨by rfl,?_⟩) hH_ ?_
 rotate_left
 ·intro w hSw;obtain⟨k0,k1,k2⟩:=hSw;go_simp;try (with_reducible rfl)
 simp only[Act.put,zsA,zsB,zsC]
 refine zac (i:=15) (dst:=some 33) (v:=?_) rfl rfl (by kernel_rfl) (by kernel_rfl) (by kernel_rfl) (fun _ _ _ h=>h) (Or.inl ⟨by rfl,?_⟩) hH_ ?_
 rotate_left
 ·intro w hSw;obtain⟨k0,k1,k2⟩:=hSw;go_simp;try (with_reducible rfl)
 simp only[Act.put,zsA,zsB,zsC]
 refine zac (i:=17) (dst:=some 35) (v:=?_) rfl rfl (by kernel_rfl) (by kernel_rfl) (by kernel_rfl) (fun _ _ _ h=>h) (Or.inl ⟨by rfl,?_⟩) hH_ ?_
 rotate_left
 ·intro w hSw;obtain⟨k0,k1,k2⟩:=hSw;go_simp;try (with_reducible rfl)
 simp only[Act.put,zsA,zsB,zsC]
 refine zac (i:=18) (dst:=some 36) (v:=?_) rfl rfl (by kernel_rfl) (by kernel_rfl) (by kernel_rfl) (fun _ _ _ h=>h) (Or.inl ⟨by rfl,?_⟩) hH_ ?_
 rotate_left
 ·intro w hSw;obtain⟨k0,k1,k2⟩:=hSw;go_simp;try (with_reducible rfl)
 simp only[Act.put,zsA,zsB,zsC]
 refine wpAnyH_ready (rs:=[8]) (by kernel_rfl) (by simp) ?_
 refine AllReadyH.cons rfl (fun K hK=>?_) AllReadyH.nil
 go_simp
 refine(uh H34 _ hS).mono ?_
 rintro e V1 ⟨pb,rfl,hp,hb1,hS1⟩
 have Hpr:=zaa hp
 clear hp hb1 hS
 go_wp2_with fail
 refine hK.out _ _ (uh HS _ hS1) (fun hH_=>?_)
 clear hK K
 refine wpAnyH_ready (rs:=[11]) (by kernel_rfl) (by simp) ?_
 refine AllReadyH.cons rfl (fun K hK=>?_) AllReadyH.nil
 go_simp
 refine(uh H35 _ hS1).mono ?_
 rintro e V2 ⟨cb,rfl,hc,hb2,hS2⟩
 have Hpr:=zaa ((uh Hpr).of_block (hb2.block _ (uh Hpr).lt));have Hcr:=zaa hc
 clear hc hb2 hS1
 go_wp2_with fail
 refine hK.out _ _ (uh HS _ hS2) (fun hH_=>?_)
 clear hK K
 refine wpAnyH_ready (rs:=[16]) (by kernel_rfl) (by simp) ?_
 refine AllReadyH.cons rfl (fun K hK=>?_) AllReadyH.nil
 go_simp
 refine(uh H36 _ hS2).mono ?_
 rintro e V3 ⟨fa,fc,rfl,hf,hb3,hS3⟩
 have Hpr:=zaa ((uh Hpr).of_block (hb3.block _ (uh Hpr).lt));have Hcr:=zaa ((uh Hcr).of_block (hb3.block _ (uh Hcr).lt));have Hf:=zaa hf
 clear hf hb3 hS2
 go_wp2_with fail
 refine hK.out _ _ (uh HS _ hS3) (fun hH_=>?_)
 clear hK K
 refine wpAnyH_ready (rs:=[19]) (by kernel_rfl) (by simp) ?_
 refine AllReadyH.cons rfl (fun K hK=>?_) AllReadyH.nil
 go_simp
 refine(uh H37 _ hS3).mono ?_
 rintro e V4 ⟨tb,tc,B4,A4,OO4,rep4,C4,rfl,ht4,hC4,hb4,hS4⟩
 have Hpr:=zaa ((uh Hpr).of_block (hb4.block _ (uh Hpr).lt));have Hcr:=zaa ((uh Hcr).of_block (hb4.block _ (uh Hcr).lt));have Hf:=zaa (fun W h=>uh Hf W (ziA (zeL hb4) h));have H38:=zaa (uh H38 V4 tb tc B4 A4 OO4 rep4 C4 ht4 hC4 hS4)
 clear ht4 hC4 hb4 hS3
 go_wp2_with fail
 refine hK.out _ _ (uh HS _ hS4) (fun hH_=>?_)
 clear hK K
 refine wpAnyH_ready (rs:=[20]) (by kernel_rfl) (by simp) ?_
 refine AllReadyH.cons rfl (fun K hK=>?_) AllReadyH.nil
 go_simp
 refine(uh H38).mono ?_
 rintro e V5 ⟨va,vc,rfl,hv,hb5,hS5⟩
 have Hpr:=zaa ((uh Hpr).of_block (hb5.block _ (uh Hpr).lt));have Hcr:=zaa ((uh Hcr).of_block (hb5.block _ (uh Hcr).lt));have Hf:=zaa (fun W h=>uh Hf W (ziA (zeL hb5) h));have Hv:=zaa hv;have hX:=uh HX _ hS5
 clear hv hb5 hS4
 go_wp2_with fail
 refine hK.out _ _ (uh HS _ hS5) (fun hH_=>?_)
 clear hK K
 refine zac (i:=21) (dst:=some 39) (v:=?_) rfl rfl (by kernel_rfl) (by kernel_rfl) (by kernel_rfl) (fun _ _ _ h=>h) (Or.inl ⟨by rfl,?_⟩) hH_ ?_
 rotate_left
 ·intro w hSw;obtain⟨k0,k1,k2⟩:=hSw;go_simp;try (with_reducible rfl)
 simp only[Act.put,zsA,zsB,zsC]
 have HX5:=zaa hX
 obtain⟨r0,r1,r2,r3,r4,r5,z0,z1,z2,z3,z4,z5⟩:=zfX hX
 clear hX
 refine wpAnyH_ready (rs:=[22]) (by kernel_rfl) (by simp) ?_
 refine AllReadyH.cons rfl (fun K hK=>?_) AllReadyH.nil
 go_simp
 refine hK.out _ _ (uh HSt _ (uh HS _ hS5) _ _ _ _ _ _) (fun hH_=>?_)
 clear hK K
 clear r0 r1 r2 r3 r4 r5 z0 z1 z2 z3 z4 z5
 refine zac (i:=23) (dst:=some 3) (v:=?_) rfl rfl (by kernel_rfl) (by kernel_rfl) (by kernel_rfl) (fun _ _ _ h=>h) (Or.inl ⟨by rfl,?_⟩) hH_ ?_
 rotate_left
 ·intro w hSw;obtain⟨k0,k1,k2⟩:=hSw;go_simp;try (with_reducible rfl)
 simp only[Act.put,zsA,zsB,zsC]
 refine wpAnyH_done (by kernel_rfl) ?_ _
 have hsix:=set6 (uh HX5) (.slice (some ⟨nb,0,none⟩) G.rules.length G.rules.length) (.slice (some ⟨pb,0,none⟩) G.rules.length G.rules.length) (.slice (some ⟨rb,0,none⟩) G.rules.length G.rules.length) (.slice (some ⟨cb,0,none⟩) G.rules.length G.rules.length) (.slice fa PF.length fc) (.slice va PV.length vc)
 go_wp2
 obtain⟨wF,hwF⟩:∃ wF,wF=(((((V5.setCell ⟨w.heap.size+1,0,none⟩ (.slice (some ⟨nb,0,none⟩) G.rules.length G.rules.length)).setCell ⟨w.heap.size+1,1,none⟩ (.slice (some ⟨pb,0,none⟩) G.rules.length G.rules.length)).setCell ⟨w.heap.size+1,2,none⟩ (.slice (some ⟨rb,0,none⟩) G.rules.length G.rules.length)).setCell ⟨w.heap.size+1,3,none⟩ (.slice (some ⟨cb,0,none⟩) G.rules.length G.rules.length)).setCell ⟨w.heap.size+1,4,none⟩ (.slice fa PF.length fc)).setCell ⟨w.heap.size+1,5,none⟩ (.slice va PV.length vc):=⟨_,rfl⟩
 rw[← hwF] at hsix ⊢
 clear hwF
 obtain⟨hbF,hFr⟩:=hsix
 obtain⟨g0,g1,g2,g3,g4,g5,-⟩:=zfX hbF
 have hrow:∀ (k:Nat) (f:Nat→Value),V5.rowIs k 4 G.rules.length f→wF.rowIs k 4 G.rules.length f:=fun k f h=>zfp h hFr (zij (uh HX5) h (by decide))
 have hz5:=hS5.size
 have hnk:zc7 w5.heap.size V5 wF:=zln hFr (fun k hk=>by have hk:k=w.heap.size+1:=hk;omega)
 have hl1:(zaC (zaO G) G.nr).length=G.rules.length:=zbk _ _
 have hl2:(zaC (zcQ G) G.nr).length=G.rules.length:=zbk _ _
 have hl3:(zaC (atF G) G.nr).length=G.rules.length:=zbk _ _
 have hl4:(zaC (fun r=>zop G r r) G.nr).length=G.rules.length:=zbk _ _
 have hp1:zfC (zeu G) G.nk G.nr=PF:=uh HPF
 have hp2:zfC (zos G) G.nk G.nr=PV:=uh HPV
 refine bodyPost_ret (v:=.tuple #[.agg #[.slice (some ⟨nb,0,none⟩) G.rules.length G.rules.length,.slice (some ⟨pb,0,none⟩) G.rules.length G.rules.length,.slice (some ⟨rb,0,none⟩) G.rules.length G.rules.length,.slice (some ⟨cb,0,none⟩) G.rules.length G.rules.length,.slice fa PF.length fc,.slice va PV.length vc],.int .i64 0]) ?zz8 rfl ⟨some ⟨nb,0,none⟩,G.rules.length,some ⟨pb,0,none⟩,G.rules.length,some ⟨rb,0,none⟩,G.rules.length,some ⟨cb,0,none⟩,G.rules.length,fa,fc,va,vc,?_⟩
 case zz8=>simp[results,Tryz.results9,go_sem,g0,g1,g2,g3,g4,g5]
 rw[hl1,hl2,hl3,hl4,hp1,hp2]
 exact⟨rfl,zea (hrow _ _ (zaw (uh Hnu) hS5)),zea (hrow _ _ (uh Hpr)),zea (hrow _ _ (zaw (uh Hr5) hS5)),zea (hrow _ _ (uh Hcr)),uh Hf _ hnk,uh Hv _ hnk,((uh Hbw5).trans (zab hS5 (uh Hbw5).size)).trans (zah hFr (by have:=(uh Hbw5).size;omega) (fun k hk=>by have hk:k=w.heap.size+1:=hk;omega))⟩
end Go.Proofs.YtagohbpbgjelaaaGreatDoor

/- The document's Same, where both are the same. -/
import Derived.Test.YtagohbpbgjelaaaGreatDoorR1
import Derived.Test.YtagohbpbgjelaaaGreatDoorL2
import Derived.Test.YtagohbpbgjelaaaGreatDoorP0
import Derived.Test.YtagohbpbgjelaaaGreatDoorA5
namespace Go.Proofs.YtagohbpbgjelaaaGreatDoor
open Go.RowKit

theorem boxGG (w:World) (v0 v1 v2 v3 v4 u0 u1 u2 u3 u4:Value) (t s:TypeId):∃ w1,w1=(w.alloc (.cells #[v0,v1,v2,v3,v4] t)).alloc (.cells #[u0,u1,u2,u3,u4] s)∧w1.cell? ⟨w.heap.size,0,none⟩=some v0∧w1.cell? ⟨w.heap.size,1,none⟩=some v1∧w1.cell? ⟨w.heap.size,2,none⟩=some v2∧w1.cell? ⟨w.heap.size,3,none⟩=some v3∧w1.cell? ⟨w.heap.size,4,none⟩=some v4∧w1.cell? ⟨w.heap.size+1,0,none⟩=some u0∧w1.cell? ⟨w.heap.size+1,1,none⟩=some u1∧w1.cell? ⟨w.heap.size+1,2,none⟩=some u2∧w1.cell? ⟨w.heap.size+1,3,none⟩=some u3∧w1.cell? ⟨w.heap.size+1,4,none⟩=some u4∧w1.heap.size=w.heap.size+2∧Below w.heap.size w w1:=by
 have h0:(w.alloc (.cells #[v0,v1,v2,v3,v4] t)).heap.size=w.heap.size+1:=by simp
 have h1:((w.alloc (.cells #[v0,v1,v2,v3,v4] t)).alloc (.cells #[u0,u1,u2,u3,u4] s)).heap[w.heap.size]? = some (.cells #[v0,v1,v2,v3,v4] t):=(Below.heap_alloc _ _ _ (by omega)).trans (Go.Deep.blk_alloc_new _ _)
 have h2:((w.alloc (.cells #[v0,v1,v2,v3,v4] t)).alloc (.cells #[u0,u1,u2,u3,u4] s)).heap[w.heap.size+1]? = some (.cells #[u0,u1,u2,u3,u4] s):=by rw[← h0];exact Go.Deep.blk_alloc_new _ _
 refine⟨_,rfl,?_,?_,?_,?_,?_,?_,?_,?_,?_,?_,by simp,((Below.refl _ _).alloc (Nat.le_refl _) _).alloc (by omega) _⟩ <;> (unfold World.cell?;first | (rw[h1];rfl) | (rw[h2];rfl))
theorem zcA (w:World) (a b:Obj):((w.alloc a).alloc b).drew.heap[w.heap.size]? = some a∧((w.alloc a).alloc b).drew.heap[w.heap.size+1]? = some b∧Below w.heap.size w ((w.alloc a).alloc b).drew:=by
 have h0:(w.alloc a).heap.size=w.heap.size+1:=by simp
 refine⟨(Below.heap_alloc _ _ _ (by omega)).trans (Go.Deep.blk_alloc_new _ _),?_,(((Below.refl _ _).alloc (Nat.le_refl _) _).alloc (by omega) _).drew⟩
 rw[← h0];exact Go.Deep.blk_alloc_new _ _
theorem za7 {w:World} {b:Nat} {t:TypeId} {a0 a1 a2 a3 a4 a5 a6:Value} (h:w.heap[b]? = some (.cells #[a0,a1,a2,a3,a4,a5,a6] t)):w.cell? ⟨b,0,none⟩=some a0∧w.cell? ⟨b,1,none⟩=some a1∧w.cell? ⟨b,2,none⟩=some a2∧w.cell? ⟨b,3,none⟩=some a3∧w.cell? ⟨b,4,none⟩=some a4∧w.cell? ⟨b,5,none⟩=some a5∧w.cell? ⟨b,6,none⟩=some a6:=by
 refine⟨?_,?_,?_,?_,?_,?_,?_⟩ <;> (unfold World.cell?;rw[h];rfl)
theorem zch {B B':Nat} {w:World} {a:Option Addr} {l:List Int} (hB:B≤B') (h:NRow B w a l):NRow B' w a l:=by
 rcases h with h | ⟨b,off,h1,h2,h3⟩
 ·exact .inl h
 ·exact .inr ⟨b,off,h1,by omega,h3⟩
theorem zet {w w':World} {a:Option Addr} {l:List (List UInt8)} (h:zez w.heap.size w a l) (hb:Below w.heap.size w w'):zez w'.heap.size w' a l:=by
 rcases zfW hb h with h | ⟨b,off,h1,h2,h3⟩
 ·exact .inl h
 ·exact .inr ⟨b,off,h1,Nat.lt_of_lt_of_le h2 hb.size,h3⟩

set_option maxHeartbeats 2000000 in
set_option maxRecDepth 100000 in
theorem zoO (G:Gm) (ka pa ra qa la ma sa ta:Option Addr) (kc pc rc qc lc mc sc tc:Nat) (w:World) (h1:GIn w.heap.size w G ka pa ra qa) (h2:GIn w.heap.size w G la ma sa ta) (hk:G.kinds.length≤281474976710656) (hr:G.rules.length≤281474976710656) (hp:G.precs.length≤281474976710656) (hq:G.prods.length≤281474976710656) (hx:∀ p,p ∈ G.prods→p.right.length≤281474976710656∧zb5 p.act) :
 Calls Tryz.prog 22 #[.agg #[.slice ka G.kinds.length kc,.slice pa G.precs.length pc,.slice ra G.rules.length rc,.slice qa G.prods.length qc,.int .i64 G.start],.agg #[.slice la G.kinds.length lc,.slice ma G.precs.length mc,.slice sa G.rules.length sc,.slice ta G.prods.length tc,.int .i64 G.start]] w fun e w'=>e=.returned (.bool true)∧Below w.heap.size w w':=by
 obtain⟨w1,hw1,c0,c1,c2,c3,c4,d0,d1,d2,d3,d4,hs1,hb1⟩:=boxGG w (.slice ka G.kinds.length kc) (.slice pa G.precs.length pc) (.slice ra G.rules.length rc) (.slice qa G.prods.length qc) (.int .i64 G.start) (.slice la G.kinds.length lc) (.slice ma G.precs.length mc) (.slice sa G.rules.length sc) (.slice ta G.prods.length tc) (.int .i64 G.start) 26 26
 have hk1:=zet h1.kinds hb1;have hk2:=zet h2.kinds hb1;have hr1:=zet h1.rules hb1;have hr2:=zet h2.rules hb1
 have Hk:=zaa (show zez w1.heap.size w1 ka G.kinds∧zez w1.heap.size w1 la G.kinds from⟨hk1,hk2⟩)
 have Hr:=zaa (show zez w1.heap.size w1 ra G.rules∧zez w1.heap.size w1 sa G.rules from⟨hr1,hr2⟩)
 have HP1:=zaa h1.precs;have HP2:=zaa h2.precs;have HQ1:=zaa h1.prods;have HQ2:=zaa h2.prods;have Hx:=zaa hx;have Hb1:=zaa hb1
 clear h1 h2 hx hb1 hk1 hk2 hr1 hr2
 have hnot:=zaG
 go_enter Tryz.func22,Tryz.ntmps22
 rw[hw1] at c0 c1 c2 c3 c4 d0 d1 d2 d3 d4
 go_wp2_with fail
 rw[← hw1] at c0 c1 c2 c3 c4 d0 d1 d2 d3 d4 ⊢
 clear hw1
 refine(zdl _ _ _ _ _ hk _ (uh Hk).1 (uh Hk).2).mono ?_
 rintro e w2 ⟨rfl,q,rfl⟩
 go_wp2_with fail
 refine(zdl ra sa rc sc G.rules hr (w1.drewN q) (show zez (w1.drewN q).heap.size (w1.drewN q) ra G.rules from(uh Hr).1) (show zez (w1.drewN q).heap.size (w1.drewN q) sa G.rules from(uh Hr).2)).mono ?_
 rintro e w2 ⟨rfl,q2,rfl⟩
 have Hb2:=zaa (zaq (zaq (uh Hb1) q) q2)
 have hs2:((w1.drewN q).drewN q2).heap.size=w.heap.size+2:=hs1
 have Hc:Hid (∀ W:World,Below (w.heap.size+2) ((w1.drewN q).drewN q2) W→W.cell? ⟨w.heap.size,1,none⟩=some (.slice pa G.precs.length pc)∧W.cell? ⟨w.heap.size,3,none⟩=some (.slice qa G.prods.length qc)∧W.cell? ⟨w.heap.size+1,1,none⟩=some (.slice ma G.precs.length mc)∧W.cell? ⟨w.heap.size+1,3,none⟩=some (.slice ta G.prods.length tc)):=zaa (fun W hW=>⟨(hW.cell (p:=⟨w.heap.size,1,none⟩) (by show w.heap.size<_;omega)).trans c1,(hW.cell (p:=⟨w.heap.size,3,none⟩) (by show w.heap.size<_;omega)).trans c3,(hW.cell (p:=⟨w.heap.size+1,1,none⟩) (by show w.heap.size+1<_;omega)).trans d1,(hW.cell (p:=⟨w.heap.size+1,3,none⟩) (by show w.heap.size+1<_;omega)).trans d3⟩)
 have C1:((w1.drewN q).drewN q2).cell? _=_:=c1
 have C3:((w1.drewN q).drewN q2).cell? _=_:=c3
 have C4:((w1.drewN q).drewN q2).cell? _=_:=c4
 have D1:((w1.drewN q).drewN q2).cell? _=_:=d1
 have D3:((w1.drewN q).drewN q2).cell? _=_:=d3
 have D4:((w1.drewN q).drewN q2).cell? _=_:=d4
 clear c0 c1 c2 c3 c4 d0 d1 d2 d3 d4 Hb1 hs1 Hk Hr
 generalize (w1.drewN q).drewN q2=w2 at *
 go_wp2
 clear C1 C3 C4 D1 D3 D4
 go_loopw [5] (fun x wr=>∃ k:Nat,x=.int .i64 k∧k≤G.precs.length∧∃ q,wr=w2.drewN q) (fun x _=>G.precs.length - (intOf x).toNat)
 case atStart=>exact⟨0,rfl,Nat.zero_le _,0,rfl⟩
 case round =>
  obtain⟨k,rfl,hk2,q,rfl⟩:=hrel
  obtain⟨C1,C3,D1,D3⟩:=uh Hc (w2.drewN q) (zaq (Below.refl _ _) q)
  by_cases hlt:k<G.precs.length
  ·have hlt':(k:Int)<G.precs.length:=by omega
   obtain⟨b1,o1,rfl,hb1,e1,f1⟩:=zfe (uh HP1) hlt
   obtain⟨b2,o2,rfl,hb2,e2,f2⟩:=zfe (uh HP2) hlt
   have e1':(w2.drewN q).cell? ⟨b1,o1+k * 2,none⟩=_:=((uh Hb2).cell (p:=⟨b1,o1+k * 2,none⟩) hb1).trans e1
   have f1':(w2.drewN q).cell? ⟨b1,o1+k * 2+1,none⟩=_:=((uh Hb2).cell (p:=⟨b1,o1+k * 2+1,none⟩) hb1).trans f1
   have e2':(w2.drewN q).cell? ⟨b2,o2+k * 2,none⟩=_:=((uh Hb2).cell (p:=⟨b2,o2+k * 2,none⟩) hb2).trans e2
   have f2':(w2.drewN q).cell? ⟨b2,o2+k * 2+1,none⟩=_:=((uh Hb2).cell (p:=⟨b2,o2+k * 2+1,none⟩) hb2).trans f2
   clear e1 f1 e2 f2
   generalize (G.precs.getD k (0,0)).1=x at *
   generalize (G.precs.getD k (0,0)).2=y at *
   generalize hW:w2.drewN q=W at *
   go_wp2
   go_quiet (fail)
   go_wp2
   go_roundw
   case rel=>exact⟨k+1,by go_num,by omega,q+nq,by rw[← hW,World.drewN_drewN]⟩
   case measure=>simp[intOf];omega
  ·obtain rfl:k=G.precs.length:=by omega
   have HbW:=zaa (zaq (uh Hb2) q)
   have hsW:(w2.drewN q).heap.size=w.heap.size+2:=hs2
   have Hc2:Hid (∀ W:World,Below (w.heap.size+2) (w2.drewN q) W→W.cell? ⟨w.heap.size,3,none⟩=some (.slice qa G.prods.length qc)∧W.cell? ⟨w.heap.size+1,3,none⟩=some (.slice ta G.prods.length tc)):=zaa (fun W hW=>by
    obtain⟨-,h,-,h'⟩:=uh Hc W ((zaq (Below.refl _ _) q).trans hW)
    exact⟨h,h'⟩)
   clear Hc Hb2 hs2
   generalize w2.drewN q=w3 at *
   go_wp2
   clear C1 C3 D1 D3
   go_loopw [6,7,8] (fun x _ _ wr=>∃ k:Nat,x=.int .i64 k∧k≤G.prods.length∧Below (w.heap.size+2) w3 wr) (fun x _ _ _=>G.prods.length - (intOf x).toNat)
   case atStart=>exact⟨0,rfl,Nat.zero_le _,Below.refl _ _⟩
   case round =>
    obtain⟨k,rfl,hk3,hb⟩:=hrel
    obtain⟨C3,D3⟩:=uh Hc2 wr hb
    have HbX:=zaa ((uh HbW).trans (zab hb (by omega)))
    have Hb:=zaa hb
    clear hb
    by_cases hlt:k<G.prods.length
    ·have hlt':(k:Int)<G.prods.length:=by omega
     obtain⟨b1,o1,rfl,hbb1,rr1,rc1,x3,x4,x5,x6,n6,c6,hrr1,hac1,p0,p1,p2,p3,p4,p5,p6⟩:=zbz (zf7 (uh HbX) (uh HQ1)) hlt
     obtain⟨b2,o2,rfl,hbb2,rr2,rc2,y3,y4,y5,y6,m6,d6,hrr2,hac2,g0,g1,g2,g3,g4,g5,g6⟩:=zbz (zf7 (uh HbX) (uh HQ2)) hlt
     obtain⟨hx1,hx2⟩:=uh Hx _ (zag hlt)
     generalize G.prods.getD k pd0=p at *
     have Hrr:=zaa (show NRow w.heap.size wr rr1 p.right∧NRow w.heap.size wr rr2 p.right from⟨hrr1,hrr2⟩)
     have Hac:=zaa (show zdh w.heap.size wr p.act (.int .i64 x3) (.int .i64 x4) (.string x5) (.slice x6 n6 c6)∧zdh w.heap.size wr p.act (.int .i64 y3) (.int .i64 y4) (.string y5) (.slice y6 m6 d6) from⟨hac1,hac2⟩)
     clear hrr1 hrr2 hac1 hac2
     have HS:Hid (∀ W:World,Below wr.heap.size wr W→W.cell? ⟨w.heap.size,3,none⟩=some (.slice (some ⟨b1,o1,none⟩) G.prods.length qc)∧W.cell? ⟨w.heap.size+1,3,none⟩=some (.slice (some ⟨b2,o2,none⟩) G.prods.length tc)∧W.cell? ⟨b1,o1+k * 7,none⟩=some (.int .i64 p.left)∧W.cell? ⟨b1,o1+k * 7+1,none⟩=some (.slice rr1 p.right.length rc1)∧W.cell? ⟨b1,o1+k * 7+2,none⟩=some (.int .i64 p.level)∧W.cell? ⟨b1,o1+k * 7+3,none⟩=some (.int .i64 x3)∧W.cell? ⟨b1,o1+k * 7+4,none⟩=some (.int .i64 x4)∧W.cell? ⟨b1,o1+k * 7+5,none⟩=some (.string x5)∧W.cell? ⟨b1,o1+k * 7+6,none⟩=some (.slice x6 n6 c6)∧W.cell? ⟨b2,o2+k * 7,none⟩=some (.int .i64 p.left)∧W.cell? ⟨b2,o2+k * 7+1,none⟩=some (.slice rr2 p.right.length rc2)∧W.cell? ⟨b2,o2+k * 7+2,none⟩=some (.int .i64 p.level)∧W.cell? ⟨b2,o2+k * 7+3,none⟩=some (.int .i64 y3)∧W.cell? ⟨b2,o2+k * 7+4,none⟩=some (.int .i64 y4)∧W.cell? ⟨b2,o2+k * 7+5,none⟩=some (.string y5)∧W.cell? ⟨b2,o2+k * 7+6,none⟩=some (.slice y6 m6 d6)):=zaa (fun W hW=>by
      have hl:=(uh Hb).size
      have hl2:=(uh HbW).size
      exact⟨(hW.cell (p:=⟨w.heap.size,3,none⟩) (by show w.heap.size<wr.heap.size;omega)).trans C3,(hW.cell (p:=⟨w.heap.size+1,3,none⟩) (by show w.heap.size+1<wr.heap.size;omega)).trans D3,(hW.cell (p:=⟨b1,o1+k * 7,none⟩) (by show b1<wr.heap.size;omega)).trans p0,(hW.cell (p:=⟨b1,o1+k * 7+1,none⟩) (by show b1<wr.heap.size;omega)).trans p1,(hW.cell (p:=⟨b1,o1+k * 7+2,none⟩) (by show b1<wr.heap.size;omega)).trans p2,(hW.cell (p:=⟨b1,o1+k * 7+3,none⟩) (by show b1<wr.heap.size;omega)).trans p3,(hW.cell (p:=⟨b1,o1+k * 7+4,none⟩) (by show b1<wr.heap.size;omega)).trans p4,(hW.cell (p:=⟨b1,o1+k * 7+5,none⟩) (by show b1<wr.heap.size;omega)).trans p5,(hW.cell (p:=⟨b1,o1+k * 7+6,none⟩) (by show b1<wr.heap.size;omega)).trans p6,(hW.cell (p:=⟨b2,o2+k * 7,none⟩) (by show b2<wr.heap.size;omega)).trans g0,(hW.cell (p:=⟨b2,o2+k * 7+1,none⟩) (by show b2<wr.heap.size;omega)).trans g1,(hW.cell (p:=⟨b2,o2+k * 7+2,none⟩) (by show b2<wr.heap.size;omega)).trans g2,(hW.cell (p:=⟨b2,o2+k * 7+3,none⟩) (by show b2<wr.heap.size;omega)).trans g3,(hW.cell (p:=⟨b2,o2+k * 7+4,none⟩) (by show b2<wr.heap.size;omega)).trans g4,(hW.cell (p:=⟨b2,o2+k * 7+5,none⟩) (by show b2<wr.heap.size;omega)).trans g5,(hW.cell (p:=⟨b2,o2+k * 7+6,none⟩) (by show b2<wr.heap.size;omega)).trans g6⟩)
     go_wp2
     clear C3 D3 p0 p1 p2 p3 p4 p5 p6 g0 g1 g2 g3 g4 g5 g6
     go_cut [7,8] (fun p' q' wx=>∃ bp bq,p'=.pointer (some ⟨bp,0,none⟩)∧q'=.pointer (some ⟨bq,0,none⟩)∧wx.heap[bp]? = some (.cells #[.int .i64 p.left,.slice rr1 p.right.length rc1,.int .i64 p.level,.int .i64 x3,.int .i64 x4,.string x5,.slice x6 n6 c6] 89)∧wx.heap[bq]? = some (.cells #[.int .i64 p.left,.slice rr2 p.right.length rc2,.int .i64 p.level,.int .i64 y3,.int .i64 y4,.string y5,.slice y6 m6 d6] 89)∧Below wr.heap.size wr wx)
     case first =>
      go_region_held3 (fun W:World=>W.cell? ⟨w.heap.size,3,none⟩=some (.slice (some ⟨b1,o1,none⟩) G.prods.length qc)∧W.cell? ⟨w.heap.size+1,3,none⟩=some (.slice (some ⟨b2,o2,none⟩) G.prods.length tc)∧W.cell? ⟨b1,o1+k * 7,none⟩=some (.int .i64 p.left)∧W.cell? ⟨b1,o1+k * 7+1,none⟩=some (.slice rr1 p.right.length rc1)∧W.cell? ⟨b1,o1+k * 7+2,none⟩=some (.int .i64 p.level)∧W.cell? ⟨b1,o1+k * 7+3,none⟩=some (.int .i64 x3)∧W.cell? ⟨b1,o1+k * 7+4,none⟩=some (.int .i64 x4)∧W.cell? ⟨b1,o1+k * 7+5,none⟩=some (.string x5)∧W.cell? ⟨b1,o1+k * 7+6,none⟩=some (.slice x6 n6 c6)∧W.cell? ⟨b2,o2+k * 7,none⟩=some (.int .i64 p.left)∧W.cell? ⟨b2,o2+k * 7+1,none⟩=some (.slice rr2 p.right.length rc2)∧W.cell? ⟨b2,o2+k * 7+2,none⟩=some (.int .i64 p.level)∧W.cell? ⟨b2,o2+k * 7+3,none⟩=some (.int .i64 y3)∧W.cell? ⟨b2,o2+k * 7+4,none⟩=some (.int .i64 y4)∧W.cell? ⟨b2,o2+k * 7+5,none⟩=some (.string y5)∧W.cell? ⟨b2,o2+k * 7+6,none⟩=some (.slice y6 m6 d6))
       (first | (refine uh HS _ ?_;repeat (first | exact(Below.refl _ _).drew | exact Below.refl _ _ | refine Below.drew ?_ | refine Below.setCell ?_ (by simp) _ | refine Below.alloc ?_ (by simp) _)) | fail)
       (fail)
      all_goals
       go_wp2_with fail
       go_meet
       first
        | exact⟨_,_,rfl,rfl,(zcA _ _ _).1,(zcA _ _ _).2.1,(zcA _ _ _).2.2⟩
        | exact⟨_,_,rfl,rfl,(zcA _ _ _).2.1,(zcA _ _ _).1,(zcA _ _ _).2.2⟩
     case rest =>
      obtain⟨bp,bq,rfl,rfl,hbp,hbq,hbx⟩:=hcut
      obtain⟨p0,p1,p2,p3,p4,p5,p6⟩:=za7 hbp
      obtain⟨g0,g1,g2,g3,g4,g5,g6⟩:=za7 hbq
      have hl:=(uh Hb).size
      have hl2:=(uh HbW).size
      have hl3:=hbx.size
      have hI:=zhw rr1 rr2 rc1 rc2 p.right p.right hx1 wc (zch (by omega) (zau (zab hbx (by omega)) (uh Hrr).1)) (zch (by omega) (zau (zab hbx (by omega)) (uh Hrr).2))
      rw[decide_eq_true rfl] at hI
      have HI:=zaa hI
      have HA:Hid (∀ q,Calls Tryz.prog 64 #[.agg #[.int .i64 x3,.int .i64 x4,.string x5,.slice x6 n6 c6],.agg #[.int .i64 y3,.int .i64 y4,.string y5,.slice y6 m6 d6]] (wc.drewN q) fun e w'=>e=.returned (.bool true)∧Below (wc.drewN q).heap.size (wc.drewN q) w'):=zaa (fun q=>zjq _ p.act (wc.drewN q) _ _ _ _ _ _ _ _ (Nat.le_refl _) hx2 (zcZ (show w.heap.size≤wc.heap.size by omega) _ _ _ _ _ (zbd (zaq (zab hbx (by omega)) q) _ _ _ _ _ (uh Hac).1)) (zcZ (show w.heap.size≤wc.heap.size by omega) _ _ _ _ _ (zbd (zaq (zab hbx (by omega)) q) _ _ _ _ _ (uh Hac).2)))
      have Hbx:=zaa hbx
      clear hI hbx hbp hbq HS Hrr Hac
      generalize p.left=pl at *
      generalize p.level=pv at *
      generalize p.right=pr at *
      go_wp2_with fail
      refine(uh HI).mono ?_
      rintro e w4 ⟨rfl,q4,rfl⟩
      have p3':(wc.drewN q4).cell? _=_:=p3
      have p4':(wc.drewN q4).cell? _=_:=p4
      have p5':(wc.drewN q4).cell? _=_:=p5
      have p6':(wc.drewN q4).cell? _=_:=p6
      have g3':(wc.drewN q4).cell? _=_:=g3
      have g4':(wc.drewN q4).cell? _=_:=g4
      have g5':(wc.drewN q4).cell? _=_:=g5
      have g6':(wc.drewN q4).cell? _=_:=g6
      have HA4:=zaa (uh HA q4)
      have Hb4:=zaa (zaq (uh Hbx) q4)
      clear HA HI p0 p1 p2 p3 p4 p5 p6 g0 g1 g2 g3 g4 g5 g6 Hbx
      have hl4:wr.heap.size≤(wc.drewN q4).heap.size:=hl3
      generalize wc.drewN q4=w4 at *
      go_wp2_with fail
      refine(uh HA4).mono ?_
      rintro e w5 ⟨rfl,hb5⟩
      have Hb5:=zaa ((uh Hb).trans (zab ((uh Hb4).trans (zab hb5 hl4)) (by omega)))
      clear hb5 HA4 p3' p4' p5' p6' g3' g4' g5' g6'
      go_wp2
      go_roundw
      case rel=>exact⟨k+1,by go_num,by omega,uh Hb5⟩
      case measure=>simp[intOf];omega
    ·obtain rfl:k=G.prods.length:=by omega
     go_wp2
     go_ret
     exact⟨rfl,uh HbX⟩
end Go.Proofs.YtagohbpbgjelaaaGreatDoor

namespace Go.Proofs.YtagohbpbgjelaaaGreatDoor
open Go.RowKit

def smallG:Gm:=⟨[[101,110,100],[101,114,114,111,114],[97],[98]],[(0,0),(0,0),(0,0),(0,0)],[[83],[65]],[⟨0,[5,3],0,ac0⟩,⟨1,[2,5],0,ac0⟩,⟨1,[],0,ac0⟩],0⟩
set_option maxRecDepth 100000 in
theorem zj5:za6 smallG=true:=by kernel_rfl
set_option maxRecDepth 100000 in
theorem small_null:zaO smallG 0=false∧zaO smallG 1=true:=by
 have h1:Null smallG 1:=Null.mk (G:=smallG) ⟨1,[],0,ac0⟩ (by simp[smallG]) (fun x hx=>by simp at hx) (fun x hx=>by simp at hx)
 refine⟨?_,(zhG _ _).2 h1⟩
 cases h:zaO smallG 0
 ·rfl
 ·exfalso
  have h:=(zhG _ _).1 h
  generalize hr:0=r at h
  cases h with
  | mk p hp h1 h2 =>
    simp[smallG] at hp
    rcases hp with rfl | rfl | rfl
    ·have:=h1 3 (by simp)
     simp[Gm.nk,smallG] at this
    ·simp at hr
    ·simp at hr
set_option maxRecDepth 100000 in
theorem zjj {f:Nat→Int} (h:zfm smallG f):f 0=1:=by
 have hA:Lng smallG 1 0:=by
  have:=Lng.mk (G:=smallG) ⟨1,[],0,ac0⟩ (by simp[smallG]) (fun _=>0) (fun x hx=>by simp at hx) (by simp[zgM])
  simpa [zgM] using this
 have hS:Lng smallG 0 1:=by
  have:=Lng.mk (G:=smallG) ⟨0,[5,3],0,ac0⟩ (by simp[smallG]) (fun _=>0) (fun x hx hk=>by
   simp at hx
   rcases hx with rfl | rfl
   ·exact hA
   ·simp[Gm.nk,smallG] at hk) (by decide)
  exact this
 have h1:=h.2 0 1 hS
 rcases h.1 0 with h2 | ⟨h2,-,h3⟩
 ·omega
 ·have h4:f 0≠0:=by
   intro h0
   rw[h0] at h3
   generalize hr:(0:Nat)=r at h3
   generalize hn:(0:Int)=n at h3
   cases h3 with
   | mk p hp g hg hl =>
     simp[smallG] at hp
     rcases hp with rfl | rfl | rfl
     ·simp[zgM,Gm.nk,smallG] at hn hl
      split at hn <;> omega
     ·simp at hr
     ·simp at hr
  omega
set_option maxRecDepth 100000 in
theorem zjk:zip (zaC (zeu smallG 0) 4)=[2,3]:=by
 have hA:Fst smallG 1 2:=Fst.kind (G:=smallG) ⟨1,[2,5],0,ac0⟩ (by simp[smallG]) 0 (by simp) rfl (by decide)
 have h2:zeu smallG 0 2=true:=(zdI _ _ _).2 (Fst.rule (G:=smallG) ⟨0,[5,3],0,ac0⟩ (by simp[smallG]) 0 (by simp) rfl (by decide) 2 hA)
 have h3:zeu smallG 0 3=true:=(zdI _ _ _).2 (Fst.kind (G:=smallG) ⟨0,[5,3],0,ac0⟩ (by simp[smallG]) 1 (by simp) (by
  rw[emptyB_iff]
  intro x hx
  simp at hx
  subst hx
  exact⟨by decide,small_null.2⟩) (by decide))
 have hno:∀ r k,Fst smallG r k→2≤k:=by
  intro r k h
  induction h with
  | kind p hp i hi he hx =>
    simp[smallG] at hp
    rcases hp with rfl | rfl | rfl
    ·rcases i with _ | _ | i
     ·exact absurd hx (by decide)
     ·decide
     ·exact absurd hi (by simp)
    ·rcases i with _ | _ | i
     ·decide
     ·exact absurd hx (by decide)
     ·exact absurd hi (by simp)
    ·simp at hi
  | rule p hp i hi he hx k h ih=>exact ih
 have h0:zeu smallG 0 0=false:=by
  cases h:zeu smallG 0 0
  ·rfl
  ·have:=hno _ _ ((zdI _ _ _).1 h);omega
 have h1:zeu smallG 0 1=false:=by
  cases h:zeu smallG 0 1
  ·rfl
  ·have:=hno _ _ ((zdI _ _ _).1 h);omega
 have:zaC (zeu smallG 0) 4=[false,false,true,true]:=by
  show [zeu smallG 0 0,zeu smallG 0 1,zeu smallG 0 2,zeu smallG 0 3]=_
  rw[h0,h1,h2,h3]
 rw[this]
 rfl

set_option maxRecDepth 100000 in
theorem zlB {w:World} {b:Nat} {t:TypeId} {a0 a1 a2 a3 a4:Value} (h:w.heap[b]? = some (.cells #[a0,a1,a2,a3,a4] t)):w.cell? ⟨b,0,none⟩=some a0∧w.cell? ⟨b,1,none⟩=some a1∧w.cell? ⟨b,2,none⟩=some a2∧w.cell? ⟨b,3,none⟩=some a3∧w.cell? ⟨b,4,none⟩=some a4:=by
 refine⟨?_,?_,?_,?_,?_⟩ <;> (unfold World.cell?;rw[h];rfl)
set_option maxRecDepth 100000 in
theorem zoh (B:Nat) (w:World):zdh B w ac0 (.int .i64 0) (.int .i64 0) (.string ⟨#[]⟩) (.slice none 0 0):=by
 unfold ac0 zdh
 exact⟨rfl,rfl,rfl,none,0,[],rfl,by unfold zgI;rfl,.inl rfl⟩
set_option maxRecDepth 100000 in
theorem zrL (w:World) (o0 o1 o2 o3 o4 o5 o6:Obj):(((((((w.alloc o0).alloc o1).alloc o2).alloc o3).alloc o4).alloc o5).alloc o6).heap[w.heap.size]? = some o0∧(((((((w.alloc o0).alloc o1).alloc o2).alloc o3).alloc o4).alloc o5).alloc o6).heap[w.heap.size+1]? = some o1∧(((((((w.alloc o0).alloc o1).alloc o2).alloc o3).alloc o4).alloc o5).alloc o6).heap[w.heap.size+1+1]? = some o2∧(((((((w.alloc o0).alloc o1).alloc o2).alloc o3).alloc o4).alloc o5).alloc o6).heap[w.heap.size+1+1+1]? = some o3∧(((((((w.alloc o0).alloc o1).alloc o2).alloc o3).alloc o4).alloc o5).alloc o6).heap[w.heap.size+1+1+1+1]? = some o4∧(((((((w.alloc o0).alloc o1).alloc o2).alloc o3).alloc o4).alloc o5).alloc o6).heap[w.heap.size+1+1+1+1+1]? = some o5∧(((((((w.alloc o0).alloc o1).alloc o2).alloc o3).alloc o4).alloc o5).alloc o6).heap[w.heap.size+1+1+1+1+1+1]? = some o6∧(((((((w.alloc o0).alloc o1).alloc o2).alloc o3).alloc o4).alloc o5).alloc o6).heap.size=w.heap.size+1+1+1+1+1+1+1∧Below w.heap.size w (((((((w.alloc o0).alloc o1).alloc o2).alloc o3).alloc o4).alloc o5).alloc o6):=by
 have s1:(w.alloc o0).heap.size=w.heap.size+1:=by simp
 have s2:((w.alloc o0).alloc o1).heap.size=w.heap.size+1+1:=by simp
 have s3:(((w.alloc o0).alloc o1).alloc o2).heap.size=w.heap.size+1+1+1:=by simp
 have s4:((((w.alloc o0).alloc o1).alloc o2).alloc o3).heap.size=w.heap.size+1+1+1+1:=by simp
 have s5:(((((w.alloc o0).alloc o1).alloc o2).alloc o3).alloc o4).heap.size=w.heap.size+1+1+1+1+1:=by simp
 have s6:((((((w.alloc o0).alloc o1).alloc o2).alloc o3).alloc o4).alloc o5).heap.size=w.heap.size+1+1+1+1+1+1:=by simp
 have s7:(((((((w.alloc o0).alloc o1).alloc o2).alloc o3).alloc o4).alloc o5).alloc o6).heap.size=w.heap.size+1+1+1+1+1+1+1:=by simp
 have b0_1:(w.alloc o0).heap[w.heap.size]? = some o0:=by have h:=Go.Deep.blk_alloc_new w o0;exact h
 have b0_2:((w.alloc o0).alloc o1).heap[w.heap.size]? = some o0:=(Below.heap_alloc _ _ _ (by rw[s1];omega)).trans b0_1
 have b0_3:(((w.alloc o0).alloc o1).alloc o2).heap[w.heap.size]? = some o0:=(Below.heap_alloc _ _ _ (by rw[s2];omega)).trans b0_2
 have b0_4:((((w.alloc o0).alloc o1).alloc o2).alloc o3).heap[w.heap.size]? = some o0:=(Below.heap_alloc _ _ _ (by rw[s3];omega)).trans b0_3
 have b0_5:(((((w.alloc o0).alloc o1).alloc o2).alloc o3).alloc o4).heap[w.heap.size]? = some o0:=(Below.heap_alloc _ _ _ (by rw[s4];omega)).trans b0_4
 have b0_6:((((((w.alloc o0).alloc o1).alloc o2).alloc o3).alloc o4).alloc o5).heap[w.heap.size]? = some o0:=(Below.heap_alloc _ _ _ (by rw[s5];omega)).trans b0_5
 have b0_7:(((((((w.alloc o0).alloc o1).alloc o2).alloc o3).alloc o4).alloc o5).alloc o6).heap[w.heap.size]? = some o0:=(Below.heap_alloc _ _ _ (by rw[s6];omega)).trans b0_6
 have b1_2:((w.alloc o0).alloc o1).heap[w.heap.size+1]? = some o1:=by have h:=Go.Deep.blk_alloc_new (w.alloc o0) o1;rw[s1] at h;exact h
 have b1_3:(((w.alloc o0).alloc o1).alloc o2).heap[w.heap.size+1]? = some o1:=(Below.heap_alloc _ _ _ (by rw[s2];omega)).trans b1_2
 have b1_4:((((w.alloc o0).alloc o1).alloc o2).alloc o3).heap[w.heap.size+1]? = some o1:=(Below.heap_alloc _ _ _ (by rw[s3];omega)).trans b1_3
 have b1_5:(((((w.alloc o0).alloc o1).alloc o2).alloc o3).alloc o4).heap[w.heap.size+1]? = some o1:=(Below.heap_alloc _ _ _ (by rw[s4];omega)).trans b1_4
 have b1_6:((((((w.alloc o0).alloc o1).alloc o2).alloc o3).alloc o4).alloc o5).heap[w.heap.size+1]? = some o1:=(Below.heap_alloc _ _ _ (by rw[s5];omega)).trans b1_5
 have b1_7:(((((((w.alloc o0).alloc o1).alloc o2).alloc o3).alloc o4).alloc o5).alloc o6).heap[w.heap.size+1]? = some o1:=(Below.heap_alloc _ _ _ (by rw[s6];omega)).trans b1_6
 have b2_3:(((w.alloc o0).alloc o1).alloc o2).heap[w.heap.size+1+1]? = some o2:=by have h:=Go.Deep.blk_alloc_new ((w.alloc o0).alloc o1) o2;rw[s2] at h;exact h
 have b2_4:((((w.alloc o0).alloc o1).alloc o2).alloc o3).heap[w.heap.size+1+1]? = some o2:=(Below.heap_alloc _ _ _ (by rw[s3];omega)).trans b2_3
 have b2_5:(((((w.alloc o0).alloc o1).alloc o2).alloc o3).alloc o4).heap[w.heap.size+1+1]? = some o2:=(Below.heap_alloc _ _ _ (by rw[s4];omega)).trans b2_4
 have b2_6:((((((w.alloc o0).alloc o1).alloc o2).alloc o3).alloc o4).alloc o5).heap[w.heap.size+1+1]? = some o2:=(Below.heap_alloc _ _ _ (by rw[s5];omega)).trans b2_5
 have b2_7:(((((((w.alloc o0).alloc o1).alloc o2).alloc o3).alloc o4).alloc o5).alloc o6).heap[w.heap.size+1+1]? = some o2:=(Below.heap_alloc _ _ _ (by rw[s6];omega)).trans b2_6
 have b3_4:((((w.alloc o0).alloc o1).alloc o2).alloc o3).heap[w.heap.size+1+1+1]? = some o3:=by have h:=Go.Deep.blk_alloc_new (((w.alloc o0).alloc o1).alloc o2) o3;rw[s3] at h;exact h
 have b3_5:(((((w.alloc o0).alloc o1).alloc o2).alloc o3).alloc o4).heap[w.heap.size+1+1+1]? = some o3:=(Below.heap_alloc _ _ _ (by rw[s4];omega)).trans b3_4
 have b3_6:((((((w.alloc o0).alloc o1).alloc o2).alloc o3).alloc o4).alloc o5).heap[w.heap.size+1+1+1]? = some o3:=(Below.heap_alloc _ _ _ (by rw[s5];omega)).trans b3_5
 have b3_7:(((((((w.alloc o0).alloc o1).alloc o2).alloc o3).alloc o4).alloc o5).alloc o6).heap[w.heap.size+1+1+1]? = some o3:=(Below.heap_alloc _ _ _ (by rw[s6];omega)).trans b3_6
 have b4_5:(((((w.alloc o0).alloc o1).alloc o2).alloc o3).alloc o4).heap[w.heap.size+1+1+1+1]? = some o4:=by have h:=Go.Deep.blk_alloc_new ((((w.alloc o0).alloc o1).alloc o2).alloc o3) o4;rw[s4] at h;exact h
 have b4_6:((((((w.alloc o0).alloc o1).alloc o2).alloc o3).alloc o4).alloc o5).heap[w.heap.size+1+1+1+1]? = some o4:=(Below.heap_alloc _ _ _ (by rw[s5];omega)).trans b4_5
 have b4_7:(((((((w.alloc o0).alloc o1).alloc o2).alloc o3).alloc o4).alloc o5).alloc o6).heap[w.heap.size+1+1+1+1]? = some o4:=(Below.heap_alloc _ _ _ (by rw[s6];omega)).trans b4_6
 have b5_6:((((((w.alloc o0).alloc o1).alloc o2).alloc o3).alloc o4).alloc o5).heap[w.heap.size+1+1+1+1+1]? = some o5:=by have h:=Go.Deep.blk_alloc_new (((((w.alloc o0).alloc o1).alloc o2).alloc o3).alloc o4) o5;rw[s5] at h;exact h
 have b5_7:(((((((w.alloc o0).alloc o1).alloc o2).alloc o3).alloc o4).alloc o5).alloc o6).heap[w.heap.size+1+1+1+1+1]? = some o5:=(Below.heap_alloc _ _ _ (by rw[s6];omega)).trans b5_6
 have b6_7:(((((((w.alloc o0).alloc o1).alloc o2).alloc o3).alloc o4).alloc o5).alloc o6).heap[w.heap.size+1+1+1+1+1+1]? = some o6:=by have h:=Go.Deep.blk_alloc_new ((((((w.alloc o0).alloc o1).alloc o2).alloc o3).alloc o4).alloc o5) o6;rw[s6] at h;exact h
 exact⟨b0_7,b1_7,b2_7,b3_7,b4_7,b5_7,b6_7,s7,((((((((Below.refl _ _).alloc (by omega) _).alloc (by rw[s1];omega) _).alloc (by rw[s2];omega) _).alloc (by rw[s3];omega) _).alloc (by rw[s4];omega) _).alloc (by rw[s5];omega) _).alloc (by rw[s6];omega) _)⟩

set_option maxHeartbeats 1000000 in
set_option maxRecDepth 100000 in
theorem rSmall (w:World) (ht:Tb w.heap.size w) :
 Calls Tryz.prog 57 #[] w fun e w'=>∃ ka kc pa pc ra rc qa qc,e=.returned (.agg #[.slice ka smallG.kinds.length kc,.slice pa smallG.precs.length pc,.slice ra smallG.rules.length rc,.slice qa smallG.prods.length qc,.int .i64 smallG.start])∧GIn w'.heap.size w' smallG ka pa ra qa∧Below w.heap.size w w':=by
 have hmk:∀ w:World,(Instr.makeSlice 23 (.int .i64 4) (.int .i64 4)).run Tryz.prog w=.ok (.slice (some ⟨w.heap.size,0,none⟩) 4 4) (w.alloc (.cells #[.int .i64 0,.int .i64 0,.int .i64 0,.int .i64 0,.int .i64 0,.int .i64 0,.int .i64 0,.int .i64 0] 98)):=fun w=>by kernel_rfl
 go_enter Tryz.func57,Tryz.ntmps57
 go_wp2
 have hall:=zrL w (.cells #[.slice (some ⟨w.heap.size+1+1+1+1,0,none⟩) 4 4,.slice (some ⟨w.heap.size+1+1+1+1+1,0,none⟩) 4 4,.slice (some ⟨w.heap.size+1+1+1+1+1+1,0,none⟩) 2 2,.slice (some ⟨w.heap.size+1+1+1,0,none⟩) 3 3,.int .i64 0] 26)
  (.cells #[.int .i64 5,.int .i64 3] 3) (.cells #[.int .i64 2,.int .i64 5] 3)
  (.cells #[.int .i64 0,.slice (some ⟨w.heap.size+1,0,none⟩) 2 2,.int .i64 0,.int .i64 0,.int .i64 0,.string ⟨#[]⟩,.slice none 0 0,.int .i64 1,.slice (some ⟨w.heap.size+1+1,0,none⟩) 2 2,.int .i64 0,.int .i64 0,.int .i64 0,.string ⟨#[]⟩,.slice none 0 0,.int .i64 1,.slice none 0 0,.int .i64 0,.int .i64 0,.int .i64 0,.string ⟨#[]⟩,.slice none 0 0] 89)
  (.cells #[.string ⟨#[101,110,100]⟩,.string ⟨#[101,114,114,111,114]⟩,.string ⟨#[97]⟩,.string ⟨#[98]⟩] 9)
  (.cells #[.int .i64 0,.int .i64 0,.int .i64 0,.int .i64 0,.int .i64 0,.int .i64 0,.int .i64 0,.int .i64 0] 98)
  (.cells #[.string ⟨#[83]⟩,.string ⟨#[65]⟩] 9)
 obtain⟨WF,hWF⟩:∃ WF,WF=(((((((w.alloc (.cells #[.slice (some ⟨w.heap.size+1+1+1+1,0,none⟩) 4 4,.slice (some ⟨w.heap.size+1+1+1+1+1,0,none⟩) 4 4,.slice (some ⟨w.heap.size+1+1+1+1+1+1,0,none⟩) 2 2,.slice (some ⟨w.heap.size+1+1+1,0,none⟩) 3 3,.int .i64 0] 26)).alloc (.cells #[.int .i64 5,.int .i64 3] 3)).alloc (.cells #[.int .i64 2,.int .i64 5] 3)).alloc (.cells #[.int .i64 0,.slice (some ⟨w.heap.size+1,0,none⟩) 2 2,.int .i64 0,.int .i64 0,.int .i64 0,.string ⟨#[]⟩,.slice none 0 0,.int .i64 1,.slice (some ⟨w.heap.size+1+1,0,none⟩) 2 2,.int .i64 0,.int .i64 0,.int .i64 0,.string ⟨#[]⟩,.slice none 0 0,.int .i64 1,.slice none 0 0,.int .i64 0,.int .i64 0,.int .i64 0,.string ⟨#[]⟩,.slice none 0 0] 89)).alloc (.cells #[.string ⟨#[101,110,100]⟩,.string ⟨#[101,114,114,111,114]⟩,.string ⟨#[97]⟩,.string ⟨#[98]⟩] 9)).alloc (.cells #[.int .i64 0,.int .i64 0,.int .i64 0,.int .i64 0,.int .i64 0,.int .i64 0,.int .i64 0,.int .i64 0] 98)).alloc (.cells #[.string ⟨#[83]⟩,.string ⟨#[65]⟩] 9)):=⟨_,rfl⟩
 rw[← hWF] at hall ⊢
 clear hWF hmk
 obtain⟨h0,h1,h2,h3,h4,h5,h6,hs,hb⟩:=hall
 obtain⟨c0,c1,c2,c3,c4⟩:=zlB h0
 refine bodyPost_ret (v:=.agg #[.slice (some ⟨w.heap.size+1+1+1+1,0,none⟩) 4 4,.slice (some ⟨w.heap.size+1+1+1+1+1,0,none⟩) 4 4,.slice (some ⟨w.heap.size+1+1+1+1+1+1,0,none⟩) 2 2,.slice (some ⟨w.heap.size+1+1+1,0,none⟩) 3 3,.int .i64 0]) ?zz9 rfl ⟨_,4,_,4,_,2,_,3,rfl,⟨?_,?_,?_,?_,?_⟩,hb⟩
 case zz9=>simp[results,Tryz.results57,go_sem,c0,c1,c2,c3,c4]
 ·refine .inr ⟨_,_,rfl,by omega,fun j hj=>?_⟩
  rcases j with _ | _ | _ | _ | j
  ·unfold World.cell?;rw[h4];rfl
  ·unfold World.cell?;rw[h4];rfl
  ·unfold World.cell?;rw[h4];rfl
  ·unfold World.cell?;rw[h4];rfl
  ·exact absurd hj (by simp[smallG])
 ·refine .inr ⟨_,_,rfl,by omega,fun j hj=>?_⟩
  rcases j with _ | _ | _ | _ | j
  ·constructor <;> (unfold World.cell?;rw[h5];rfl)
  ·constructor <;> (unfold World.cell?;rw[h5];rfl)
  ·constructor <;> (unfold World.cell?;rw[h5];rfl)
  ·constructor <;> (unfold World.cell?;rw[h5];rfl)
  ·exact absurd hj (by simp[smallG])
 ·refine .inr ⟨_,_,rfl,by omega,fun j hj=>?_⟩
  rcases j with _ | _ | j
  ·unfold World.cell?;rw[h6];rfl
  ·unfold World.cell?;rw[h6];rfl
  ·exact absurd hj (by simp[smallG])
 ·refine .inr ⟨_,_,rfl,by omega,fun j hj=>?_⟩
  rcases j with _ | _ | _ | j
  ·refine⟨_,_,_,_,_,_,_,⟨rfl,⟨some ⟨w.heap.size+1,0,none⟩,2,rfl,.inr ⟨_,_,rfl,by omega,fun i hi=>?_⟩,by simp[smallG]⟩,rfl,zoh _ _⟩,?_,?_,?_,?_,?_,?_,?_⟩
   ·rcases i with _ | _ | i
    ·unfold World.cell?;rw[h1];rfl
    ·unfold World.cell?;rw[h1];rfl
    ·exact absurd hi (by simp[smallG])
   all_goals (unfold World.cell?;rw[h3];rfl)
  ·refine⟨_,_,_,_,_,_,_,⟨rfl,⟨some ⟨w.heap.size+1+1,0,none⟩,2,rfl,.inr ⟨_,_,rfl,by omega,fun i hi=>?_⟩,by simp[smallG]⟩,rfl,zoh _ _⟩,?_,?_,?_,?_,?_,?_,?_⟩
   ·rcases i with _ | _ | i
    ·unfold World.cell?;rw[h2];rfl
    ·unfold World.cell?;rw[h2];rfl
    ·exact absurd hi (by simp[smallG])
   all_goals (unfold World.cell?;rw[h3];rfl)
  ·refine⟨_,_,_,_,_,_,_,⟨rfl,⟨none,0,rfl,.inl rfl,by simp[smallG]⟩,rfl,zoh _ _⟩,?_,?_,?_,?_,?_,?_,?_⟩
   all_goals (unfold World.cell?;rw[h3];rfl)
  ·exact absurd hj (by simp[smallG])
 ·exact ze6 ht (Nat.le_refl _) hb
end Go.Proofs.YtagohbpbgjelaaaGreatDoor

namespace Go.Proofs.YtagohbpbgjelaaaGreatDoor
open Go.RowKit

abbrev gV (G:Gm) (ka pa ra qa:Option Addr) (kc pc rc qc:Nat):Value:=.agg #[.slice ka G.kinds.length kc,.slice pa G.precs.length pc,.slice ra G.rules.length rc,.slice qa G.prods.length qc,.int .i64 G.start]
def smG (G:Gm):Prop:=∀ p,p ∈ G.prods→p.right.length≤281474976710656
def zpX (G:Gm) (w:World) (e:Ending) (w':World):Prop :=
 ∃ na nc pa pc aa ac ca cc fa fc va vc,e=.returned (.tuple #[.agg #[.slice na (zaC (zaO G) G.nr).length nc,.slice pa (zaC (zcQ G) G.nr).length pc,.slice aa (zaC (atF G) G.nr).length ac,.slice ca (zaC (fun r=>zop G r r) G.nr).length cc,.slice fa (zfC (zeu G) G.nk G.nr).length fc,.slice va (zfC (zos G) G.nk G.nr).length vc],.int .i64 0]) ∧
  zrX w' na (zaC (zaO G) G.nr)∧zrX w' pa (zaC (zcQ G) G.nr)∧zrX w' aa (zaC (atF G) G.nr)∧zrX w' ca (zaC (fun r=>zop G r r) G.nr)∧zlO w' fa (zfC (zeu G) G.nk G.nr)∧zlO w' va (zfC (zos G) G.nk G.nr)∧Below w.heap.size w w'
def zic (fn:Nat):Prop:=∀ (G:Gm) (_:za6 G=true) (ka pa ra qa:Option Addr) (kc pc rc qc:Nat) (w:World) (_:GIn w.heap.size w G ka pa ra qa),Calls Tryz.prog fn #[gV G ka pa ra qa kc pc rc qc] w fun e w'=>zpX G w e w'
def zfH (fn:Nat):Prop:=∀ (G:Gm) (_:za6 G=true) (ka pa ra qa:Option Addr) (kc pc rc qc:Nat) (r:Nat) (_:r<G.rules.length) (w:World) (_:GIn w.heap.size w G ka pa ra qa),Calls Tryz.prog fn #[gV G ka pa ra qa kc pc rc qc,.int .i64 (r:Int)] w fun e w'=>∃ f,zfm G f∧e=.returned (.tuple #[.int .i64 (max (f r) 0),.bool (decide (0≤f r)),.int .i64 0])∧Below w.heap.size w w'
set_option maxRecDepth 100000 in
theorem zbD {w w':World} {G:Gm} {ka pa ra qa:Option Addr} (h:GIn w.heap.size w G ka pa ra qa) (hb:Below w.heap.size w w'):GIn w'.heap.size w' G ka pa ra qa:=by
 have h:=zeP hb h
 have hs:=hb.size
 have ht:=ze6 h.tab (by omega) (Below.refl _ _)
 obtain⟨h1,h2,h3,h4,-⟩:=h
 refine⟨?_,?_,?_,?_,ht⟩
 ·rcases h1 with h | ⟨b,o,a1,a2,a3⟩
  ·exact .inl h
  ·exact .inr ⟨b,o,a1,by omega,a3⟩
 ·rcases h2 with h | ⟨b,o,a1,a2,a3⟩
  ·exact .inl h
  ·exact .inr ⟨b,o,a1,by omega,a3⟩
 ·rcases h3 with h | ⟨b,o,a1,a2,a3⟩
  ·exact .inl h
  ·exact .inr ⟨b,o,a1,by omega,a3⟩
 ·rcases h4 with h | ⟨b,o,a1,a2,a3⟩
  ·exact .inl h
  ·refine .inr ⟨b,o,a1,by omega,fun j hj=>?_⟩
   obtain⟨v0,v1,v2,v3,v4,v5,v6,⟨p0,⟨a,c,p1,p2,p3⟩,p4,p5⟩,hc⟩:=a3 j hj
   exact⟨v0,v1,v2,v3,v4,v5,v6,⟨p0,⟨a,c,p1,zch hs p2,p3⟩,p4,zcZ hs _ _ _ _ _ p5⟩,hc⟩

set_option maxHeartbeats 2000000 in
set_option maxRecDepth 100000 in
theorem zn9 (hL:zic 9) (hM:zfH 24) (w:World) (ht:Tb w.heap.size w):Calls Tryz.prog 17 #[] w fun e w'=>e=.returned (.bool true)∧Below w.heap.size w w':=by
 have HS:=zaa (rSmall w ht)
 have HL:=zaa hL;have HM:=zaa hM
 clear hL hM
 have hnot:=zaG
 go_enter Tryz.func17,Tryz.ntmps17
 go_wp2_with fail
 refine(uh HS).mono ?_
 rintro e w2 ⟨ka,kc,pa,pc,ra,rc,qa,qc,rfl,hin,hb2⟩
 have hst:=zbt (kc:=kc) (pc:=pc) (rc:=rc) (qc:=qc) (Nat.le_refl _) hin 26
 have d0:=hst.c0;have d1:=hst.c1;have d2:=hst.c2;have d3:=hst.c3;have d4:=hst.c4
 have hb3:=(Below.refl w2.heap.size w2).alloc (Nat.le_refl _) (.cells #[.slice ka smallG.kinds.length kc,.slice pa smallG.precs.length pc,.slice ra smallG.rules.length rc,.slice qa smallG.prods.length qc,.int .i64 smallG.start] 26)
 have HL3:=zaa (uh HL smallG zj5 ka pa ra qa kc pc rc qc _ (zbD hin hb3))
 have Hin:=zaa hin
 have hs2:=hb2.size
 have Hb3:=zaa (hb2.trans (zab hb3 hs2))
 have Hst:=zaa hst
 have hs3:(w2.alloc (.cells #[.slice ka smallG.kinds.length kc,.slice pa smallG.precs.length pc,.slice ra smallG.rules.length rc,.slice qa smallG.prods.length qc,.int .i64 smallG.start] 26)).heap.size=w2.heap.size+1:=by simp
 have Hbb:=zaa hb3
 clear hin hst hb2 hb3 HL HS
 go_wp2_with fail
 generalize w2.alloc (.cells #[.slice ka smallG.kinds.length kc,.slice pa smallG.precs.length pc,.slice ra smallG.rules.length rc,.slice qa smallG.prods.length qc,.int .i64 smallG.start] 26)=w3 at *
 clear d0 d1 d2 d3 d4
 refine(uh HL3).mono ?_
 rintro e w4 ⟨na,nc,pr,prc,aa,ac,ca,cc,fa,fc,va,vc,he,hna,-,-,-,hfa,-,hb4⟩
 have l0:(zaC (zaO smallG) smallG.nr).length=2:=zbk _ _
 have l1:(zaC (zcQ smallG) smallG.nr).length=2:=zbk _ _
 have l2:(zaC (atF smallG) smallG.nr).length=2:=zbk _ _
 have l3:(zaC (fun r=>zop smallG r r) smallG.nr).length=2:=zbk _ _
 have l4:(zfC (zeu smallG) smallG.nk smallG.nr).length=2:=by simp[zfC];rfl
 have l5:(zfC (zos smallG) smallG.nk smallG.nr).length=2:=by simp[zfC];rfl
 rw[l0,l1,l2,l3,l4,l5] at he
 subst he
 obtain⟨b0,o0,rfl,hlt0,n0⟩:=zm9 hna (k:=0) (by omega)
 obtain⟨b1,o1,hbo,hlt1,n1⟩:=zm9 hna (k:=1) (by omega)
 cases hbo
 rw[zcW (by decide),small_null.1] at n0
 rw[zcW (by decide),small_null.2] at n1
 obtain⟨b4,o4,rfl,hlt4,ra4,rc4,f0,-⟩:=zo4 hfa (k:=0) (by omega)
 have hf0:(zfC (zeu smallG) smallG.nk smallG.nr).getD 0 []=[2,3]:=by
  have:(zfC (zeu smallG) smallG.nk smallG.nr).getD 0 []=zip (zaC (zeu smallG 0) 4):=rfl
  rw[this,zjk]
 rw[hf0] at f0
 have f0:w4.cell? ⟨b4,o4+0,none⟩=some (.slice ra4 2 rc4):=f0
 have hst4:=zan (zab hb4 (by omega)) (Nat.le_refl _) (uh Hst)
 have hs4:=hb4.size
 obtain⟨w5,hw5⟩:∃ w5,w5=w4.alloc (.cells #[.slice (some ⟨b0,o0,none⟩) 2 nc,.slice pr 2 prc,.slice aa 2 ac,.slice ca 2 cc,.slice (some ⟨b4,o4,none⟩) 2 fc,.slice va 2 vc] 31):=⟨_,rfl⟩
 have hb5:Below w4.heap.size w4 w5:=by rw[hw5];exact(Below.refl _ _).alloc (Nat.le_refl _) _
 have hs5:w5.heap.size=w4.heap.size+1:=by rw[hw5];simp
 have hbx:w5.heap[w4.heap.size]? = some (.cells #[.slice (some ⟨b0,o0,none⟩) 2 nc,.slice pr 2 prc,.slice aa 2 ac,.slice ca 2 cc,.slice (some ⟨b4,o4,none⟩) 2 fc,.slice va 2 vc] 31):=by rw[hw5];exact Go.Deep.blk_alloc_new _ _
 have hst5:=zan (zab hb5 (by omega)) (Nat.le_refl _) hst4
 have d0:=hst5.c0;have d1:=hst5.c1;have d2:=hst5.c2;have d3:=hst5.c3;have d4:=hst5.c4
 have HM5:Hid (Calls Tryz.prog 24 #[gV smallG ka pa ra qa kc pc rc qc,.int .i64 0] w5 fun e w'=>∃ f,zfm smallG f∧e=.returned (.tuple #[.int .i64 (max (f 0) 0),.bool (decide (0≤f 0)),.int .i64 0])∧Below w5.heap.size w5 w'):=zaa (uh HM smallG zj5 ka pa ra qa kc pc rc qc 0 (by decide) w5 (zbD (uh Hin) (((uh Hbb).trans (zab hb4 (by omega))).trans (zab hb5 (by omega)))))
 have Hn0:=zaa ((hb5.cell (p:=⟨b0,o0+0,none⟩) hlt0).trans n0)
 have Hn1:=zaa ((hb5.cell (p:=⟨b0,o0+1,none⟩) hlt0).trans n1)
 have Hf0:=zaa ((hb5.cell (p:=⟨b4,o4+0,none⟩) hlt4).trans f0)
 have Hbx:=zaa hbx
 have Hb5:=zaa ((uh Hb3).trans ((zab hb4 (by omega)).trans (zab hb5 (by omega))))
 rw[hw5] at d0 d1 d2 d3 d4
 clear hna hfa hb4 l0 l1 l2 l3 l4 l5 n0 n1 f0 hf0 hst4 hst5 hbx hb5 HL3 HM
 go_wp2_with fail
 rw[← hw5]
 clear d0 d1 d2 d3 d4 hw5
 refine(uh HM5).mono ?_
 rintro e w6 ⟨f,hf,he,hb6⟩
 rw[zjj hf] at he
 have he:e=.returned (.tuple #[.int .i64 1,.bool true,.int .i64 0]):=he
 subst he
 have hbx6:=(hb6.block _ (by omega)).trans (uh Hbx)
 obtain⟨r0,-,-,-,r4,-⟩:=zfX hbx6
 have n0:=(hb6.cell (p:=⟨b0,o0+0,none⟩) (by show b0<w5.heap.size;omega)).trans (uh Hn0)
 have n1:=(hb6.cell (p:=⟨b0,o0+1,none⟩) (by show b0<w5.heap.size;omega)).trans (uh Hn1)
 have f0:=(hb6.cell (p:=⟨b4,o4+0,none⟩) (by show b4<w5.heap.size;omega)).trans (uh Hf0)
 have Hb6:=zaa ((uh Hb5).trans (zab hb6 (by omega)))
 rw[Nat.add_zero] at n0 f0
 clear hb6 hf hbx6
 go_wp2
 go_ret
 exact⟨rfl,uh Hb6⟩
end Go.Proofs.YtagohbpbgjelaaaGreatDoor

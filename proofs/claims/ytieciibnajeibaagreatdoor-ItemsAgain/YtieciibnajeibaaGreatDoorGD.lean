import Derived.Test.YtieciibnajeibaaGreatDoorGC
import Derived.Test.YtieciibnajeibaaGreatDoorTK
import Derived.Test.YtieciibnajeibaaGreatDoorTB
set_option maxHeartbeats 8000000
set_option maxRecDepth 100000
namespace Go.Proofs.YtieciibnajeibaaGreatDoor
open Go.RowKit
theorem zsi(ka pa ra qa:Option Addr)(nk kc pn pc nr rc qn qc:Nat)(st:Int)(hnk:nk<=1024)(hnr:nr<=2048)(p:Pd)(B:Nat)(w:World)(hB:B<=w.heap.size)(rr:Option Addr)(rrc:Nat)(x3 x4:Int)(x5:ByteArray)(x6:Option Addr)(n6 c6:Nat)(hrr:NRow B w rr p.right)(hac:zhx B w p.act (.int .i64 x3) (.int .i64 x4) (.string x5) (.slice x6 n6 c6))(hsm:p.right.length<=281474976710656) :
 Calls Tryz.prog 192 #[.agg #[.slice ka nk kc,.slice pa pn pc,.slice ra nr rc,.slice qa qn qc,.int .i64 st],.agg #[.int .i64 p.left,.slice rr p.right.length rrc,.int .i64 p.level,.int .i64 x3,.int .i64 x4,.string x5,.slice x6 n6 c6]] w λe w'=>e=.returned (.bool (zhA nk nr p))/\Below w.heap.size w w':=by
 obtain⟨pl,prt,plv,pac⟩:=p;simp only at hrr hac hsm ⊢;have hnot:=zbl;obtain⟨W2,hW2⟩:∃ W2,W2=(w.alloc (.cells #[.slice ka nk kc,.slice pa pn pc,.slice ra nr rc,.slice qa qn qc,.int .i64 st] 26)).alloc (.cells #[.int .i64 pl,.slice rr prt.length rrc,.int .i64 plv,.int .i64 x3,.int .i64 x4,.string x5,.slice x6 n6 c6] 116):=⟨_,rfl⟩
 have HX:Hid (∀ W:World,Below W2.heap.size W2 W->(W.cell? ⟨w.heap.size,0,none⟩=some (.slice ka nk kc)/\W.cell? ⟨w.heap.size,1,none⟩=some (.slice pa pn pc)/\W.cell? ⟨w.heap.size,2,none⟩=some (.slice ra nr rc)/\W.cell? ⟨w.heap.size,3,none⟩=some (.slice qa qn qc)/\W.cell? ⟨w.heap.size,4,none⟩=some (.int .i64 st))/\(W.cell? ⟨w.heap.size+1,0,none⟩=some (.int .i64 pl)/\W.cell? ⟨w.heap.size+1,1,none⟩=some (.slice rr prt.length rrc)/\W.cell? ⟨w.heap.size+1,2,none⟩=some (.int .i64 plv)/\W.cell? ⟨w.heap.size+1,3,none⟩=some (.int .i64 x3)/\W.cell? ⟨w.heap.size+1,4,none⟩=some (.int .i64 x4)/\W.cell? ⟨w.heap.size+1,5,none⟩=some (.string x5)/\W.cell? ⟨w.heap.size+1,6,none⟩=some (.slice x6 n6 c6))/\Below w.heap.size w W/\w.heap.size+2<=W.heap.size):=zaa (by
  obtain⟨g0,g1,g2,g3,g4,hs1,hb1⟩:=boxG w (.slice ka nk kc) (.slice pa pn pc) (.slice ra nr rc) (.slice qa qn qc) (.int .i64 st) 26;obtain⟨p0,p1,p2,p3,p4,p5,p6,hs2,hb2⟩:=boxP (w.alloc (.cells #[.slice ka nk kc,.slice pa pn pc,.slice ra nr rc,.slice qa qn qc,.int .i64 st] 26)) (.int .i64 pl) (.slice rr prt.length rrc) (.int .i64 plv) (.int .i64 x3) (.int .i64 x4) (.string x5) (.slice x6 n6 c6) 116;rw[<- hW2] at p0 p1 p2 p3 p4 p5 p6 hs2 hb2;rw[hs1] at p0 p1 p2 p3 p4 p5 p6 hs2 hb2;intro W hb;have hb3:=hb2.trans (zab hb (by omega));have k1:=λ(j:Nat) (v:Value) (h:(w.alloc (.cells #[.slice ka nk kc,.slice pa pn pc,.slice ra nr rc,.slice qa qn qc,.int .i64 st] 26)).cell? ⟨w.heap.size,j,none⟩=some v)=>(hb3.cell (p:=⟨w.heap.size,j,none⟩) (by show w.heap.size<_;omega)).trans h;have k2:=λ(j:Nat) (v:Value) (h:W2.cell? ⟨w.heap.size+1,j,none⟩=some v)=>(hb.cell (p:=⟨w.heap.size+1,j,none⟩) (by show w.heap.size+1<_;omega)).trans h
  exact⟨⟨k1 _ _ g0,k1 _ _ g1,k1 _ _ g2,k1 _ _ g3,k1 _ _ g4⟩,⟨k2 _ _ p0,k2 _ _ p1,k2 _ _ p2,k2 _ _ p3,k2 _ _ p4,k2 _ _ p5,k2 _ _ p6⟩,hb1.trans (zab hb3 (by omega)),by have:=hb.size;omega⟩)
 have HI:=zaa (λx W=>zh4 ka pa ra qa nk kc pn pc nr rc qn qc st x W);have HY:=zaa (λW (hb:Below B w W)=>zhE ka pa ra qa nk kc pn pc nr rc qn qc st (by omega) rr rrc prt hsm B W (by have:=hb.size;omega) (zaS hb hrr));have HC:=zaa (λ(W:World) (hb:Below B w W) (pb:Nat) (hpb:B<=pb) (hct:W.heap[pb]? = some (.cells #[.int .i64 0] 3))=>zry B prt.length 257 pac 0 pb W (.int .i64 x3) (.int .i64 x4) (.string x5) (.slice x6 n6 c6) hpb (by have:=hb.size;omega) (zdg hb _ _ _ _ _ hac) (by omega) (by omega) (by omega) hct);have Hno:=zaa (λ(h:¬ (0<=pl/\pl<nr/\prt.length<=64/\0<=plv/\zcn (nk+nr) prt prt.length))=>show zhA nk nr ⟨pl,prt,plv,pac⟩=false from decide_eq_false (λhd=>h ⟨hd.1,hd.2.1,hd.2.2.1,hd.2.2.2.1,hd.2.2.2.2.1⟩));have Hyes:=zaa (λ(h:0<=pl/\pl<nr/\prt.length<=64/\0<=plv/\zcn (nk+nr) prt prt.length)=>show zhA nk nr ⟨pl,prt,plv,pac⟩=decide (0<=zbZ pac prt.length (256 - 0)) by unfold zhA;simp only[h,true_and,Int.sub_zero]);generalize zhA nk nr ⟨pl,prt,plv,pac⟩=R at *;clear hrr hac;go_enter Tryz.func192,Tryz.ntmps192;go_wp2_with fail;rw[<- hW2];clear hW2;refine(uh HI _ _).mono ?_;rintro e w3 ⟨rfl,hb3⟩;obtain⟨⟨g0,g1,g2,g3,g4⟩,⟨p0,p1,p2,p3,p4,p5,p6⟩,hbw,hsw⟩:=uh HX w3 hb3;have Hb3:=zaa hb3;have Hbw:=zaa hbw;clear hb3 hbw;by_cases hl:0<=pl/\pl<nr
 ·have hd:decide (0<=pl/\pl<(nr:Int))=true:=decide_eq_true hl;rw[hd];by_cases h64:prt.length<=64
  ·have h64':¬ (64:Int)<prt.length:=by omega
   go_wp2_with fail;refine(uh HY _ (zab (uh Hbw) hB)).mono ?_;rintro e w4 ⟨rfl,hb4⟩;have hb4':=(uh Hb3).trans (zab hb4 (uh Hb3).size);clear g0 g1 g2 g3 g4 p0 p1 p2 p3 p4 p5 p6;obtain⟨⟨g0,g1,g2,g3,g4⟩,⟨p0,p1,p2,p3,p4,p5,p6⟩,hbw4,hsw4⟩:=uh HX w4 hb4';have Hbw4:=zaa hbw4;clear hb4 hb4' hbw4;by_cases hsy:zcn (nk+nr) prt prt.length
   ·have hd2:decide (zcn (nk+nr) prt prt.length)=true:=decide_eq_true hsy;rw[hd2];by_cases hlv:plv<0
    ·have Hr:=zaa (uh Hno (λh=>by omega));go_wp2;go_ret;rw[uh Hr];exact⟨rfl,uh Hbw4⟩
    ·have Hr:=zaa (uh Hyes ⟨hl.1,hl.2,h64,by omega,hsy⟩);clear hsy hd2 Hno Hyes;have hb5:Below w4.heap.size w4 (w4.alloc (.cells #[.int .i64 0] 3)):=(zsY _ _).alloc (zsG _) _;have HC5:=zaa (uh HC _ ((zab (uh Hbw4) hB).trans (zab hb5 (by omega))) w4.heap.size (by omega) (zsH _ _));have Hb5:=zaa ((uh Hbw4).trans (zab hb5 (by omega)));have hlt5:w.heap.size+1<w4.heap.size:=by omega
     clear hb5;go_wp2_with fail;refine(uh HC5).mono ?_;rintro e w6 ⟨c',rfl,-,-,hfr⟩;have Hb6:=zaa ((uh Hb5).trans (zau hfr (by have:=(uh Hb5).size;omega) (λk hk=>by have hk:k=w4.heap.size:=hk;omega)));clear hfr;generalize decide (0<=zbZ pac (prt.length:Int) (256 - 0))=bb at *;go_wp2;go_ret;rw[uh Hr];exact⟨rfl,uh Hb6⟩
   ·have hd2:decide (zcn (nk+nr) prt prt.length)=false:=decide_eq_false hsy;rw[hd2];have Hr:=zaa (uh Hno (λh=>hsy h.2.2.2.2));go_wp2;go_ret;rw[uh Hr];exact⟨rfl,uh Hbw4⟩
  ·have h64':(64:Int)<prt.length:=by omega
   have Hr:=zaa (uh Hno (λh=>h64 h.2.2.1));go_wp2;go_ret;rw[uh Hr];exact⟨rfl,uh Hbw⟩
 ·have hd:decide (0<=pl/\pl<(nr:Int))=false:=decide_eq_false hl;rw[hd];have Hr:=zaa (uh Hno (λh=>hl ⟨h.1,h.2.1⟩));go_wp2;go_ret;rw[uh Hr];exact⟨rfl,uh Hbw⟩
theorem zpo(G:Gm)(hnk:G.kinds.length<=1024)(hnr:G.rules.length<=2048)(ka pa ra qa:Option Addr)(kc pc rc qc:Nat)(B:Nat)(w:World)(hB:B<=w.heap.size)(hin:GIn B w G ka pa ra qa)(hsm:smG G) :
 Calls Tryz.prog 146 #[gV G ka pa ra qa kc pc rc qc] w λe w'=>e=.returned (.bool (decide (G.prods.length<=4096/\zbm G G.prods.length)))/\Below w.heap.size w w':=by
 have hst:=zeO (kc:=kc) (pc:=pc) (rc:=rc) (qc:=qc) hB hin 26;have hb1:Below w.heap.size w (w.alloc (.cells #[.slice ka G.kinds.length kc,.slice pa G.precs.length pc,.slice ra G.rules.length rc,.slice qa G.prods.length qc,.int .i64 G.start] 26)):=(zsY _ _).alloc (zsG _) _;have hw1:(w.alloc (.cells #[.slice ka G.kinds.length kc,.slice pa G.precs.length pc,.slice ra G.rules.length rc,.slice qa G.prods.length qc,.int .i64 G.start] 26)).heap.size=w.heap.size+1:=by simp
 have g0:=hst.c0;have g1:=hst.c1;have g2:=hst.c2;have g3:=hst.c3;have g4:=hst.c4;have Hst:=zaa hst;have Hb1:=zaa hb1;have Hsm:=zaa hsm;clear hst hb1 hin hsm;have hnot:=zbl;by_cases hq:G.prods.length<=4096
 ·have hq':¬ (4096:Int)<G.prods.length:=by omega
  have Hyes:=zaa (λ(h:zbm G G.prods.length)=>decide_eq_true (p:=G.prods.length<=4096/\zbm G G.prods.length) ⟨hq,h⟩);have Hno:=zaa (λ(h:¬ zbm G G.prods.length)=>decide_eq_false (p:=G.prods.length<=4096/\zbm G G.prods.length) (λk=>h k.2));generalize decide (G.prods.length<=4096/\zbm G G.prods.length)=R at *;go_enter Tryz.func146,Tryz.ntmps146;go_wp2;generalize w.alloc (.cells #[.slice ka G.kinds.length kc,.slice pa G.precs.length pc,.slice ra G.rules.length rc,.slice qa G.prods.length qc,.int .i64 G.start] 26)=w1 at *;clear g0 g1 g2 g3 g4
  go_loopw [12] (λx W=>∃ i:Nat,x=.int .i64 i/\i<=G.prods.length/\zbm G i/\Below (w.heap.size+1) w1 W) (λx _=>G.prods.length - (intOf x).toNat)
  case atStart=>exact⟨0,rfl,zsK _,λj hj=>absurd hj (Nat.not_lt_zero _),zsY _ _⟩
  case round =>
   obtain⟨i,rfl,hi,hpt,hb⟩:=hrel;have hst:=zb6 hb hB (uh Hst);have g0:=hst.c0;have g1:=hst.c1;have g2:=hst.c2;have g3:=hst.c3;have g4:=hst.c4;have Hg:=zaa hst.gin;have hszw:=hb.size;have Hpt:=zaa hpt;have Hb:=zaa hb;clear hst hb hpt;by_cases hlt:i<G.prods.length
   ·have hlt':(i:Int)<G.prods.length:=by omega
    obtain⟨b,off,rfl,hbB,rr,rrc,x3,x4,x5,x6,n6,c6,hrr,hac,q0,q1,q2,q3,q4,q5,q6⟩:=zdm (uh Hg).prods hlt;have HP:=zaa (λW (hb:Below B wr W)=>zsi ka pa ra (some ⟨b,off,none⟩) G.kinds.length kc G.precs.length pc G.rules.length rc G.prods.length qc G.start hnk hnr (G.prods.getD i pd0) B W (by have:=hb.size;omega) rr rrc x3 x4 x5 x6 n6 c6 (zaS hb hrr) (zdg hb _ _ _ _ _ hac) (uh Hsm _ (zan hlt)))
    have Hs:=zaa (λ(h:zhA G.kinds.length G.rules.length (G.prods.getD i pd0)=true)=>show zbm G (i+1) from λj hj=>by
     by_cases e:j=i
     ·subst e;exact h
     ·exact uh Hpt j (by omega))
    have Hn:=zaa (λ(h:zhA G.kinds.length G.rules.length (G.prods.getD i pd0)=false)=>uh Hno (λk=>by rw[k i hlt] at h;cases h));clear hrr hac;generalize G.prods.getD i pd0=p at *;obtain⟨pl,prt,plv,pac⟩:=p;simp only at q0 q1 q2 HP;have hb2:Below wr.heap.size wr (wr.alloc (.cells #[.int .i64 pl,.slice rr prt.length rrc,.int .i64 plv,.int .i64 x3,.int .i64 x4,.string x5,.slice x6 n6 c6] 116)):=(zsY _ _).alloc (zsG _) _;have HP2:=zaa (uh HP _ (zab hb2 (by omega)));have Hb2:=zaa hb2;clear hb2 HP;have hlt5:w.heap.size<wr.heap.size:=by omega
    go_wp2_with fail;refine(uh HP2).mono ?_;rintro e w3 ⟨rfl,hb3⟩;have hb4:=(uh Hb2).trans (zab hb3 (by simp));have Hb4:=zaa ((uh Hb).trans (zab hb4 (by omega)));have Hb5:=zaa ((uh Hb1).trans (zab (uh Hb4) (by omega)));clear hb3 hb4
    cases hpb:zhA G.kinds.length G.rules.length ⟨pl,prt,plv,pac⟩
    ·have Hr:=zaa (uh Hn hpb);go_wp2;go_ret;rw[uh Hr];exact⟨rfl,uh Hb5⟩
    ·have Hs2:=zaa (uh Hs hpb);go_wp2;go_roundw
     case rel=>exact⟨i+1,by go_num,by omega,uh Hs2,uh Hb4⟩
     case measure=>simp[intOf];omega
   ·obtain rfl:i=G.prods.length:=by omega
    have Hr:=zaa (uh Hyes (uh Hpt));have Hb5:=zaa ((uh Hb1).trans (zab (uh Hb) (by omega)));go_wp2;go_ret;rw[uh Hr];exact⟨rfl,uh Hb5⟩
 ·have hq':(4096:Int)<G.prods.length:=by omega
  have Hr:=zaa (decide_eq_false (p:=G.prods.length<=4096/\zbm G G.prods.length) (λk=>hq k.1));generalize decide (G.prods.length<=4096/\zbm G G.prods.length)=R at *;go_enter Tryz.func146,Tryz.ntmps146;go_wp2;go_ret;rw[uh Hr];exact⟨rfl,uh Hb1⟩
theorem zrN{O:Nat->Prop}{B:Nat}{a b:World}(h:Wk.Off O a b)(hB:B<=a.heap.size)(hO:∀ k,O k->B<=k):Below B a b :=
 ⟨h.os,h.tape,h.output,h.size,λk hk=>h.block k (by omega) (λho=>by have:=hO k ho;omega)⟩
theorem zj5(w:World):Calls Tryz.prog 189 #[] w λe w'=>e=.returned (.pointer (some ⟨w.heap.size,0,none⟩))/\w'=w.alloc (.cells #[.slice none 0 0,.map none] 310):=by
 go_enter Tryz.func189,Tryz.ntmps189;go_wp2;go_ret;exact⟨rfl,rfl⟩
theorem ztu(w:World):Wk.Idx (w.alloc (.cells #[.slice none 0 0,.map none] 310)) w.heap.size (· = w.heap.size) [] :=
 ⟨rfl,λk hk=>by subst hk;simp,List.nodup_nil,λs hs=>absurd hs (by simp),.slice none 0 0,none,zsH _ _,World.ownsRow_nil _ _ _ _,λk hk=>by simp[Value.ownBlock] at hk,.inl ⟨rfl,rfl⟩⟩
theorem zpd(G:Gm)(ka pa ra qa:Option Addr)(kc pc rc qc:Nat)(B:Nat)(w:World)(hB:B<=w.heap.size)(hin:GIn B w G ka pa ra qa) :
 Calls Tryz.prog 145 #[gV G ka pa ra qa kc pc rc qc] w λe w'=>e=.returned (.bool (decide (zex G.rules=true/\0<=G.start/\G.start<G.rules.length)))/\Below w.heap.size w w':=by
 have hst:=zeO (kc:=kc) (pc:=pc) (rc:=rc) (qc:=qc) hB hin 26;have hb1:Below w.heap.size w (w.alloc (.cells #[.slice ka G.kinds.length kc,.slice pa G.precs.length pc,.slice ra G.rules.length rc,.slice qa G.prods.length qc,.int .i64 G.start] 26)):=(zsY _ _).alloc (zsG _) _;have hw1:(w.alloc (.cells #[.slice ka G.kinds.length kc,.slice pa G.precs.length pc,.slice ra G.rules.length rc,.slice qa G.prods.length qc,.int .i64 G.start] 26)).heap.size=w.heap.size+1:=by simp
 have g0:=hst.c0;have g1:=hst.c1;have g2:=hst.c2;have g3:=hst.c3;have g4:=hst.c4;have Hst:=zaa hst;have Hb1:=zaa hb1;clear hst hb1 hin;have hnot:=zbl;by_cases hq:G.rules.length<=2048
 ·have hq':¬ (2048:Int)<G.rules.length:=by omega
  have Hno:=zaa (λ(h:¬ (zg1 G.rules G.rules.length/\G.rules.Nodup))=>decide_eq_false (p:=zex G.rules=true/\0<=G.start/\G.start<G.rules.length) (λk=>h ⟨(of_decide_eq_true k.1).2.2.1,(of_decide_eq_true k.1).2.2.2⟩))
  have Hyes:=zaa (λ(h:zg1 G.rules G.rules.length/\G.rules.Nodup)=>show decide (zex G.rules=true/\0<=G.start/\G.start<G.rules.length)=decide (0<=G.start/\G.start<G.rules.length) by
   rw[decide_eq_decide]
   exact⟨λk=>k.2,λk=>⟨decide_eq_true ⟨by omega,hq,h.1,h.2⟩,k⟩⟩)
  generalize decide (zex G.rules=true/\0<=G.start/\G.start<G.rules.length)=R at *;go_enter Tryz.func145,Tryz.ntmps145;go_wp2_with fail;generalize w.alloc (.cells #[.slice ka G.kinds.length kc,.slice pa G.precs.length pc,.slice ra G.rules.length rc,.slice qa G.prods.length qc,.int .i64 G.start] 26)=w1 at *;refine(zj5 _).mono ?_;rintro e w2 ⟨rfl,hw2⟩;have hI2:=ztu w1;rw[<- hw2] at hI2;have hb2:Below w1.heap.size w1 w2:=by rw[hw2];exact(zsY _ _).alloc (zsG _) _
  have hs2:w2.heap.size=w1.heap.size+1:=by rw[hw2];simp
  have hst2:=zb6 (zab hb2 (by omega)) hB (uh Hst);clear g0 g1 g2 g3 g4 hw2;have g0:=hst2.c0;have g1:=hst2.c1;have g2:=hst2.c2;have g3:=hst2.c3;have g4:=hst2.c4;have Hst2:=zaa hst2;have HI2:=zaa hI2;have Hb2:=zaa hb2;clear hst2 hI2 hb2;go_wp2
  go_loopw [17] (λx W=>∃ (k:Nat) (O:Nat->Prop),x=.int .i64 k/\k<=G.rules.length/\zg1 G.rules k/\Wk.Idx W w1.heap.size O (G.rules.take k)/\(∀ j,O j->w1.heap.size<=j)/\Below w1.heap.size w1 W) (λx _=>G.rules.length - (intOf x).toNat)
  case atStart=>exact⟨0,_,rfl,zsK _,λj hj=>absurd hj (Nat.not_lt_zero _),by simpa using uh HI2,λj hj=>by have hj:j=w1.heap.size:=hj;omega,uh Hb2⟩
  case round =>
   clear g0 g1 g2 g3 g4;obtain⟨k,O,rfl,hk,hlong,hidx,hO,hb⟩:=hrel;have hst:=zb6 (zab hb (by omega)) hB (uh Hst);have g0:=hst.c0;have g1:=hst.c1;have g2:=hst.c2;have g3:=hst.c3;have g4:=hst.c4;have Hg:=zaa hst.gin;have hszw:=hb.size;have Hl:=zaa hlong;have Hb:=zaa hb;have HO:=zaa hO;have hnd:=hidx.nodup;clear hst hb hlong hO;by_cases hlt:k<G.rules.length
   ·have hlt':(k:Int)<G.rules.length:=by omega
    obtain⟨b,off,rfl,hbB,c0⟩:=zvj (uh Hg).rules hlt;have htk:=zcB G.rules k [] hlt
    have Hs:=zaa (λ(h:1<=(G.rules.getD k []).length/\(G.rules.getD k []).length<=4096)=>show zg1 G.rules (k+1) from λj hj=>by
     by_cases e:j=k
     ·subst e;exact h
     ·exact uh Hl j (by omega))
    have Hn1:=zaa (λ(h:¬ (1<=(G.rules.getD k []).length/\(G.rules.getD k []).length<=4096))=>uh Hno (λhd=>h (hd.1 k hlt)))
    have Hn2:=zaa (λ(h:G.rules.getD k [] ∈ G.rules.take k)=>uh Hno (λhd=>by
     have h1:(G.rules.take (k+1)).Nodup:=hd.2.sublist (List.take_sublist _ _);rw[htk] at h1
     exact(List.nodup_append.1 h1).2.2 _ h _ (by simp) rfl))
    have Htk:=zaa htk;have hszs:((bs (G.rules.getD k [])).size:Int)=((G.rules.getD k []).length:Int):=rfl;have Hne:Hid ((bs (G.rules.getD k [])).toList=[]↔(G.rules.getD k []).length=0):=zaa (by rw[zfs];exact List.length_eq_zero_iff.symm);have Hbx:=zaa ((uh Hb1).trans (zab (uh Hb) (by omega)));clear htk;generalize G.rules.getD k []=s at *;by_cases hlen:1<=s.length/\s.length<=4096
    ·have hs0:((bs s).toList == [])=false:=by rw[beq_eq_false_iff_ne];intro h;have:=(uh Hne).1 h;omega
     have hs1:¬ (4096:Int)<(bs s).size:=by rw[hszs];omega
     have hsm:s.length<=maxLen:=by unfold maxLen;omega
     have Hs2:=zaa (uh Hs hlen);by_cases hold:s ∈ G.rules.take k
     ·have HA:=zaa (Wk.at_old w1.heap.size O _ s hsm hold wr hidx);rw[show Wk.bs s=bs s from rfl,hw1] at HA;have Hr:=zaa (uh Hn2 hold);clear hidx hold;go_wp2_with fail;refine(uh HA).mono ?_;rintro e w3 ⟨rfl,hb3⟩;have Hb3:=zaa ((uh Hbx).trans (zab hb3 (by omega)));clear hb3;go_wp2;go_ret;rw[uh Hr];exact⟨rfl,uh Hb3⟩
     ·have HA:=zaa (Wk.at_new w1.heap.size O _ s hsm hold (by rw[zsV];omega) wr hidx);rw[show Wk.bs s=bs s from rfl,hw1] at HA;clear hidx hold;go_wp2_with fail;refine(uh HA).mono ?_;rintro e w3 ⟨rfl,ho3,hi3⟩;have hb3:=zrN ho3 (by omega) (uh HO);have Hb3:=zaa ((uh Hb).trans hb3);have Hi3:=zaa hi3;have hsz3:=ho3.size;clear hb3 ho3 hi3;go_wp2;go_roundw
      case rel=>exact⟨k+1,λj=>O j\/wr.heap.size<=j/\j<w3.heap.size,by go_num,by omega,uh Hs2,by rw[uh Htk,hw1];exact uh Hi3,λj hj=>hj.elim (uh HO j) (λh=>by omega),uh Hb3⟩
      case measure=>simp[intOf];omega
    ·have Hr:=zaa (uh Hn1 hlen);by_cases hz:s.length=0
     ·have hs0:((bs s).toList == [])=true:=by rw[beq_iff_eq];exact(uh Hne).2 hz
      go_wp2;go_ret;rw[uh Hr];exact⟨rfl,uh Hbx⟩
     ·have hs0:((bs s).toList == [])=false:=by rw[beq_eq_false_iff_ne];exact λh=>hz ((uh Hne).1 h)
      have hs1:(4096:Int)<(bs s).size:=by rw[hszs];omega
      go_wp2;go_ret;rw[uh Hr];exact⟨rfl,uh Hbx⟩
   ·obtain rfl:k=G.rules.length:=by omega
    rw[zsN] at hnd;have Hr:=zaa (uh Hyes ⟨uh Hl,hnd⟩);have Hb5:=zaa ((uh Hb1).trans (zab (uh Hb) (by omega)));clear hidx hnd;go_wp2_with fail;refine(zh4 ka pa ra qa _ kc _ pc _ rc _ qc _ _ _).mono ?_;rintro e w3 ⟨rfl,hb3⟩;have Hb6:=zaa ((uh Hb5).trans (zab hb3 (uh Hb5).size));clear hb3;generalize decide (0<=G.start/\G.start<(G.rules.length:Int))=bb at *;go_wp2;go_ret;rw[uh Hr];exact⟨rfl,uh Hb6⟩
 ·have hq':(2048:Int)<G.rules.length:=by omega
  have Hr:=zaa (decide_eq_false (p:=zex G.rules=true/\0<=G.start/\G.start<G.rules.length) (λk=>hq (of_decide_eq_true k.1).2.1));generalize decide (zex G.rules=true/\0<=G.start/\G.start<G.rules.length)=R at *;go_enter Tryz.func145,Tryz.ntmps145;go_wp2;go_ret;rw[uh Hr];exact⟨rfl,uh Hb1⟩
theorem zj9(G:Gm)(ka pa ra qa:Option Addr)(kc pc rc qc:Nat)(w:World)(hin:GIn w.heap.size w G ka pa ra qa)(hsm:smG G) :
 Calls Tryz.prog 103 #[gV G ka pa ra qa kc pc rc qc] w λe w'=>e=.returned (.bool (zbK G))/\Below w.heap.size w w':=by
 have hst:=zeO (kc:=kc) (pc:=pc) (rc:=rc) (qc:=qc) (zsG _) hin 26;have hb1:Below w.heap.size w (w.alloc (.cells #[.slice ka G.kinds.length kc,.slice pa G.precs.length pc,.slice ra G.rules.length rc,.slice qa G.prods.length qc,.int .i64 G.start] 26)):=(zsY _ _).alloc (zsG _) _;have hw1:(w.alloc (.cells #[.slice ka G.kinds.length kc,.slice pa G.precs.length pc,.slice ra G.rules.length rc,.slice qa G.prods.length qc,.int .i64 G.start] 26)).heap.size=w.heap.size+1:=by simp
 obtain⟨w1,hw⟩:∃ w1,w1=w.alloc (.cells #[.slice ka G.kinds.length kc,.slice pa G.precs.length pc,.slice ra G.rules.length rc,.slice qa G.prods.length qc,.int .i64 G.start] 26):=⟨_,rfl⟩;rw[<- hw] at hst hb1 hw1;have HX:Hid (∀ W,Below w1.heap.size w1 W->GSt w.heap.size W G ka kc pa pc ra rc qa qc w.heap.size/\Below w.heap.size w W/\w.heap.size+1<=W.heap.size):=zaa (λW hb=>⟨zb6 (zab hb (by omega)) (zsG _) hst,hb1.trans (zab hb (by omega)),by have:=hb.size;omega⟩);have hnot:=zbl
 have HK:=zaa (zqa ka kc G.kinds w1 (by
  rcases hst.gin.kinds with h | ⟨b,off,h1,h2,h3⟩
  ·exact .inl h
  ·exact .inr ⟨b,off,h1,by omega,h3⟩))
 have Hno:=zaa (λ(h:¬ (zg4 G.kinds=true/\G.precs.length=G.kinds.length/\zcj G.precs=true/\zex G.rules=true/\0<=G.start/\G.start<G.rules.length/\G.prods.length<=4096/\zbm G G.prods.length))=>show zbK G=false from decide_eq_false h);have Hyes:=zaa (λ(h:zg4 G.kinds=true/\G.precs.length=G.kinds.length/\zcj G.precs=true/\zex G.rules=true/\0<=G.start/\G.start<G.rules.length/\G.prods.length<=4096/\zbm G G.prods.length)=>show zbK G=true from decide_eq_true h);generalize zbK G=R at *;have Hsm:=zaa hsm;clear hst hin hsm;go_enter Tryz.func103,Tryz.ntmps103;go_wp2_with fail;rw[<- hw];clear hw;refine(uh HK).mono ?_;rintro e w2 ⟨rfl,hb2⟩;obtain⟨hst2,hbw2,hs2⟩:=uh HX w2 hb2;have g0:=hst2.c0;have g1:=hst2.c1;have g2:=hst2.c2;have g3:=hst2.c3;have g4:=hst2.c4;have Hg2:=zaa hst2.gin;have Hb2:=zaa hb2;have Hbw2:=zaa hbw2;clear hst2 hb2 hbw2 HK
 cases hkb:zg4 G.kinds
 ·have hv:zb0 G.kinds=70:=by unfold zb0;rw[hkb];rfl
  have Hr:=zaa (uh Hno (λh=>by rw[hkb] at h;cases h.1));rw[hv];clear hkb Hno Hyes;go_wp2;go_ret;rw[uh Hr];exact⟨rfl,uh Hbw2⟩
 ·have hv:zb0 G.kinds=0:=by unfold zb0;rw[hkb];rfl
  have hnk:=(of_decide_eq_true hkb).2.1;rw[hv];have HP:=zaa (zpp ka pa ra qa G.kinds.length kc pc G.rules.length rc G.prods.length qc G.start G.precs (by omega) w.heap.size w2 (by omega) (uh Hg2).precs);go_wp2_with fail;refine(uh HP).mono ?_;rintro e w3 ⟨rfl,hb3⟩;have hb3':=(uh Hb2).trans (zab hb3 (uh Hb2).size);obtain⟨hst3,hbw3,hs3⟩:=uh HX w3 hb3';clear g0 g1 g2 g3 g4;have g0:=hst3.c0;have g1:=hst3.c1;have g2:=hst3.c2;have g3:=hst3.c3;have g4:=hst3.c4;have Hg3:=zaa hst3.gin;have Hb3:=zaa hb3';have Hbw3:=zaa hbw3;clear hst3 hb3 hb3' hbw3 HP
  cases hpb:(decide (G.precs.length=G.kinds.length) && zcj G.precs)
  ·have Hr:=zaa (uh Hno (λh=>by rw[decide_eq_true h.2.1,h.2.2.1] at hpb;cases hpb));clear hpb hkb Hno Hyes;go_wp2;go_ret;rw[uh Hr];exact⟨rfl,uh Hbw3⟩
  ·have hpb2:G.precs.length=G.kinds.length/\zcj G.precs=true:=by simpa using hpb
   have HR:=zaa (zpd G ka pa ra qa kc pc rc qc w.heap.size w3 (by omega) (uh Hg3));have Hpb2:=zaa hpb2;clear hpb hpb2;go_wp2_with fail;refine(uh HR).mono ?_;rintro e w4 ⟨rfl,hb4⟩;have hb4':=(uh Hb3).trans (zab hb4 (uh Hb3).size);obtain⟨hst4,hbw4,hs4⟩:=uh HX w4 hb4';clear g0 g1 g2 g3 g4;have g0:=hst4.c0;have g1:=hst4.c1;have g2:=hst4.c2;have g3:=hst4.c3;have g4:=hst4.c4;have Hg4:=zaa hst4.gin;have Hb4:=zaa hb4';have Hbw4:=zaa hbw4;clear hst4 hb4 hb4' hbw4 HR
   cases hrb:decide (zex G.rules=true/\0<=G.start/\G.start<G.rules.length)
   ·have hrb2:=of_decide_eq_false hrb;have Hr:=zaa (uh Hno (λh=>hrb2 ⟨h.2.2.2.1,h.2.2.2.2.1,h.2.2.2.2.2.1⟩));clear hrb hrb2 hkb Hno Hyes;go_wp2;go_ret;rw[uh Hr];exact⟨rfl,uh Hbw4⟩
   ·have hrb2:=of_decide_eq_true hrb;have hnr:=(of_decide_eq_true hrb2.1).2.1;have HQ:=zaa (zpo G hnk hnr ka pa ra qa kc pc rc qc w.heap.size w4 (by omega) (uh Hg4) (uh Hsm))
    have Hr:Hid (R=decide (G.prods.length<=4096/\zbm G G.prods.length)):=zaa (by
     by_cases h:G.prods.length<=4096/\zbm G G.prods.length
     ·rw[decide_eq_true h];exact uh Hyes ⟨hkb,(uh Hpb2).1,(uh Hpb2).2,hrb2.1,hrb2.2.1,hrb2.2.2,h.1,h.2⟩
     ·rw[decide_eq_false h];exact uh Hno (λk=>h ⟨k.2.2.2.2.2.2.1,k.2.2.2.2.2.2.2⟩))
    clear hrb hrb2;go_wp2_with fail;refine(uh HQ).mono ?_;rintro e w5 ⟨rfl,hb5⟩;have Hb5:=zaa ((uh Hbw4).trans (zab hb5 (uh Hbw4).size));clear hb5 HQ;generalize decide (G.prods.length<=4096/\zbm G G.prods.length)=bb at *;go_wp2;go_ret;rw[uh Hr];exact⟨rfl,uh Hb5⟩
theorem zwV:CheckC 62:=λG ka pa ra qa kc pc rc qc w hin hsm=>by
 have hst:=zeO (kc:=kc) (pc:=pc) (rc:=rc) (qc:=qc) (zsG _) hin 26;have hb1:Below w.heap.size w (w.alloc (.cells #[.slice ka G.kinds.length kc,.slice pa G.precs.length pc,.slice ra G.rules.length rc,.slice qa G.prods.length qc,.int .i64 G.start] 26)):=(zsY _ _).alloc (zsG _) _;have HM:=zaa (zj9 G ka pa ra qa kc pc rc qc _ (zcQ hin hb1) hsm);have Hb1:=zaa hb1;have hnot:=zbl;unfold zq8;generalize zbK G=R at *;clear hst hb1 hin hsm;go_enter Tryz.func62,Tryz.ntmps62;go_wp2_with fail;refine(uh HM).mono ?_;rintro e w2 ⟨rfl,hb2⟩;have Hb2:=zaa ((uh Hb1).trans (zab hb2 (uh Hb1).size));clear hb2
 cases R
 ·go_wp2;go_ret;exact⟨rfl,uh Hb2⟩
 ·go_wp2;go_ret;exact⟨rfl,uh Hb2⟩
def zaA(nk:Nat)(row:List Int):List Int:=row.flatMap λx=>if (nk:Int)<=x then[x - nk] else[]
theorem zk7{nk:Nat}{row:List Int}{k:Nat}(hk:k<row.length):zaA nk (row.take (k+1))=zaA nk (row.take k) ++ if (nk:Int)<=row.getD k 0 then[row.getD k 0 - nk] else[]:=by
 rw[zcB row k 0 hk];unfold zaA;rw[List.flatMap_append];simp
theorem za2{nk:Nat}:∀ (row:List Int),(zaA nk row).length<=row.length
 | []=>by simp[zaA]
 | x::row=>by
   have h:=za2 (nk:=nk) row;have e:zaA nk (x::row)=(if (nk:Int)<=x then[x - nk] else[]) ++ zaA nk row:=rfl;rw[e,zsI,List.length_cons]
   split <;> simp <;> omega
theorem zgl(gb:Nat)(x:Int)(nk:Nat)(ka:Option Addr)(kc:Nat)(hnk:nk<=1024)(hx:0<=x/\x<=281474976710656)(w:World)(c0:w.cell? ⟨gb,0,none⟩=some (.slice ka nk kc)) :
 Calls Tryz.prog 149 #[.pointer (some ⟨gb,0,none⟩),.int .i64 x] w λe w'=>e=.returned (.tuple #[.int .i64 (if (nk:Int)<=x then x - nk else 0),.bool (decide ((nk:Int)<=x))])/\w=w':=by
 by_cases h:(nk:Int)<=x
 ·have h':¬ x<(nk:Int):=by omega
  have hw:IntKind.i64.wrap (x - nk)=x - nk:=by rw[IntKind.wrap_i64];omega
  rw[if_pos h,decide_eq_true h];go_enter Tryz.func149,Tryz.ntmps149;go_wp2;refine bodyPost_ret (v:=.tuple #[.int .i64 (x - nk),.bool true]) ?zz9 rfl ⟨rfl,rfl⟩
  case zz9=>simp[results,Tryz.results149,go_sem]
 ·have h':x<(nk:Int):=by omega
  rw[if_neg h,decide_eq_false h];go_enter Tryz.func149,Tryz.ntmps149;go_wp2;refine bodyPost_ret (v:=.tuple #[.int .i64 0,.bool false]) ?zz9 rfl ⟨rfl,rfl⟩
  case zz9=>simp[results,Tryz.results149,go_sem]
theorem zdk(gb:Nat)(nk:Nat)(ka:Option Addr)(kc:Nat)(hnk:nk<=1024)(ro:Option Addr)(rowc:Nat)(row:List Int)(hl:row.length<=1048576)(hx:∀ x,x ∈ row->0<=x/\x<=281474976710656)(w:World)(c0:w.cell? ⟨gb,0,none⟩=some (.slice ka nk kc))(hgb:gb<w.heap.size)(hrow:NRow w.heap.size w ro row) :
 Calls Tryz.prog 152 #[.pointer (some ⟨gb,0,none⟩),.slice ro row.length rowc] w λe w'=>∃ v,e=.returned v/\w'.ownsRow w.heap.size 3 1 v (zaA nk row).length (zao (zaA nk row))/\Below w.heap.size w w':=by
 obtain⟨i0,hi,hz0,hz1,hz2⟩:=zah zdB;have Hc0:=zaa c0;have Hrow:=zaa hrow;have Hx:=zaa hx;clear c0 hrow hx;go_enter Tryz.func152,Tryz.ntmps152;go_wp2
 go_loopw [5,12] (λu x wr=>∃ k:Nat,x=.int .i64 k/\k<=row.length/\wr.ownsRow w.heap.size 3 1 u (zaA nk (row.take k)).length (zao (zaA nk (row.take k)))/\Below w.heap.size w wr) (λ_ x _=>row.length - (intOf x).toNat)
 case atStart=>exact⟨0,rfl,zsK _,World.ownsRow_nil _ _ _ _,zsY _ _⟩
 case round =>
  obtain⟨k,rfl,hk,hown,hb⟩:=hrel;obtain⟨ua,uc,rfl⟩:=zaf hown;have hsz:=hb.size;have hle:=za2 (nk:=nk) (row.take k);rw[zsV] at hle;have Hown:=zaa hown;have Hb:=zaa hb;clear hown hb;by_cases hlt:k<row.length
  ·have hlt':(k:Int)<row.length:=by omega
   obtain⟨b,off,rfl,hbl,hc⟩:=zbf (zaS (uh Hb) (uh Hrow)) hlt;have hxk:=uh Hx _ (zbg hlt);have Hs:=zaa (zk7 (nk:=nk) hlt);have c0:=((uh Hb).cell (p:=⟨gb,0,none⟩) hgb).trans (uh Hc0);have HR:=zaa (zgl gb (row.getD k 0) nk ka kc hnk hxk wr c0);generalize row.getD k 0=x at *;clear c0;by_cases hr:(nk:Int)<=x
   ·rw[if_pos hr,decide_eq_true hr] at HR;rw[if_pos hr] at Hs;generalize zaA nk (row.take k)=acc at *;go_wp2_with fail;refine(uh HR).mono ?_;rintro e w2 ⟨rfl,rfl⟩;go_wp2_with (at_builtin;refine wpList_append_own _ rfl _ _ 50 rfl w.heap.size 3 i0 (.int .i64 0) 1 8 Tryz.underlying50 hi hz0 hz1 hz2 rfl (by decide) _ _ _ rfl ((uh Hown).alloc _) ⟨wr.heap.size,0,none⟩ 1 1 [.int .i64 (x - nk)] rfl rfl ?zc1 ?zc2 ?zc3 ?zc4 ?zc5 ?_)
    case zc1=>exact zpR _ _ _
    case zc2=>intro u hu;simp at hu;rcases hu with rfl;rfl
    case zc3=>unfold maxLen;omega
    case zc4=>omega
    case zc5=>simp;omega
    intro v' W3 hown' hgrow _;have Hb4:=zaa (((uh Hb).alloc hsz _).grown hgrow (by simp;omega) (λj hj=>((uh Hown).lt j hj).1));have Ho4:=zaa (show W3.ownsRow w.heap.size 3 1 v' (zaA nk (row.take (k+1))).length (zao (zaA nk (row.take (k+1)))) by rw[uh Hs,<- zaY,zsI];exact hown');clear hown' hgrow;go_wp2;go_roundw
    case rel=>exact⟨k+1,by go_num,by omega,uh Ho4,uh Hb4⟩
    case measure=>simp[intOf];omega
   ·rw[if_neg hr,decide_eq_false hr] at HR;rw[if_neg hr,List.append_nil] at Hs;go_wp2_with fail;refine(uh HR).mono ?_;rintro e w2 ⟨rfl,rfl⟩;go_wp2;go_roundw
    case rel=>exact⟨k+1,by go_num,by omega,by rw[uh Hs];exact uh Hown,uh Hb⟩
    case measure=>simp[intOf];omega
  ·obtain rfl:k=row.length:=by omega
   have e1:row.take row.length=row:=zsN;rw[e1] at Hown ⊢;go_wp2;go_ret;exact⟨_,rfl,uh Hown,uh Hb⟩
end Go.Proofs.YtieciibnajeibaaGreatDoor

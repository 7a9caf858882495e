import Derived.Test.YtieciibnajeibaaGreatDoorGD
import Derived.Test.YtieciibnajeibaaGreatDoorTJ
import Derived.Test.YtieciibnajeibaaGreatDoorH2
set_option maxHeartbeats 8000000
set_option maxRecDepth 100000
namespace Go.Proofs.YtieciibnajeibaaGreatDoor
open Go.RowKit
def zbF(G:Gm)(k:Nat)(r:Nat):List Int:=((List.range k).filter λi=>decide ((G.prods.getD i pd0).left.toNat=r)).map λ(i:Nat)=>(i:Int)
def zeZ(G:Gm)(k:Nat)(r:Nat):List Int:=(List.range k).flatMap λi=>List.replicate ((zaA G.nk (G.prods.getD i pd0).right).count (r:Int)) (i:Int)
theorem zfG(G:Gm)(k r:Nat):zbF G (k+1) r=if (G.prods.getD k pd0).left.toNat=r then zbF G k r ++ [(k:Int)] else zbF G k r:=by
 unfold zbF;rw[List.range_succ,List.filter_append,List.map_append];by_cases h:(G.prods.getD k pd0).left.toNat=r
 ·rw[if_pos h,List.filter_cons_of_pos (by simpa using h)];rfl
 ·rw[if_neg h,List.filter_cons_of_neg (by simpa using h)];simp
theorem zhI(G:Gm)(k r:Nat):zeZ G (k+1) r=zeZ G k r ++ List.replicate ((zaA G.nk (G.prods.getD k pd0).right).count (r:Int)) (k:Int):=by
 unfold zeZ;rw[List.range_succ,List.flatMap_append];simp
def zeC(U:Nat->List Int)(L:List Int)(k j r:Nat):List Int:=U r ++ List.replicate ((L.take j).count (r:Int)) (k:Int)
variable{F F1 F2 U:Nat->List Int}{G:Gm}{L:List Int}{O O1 O2:Nat->Prop}{V:Nat->Value}{W W1 w w1 w2:World}{bx:Array Value}{gb j k lo n ob r tb ub:Nat}{ka pa qa ra:Option Addr}
theorem znk{q:Nat}(hj:j<L.length)(hq:L.getD j 0=(q:Int)):zeC U L k (j+1)=zkO (zeC U L k j) q (zeC U L k j q ++ [(k:Int)]):=by
 funext r;unfold zeC;rw[zcB L j 0 hj,hq,List.count_append];by_cases e:r=q
 ·subst e;rw[ze0];simp[List.replicate_succ']
 ·rw[zis e];have:List.count (r:Int) [(q:Int)]=0:=by rw[List.count_eq_zero];simp;omega
  rw[this,Nat.add_zero]
theorem zoD:(zeC U L k j r).length<=(U r).length+L.length:=by
 unfold zeC;rw[zsI,List.length_replicate];have h1:(L.take j).count (r:Int)<=(L.take j).length:=List.count_le_length;rw[zsV] at h1;omega
theorem zgB{G:Gm}(hG:GOk G)(r:Nat):∀ k,k<=G.prods.length->(zeZ G k r).length<=k * 64
 | 0,_=>by simp[zeZ]
 | k+1,hk=>by
   rw[zhI,zsI,List.length_replicate];have h1:=zgB hG r k (by omega);have h2:(zaA G.nk (G.prods.getD k pd0).right).count (r:Int)<=(zaA G.nk (G.prods.getD k pd0).right).length:=List.count_le_length;have h3:=za2 (nk:=G.nk) (G.prods.getD k pd0).right;have h4:=hG.pr _ (zan (show k<G.prods.length by omega));omega
theorem zgQ(G:Gm)(r:Nat):∀ k,(zbF G k r).length<=k
 | 0=>by simp[zbF]
 | k+1=>by rw[zfG];have:=zgQ G r k;split <;> simp <;> omega
structure GrAt (M:Nat) (w:World) (G:Gm) (ka:Option Addr) (kc:Nat) (pa:Option Addr) (pc:Nat) (ra:Option Addr) (rc:Nat) (qa:Option Addr) (qc gb ob ub:Nat):Prop where
 gin:GIn M w G ka pa ra qa
 lt:gb<M
 box:w.heap[gb]? = some (.cells #[.slice ka G.kinds.length kc,.slice pa G.precs.length pc,.slice ra G.rules.length rc,.slice qa G.prods.length qc,.int .i64 G.start,.slice (some ⟨ob,0,none⟩) G.rules.length G.rules.length,.slice (some ⟨ub,0,none⟩) G.rules.length G.rules.length] 220)
 own:∃ O,zbB O w ob G.rules.length (zbF G G.prods.length)/\∀ k,O k->k<M
 uses:∃ O,zbB O w ub G.rules.length (zeZ G G.prods.length)/\∀ k,O k->k<M
theorem za1{M:Nat}{w':World}{kc pc rc qc:Nat}(h:GrAt M w G ka kc pa pc ra rc qa qc gb ob ub)(hb:Below M w w'):GrAt M w' G ka kc pa pc ra rc qa qc gb ob ub:=by
 have hf:Fr (λk=>M<=k) w w':=⟨hb.size,λk _ hk=>hb.block k (by omega),hb.os,hb.tape,hb.output⟩;refine⟨zem hb h.gin,h.lt,(hb.block _ h.lt).trans h.box,?_,?_⟩
 ·obtain⟨O,h1,h2⟩:=h.own;exact⟨O,zeE h1 hf (λk hk hm=>by have:=h2 k hk;omega),h2⟩
 ·obtain⟨O,h1,h2⟩:=h.uses;exact⟨O,zeE h1 hf (λk hk hm=>by have:=h2 k hk;omega),h2⟩
theorem zjD(h:TabV O w tb n V F)(hr:r<n)(hb:Below w.heap.size w w1)(hg:w1.grownBy w2 (V r).ownBlock):w2.rowIs tb 50 n V:=by
 have htb:some tb≠(V r).ownBlock:=λe=>by
  have h1:=(h.rows r hr).1;rcases h1.2 with ⟨hv,_⟩ | ⟨g',cap',cur,hv,_,hh,_⟩
  ·rw[hv] at e;simp[Value.ownBlock] at e
  ·rw[hv] at e;simp[Value.ownBlock] at e;subst e;obtain⟨cs,h2,-⟩:=h.row;rw[h2] at hh;cases hh
 have hs1:=hb.size;exact(h.row.of_block (hb.block _ (h.lt _ h.own))).of_block (hg.block _ (by have:=h.lt _ h.own;omega) htb)
theorem zbI(h:TabV O w tb n V F)(hr:r<n)(hb:Below w.heap.size w w1)(hg:w1.grownBy w2 (V r).ownBlock):w2.frozen? ⟨tb,r,none⟩=false:=(zjD h hr hb hg).frozen r
theorem zcs(h:TabV O w tb n V F)(hr:r<n)(hb:Below w.heap.size w w1)(hg:w1.grownBy w2 (V r).ownBlock):w2.cell? ⟨tb,r,none⟩=some (V r):=(zjD h hr hb hg).cell hr
theorem zwt{O':Nat->Prop}{a b c:World}(h:Fr O a b)(k:Fr O' b c)(hO:∀ j,O' j->O j\/a.heap.size<=j):Fr O a c :=
 ⟨zsy h.1 k.1,λj hj ho=>(k.2.1 j (zsJ hj h.1) (λh'=>(hO j h').elim ho (λh2=>by omega))).trans (h.2.1 j hj ho),k.2.2.1.trans h.2.2.1,k.2.2.2.1.trans h.2.2.2.1,k.2.2.2.2.trans h.2.2.2.2⟩
theorem zlE{B:Nat}(h:GIn B w G ka pa ra qa)(hB:B<=w.heap.size):GIn w.heap.size w G ka pa ra qa:=by
 have ht:=zdz h.tab hB (zsY _ _);obtain⟨h1,h2,h3,h4,-⟩:=h;refine⟨?_,?_,?_,?_,ht⟩
 ·rcases h1 with h | ⟨b,o,a1,a2,a3⟩
  ·exact .inl h
  ·exact .inr ⟨b,o,a1,by omega,a3⟩
 ·rcases h2 with h | ⟨b,o,a1,a2,a3⟩
  ·exact .inl h
  ·exact .inr ⟨b,o,a1,by omega,a3⟩
 ·rcases h3 with h | ⟨b,o,a1,a2,a3⟩
  ·exact .inl h
  ·exact .inr ⟨b,o,a1,by omega,a3⟩
 ·rcases h4 with h | ⟨b,o,a1,a2,a3⟩
  ·exact .inl h
  ·refine .inr ⟨b,o,a1,by omega,λj hj=>?_⟩;obtain⟨v0,v1,v2,v3,v4,v5,v6,⟨p0,⟨a,c,p1,p2,p3⟩,p4,p5⟩,hc⟩:=a3 j hj;exact⟨v0,v1,v2,v3,v4,v5,v6,⟨p0,⟨a,c,p1,zeg hB p2,p3⟩,p4,zjr hB _ _ _ _ _ p5⟩,hc⟩
def NGI(lo n:Nat)(w1:World)(bx:Array Value)(W:World)(gb ob ub:Nat)(F1 F2:Nat->List Int):Prop :=
 ∃ O1 O2,zbB O1 W ob n F1/\zbB O2 W ub n F2/\(∀ k,O1 k->¬ O2 k)/\(∀ k,O1 k->lo<=k/\k≠gb)/\(∀ k,O2 k->lo<=k/\k≠gb)/\lo<=gb/\W.heap[gb]? = some (.cells bx 220)/\lo<=w1.heap.size/\Below lo w1 W
theorem zj3{W':World}(h:NGI lo n w1 bx W gb ob ub F1 F2)(hb:Below W.heap.size W W'):NGI lo n w1 bx W' gb ob ub F1 F2:=by
 obtain⟨O1,O2,h1,h2,h3,h4,h5,h6,h7,h8,h9⟩:=h;exact⟨O1,O2,zaK h1 hb,zaK h2 hb,h3,h4,h5,h6,zep h7 hb,h8,h9.trans (zab hb (by have:=h9.size;omega))⟩
theorem zpM{F1':Nat->List Int}{O1':Nat->Prop}(h2:zbB O2 W ub n F2)(h3:∀ k,O1 k->¬ O2 k)(h4:∀ k,O1 k->lo<=k/\k≠gb)(h5:∀ k,O2 k->lo<=k/\k≠gb)(h6:lo<=gb)(h7:W.heap[gb]? = some (.cells bx 220))(h8:lo<=w1.heap.size)(h9:Below lo w1 W)
 (ht:zbB O1' W1 ob n F1') (hO:∀ k,O1' k->O1 k\/W.heap.size<=k) (hf:Fr O1 W W1):NGI lo n w1 bx W1 gb ob ub F1' F2:=by
 have hs:=h9.size;obtain⟨V2,hV2⟩:=h2;have hl2:=hV2.lt;have hgl:=(zsO.1 h7).1;refine⟨O1',O2,ht,zeE ⟨V2,hV2⟩ hf (λk hk hk1=>h3 k hk1 hk),λk hk hk2=>?_,λk hk=>?_,h5,h6,(hf.2.1 gb hgl (λhg=>(h4 gb hg).2 rfl)).trans h7,h8,h9.trans (zau hf (by omega) (λk hk=>(h4 k hk).1))⟩
 ·rcases hO k hk with h | h
  ·exact h3 k h hk2
  ·have:=hl2 k hk2;omega
 ·rcases hO k hk with h | h
  ·exact h4 k h
  ·exact⟨by omega,by omega⟩
theorem zpL{F2':Nat->List Int}{O2':Nat->Prop}(h1:zbB O1 W ob n F1)(h3:∀ k,O1 k->¬ O2 k)(h4:∀ k,O1 k->lo<=k/\k≠gb)(h5:∀ k,O2 k->lo<=k/\k≠gb)(h6:lo<=gb)(h7:W.heap[gb]? = some (.cells bx 220))(h8:lo<=w1.heap.size)(h9:Below lo w1 W)
 (ht:zbB O2' W1 ub n F2') (hO:∀ k,O2' k->O2 k\/W.heap.size<=k) (hf:Fr O2 W W1):NGI lo n w1 bx W1 gb ob ub F1 F2':=by
 have hs:=h9.size;obtain⟨V1,hV1⟩:=h1;have hl1:=hV1.lt;have hgl:=(zsO.1 h7).1;refine⟨O1,O2',zeE ⟨V1,hV1⟩ hf (λk hk hk1=>h3 k hk hk1),ht,λk hk hk2=>?_,h4,λk hk=>?_,h6,(hf.2.1 gb hgl (λhg=>(h5 gb hg).2 rfl)).trans h7,h8,h9.trans (zau hf (by omega) (λk hk=>(h5 k hk).1))⟩
 ·rcases hO k hk2 with h | h
  ·exact h3 k hk h
  ·have:=hl1 k hk;omega
 ·rcases hO k hk with h | h
  ·exact h5 k h
  ·exact⟨by omega,by omega⟩
theorem zvM(w1:World)(n:Nat)(bx:Array Value):NGI w1.heap.size n w1 bx (((w1.alloc (.cells (madeCells #[.slice none 0 0] n) 50)).alloc (.cells (madeCells #[.slice none 0 0] n) 50)).alloc (.cells bx 220)) (w1.heap.size+1+1) w1.heap.size (w1.heap.size+1) (λ_=>[]) (λ_=>[])/\NGI w1.heap.size n w1 bx (((w1.alloc (.cells (madeCells #[.slice none 0 0] n) 50)).alloc (.cells (madeCells #[.slice none 0 0] n) 50)).alloc (.cells bx 220)) (w1.heap.size+1+1) (w1.heap.size+1) w1.heap.size (λ_=>[]) (λ_=>[]):=by
 obtain⟨A,hA⟩:∃ A,A=w1.alloc (.cells (madeCells #[.slice none 0 0] n) 50):=⟨_,rfl⟩;have hsA:A.heap.size=w1.heap.size+1:=by rw[hA];simp
 have t1:=zeF w1 n;have t2:=zeF A n;rw[<- hA] at t1 ⊢;have hb1:Below w1.heap.size w1 A:=by rw[hA];exact(zsY _ _).alloc (zsG _) _
 have hb2:Below A.heap.size A (A.alloc (.cells (madeCells #[.slice none 0 0] n) 50)):=(zsY _ _).alloc (zsG _) _;have hsB:(A.alloc (.cells (madeCells #[.slice none 0 0] n) 50)).heap.size=w1.heap.size+1+1:=by rw[<- hsA];simp
 generalize A.alloc (.cells (madeCells #[.slice none 0 0] n) 50)=D at *;have hb3:Below D.heap.size D (D.alloc (.cells bx 220)):=(zsY _ _).alloc (zsG _) _;have hbx:(D.alloc (.cells bx 220)).heap[w1.heap.size+1+1]? = some (.cells bx 220):=by rw[<- hsB];exact zsH _ _
 have T1:=zaK (zaK t1 hb2) hb3;have T2:=zaK t2 hb3;rw[hsA] at T2;have hbw:=hb1.trans ((zab hb2 (by omega)).trans (zab hb3 (by omega)));refine⟨⟨_,_,T1,T2,?_,?_,?_,by omega,hbx,zsG _,hbw⟩,⟨_,_,T2,T1,?_,?_,?_,by omega,hbx,zsG _,hbw⟩⟩
 all_goals (intro k hk;have hk:k=_:=hk)
 ·intro h;have h:k=w1.heap.size+1:=h;omega
 ·omega
 ·omega
 ·intro h;have h:k=w1.heap.size:=h;omega
 ·omega
 ·omega
theorem zhB(G:Gm)(hG:GOk G)(ka pa ra qa:Option Addr)(kc pc rc qc:Nat)(w:World)(hin:GIn w.heap.size w G ka pa ra qa) :
 Calls Tryz.prog 106 #[gV G ka pa ra qa kc pc rc qc] w λe w'=>∃ gb ob ub,e=.returned (.pointer (some ⟨gb,0,none⟩))/\GrAt w'.heap.size w' G ka kc pa pc ra rc qa qc gb ob ub/\Below w.heap.size w w':=by
 have hst:=zeO (kc:=kc) (pc:=pc) (rc:=rc) (qc:=qc) (zsG _) hin 26;have hb1:Below w.heap.size w (w.alloc (.cells #[.slice ka G.kinds.length kc,.slice pa G.precs.length pc,.slice ra G.rules.length rc,.slice qa G.prods.length qc,.int .i64 G.start] 26)):=(zsY _ _).alloc (zsG _) _;have hw1:(w.alloc (.cells #[.slice ka G.kinds.length kc,.slice pa G.precs.length pc,.slice ra G.rules.length rc,.slice qa G.prods.length qc,.int .i64 G.start] 26)).heap.size=w.heap.size+1:=by simp
 have HN:=zaa (zvM (w.alloc (.cells #[.slice ka G.kinds.length kc,.slice pa G.precs.length pc,.slice ra G.rules.length rc,.slice qa G.prods.length qc,.int .i64 G.start] 26)) G.rules.length);rw[hw1] at HN;have g0:=hst.c0;have g1:=hst.c1;have g2:=hst.c2;have g3:=hst.c3;have g4:=hst.c4;have hr2:=hG.r2;have Hst:=zaa hst;have Hb1:=zaa hb1;clear hst hb1 hin;have hmk:=λw=>run_make_row' (P:=Tryz.prog) 43 50 (.slice none 0 0) 24 Tryz.underlying43 zf1 rfl .i64 .i64 G.rules.length (by unfold Gm.nr at hr2;omega) (by unfold Gm.nr at hr2;omega) w;go_enter Tryz.func106,Tryz.ntmps106;go_wp2
 go_cut [3] from 8 to 18 (λs W=>∃ gb ob ub,s=.pointer (some ⟨gb,0,none⟩)/\NGI (w.heap.size+1) G.rules.length (w.alloc (.cells #[.slice ka G.kinds.length kc,.slice pa G.precs.length pc,.slice ra G.rules.length rc,.slice qa G.prods.length qc,.int .i64 G.start] 26)) #[.slice ka G.kinds.length kc,.slice pa G.precs.length pc,.slice ra G.rules.length rc,.slice qa G.prods.length qc,.int .i64 G.start,.slice (some ⟨ob,0,none⟩) G.rules.length G.rules.length,.slice (some ⟨ub,0,none⟩) G.rules.length G.rules.length] W gb ob ub (λ_=>[]) (λ_=>[]))
 case first =>
  go_region
  all_goals
   go_wp2_with fail
   go_meet
   first
    | exact⟨w.heap.size+1+1+1,w.heap.size+1,w.heap.size+1+1,rfl,zj3 (uh HN _).1 ((zsY _ _).drew)⟩
    | exact⟨w.heap.size+1+1+1,w.heap.size+1+1,w.heap.size+1,rfl,zj3 (uh HN _).2 ((zsY _ _).drew)⟩
 case rest =>
  clear HN g0 g1 g2 g3 g4 hmk;obtain⟨gb,ob,ub,rfl,hN⟩:=hcut;generalize w.alloc (.cells #[.slice ka G.kinds.length kc,.slice pa G.precs.length pc,.slice ra G.rules.length rc,.slice qa G.prods.length qc,.int .i64 G.start] 26)=w1 at *;have hNb:=hN;obtain⟨-,-,-,-,-,-,-,-,-,-,hbW⟩:=hNb;have hst2:=zb6 hbW (zsG _) (uh Hst);have g0:=hst2.c0;have g1:=hst2.c1;have g2:=hst2.c2;have g3:=hst2.c3;have g4:=hst2.c4;have HN:=zaa hN;clear hst2 hbW hN;go_wp2
  go_loopw [22] (λx W=>∃ k:Nat,x=.int .i64 k/\k<=G.prods.length/\NGI (w.heap.size+1) G.rules.length w1 #[.slice ka G.kinds.length kc,.slice pa G.precs.length pc,.slice ra G.rules.length rc,.slice qa G.prods.length qc,.int .i64 G.start,.slice (some ⟨ob,0,none⟩) G.rules.length G.rules.length,.slice (some ⟨ub,0,none⟩) G.rules.length G.rules.length] W gb ob ub (zbF G k) (zeZ G k)) (λx _=>G.prods.length - (intOf x).toNat)
  case atStart=>exact⟨0,rfl,zsK _,uh HN⟩
  case round =>
   clear g0 g1 g2 g3 g4 HN;obtain⟨k,rfl,hk,hN⟩:=hrel;obtain⟨O1,O2,hT1,hT2,hO12,hO1,hO2,hgb,hbx,hlow,hbW⟩:=hN;have hst:=zb6 hbW (zsG _) (uh Hst);have Hg:=zaa hst.gin;have hszw:=hbW.size;by_cases hlt:k<G.prods.length
   ·have hlt':(k:Int)<G.prods.length:=by omega
    obtain⟨b,off,rfl,hbB,rr,rrc,x3,x4,x5,x6,n6,c6,hrr,hac,q0,q1,q2,q3,q4,q5,q6⟩:=zdm (uh Hg).prods hlt;have hpl:=hG.pl _ (zan hlt);have hpr:=hG.pr _ (zan hlt);have hpy:=hG.py _ (zan hlt);have Hos:=zaa (λr=>zfG G k r);have Hus:=zaa (λr=>zhI G k r);clear hac;generalize G.prods.getD k pd0=p at *;obtain⟨pl,prt,plv,pac⟩:=p;simp only at q0 q1 q2 hpl hpr hpy hrr;obtain⟨l,rfl⟩:∃ l:Nat,pl=(l:Int):=⟨pl.toNat,by omega⟩;have hl':l<G.rules.length:=by have:=hpl.2;unfold Gm.nr at this;omega
    obtain⟨W2,hW2⟩:∃ W2,W2=wr.alloc (.cells #[.int .i64 (l:Int),.slice rr prt.length rrc,.int .i64 plv,.int .i64 x3,.int .i64 x4,.string x5,.slice x6 n6 c6] 116):=⟨_,rfl⟩;have hb2:Below wr.heap.size wr W2:=by rw[hW2];exact(zsY _ _).alloc (zsG _) _
    have hpb:W2.heap[wr.heap.size]? = some (.cells #[.int .i64 (l:Int),.slice rr prt.length rrc,.int .i64 plv,.int .i64 x3,.int .i64 x4,.string x5,.slice x6 n6 c6] 116):=by rw[hW2];exact zsH _ _
    have hsz2:W2.heap.size=wr.heap.size+1:=by rw[hW2];simp
    obtain⟨i3,hi3,hz30,hz31,hz32⟩:=zah zdB;have hT1':=zaK hT1 hb2;have hT2':=zaK hT2 hb2;have hbx':=zep hbx hb2;obtain⟨V1,hV1⟩:=hT1';obtain⟨ta,tc,hVl,tcl,-,hnl⟩:=za6 hV1 hl';have hltO:∀ j,O1 j->j<wr.heap.size:=by obtain⟨V,hV⟩:=hT1;exact hV.lt
    have hgl:gb<wr.heap.size:=(zsO.1 hbx).1;have hlen:=zgQ G l k
    have HS:Hid (∀ W,Fr O1 W2 W->(λW:World=>W.cell? ⟨gb,5,none⟩=some (.slice (some ⟨ob,0,none⟩) G.rules.length G.rules.length)/\W.cell? ⟨wr.heap.size,0,none⟩=some (.int .i64 (l:Int))) W):=zaa (λW hf=>by
     have h1:=(hf.2.1 gb (by omega) (λh=>(hO1 gb h).2 rfl)).trans hbx';have h2:=(hf.2.1 wr.heap.size (by omega) (λh=>by have:=hltO _ h;omega)).trans hpb
     exact⟨by unfold World.cell?;rw[h1];rfl,by unfold World.cell?;rw[h2];rfl⟩)
    have HT:=zaa hV1;have HVl:=zaa hVl;have HRow:=zaa (show W2.ownsRow 0 3 1 (.slice ta (zbF G k l).length tc) (zbF G k l).length (zao (zbF G k l)) by rw[<- hVl];exact(hV1.rows l hl').1);have hps:=hG.ps;have Hown:=zaa (Hos);have HK:=zaa (And.intro hT2' (And.intro hbx' (And.intro hbW hbx)));have hlr:=hl';have hF0:Fr O1 W2 W2:=zax _ _;generalize hFl:zbF G k l=Fl at *;have HA:=zaa (And.intro hT2 (And.intro hbx (And.intro hbW hT1)));clear hT1 hT2 hbx hbx' hT2' hV1 hVl hst hnl;go_wp2;rw[<- hW2];clear hW2
    go_cut [] from 27 to 44 (λW=>∃ O1',zbB O1' W ob G.rules.length (zkO (zbF G k) l (Fl ++ [(k:Int)]))/\(∀ j,O1' j->O1 j\/W2.heap.size<=j)/\Fr O1 W2 W)
    case first =>
     refine wp_region_held_drew (S:=(λW:World=>W.cell? ⟨gb,5,none⟩=some (.slice (some ⟨ob,0,none⟩) G.rules.length G.rules.length)/\W.cell? ⟨wr.heap.size,0,none⟩=some (.int .i64 (l:Int)))) (by kernel_rfl) (uh HS _ hF0) (λhH=>?_);refine zad 0 27 rfl rfl hH (λw ⟨k0,k1⟩=>by go_simp;try rfl) ?_;simp only[Act.put,zsA,zsB,zsC];refine zad 1 28 rfl rfl hH (λw ⟨k0,k1⟩=>by go_simp;try rfl) ?_;simp only[Act.put,zsA,zsB,zsC];refine zad 2 29 rfl rfl hH (λw ⟨k0,k1⟩=>by go_simp;try rfl) ?_;simp only[Act.put,zsA,zsB,zsC];refine zad 3 30 rfl rfl hH (λw ⟨k0,k1⟩=>by go_simp;try rfl) ?_;simp only[Act.put,zsA,zsB,zsC];refine zad 4 31 rfl rfl hH (λw ⟨k0,k1⟩=>by go_simp;try rfl) ?_;simp only[Act.put,zsA,zsB,zsC];refine zad 5 32 rfl rfl hH (λw ⟨k0,k1⟩=>by go_simp;try rfl) ?_;simp only[Act.put,zsA,zsB,zsC];refine zad 6 33 rfl rfl hH (λw ⟨k0,k1⟩=>by go_simp;try rfl) ?_;simp only[Act.put,zsA,zsB,zsC];refine zad 7 34 rfl rfl hH (λw ⟨k0,k1⟩=>by go_simp;try rfl) ?_;simp only[Act.put,zsA,zsB,zsC];refine zad 8 35 rfl rfl hH (λw ⟨k0,k1⟩=>by go_simp;try rfl) ?_;simp only[Act.put,zsA,zsB,zsC];refine zad 9 36 rfl rfl hH (λw ⟨k0,k1⟩=>by go_simp;try rfl) ?_;simp only[Act.put,zsA,zsB,zsC];refine zad 10 37 rfl rfl hH (λw ⟨k0,k1⟩=>by go_simp;try rfl) ?_;simp only[Act.put,zsA,zsB,zsC];refine zad 11 38 rfl rfl hH (λw ⟨k0,k1⟩=>by go_simp;try rfl) ?_;simp only[Act.put,zsA,zsB,zsC];refine zad 12 39 rfl rfl hH (λw ⟨k0,k1⟩=>by go_simp;try rfl) ?_;simp only[Act.put,zsA,zsB,zsC];refine zad 14 41 rfl rfl hH (λw ⟨k0,k1⟩=>by go_simp;try rfl) ?_;simp only[Act.put,zsA,zsB,zsC];refine zcV 13 15 rfl rfl (λK hK=>?_) λK hK=>?_;go_simp;refine hK.out _ _ (uh HS _ hF0) (λhH=>?_);clear hK K;refine zai 15 rfl λK hK=>?_;go_simp;have hj9:(W2.alloc (.cells #[.int .i64 (k:Int)] 3)).heap[W2.heap.size]? = some (.cells #[.int .i64 (k:Int)] 3):=zsH _ _;have hbA:Below W2.heap.size W2 (W2.alloc (.cells #[.int .i64 (k:Int)] 3)):=(zsY _ _).alloc (zsG _) _;have hF:=zdc hF0 hbA;rotate_left;go_simp;have hj9:(W2.alloc (.cells #[.int .i64 (k:Int)] 3)).heap[W2.heap.size]? = some (.cells #[.int .i64 (k:Int)] 3):=zsH _ _;have hbA:Below W2.heap.size W2 (W2.alloc (.cells #[.int .i64 (k:Int)] 3)):=(zsY _ _).alloc (zsG _) _;have hF:=zdc hF0 hbA;refine hK.out _ _ (uh HS _ hF) (λhH=>?_);clear hK K;refine zai 13 rfl λK hK=>?_;have tcl2:(W2.alloc (.cells #[.int .i64 (k:Int)] 3)).cell? ⟨ob,l,none⟩=some (.slice ta Fl.length tc):=(hbA.cell (p:=⟨ob,l,none⟩) ((uh HT).lt _ (uh HT).own)).trans tcl;go_simp;rotate_left
     all_goals
      refine hK.out _ _ (uh HS _ hF) (λhH=>?_);clear hK K;refine zai 16 rfl λK hK=>?_;have ow:=zaR (zaW (uh HRow) hbA) (zsG _);refine step_append_lies _ rfl (.tmp 40) (.tmp 42) 50 rfl 0 3 i3 (.int .i64 0) 1 8 Tryz.underlying50 hi3 hz30 hz31 hz32 rfl (by decide) (.slice ta Fl.length tc) Fl.length (zao Fl) (by simp[Act.eval]) ow ⟨W2.heap.size,0,none⟩ 1 1 [.int .i64 (k:Int)] (by simp[Act.eval]) rfl (λj u hu=>zeM hj9 hu) (λu hu=>by simp at hu;subst hu;rfl) (by decide) (by unfold maxLen;omega) (by omega) (zsK _) _ rfl ?_;intro g cap W6 ho6 hg6 hw6 hlt6;have hg6:(W2.alloc (.cells #[.int .i64 (k:Int)] 3)).grownBy W6 (Value.ownBlock (.slice ta Fl.length tc)):=⟨hg6.os,hg6.tape,hg6.output,hg6.size,hg6.block⟩;rw[<- uh HVl] at hg6 hw6;have ho6:W6.ownsRow 0 3 1 (.slice (some ⟨g,0,none⟩) (Fl ++ [(k:Int)]).length cap) (Fl ++ [(k:Int)]).length (zao (Fl ++ [(k:Int)])):=by rw[<- zaY,zsI];exact ho6
      obtain⟨hT7,hF7⟩:=zd8 (uh HT) hlr hbA rfl ho6 hg6 hw6 hlt6;have hF6:Fr _ W2 W6:=⟨zsy hF.1 hg6.size,λj hj ho=>(hg6.block j (zsJ hj hF.1) (λe=>ho (((uh HT).rows _ hlr).2 j e.symm))).trans (hF.2.1 j hj ho),hg6.os.trans hF.2.2.1,hg6.tape.trans hF.2.2.2.1,hg6.output.trans hF.2.2.2.2⟩;go_simp;refine hK.out _ _ (uh HS _ hF6) (λhH=>?_);clear hK K;refine zad 17 44 rfl rfl hH (λw ⟨k0,k1⟩=>by go_simp;try rfl) ?_;simp only[Act.put,zsA,zsB,zsC];refine zai 18 rfl λK hK=>?_;have hfz:W6.frozen? ⟨ob,l,none⟩=false:=(zbI (uh HT) hlr hbA hg6);have hcz:=zcs (uh HT) hlr hbA hg6;rw[uh HVl] at hcz;go_simp;have hlen6:(Fl ++ [(k:Int)]).length=Fl.length+1:=by simp
      rw[hlen6] at hT7 hF7;refine hK.out _ _ (uh HS _ hF7) (λhH=>?_);clear hK K;refine wpAnyH_done (by kernel_rfl) ?_ _;have HT7:=zaa hT7;have HF7:=zaa hF7;have hs6:=hg6.size;clear ow hT7 hF7 hF6 ho6 hg6 hw6 hlt6 hfz hcz hF hj9 hlen6 hH;go_wp2_with fail
      go_meet
      exact⟨_,uh HT7,λj hj=>hj.imp id (λh=>h.1),uh HF7⟩
    case rest =>
     obtain⟨O1',hT7,hO7,hF7⟩:=hcut;have hT7':zbB O1' wc ob G.rules.length (zbF G (k+1)):=by
      obtain⟨V,hV⟩:=hT7;refine⟨V,hV.own,hV.lt,hV.row,λr hr=>?_,hV.apart⟩;have h1:=hV.rows r hr;have e:zbF G (k+1) r=zkO (zbF G k) l (Fl ++ [(k:Int)]) r:=by
       rw[uh Hos r,zsS];by_cases e:l=r
       ·subst e;rw[if_pos rfl,ze0,hFl]
       ·rw[if_neg e,zis (λh=>e h.symm)]
      rw[e];exact h1
     have hszc:=hF7.1;have hps:=hG.ps;obtain⟨hT2,hbx,hbW,-⟩:=uh HA;have hb2':Below (w.heap.size+1) wr W2:=zab hb2 (by omega);have hN4:NGI (w.heap.size+1) G.rules.length w1 #[.slice ka G.kinds.length kc,.slice pa G.precs.length pc,.slice ra G.rules.length rc,.slice (some ⟨b,off,none⟩) G.prods.length qc,.int .i64 G.start,.slice (some ⟨ob,0,none⟩) G.rules.length G.rules.length,.slice (some ⟨ub,0,none⟩) G.rules.length G.rules.length] wc gb ob ub (zbF G (k+1)) (zeZ G k):=zpM (W:=W2) (zaK hT2 hb2) hO12 hO1 hO2 hgb (zep hbx hb2) hlow (hbW.trans hb2') hT7' hO7 hF7;have hpc:wc.heap[wr.heap.size]? = some (.cells #[.int .i64 (l:Int),.slice rr prt.length rrc,.int .i64 plv,.int .i64 x3,.int .i64 x4,.string x5,.slice x6 n6 c6] 116):=(hF7.2.1 _ (by omega) (λh=>by have:=hltO _ h;omega)).trans hpb;have HN4:=zaa hN4;obtain⟨O1a,O2a,hTa1,hTa2,hOa,hOa1,hOa2,-,hbxa,-,hbWa⟩:=hN4;have Hga:=zaa (zb6 hbWa (zsG _) (uh Hst)).gin;have p1:wc.cell? ⟨wr.heap.size,1,none⟩=some (.slice rr prt.length rrc):=by unfold World.cell?;rw[hpc];rfl
     have c0a:wc.cell? ⟨gb,0,none⟩=some (.slice ka G.kinds.length kc):=by unfold World.cell?;rw[hbxa];rfl
     have hrra:NRow wc.heap.size wc rr prt:=by
      have h1:=zaS (B:=w.heap.size) (zab ((hb2'.trans (zau hF7 (by omega) (λj hj=>(hO1 j hj).1)))) (by omega)) hrr;exact zeg (by have:=hbWa.size;omega) h1
     have HR:=zaa (zdk gb G.kinds.length ka kc hG.k3 rr rrc prt (by omega) (λx hx=>by have:=hpy x hx;have:=hG.k3;have:=hG.r2;unfold Gm.nk Gm.nr at *;omega) wc c0a (zsO.1 hbxa).1 hrra);have Hbc:=zaa hbWa;clear hTa1 hTa2 hOa hOa1 hOa2 hbxa hbWa hT7 hT7' hO7 hF7 hrra c0a hpc HT HVl HRow HS HK HA hT2 hbx hbW hO12 hO1 hO2 hF0 tcl hFl hltO;go_wp2_with fail;refine(uh HR).mono ?_;rintro e w5 ⟨v5,rfl,how5,hb5⟩;obtain⟨va,vc,rfl⟩:=zaf how5;obtain⟨_,_,he5,hn5⟩:=zb4 how5
     cases he5
     obtain⟨O1b,O2b,hTc1,hTc2,hOb,hOb1,hOb2,hgbb,hbxc,hlowb,hbWc⟩:=uh HN4;have hltb:∀ j,O2b j->j<wc.heap.size:=by obtain⟨V,hV⟩:=hTc2;exact hV.lt
     have hTb1:=zaK hTc1 hb5;have hTb2:=zaK hTc2 hb5;have hbxb:=zep hbxc hb5;have hbWb:=hbWc.trans (zab hb5 (by have:=hbWc.size;omega));have hgl5:gb<w5.heap.size:=(zsO.1 hbxb).1;have hsz5:=hb5.size;have hsW:=hbWc.size;have hn5':∀ W,Fr O2b w5 W->NRow W.heap.size W (va) (zaA G.kinds.length prt):=λW hf=>by
      rcases hn5 with h | ⟨b5,o5,h1,h2,h3⟩
      ·exact .inl h
      ·refine .inr ⟨b5,o5,h1,by have:=hf.1;omega,λj hj=>?_⟩;have hbb:=how5.lt b5 (by rw[h1];rfl);exact(zsL (hf.2.1 b5 h2 (λh=>by have:=hltb _ h;omega))).trans (h3 j hj)
     have hbx6:∀ W,Fr O2b w5 W->W.cell? ⟨gb,6,none⟩=some (.slice (some ⟨ub,0,none⟩) G.rules.length G.rules.length):=λW hf=>by
      have h1:=(hf.2.1 gb hgl5 (λh=>(hOb2 gb h).2 rfl)).trans hbxb;unfold World.cell?;rw[h1];rfl
     have Hn5:=zaa hn5';have Hbx6:=zaa hbx6;have hlen5:=za2 (nk:=G.kinds.length) prt;have HT2:=zaa hTb2;have HgO2:=zaa (λi (h:O2b i)=>(hOb2 i h).2);have HB:=zaa (λ(W:World) (O2':Nat->Prop) (ht:zbB O2' W ub G.rules.length (zeZ G (k+1))) (hO:∀ j,O2' j->O2b j\/w5.heap.size<=j) (hf:Fr O2b w5 W)=>zpL (W:=w5) hTb1 hOb hOb1 hOb2 hgbb hbxb hlowb hbWb ht hO hf);have hrv:∀ j,j<(zaA G.kinds.length prt).length->0<=(zaA G.kinds.length prt).getD j 0/\(zaA G.kinds.length prt).getD j 0<G.rules.length:=λj hj=>by
      have hm:=zbg hj;generalize (zaA G.kinds.length prt).getD j 0=y at *;obtain⟨x,hx,hx2⟩:=List.mem_flatMap.1 hm;have:=hpy x hx;unfold Gm.nk Gm.nr at this
      split at hx2
      ·simp at hx2;omega
      ·simp at hx2
     have Hrv:=zaa hrv;clear hTb1 hTb2 hTc1 hTc2 hOb hOb1 hOb2 hbxb hbxc hlowb hbWb hbWc hn5 hn5' hbx6 how5 hb5 HR hrv HN4 Hbc Hga p1;have hul:∀ r,(zeZ G k r).length<=k * 64:=λr=>zgB hG r k (by omega);have Hul:=zaa hul;have hps:=hG.ps;obtain⟨U,hU⟩:∃ U,U=zeZ G k:=⟨_,rfl⟩
     have HU1:Hid (zeZ G (k+1)=zeC U (zaA G.kinds.length prt) k (zaA G.kinds.length prt).length):=zaa (by
      funext r;rw[uh Hus r,hU];unfold zeC
      rw[zsN])
     rw[<- hU] at HT2 Hul hul;generalize zaA G.kinds.length prt=RL at *;clear hul;go_wp2
     go_loopw [50] (λx W=>∃ (j:Nat) (O2':Nat->Prop),x=.int .i64 j/\j<=RL.length/\zbB O2' W ub G.rules.length (zeC U RL k j)/\(∀ i,O2' i->O2b i\/w5.heap.size<=i)/\Fr O2b w5 W) (λx _=>RL.length - (intOf x).toNat)
     case atStart =>
      refine⟨0,O2b,rfl,zsK _,?_,λi hi=>.inl hi,zax _ _⟩;have e:zeC U RL k 0=U:=by funext r;unfold zeC;simp
      rw[e];exact uh HT2
     case round =>
      obtain⟨j,O2',rfl,hj,hT,hO,hfr⟩:=hrel;have hc6:=uh Hbx6 wr hfr;have hnr:=uh Hn5 wr hfr;have hsz6:=hfr.1;by_cases hjl:j<RL.length
      ·have hjl':(j:Int)<RL.length:=by omega
       obtain⟨b5,o5,rfl,hb5l,hcj⟩:=zbf hnr hjl;have hqv:=uh Hrv j hjl;obtain⟨q,hq⟩:∃ q:Nat,RL.getD j 0=(q:Int):=⟨(RL.getD j 0).toNat,by omega⟩;rw[hq] at hcj hqv;have hlr:q<G.rules.length:=by omega
       have HUs:=zaa (znk (U:=U) (k:=k) hjl hq);have hul:=uh Hul q;have hal:=zoD (U:=U) (L:=RL) (k:=k) (j:=j) (r:=q);obtain⟨V2,hV2⟩:=hT;obtain⟨ta,tc,hVl,tcl,-,-⟩:=za6 hV2 hlr;have hgnl:∀ i,O2' i->i≠gb:=λi hi=>by
        rcases hO i hi with h | h
        ·exact(uh HgO2 i h)
        ·omega
       have hglw:gb<wr.heap.size:=by omega
       have HS:Hid (∀ W,Fr O2' wr W->(λW:World=>W.cell? ⟨gb,6,none⟩=some (.slice (some ⟨ub,0,none⟩) G.rules.length G.rules.length)/\True) W):=zaa (λW hf=>⟨(zsL (hf.2.1 gb hglw (λh=>hgnl gb h rfl))).trans hc6,trivial⟩);have HT:=zaa hV2;have HVl:=zaa hVl;have HRow:=zaa (show wr.ownsRow 0 3 1 (.slice ta (zeC U RL k j q).length tc) (zeC U RL k j q).length (zao (zeC U RL k j q)) by rw[<- hVl];exact(hV2.rows q hlr).1);have hF0:Fr O2' wr wr:=zax _ _;have HO:=zaa hO;have Hfr:=zaa hfr;generalize hFl:zeC U RL k j q=Fl at *;clear hV2 hVl hO hfr hnr hgnl;go_wp2;refine wp_region_held_drew (S:=(λW:World=>W.cell? ⟨gb,6,none⟩=some (.slice (some ⟨ub,0,none⟩) G.rules.length G.rules.length)/\True)) (by kernel_rfl) (uh HS _ hF0) (λhH=>?_);refine zad 0 54 rfl rfl hH (λw ⟨k0,k1⟩=>by go_simp;try rfl) ?_;simp only[Act.put,zsA,zsB,zsC];refine zad 1 55 rfl rfl hH (λw ⟨k0,k1⟩=>by go_simp;try rfl) ?_;simp only[Act.put,zsA,zsB,zsC];refine zad 2 56 rfl rfl hH (λw ⟨k0,k1⟩=>by go_simp;try rfl) ?_;simp only[Act.put,zsA,zsB,zsC];refine zad 3 57 rfl rfl hH (λw ⟨k0,k1⟩=>by go_simp;try rfl) ?_;simp only[Act.put,zsA,zsB,zsC];refine zad 4 58 rfl rfl hH (λw ⟨k0,k1⟩=>by go_simp;try rfl) ?_;simp only[Act.put,zsA,zsB,zsC];refine zad 5 59 rfl rfl hH (λw ⟨k0,k1⟩=>by go_simp;try rfl) ?_;simp only[Act.put,zsA,zsB,zsC];refine zad 6 60 rfl rfl hH (λw ⟨k0,k1⟩=>by go_simp;try rfl) ?_;simp only[Act.put,zsA,zsB,zsC];refine zad 7 61 rfl rfl hH (λw ⟨k0,k1⟩=>by go_simp;try rfl) ?_;simp only[Act.put,zsA,zsB,zsC];refine zad 8 62 rfl rfl hH (λw ⟨k0,k1⟩=>by go_simp;try rfl) ?_;simp only[Act.put,zsA,zsB,zsC];refine zad 9 63 rfl rfl hH (λw ⟨k0,k1⟩=>by go_simp;try rfl) ?_;simp only[Act.put,zsA,zsB,zsC];refine zad 10 64 rfl rfl hH (λw ⟨k0,k1⟩=>by go_simp;try rfl) ?_;simp only[Act.put,zsA,zsB,zsC];refine zad 12 66 rfl rfl hH (λw ⟨k0,k1⟩=>by go_simp;try rfl) ?_;simp only[Act.put,zsA,zsB,zsC];refine zcV 11 13 rfl rfl (λK hK=>?_) λK hK=>?_;go_simp;refine hK.out _ _ (uh HS _ hF0) (λhH=>?_);clear hK K;refine zai 13 rfl λK hK=>?_;go_simp;have hj9:(wr.alloc (.cells #[.int .i64 (k:Int)] 3)).heap[wr.heap.size]? = some (.cells #[.int .i64 (k:Int)] 3):=zsH _ _;have hbA:Below wr.heap.size wr (wr.alloc (.cells #[.int .i64 (k:Int)] 3)):=(zsY _ _).alloc (zsG _) _;have hF:=zdc hF0 hbA;rotate_left;go_simp;have hj9:(wr.alloc (.cells #[.int .i64 (k:Int)] 3)).heap[wr.heap.size]? = some (.cells #[.int .i64 (k:Int)] 3):=zsH _ _;have hbA:Below wr.heap.size wr (wr.alloc (.cells #[.int .i64 (k:Int)] 3)):=(zsY _ _).alloc (zsG _) _;have hF:=zdc hF0 hbA;refine hK.out _ _ (uh HS _ hF) (λhH=>?_);clear hK K;refine zai 11 rfl λK hK=>?_;have tcl2:(wr.alloc (.cells #[.int .i64 (k:Int)] 3)).cell? ⟨ub,q,none⟩=some (.slice ta Fl.length tc):=(hbA.cell (p:=⟨ub,q,none⟩) ((uh HT).lt _ (uh HT).own)).trans tcl;go_simp;rotate_left
       all_goals
        refine hK.out _ _ (uh HS _ hF) (λhH=>?_);clear hK K;refine zai 14 rfl λK hK=>?_;have ow:=zaR (zaW (uh HRow) hbA) (zsG _);refine step_append_lies _ rfl (.tmp 65) (.tmp 67) 50 rfl 0 3 i3 (.int .i64 0) 1 8 Tryz.underlying50 hi3 hz30 hz31 hz32 rfl (by decide) (.slice ta Fl.length tc) Fl.length (zao Fl) (by simp[Act.eval]) ow ⟨wr.heap.size,0,none⟩ 1 1 [.int .i64 (k:Int)] (by simp[Act.eval]) rfl (λj u hu=>zeM hj9 hu) (λu hu=>by simp at hu;subst hu;rfl) (by decide) (by unfold maxLen;omega) (by omega) (zsK _) _ rfl ?_;intro g cap W6 ho6 hg6 hw6 hlt6;have hg6:(wr.alloc (.cells #[.int .i64 (k:Int)] 3)).grownBy W6 (Value.ownBlock (.slice ta Fl.length tc)):=⟨hg6.os,hg6.tape,hg6.output,hg6.size,hg6.block⟩;rw[<- uh HVl] at hg6 hw6;have ho6:W6.ownsRow 0 3 1 (.slice (some ⟨g,0,none⟩) (Fl ++ [(k:Int)]).length cap) (Fl ++ [(k:Int)]).length (zao (Fl ++ [(k:Int)])):=by rw[<- zaY,zsI];exact ho6
        obtain⟨hT7,hF7⟩:=zd8 (uh HT) hlr hbA rfl ho6 hg6 hw6 hlt6;have hF6:Fr _ wr W6:=⟨zsy hF.1 hg6.size,λj hj ho=>(hg6.block j (zsJ hj hF.1) (λe=>ho (((uh HT).rows _ hlr).2 j e.symm))).trans (hF.2.1 j hj ho),hg6.os.trans hF.2.2.1,hg6.tape.trans hF.2.2.2.1,hg6.output.trans hF.2.2.2.2⟩;go_simp;refine hK.out _ _ (uh HS _ hF6) (λhH=>?_);clear hK K;refine zad 15 69 rfl rfl hH (λw ⟨k0,k1⟩=>by go_simp;try rfl) ?_;simp only[Act.put,zsA,zsB,zsC];refine zai 16 rfl λK hK=>?_;have hfz:W6.frozen? ⟨ub,q,none⟩=false:=(zbI (uh HT) hlr hbA hg6);have hcz:=zcs (uh HT) hlr hbA hg6;rw[uh HVl] at hcz;go_simp;have hlen6:(Fl ++ [(k:Int)]).length=Fl.length+1:=by simp
        rw[hlen6] at hT7 hF7;refine hK.out _ _ (uh HS _ hF7) (λhH=>?_);clear hK K;refine wpAnyH_done (by kernel_rfl) ?_ _;have HT7:=zaa hT7;have HF7:=zaa hF7;have hs6:=hg6.size;clear ow hT7 hF7 hF6 ho6 hg6 hw6 hlt6 hfz hcz hF hj9 hlen6 hH;have hT8:=uh HT7;rw[<- uh HUs] at hT8;have HT8:=zaa hT8;clear hT8;have HF8:=zaa (zwt (uh Hfr) (uh HF7) (uh HO));have HO8:=zaa (λ(i:Nat) (hi:O2' i\/wr.heap.size<=i/\i<W6.heap.size)=>show O2b i\/w5.heap.size<=i from hi.elim (uh HO i) (λh=>.inr (by omega)));clear HT7 HF7 HT HVl HRow HS tcl hc6 hcj hF0 hbA;go_wp2;go_roundw
        case rel=>exact⟨j+1,_,by go_num,by omega,uh HT8,uh HO8,uh HF8⟩
        case measure=>simp[intOf];omega
      ·obtain rfl:j=RL.length:=by omega
       rw[<- uh HU1] at hT;have HNx:=zaa (uh HB wr O2' hT hO hfr);clear hT hO hfr hc6 hnr;go_wp2;go_roundw
       case rel=>exact⟨k+1,by go_num,by omega,uh HNx⟩
       case measure=>simp[intOf];omega
   ·obtain rfl:k=G.prods.length:=by omega
    have hszk:wr.heap.size<=wr.heap.size:=zsG _;have hgin:GIn wr.heap.size wr G ka pa ra qa:=zlE (uh Hg) (by omega);have hgl:gb<wr.heap.size:=(zsO.1 hbx).1;have Hfin:Hid (∃ ob ub,GrAt wr.heap.size wr G ka kc pa pc ra rc qa qc gb ob ub):=zaa ⟨ob,ub,hgin,hgl,hbx,⟨O1,hT1,by obtain⟨V,hV⟩:=hT1;exact hV.lt⟩,⟨O2,hT2,by obtain⟨V,hV⟩:=hT2;exact hV.lt⟩⟩;have Hbf:=zaa ((uh Hb1).trans (zab hbW (by omega)));clear hT1 hT2 hbx hbW hst hO12 hO1 hO2;go_wp2;go_ret;obtain⟨ob,ub,h⟩:=uh Hfin;exact⟨gb,ob,ub,rfl,h,uh Hbf⟩
end Go.Proofs.YtieciibnajeibaaGreatDoor

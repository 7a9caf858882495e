import Derived.Test.YtieciibnajeibaaGreatDoorGD
import Derived.Test.YtieciibnajeibaaGreatDoorTJ
import Derived.Test.YtieciibnajeibaaGreatDoorH2
set_option maxHeartbeats 8000000
set_option maxRecDepth 100000
namespace Go.Proofs.YtieciibnajeibaaGreatDoor
open Go.RowKit
def zbE(G:Gm)(k:Nat)(r:Nat):List Int:=((List.range k).filter λi=>decide ((G.prods.getD i pd0).left.toNat=r)).map λ(i:Nat)=>(i:Int)
def ze5(G:Gm)(k:Nat)(r:Nat):List Int:=(List.range k).flatMap λi=>List.replicate ((zaA G.nk (G.prods.getD i pd0).right).count (r:Int)) (i:Int)
theorem zfM(G:Gm)(k r:Nat):zbE G (k+1) r=if (G.prods.getD k pd0).left.toNat=r then zbE G k r ++ [(k:Int)] else zbE G k r:=by
 unfold zbE;rw[List.range_succ,List.filter_append,List.map_append];by_cases h:(G.prods.getD k pd0).left.toNat=r
 ·rw[if_pos h,List.filter_cons_of_pos (by simpa using h)];rfl
 ·rw[if_neg h,List.filter_cons_of_neg (by simpa using h)];simp
theorem zhS(G:Gm)(k r:Nat):ze5 G (k+1) r=ze5 G k r ++ List.replicate ((zaA G.nk (G.prods.getD k pd0).right).count (r:Int)) (k:Int):=by
 unfold ze5;rw[List.range_succ,List.flatMap_append];simp
def zeG(U:Nat->List Int)(L:List Int)(k j r:Nat):List Int:=U r ++ List.replicate ((L.take j).count (r:Int)) (k:Int)
theorem zns{U:Nat->List Int}{L:List Int}{k j q:Nat}(hj:j<L.length)(hq:L.getD j 0=(q:Int)):zeG U L k (j+1)=zkX (zeG U L k j) q (zeG U L k j q ++ [(k:Int)]):=by
 funext r;unfold zeG;rw[zcH L j 0 hj,hq,List.count_append];by_cases e:r=q
 ·subst e;rw[ze6];simp[List.replicate_succ']
 ·rw[ziE e];have:List.count (r:Int) [(q:Int)]=0:=by rw[List.count_eq_zero];simp;omega
  rw[this,Nat.add_zero]
theorem zoH{U:Nat->List Int}{L:List Int}{k j r:Nat}:(zeG U L k j r).length<=(U r).length+L.length:=by
 unfold zeG;rw[zsI,List.length_replicate];have h1:(L.take j).count (r:Int)<=(L.take j).length:=List.count_le_length;rw[zsV] at h1;omega
theorem zgJ{G:Gm}(hG:GOk G)(r:Nat):∀ k,k<=G.prods.length->(ze5 G k r).length<=k * 64
 | 0,_=>by simp[ze5]
 | k+1,hk=>by
   rw[zhS,zsI,List.length_replicate];have h1:=zgJ hG r k (by omega);have h2:(zaA G.nk (G.prods.getD k pd0).right).count (r:Int)<=(zaA G.nk (G.prods.getD k pd0).right).length:=List.count_le_length;have h3:=za2 (nk:=G.nk) (G.prods.getD k pd0).right;have h4:=hG.pr _ (zan (show k<G.prods.length by omega));omega
theorem zgZ(G:Gm)(r:Nat):∀ k,(zbE G k r).length<=k
 | 0=>by simp[zbE]
 | k+1=>by rw[zfM];have:=zgZ G r k;split <;> simp <;> omega
structure GrAt (M:Nat) (w:World) (G:Gm) (ka:Option Addr) (kc:Nat) (pa:Option Addr) (pc:Nat) (ra:Option Addr) (rc:Nat) (qa:Option Addr) (qc gb ob ub:Nat):Prop where
 gin:GIn M w G ka pa ra qa
 lt:gb<M
 box:w.heap[gb]? = some (.cells #[.slice ka G.kinds.length kc,.slice pa G.precs.length pc,.slice ra G.rules.length rc,.slice qa G.prods.length qc,.int .i64 G.start,.slice (some ⟨ob,0,none⟩) G.rules.length G.rules.length,.slice (some ⟨ub,0,none⟩) G.rules.length G.rules.length] 220)
 own:∃ O,zbB O w ob G.rules.length (zbE G G.prods.length)/\∀ k,O k->k<M
 uses:∃ O,zbB O w ub G.rules.length (ze5 G G.prods.length)/\∀ k,O k->k<M
theorem za0{M:Nat}{w w':World}{G:Gm}{ka pa ra qa:Option Addr}{kc pc rc qc gb ob ub:Nat}(h:GrAt M w G ka kc pa pc ra rc qa qc gb ob ub)(hb:Below M w w'):GrAt M w' G ka kc pa pc ra rc qa qc gb ob ub:=by
 have hf:Fr (λk=>M<=k) w w':=⟨hb.size,λk _ hk=>hb.block k (by omega),hb.os,hb.tape,hb.output⟩;refine⟨zes hb h.gin,h.lt,(hb.block _ h.lt).trans h.box,?_,?_⟩
 ·obtain⟨O,h1,h2⟩:=h.own;exact⟨O,zeH h1 hf (λk hk hm=>by have:=h2 k hk;omega),h2⟩
 ·obtain⟨O,h1,h2⟩:=h.uses;exact⟨O,zeH h1 hf (λk hk hm=>by have:=h2 k hk;omega),h2⟩
theorem zjP{O:Nat->Prop}{w w1 w2:World}{tb n:Nat}{V:Nat->Value}{F:Nat->List Int}(h:TabV O w tb n V F){r:Nat}(hr:r<n)(hb:Below w.heap.size w w1)(hg:w1.grownBy w2 (V r).ownBlock):w2.rowIs tb 50 n V:=by
 have htb:some tb≠(V r).ownBlock:=λe=>by
  have h1:=(h.rows r hr).1;rcases h1.2 with ⟨hv,_⟩ | ⟨g',cap',cur,hv,_,hh,_⟩
  ·rw[hv] at e;simp[Value.ownBlock] at e
  ·rw[hv] at e;simp[Value.ownBlock] at e;subst e;obtain⟨cs,h2,-⟩:=h.row;rw[h2] at hh;cases hh
 have hs1:=hb.size;exact(h.row.of_block (hb.block _ (h.lt _ h.own))).of_block (hg.block _ (by have:=h.lt _ h.own;omega) htb)
theorem zbI{O:Nat->Prop}{w w1 w2:World}{tb n:Nat}{V:Nat->Value}{F:Nat->List Int}(h:TabV O w tb n V F){r:Nat}(hr:r<n)(hb:Below w.heap.size w w1)(hg:w1.grownBy w2 (V r).ownBlock):w2.frozen? ⟨tb,r,none⟩=false:=(zjP h hr hb hg).frozen r
theorem zcx{O:Nat->Prop}{w w1 w2:World}{tb n:Nat}{V:Nat->Value}{F:Nat->List Int}(h:TabV O w tb n V F){r:Nat}(hr:r<n)(hb:Below w.heap.size w w1)(hg:w1.grownBy w2 (V r).ownBlock):w2.cell? ⟨tb,r,none⟩=some (V r):=(zjP h hr hb hg).cell hr
theorem zwu{O O':Nat->Prop}{a b c:World}(h:Fr O a b)(k:Fr O' b c)(hO:∀ j,O' j->O j\/a.heap.size<=j):Fr O a c :=
 ⟨zsy h.1 k.1,λj hj ho=>(k.2.1 j (zsJ hj h.1) (λh'=>(hO j h').elim ho (λh2=>by omega))).trans (h.2.1 j hj ho),k.2.2.1.trans h.2.2.1,k.2.2.2.1.trans h.2.2.2.1,k.2.2.2.2.trans h.2.2.2.2⟩
theorem zlL{B:Nat}{w:World}{G:Gm}{ka pa ra qa:Option Addr}(h:GIn B w G ka pa ra qa)(hB:B<=w.heap.size):GIn w.heap.size w G ka pa ra qa:=by
 have ht:=zcX h.tab hB (zsY _ _);obtain⟨h1,h2,h3,h4,-⟩:=h;refine⟨?_,?_,?_,?_,ht⟩
 ·rcases h1 with h | ⟨b,o,a1,a2,a3⟩
  ·exact .inl h
  ·exact .inr ⟨b,o,a1,by omega,a3⟩
 ·rcases h2 with h | ⟨b,o,a1,a2,a3⟩
  ·exact .inl h
  ·exact .inr ⟨b,o,a1,by omega,a3⟩
 ·rcases h3 with h | ⟨b,o,a1,a2,a3⟩
  ·exact .inl h
  ·exact .inr ⟨b,o,a1,by omega,a3⟩
 ·rcases h4 with h | ⟨b,o,a1,a2,a3⟩
  ·exact .inl h
  ·refine .inr ⟨b,o,a1,by omega,λj hj=>?_⟩;obtain⟨v0,v1,v2,v3,v4,v5,v6,⟨p0,⟨a,c,p1,p2,p3⟩,p4,p5⟩,hc⟩:=a3 j hj;exact⟨v0,v1,v2,v3,v4,v5,v6,⟨p0,⟨a,c,p1,zel hB p2,p3⟩,p4,zjC hB _ _ _ _ _ p5⟩,hc⟩
def NGI(lo n:Nat)(w1:World)(bx:Array Value)(W:World)(gb ob ub:Nat)(F1 F2:Nat->List Int):Prop :=
 ∃ O1 O2,zbB O1 W ob n F1/\zbB O2 W ub n F2/\(∀ k,O1 k->¬ O2 k)/\(∀ k,O1 k->lo<=k/\k≠gb)/\(∀ k,O2 k->lo<=k/\k≠gb)/\lo<=gb/\W.heap[gb]? = some (.cells bx 220)/\lo<=w1.heap.size/\Below lo w1 W
theorem zkd{lo n:Nat}{w1:World}{bx:Array Value}{W W':World}{gb ob ub:Nat}{F1 F2:Nat->List Int}(h:NGI lo n w1 bx W gb ob ub F1 F2)(hb:Below W.heap.size W W'):NGI lo n w1 bx W' gb ob ub F1 F2:=by
 obtain⟨O1,O2,h1,h2,h3,h4,h5,h6,h7,h8,h9⟩:=h;exact⟨O1,O2,zaK h1 hb,zaK h2 hb,h3,h4,h5,h6,zev h7 hb,h8,h9.trans (zab hb (by have:=h9.size;omega))⟩
theorem zpQ{lo n:Nat}{w1:World}{bx:Array Value}{W W1:World}{gb ob ub:Nat}{F2 F1':Nat->List Int}{O1 O2 O1':Nat->Prop}(h2:zbB O2 W ub n F2)(h3:∀ k,O1 k->¬ O2 k)(h4:∀ k,O1 k->lo<=k/\k≠gb)(h5:∀ k,O2 k->lo<=k/\k≠gb)(h6:lo<=gb)(h7:W.heap[gb]? = some (.cells bx 220))(h8:lo<=w1.heap.size)(h9:Below lo w1 W)
 (ht:zbB O1' W1 ob n F1') (hO:∀ k,O1' k->O1 k\/W.heap.size<=k) (hf:Fr O1 W W1):NGI lo n w1 bx W1 gb ob ub F1' F2:=by
 have hs:=h9.size;obtain⟨V2,hV2⟩:=h2;have hl2:=hV2.lt;have hgl:=(zsO.1 h7).1;refine⟨O1',O2,ht,zeH ⟨V2,hV2⟩ hf (λk hk hk1=>h3 k hk1 hk),λk hk hk2=>?_,λk hk=>?_,h5,h6,(hf.2.1 gb hgl (λhg=>(h4 gb hg).2 rfl)).trans h7,h8,h9.trans (zau hf (by omega) (λk hk=>(h4 k hk).1))⟩
 ·rcases hO k hk with h | h
  ·exact h3 k h hk2
  ·have:=hl2 k hk2;omega
 ·rcases hO k hk with h | h
  ·exact h4 k h
  ·exact⟨by omega,by omega⟩
theorem zpP{lo n:Nat}{w1:World}{bx:Array Value}{W W1:World}{gb ob ub:Nat}{F1 F2':Nat->List Int}{O1 O2 O2':Nat->Prop}(h1:zbB O1 W ob n F1)(h3:∀ k,O1 k->¬ O2 k)(h4:∀ k,O1 k->lo<=k/\k≠gb)(h5:∀ k,O2 k->lo<=k/\k≠gb)(h6:lo<=gb)(h7:W.heap[gb]? = some (.cells bx 220))(h8:lo<=w1.heap.size)(h9:Below lo w1 W)
 (ht:zbB O2' W1 ub n F2') (hO:∀ k,O2' k->O2 k\/W.heap.size<=k) (hf:Fr O2 W W1):NGI lo n w1 bx W1 gb ob ub F1 F2':=by
 have hs:=h9.size;obtain⟨V1,hV1⟩:=h1;have hl1:=hV1.lt;have hgl:=(zsO.1 h7).1;refine⟨O1,O2',zeH ⟨V1,hV1⟩ hf (λk hk hk1=>h3 k hk hk1),ht,λk hk hk2=>?_,h4,λk hk=>?_,h6,(hf.2.1 gb hgl (λhg=>(h5 gb hg).2 rfl)).trans h7,h8,h9.trans (zau hf (by omega) (λk hk=>(h5 k hk).1))⟩
 ·rcases hO k hk2 with h | h
  ·exact h3 k hk h
  ·have:=hl1 k hk;omega
 ·rcases hO k hk with h | h
  ·exact h5 k h
  ·exact⟨by omega,by omega⟩
theorem zvN(w1:World)(n:Nat)(bx:Array Value):NGI w1.heap.size n w1 bx (((w1.alloc (.cells (madeCells #[.slice none 0 0] n) 50)).alloc (.cells (madeCells #[.slice none 0 0] n) 50)).alloc (.cells bx 220)) (w1.heap.size+1+1) w1.heap.size (w1.heap.size+1) (λ_=>[]) (λ_=>[])/\NGI w1.heap.size n w1 bx (((w1.alloc (.cells (madeCells #[.slice none 0 0] n) 50)).alloc (.cells (madeCells #[.slice none 0 0] n) 50)).alloc (.cells bx 220)) (w1.heap.size+1+1) (w1.heap.size+1) w1.heap.size (λ_=>[]) (λ_=>[]):=by
 obtain⟨A,hA⟩:∃ A,A=w1.alloc (.cells (madeCells #[.slice none 0 0] n) 50):=⟨_,rfl⟩;have hsA:A.heap.size=w1.heap.size+1:=by rw[hA];simp
 have t1:=zeI w1 n;have t2:=zeI A n;rw[<- hA] at t1 ⊢;have hb1:Below w1.heap.size w1 A:=by rw[hA];exact(zsY _ _).alloc (zsG _) _
 have hb2:Below A.heap.size A (A.alloc (.cells (madeCells #[.slice none 0 0] n) 50)):=(zsY _ _).alloc (zsG _) _;have hsB:(A.alloc (.cells (madeCells #[.slice none 0 0] n) 50)).heap.size=w1.heap.size+1+1:=by rw[<- hsA];simp
 generalize A.alloc (.cells (madeCells #[.slice none 0 0] n) 50)=D at *;have hb3:Below D.heap.size D (D.alloc (.cells bx 220)):=(zsY _ _).alloc (zsG _) _;have hbx:(D.alloc (.cells bx 220)).heap[w1.heap.size+1+1]? = some (.cells bx 220):=by rw[<- hsB];exact zsH _ _
 have T1:=zaK (zaK t1 hb2) hb3;have T2:=zaK t2 hb3;rw[hsA] at T2;have hbw:=hb1.trans ((zab hb2 (by omega)).trans (zab hb3 (by omega)));refine⟨⟨_,_,T1,T2,?_,?_,?_,by omega,hbx,zsG _,hbw⟩,⟨_,_,T2,T1,?_,?_,?_,by omega,hbx,zsG _,hbw⟩⟩
 all_goals (intro k hk;have hk:k=_:=hk)
 ·intro h;have h:k=w1.heap.size+1:=h;omega
 ·omega
 ·omega
 ·intro h;have h:k=w1.heap.size:=h;omega
 ·omega
 ·omega
theorem zhK(G:Gm)(hG:GOk G)(ka pa ra qa:Option Addr)(kc pc rc qc:Nat)(w:World)(hin:GIn w.heap.size w G ka pa ra qa) :
 Calls Tryz.prog 106 #[gV G ka pa ra qa kc pc rc qc] w λe w'=>∃ gb ob ub,e=.returned (.pointer (some ⟨gb,0,none⟩))/\GrAt w'.heap.size w' G ka kc pa pc ra rc qa qc gb ob ub/\Below w.heap.size w w':=by
 have hst:=zeT (kc:=kc) (pc:=pc) (rc:=rc) (qc:=qc) (zsG _) hin 26;have hb1:Below w.heap.size w (w.alloc (.cells #[.slice ka G.kinds.length kc,.slice pa G.precs.length pc,.slice ra G.rules.length rc,.slice qa G.prods.length qc,.int .i64 G.start] 26)):=(zsY _ _).alloc (zsG _) _;have hw1:(w.alloc (.cells #[.slice ka G.kinds.length kc,.slice pa G.precs.length pc,.slice ra G.rules.length rc,.slice qa G.prods.length qc,.int .i64 G.start] 26)).heap.size=w.heap.size+1:=by simp
 have HN:=zaa (zvN (w.alloc (.cells #[.slice ka G.kinds.length kc,.slice pa G.precs.length pc,.slice ra G.rules.length rc,.slice qa G.prods.length qc,.int .i64 G.start] 26)) G.rules.length);rw[hw1] at HN;have g0:=hst.c0;have g1:=hst.c1;have g2:=hst.c2;have g3:=hst.c3;have g4:=hst.c4;have hr2:=hG.r2;have Hst:=zaa hst;have Hb1:=zaa hb1;clear hst hb1 hin;have hmk:=λw=>run_make_row' (P:=Tryz.prog) 43 50 (.slice none 0 0) 24 Tryz.underlying43 zf5 rfl .i64 .i64 G.rules.length (by unfold Gm.nr at hr2;omega) (by unfold Gm.nr at hr2;omega) w;go_enter Tryz.func106,Tryz.ntmps106;go_wp2
 go_cut [3] from 8 to 18 (λs W=>∃ gb ob ub,s=.pointer (some ⟨gb,0,none⟩)/\NGI (w.heap.size+1) G.rules.length (w.alloc (.cells #[.slice ka G.kinds.length kc,.slice pa G.precs.length pc,.slice ra G.rules.length rc,.slice qa G.prods.length qc,.int .i64 G.start] 26)) #[.slice ka G.kinds.length kc,.slice pa G.precs.length pc,.slice ra G.rules.length rc,.slice qa G.prods.length qc,.int .i64 G.start,.slice (some ⟨ob,0,none⟩) G.rules.length G.rules.length,.slice (some ⟨ub,0,none⟩) G.rules.length G.rules.length] W gb ob ub (λ_=>[]) (λ_=>[]))
 case first =>
  go_region
  all_goals
   go_wp2_with fail
   go_meet
   first
    | exact⟨w.heap.size+1+1+1,w.heap.size+1,w.heap.size+1+1,rfl,zkd (uh HN _).1 ((zsY _ _).drew)⟩
    | exact⟨w.heap.size+1+1+1,w.heap.size+1+1,w.heap.size+1,rfl,zkd (uh HN _).2 ((zsY _ _).drew)⟩
 case rest =>
  clear HN g0 g1 g2 g3 g4 hmk;obtain⟨gb,ob,ub,rfl,hN⟩:=hcut;generalize w.alloc (.cells #[.slice ka G.kinds.length kc,.slice pa G.precs.length pc,.slice ra G.rules.length rc,.slice qa G.prods.length qc,.int .i64 G.start] 26)=w1 at *;have hNb:=hN;obtain⟨-,-,-,-,-,-,-,-,-,-,hbW⟩:=hNb;have hst2:=zb8 hbW (zsG _) (uh Hst);have g0:=hst2.c0;have g1:=hst2.c1;have g2:=hst2.c2;have g3:=hst2.c3;have g4:=hst2.c4;have HN:=zaa hN;clear hst2 hbW hN;go_wp2
  go_loopw [22] (λx W=>∃ k:Nat,x=.int .i64 k/\k<=G.prods.length/\NGI (w.heap.size+1) G.rules.length w1 #[.slice ka G.kinds.length kc,.slice pa G.precs.length pc,.slice ra G.rules.length rc,.slice qa G.prods.length qc,.int .i64 G.start,.slice (some ⟨ob,0,none⟩) G.rules.length G.rules.length,.slice (some ⟨ub,0,none⟩) G.rules.length G.rules.length] W gb ob ub (zbE G k) (ze5 G k)) (λx _=>G.prods.length - (intOf x).toNat)
  case atStart=>exact⟨0,rfl,zsK _,uh HN⟩
  case round =>
   clear g0 g1 g2 g3 g4 HN;obtain⟨k,rfl,hk,hN⟩:=hrel;obtain⟨O1,O2,hT1,hT2,hO12,hO1,hO2,hgb,hbx,hlow,hbW⟩:=hN;have hst:=zb8 hbW (zsG _) (uh Hst);have Hg:=zaa hst.gin;have hszw:=hbW.size;by_cases hlt:k<G.prods.length
   ·have hlt':(k:Int)<G.prods.length:=by omega
    obtain⟨b,off,rfl,hbB,rr,rrc,x3,x4,x5,x6,n6,c6,hrr,hac,q0,q1,q2,q3,q4,q5,q6⟩:=zdu (uh Hg).prods hlt;have hpl:=hG.pl _ (zan hlt);have hpr:=hG.pr _ (zan hlt);have hpy:=hG.py _ (zan hlt);have Hos:=zaa (λr=>zfM G k r);have Hus:=zaa (λr=>zhS G k r);clear hac;generalize G.prods.getD k pd0=p at *;obtain⟨pl,prt,plv,pac⟩:=p;simp only at q0 q1 q2 hpl hpr hpy hrr;obtain⟨l,rfl⟩:∃ l:Nat,pl=(l:Int):=⟨pl.toNat,by omega⟩;have hl':l<G.rules.length:=by have:=hpl.2;unfold Gm.nr at this;omega
    obtain⟨W2,hW2⟩:∃ W2,W2=wr.alloc (.cells #[.int .i64 (l:Int),.slice rr prt.length rrc,.int .i64 plv,.int .i64 x3,.int .i64 x4,.string x5,.slice x6 n6 c6] 116):=⟨_,rfl⟩;have hb2:Below wr.heap.size wr W2:=by rw[hW2];exact(zsY _ _).alloc (zsG _) _
    have hpb:W2.heap[wr.heap.size]? = some (.cells #[.int .i64 (l:Int),.slice rr prt.length rrc,.int .i64 plv,.int .i64 x3,.int .i64 x4,.string x5,.slice x6 n6 c6] 116):=by rw[hW2];exact zsH _ _
    have hsz2:W2.heap.size=wr.heap.size+1:=by rw[hW2];simp
    obtain⟨i3,hi3,hz30,hz31,hz32⟩:=zak zdL;have hT1':=zaK hT1 hb2;have hT2':=zaK hT2 hb2;have hbx':=zev hbx hb2;obtain⟨V1,hV1⟩:=hT1';obtain⟨ta,tc,hVl,tcl,-,hnl⟩:=za8 hV1 hl';have hltO:∀ j,O1 j->j<wr.heap.size:=by obtain⟨V,hV⟩:=hT1;exact hV.lt
    have hgl:gb<wr.heap.size:=(zsO.1 hbx).1;have hlen:=zgZ G l k
    have HS:Hid (∀ W,Fr O1 W2 W->(λW:World=>W.cell? ⟨gb,5,none⟩=some (.slice (some ⟨ob,0,none⟩) G.rules.length G.rules.length)/\W.cell? ⟨wr.heap.size,0,none⟩=some (.int .i64 (l:Int))) W):=zaa (λW hf=>by
     have h1:=(hf.2.1 gb (by omega) (λh=>(hO1 gb h).2 rfl)).trans hbx';have h2:=(hf.2.1 wr.heap.size (by omega) (λh=>by have:=hltO _ h;omega)).trans hpb
     exact⟨by unfold World.cell?;rw[h1];rfl,by unfold World.cell?;rw[h2];rfl⟩)
    have HT:=zaa hV1;have HVl:=zaa hVl;have HRow:=zaa (show W2.ownsRow 0 3 1 (.slice ta (zbE G k l).length tc) (zbE G k l).length (zao (zbE G k l)) by rw[<- hVl];exact(hV1.rows l hl').1);have hps:=hG.ps;have Hown:=zaa (Hos);have HK:=zaa (And.intro hT2' (And.intro hbx' (And.intro hbW hbx)));have hlr:=hl';have hF0:Fr O1 W2 W2:=zax _ _;generalize hFl:zbE G k l=Fl at *;have HA:=zaa (And.intro hT2 (And.intro hbx (And.intro hbW hT1)));clear hT1 hT2 hbx hbx' hT2' hV1 hVl hst hnl;go_wp2;rw[<- hW2];clear hW2
    go_cut [] from 27 to 44 (λW=>∃ O1',zbB O1' W ob G.rules.length (zkX (zbE G k) l (Fl ++ [(k:Int)]))/\(∀ j,O1' j->O1 j\/W2.heap.size<=j)/\Fr O1 W2 W)
    case first =>
     refine wp_region_held_drew (S:=(λW:World=>W.cell? ⟨gb,5,none⟩=some (.slice (some ⟨ob,0,none⟩) G.rules.length G.rules.length)/\W.cell? ⟨wr.heap.size,0,none⟩=some (.int .i64 (l:Int)))) (by kernel_rfl) (uh HS _ hF0) (λhZ=>?_);refine zad 0 27 rfl rfl hZ (λw ⟨k0,k1⟩=>by go_simp;try rfl) ?_;simp only[Act.put,zsA,zsB,zsC];refine zad 1 28 rfl rfl hZ (λw ⟨k0,k1⟩=>by go_simp;try rfl) ?_;simp only[Act.put,zsA,zsB,zsC];refine zad 2 29 rfl rfl hZ (λw ⟨k0,k1⟩=>by go_simp;try rfl) ?_;simp only[Act.put,zsA,zsB,zsC];refine zad 3 30 rfl rfl hZ (λw ⟨k0,k1⟩=>by go_simp;try rfl) ?_;simp only[Act.put,zsA,zsB,zsC];refine zad 4 31 rfl rfl hZ (λw ⟨k0,k1⟩=>by go_simp;try rfl) ?_;simp only[Act.put,zsA,zsB,zsC];refine zad 5 32 rfl rfl hZ (λw ⟨k0,k1⟩=>by go_simp;try rfl) ?_;simp only[Act.put,zsA,zsB,zsC];refine zad 6 33 rfl rfl hZ (λw ⟨k0,k1⟩=>by go_simp;try rfl) ?_;simp only[Act.put,zsA,zsB,zsC];refine zad 7 34 rfl rfl hZ (λw ⟨k0,k1⟩=>by go_simp;try rfl) ?_;simp only[Act.put,zsA,zsB,zsC];refine zad 8 35 rfl rfl hZ (λw ⟨k0,k1⟩=>by go_simp;try rfl) ?_;simp only[Act.put,zsA,zsB,zsC];refine zad 9 36 rfl rfl hZ (λw ⟨k0,k1⟩=>by go_simp;try rfl) ?_;simp only[Act.put,zsA,zsB,zsC];refine zad 10 37 rfl rfl hZ (λw ⟨k0,k1⟩=>by go_simp;try rfl) ?_;simp only[Act.put,zsA,zsB,zsC];refine zad 11 38 rfl rfl hZ (λw ⟨k0,k1⟩=>by go_simp;try rfl) ?_;simp only[Act.put,zsA,zsB,zsC];refine zad 12 39 rfl rfl hZ (λw ⟨k0,k1⟩=>by go_simp;try rfl) ?_;simp only[Act.put,zsA,zsB,zsC];refine zad 14 41 rfl rfl hZ (λw ⟨k0,k1⟩=>by go_simp;try rfl) ?_;simp only[Act.put,zsA,zsB,zsC];refine zcY 13 15 rfl rfl (λK hK=>?_) λK hK=>?_;go_simp;refine hK.out _ _ (uh HS _ hF0) (λhZ=>?_);clear hK K;refine zah 15 rfl λK hK=>?_;go_simp;have hj9:(W2.alloc (.cells #[.int .i64 (k:Int)] 3)).heap[W2.heap.size]? = some (.cells #[.int .i64 (k:Int)] 3):=zsH _ _;have hbA:Below W2.heap.size W2 (W2.alloc (.cells #[.int .i64 (k:Int)] 3)):=(zsY _ _).alloc (zsG _) _;have hF:=zdi hF0 hbA;rotate_left;go_simp;have hj9:(W2.alloc (.cells #[.int .i64 (k:Int)] 3)).heap[W2.heap.size]? = some (.cells #[.int .i64 (k:Int)] 3):=zsH _ _;have hbA:Below W2.heap.size W2 (W2.alloc (.cells #[.int .i64 (k:Int)] 3)):=(zsY _ _).alloc (zsG _) _;have hF:=zdi hF0 hbA;refine hK.out _ _ (uh HS _ hF) (λhZ=>?_);clear hK K;refine zah 13 rfl λK hK=>?_;have tcl2:(W2.alloc (.cells #[.int .i64 (k:Int)] 3)).cell? ⟨ob,l,none⟩=some (.slice ta Fl.length tc):=(hbA.cell (p:=⟨ob,l,none⟩) ((uh HT).lt _ (uh HT).own)).trans tcl;go_simp;rotate_left
     all_goals
      refine hK.out _ _ (uh HS _ hF) (λhZ=>?_);clear hK K;refine zah 16 rfl λK hK=>?_;have ow:=zaO (zaW (uh HRow) hbA) (zsG _);refine step_append_lies _ rfl (.tmp 40) (.tmp 42) 50 rfl 0 3 i3 (.int .i64 0) 1 8 Tryz.underlying50 hi3 hz30 hz31 hz32 rfl (by decide) (.slice ta Fl.length tc) Fl.length (zao Fl) (by simp[Act.eval]) ow ⟨W2.heap.size,0,none⟩ 1 1 [.int .i64 (k:Int)] (by simp[Act.eval]) rfl (λj u hu=>zeP hj9 hu) (λu hu=>by simp at hu;subst hu;rfl) (by decide) (by unfold maxLen;omega) (by omega) (zsK _) _ rfl ?_;intro g cap W6 ho6 hg6 hw6 hlt6;have hg6:(W2.alloc (.cells #[.int .i64 (k:Int)] 3)).grownBy W6 (Value.ownBlock (.slice ta Fl.length tc)):=⟨hg6.os,hg6.tape,hg6.output,hg6.size,hg6.block⟩;rw[<- uh HVl] at hg6 hw6;have ho6:W6.ownsRow 0 3 1 (.slice (some ⟨g,0,none⟩) (Fl ++ [(k:Int)]).length cap) (Fl ++ [(k:Int)]).length (zao (Fl ++ [(k:Int)])):=by rw[<- zaX,zsI];exact ho6
      obtain⟨hT7,hF7⟩:=zee (uh HT) hlr hbA rfl ho6 hg6 hw6 hlt6;have hF6:Fr _ W2 W6:=⟨zsy hF.1 hg6.size,λj hj ho=>(hg6.block j (zsJ hj hF.1) (λe=>ho (((uh HT).rows _ hlr).2 j e.symm))).trans (hF.2.1 j hj ho),hg6.os.trans hF.2.2.1,hg6.tape.trans hF.2.2.2.1,hg6.output.trans hF.2.2.2.2⟩;go_simp;refine hK.out _ _ (uh HS _ hF6) (λhZ=>?_);clear hK K;refine zad 17 44 rfl rfl hZ (λw ⟨k0,k1⟩=>by go_simp;try rfl) ?_;simp only[Act.put,zsA,zsB,zsC];refine zah 18 rfl λK hK=>?_;have hfz:W6.frozen? ⟨ob,l,none⟩=false:=(zbI (uh HT) hlr hbA hg6);have hcz:=zcx (uh HT) hlr hbA hg6;rw[uh HVl] at hcz;go_simp;have hlen6:(Fl ++ [(k:Int)]).length=Fl.length+1:=by simp
      rw[hlen6] at hT7 hF7;refine hK.out _ _ (uh HS _ hF7) (λhZ=>?_);clear hK K;refine wpAnyH_done (by kernel_rfl) ?_ _;have HT7:=zaa hT7;have HF7:=zaa hF7;have hs6:=hg6.size;clear ow hT7 hF7 hF6 ho6 hg6 hw6 hlt6 hfz hcz hF hj9 hlen6 hZ;go_wp2_with fail
      go_meet
      exact⟨_,uh HT7,λj hj=>hj.imp id (λh=>h.1),uh HF7⟩
    case rest =>
     obtain⟨O1',hT7,hO7,hF7⟩:=hcut;have hT7':zbB O1' wc ob G.rules.length (zbE G (k+1)):=by
      obtain⟨V,hV⟩:=hT7;refine⟨V,hV.own,hV.lt,hV.row,λr hr=>?_,hV.apart⟩;have h1:=hV.rows r hr;have e:zbE G (k+1) r=zkX (zbE G k) l (Fl ++ [(k:Int)]) r:=by
       rw[uh Hos r,zsS];by_cases e:l=r
       ·subst e;rw[if_pos rfl,ze6,hFl]
       ·rw[if_neg e,ziE (λh=>e h.symm)]
      rw[e];exact h1
     have hszc:=hF7.1;have hps:=hG.ps;obtain⟨hT2,hbx,hbW,-⟩:=uh HA;have hb2':Below (w.heap.size+1) wr W2:=zab hb2 (by omega);have hN4:NGI (w.heap.size+1) G.rules.length w1 #[.slice ka G.kinds.length kc,.slice pa G.precs.length pc,.slice ra G.rules.length rc,.slice (some ⟨b,off,none⟩) G.prods.length qc,.int .i64 G.start,.slice (some ⟨ob,0,none⟩) G.rules.length G.rules.length,.slice (some ⟨ub,0,none⟩) G.rules.length G.rules.length] wc gb ob ub (zbE G (k+1)) (ze5 G k):=zpQ (W:=W2) (zaK hT2 hb2) hO12 hO1 hO2 hgb (zev hbx hb2) hlow (hbW.trans hb2') hT7' hO7 hF7;have hpc:wc.heap[wr.heap.size]? = some (.cells #[.int .i64 (l:Int),.slice rr prt.length rrc,.int .i64 plv,.int .i64 x3,.int .i64 x4,.string x5,.slice x6 n6 c6] 116):=(hF7.2.1 _ (by omega) (λh=>by have:=hltO _ h;omega)).trans hpb;have HN4:=zaa hN4;obtain⟨O1a,O2a,hTa1,hTa2,hOa,hOa1,hOa2,-,hbxa,-,hbWa⟩:=hN4;have Hga:=zaa (zb8 hbWa (zsG _) (uh Hst)).gin;have p1:wc.cell? ⟨wr.heap.size,1,none⟩=some (.slice rr prt.length rrc):=by unfold World.cell?;rw[hpc];rfl
     have c0a:wc.cell? ⟨gb,0,none⟩=some (.slice ka G.kinds.length kc):=by unfold World.cell?;rw[hbxa];rfl
     have hrra:NRow wc.heap.size wc rr prt:=by
      have h1:=zaS (B:=w.heap.size) (zab ((hb2'.trans (zau hF7 (by omega) (λj hj=>(hO1 j hj).1)))) (by omega)) hrr;exact zel (by have:=hbWa.size;omega) h1
     have HR:=zaa (zds gb G.kinds.length ka kc hG.k3 rr rrc prt (by omega) (λx hx=>by have:=hpy x hx;have:=hG.k3;have:=hG.r2;unfold Gm.nk Gm.nr at *;omega) wc c0a (zsO.1 hbxa).1 hrra);have Hbc:=zaa hbWa;clear hTa1 hTa2 hOa hOa1 hOa2 hbxa hbWa hT7 hT7' hO7 hF7 hrra c0a hpc HT HVl HRow HS HK HA hT2 hbx hbW hO12 hO1 hO2 hF0 tcl hFl hltO;go_wp2_with fail;refine(uh HR).mono ?_;rintro e w5 ⟨v5,rfl,how5,hb5⟩;obtain⟨va,vc,rfl⟩:=zaf how5;obtain⟨_,_,he5,hn5⟩:=zb5 how5
     cases he5
     obtain⟨O1b,O2b,hTc1,hTc2,hOb,hOb1,hOb2,hgbb,hbxc,hlowb,hbWc⟩:=uh HN4;have hltb:∀ j,O2b j->j<wc.heap.size:=by obtain⟨V,hV⟩:=hTc2;exact hV.lt
     have hTb1:=zaK hTc1 hb5;have hTb2:=zaK hTc2 hb5;have hbxb:=zev hbxc hb5;have hbWb:=hbWc.trans (zab hb5 (by have:=hbWc.size;omega));have hgl5:gb<w5.heap.size:=(zsO.1 hbxb).1;have hsz5:=hb5.size;have hsW:=hbWc.size;have hn5':∀ W,Fr O2b w5 W->NRow W.heap.size W (va) (zaA G.kinds.length prt):=λW hf=>by
      rcases hn5 with h | ⟨b5,o5,h1,h2,h3⟩
      ·exact .inl h
      ·refine .inr ⟨b5,o5,h1,by have:=hf.1;omega,λj hj=>?_⟩;have hbb:=how5.lt b5 (by rw[h1];rfl);exact(zsL (hf.2.1 b5 h2 (λh=>by have:=hltb _ h;omega))).trans (h3 j hj)
     have hbx6:∀ W,Fr O2b w5 W->W.cell? ⟨gb,6,none⟩=some (.slice (some ⟨ub,0,none⟩) G.rules.length G.rules.length):=λW hf=>by
      have h1:=(hf.2.1 gb hgl5 (λh=>(hOb2 gb h).2 rfl)).trans hbxb;unfold World.cell?;rw[h1];rfl
     have Hn5:=zaa hn5';have Hbx6:=zaa hbx6;have hlen5:=za2 (nk:=G.kinds.length) prt;have HT2:=zaa hTb2;have HgO2:=zaa (λi (h:O2b i)=>(hOb2 i h).2);have HB:=zaa (λ(W:World) (O2':Nat->Prop) (ht:zbB O2' W ub G.rules.length (ze5 G (k+1))) (hO:∀ j,O2' j->O2b j\/w5.heap.size<=j) (hf:Fr O2b w5 W)=>zpP (W:=w5) hTb1 hOb hOb1 hOb2 hgbb hbxb hlowb hbWb ht hO hf);have hrv:∀ j,j<(zaA G.kinds.length prt).length->0<=(zaA G.kinds.length prt).getD j 0/\(zaA G.kinds.length prt).getD j 0<G.rules.length:=λj hj=>by
      have hm:=zbh hj;generalize (zaA G.kinds.length prt).getD j 0=y at *;obtain⟨x,hx,hx2⟩:=List.mem_flatMap.1 hm;have:=hpy x hx;unfold Gm.nk Gm.nr at this
      split at hx2
      ·simp at hx2;omega
      ·simp at hx2
     have Hrv:=zaa hrv;clear hTb1 hTb2 hTc1 hTc2 hOb hOb1 hOb2 hbxb hbxc hlowb hbWb hbWc hn5 hn5' hbx6 how5 hb5 HR hrv HN4 Hbc Hga p1;have hul:∀ r,(ze5 G k r).length<=k * 64:=λr=>zgJ hG r k (by omega);have Hul:=zaa hul;have hps:=hG.ps;obtain⟨U,hU⟩:∃ U,U=ze5 G k:=⟨_,rfl⟩
     have HU1:Hid (ze5 G (k+1)=zeG U (zaA G.kinds.length prt) k (zaA G.kinds.length prt).length):=zaa (by
      funext r;rw[uh Hus r,hU];unfold zeG
      rw[zsN])
     rw[<- hU] at HT2 Hul hul;generalize zaA G.kinds.length prt=RL at *;clear hul;go_wp2
     go_loopw [50] (λx W=>∃ (j:Nat) (O2':Nat->Prop),x=.int .i64 j/\j<=RL.length/\zbB O2' W ub G.rules.length (zeG U RL k j)/\(∀ i,O2' i->O2b i\/w5.heap.size<=i)/\Fr O2b w5 W) (λx _=>RL.length - (intOf x).toNat)
     case atStart =>
      refine⟨0,O2b,rfl,zsK _,?_,λi hi=>.inl hi,zax _ _⟩;have e:zeG U RL k 0=U:=by funext r;unfold zeG;simp
      rw[e];exact uh HT2
     case round =>
      obtain⟨j,O2',rfl,hj,hT,hO,hfr⟩:=hrel;have hc6:=uh Hbx6 wr hfr;have hnr:=uh Hn5 wr hfr;have hsz6:=hfr.1;by_cases hjl:j<RL.length
      ·have hjl':(j:Int)<RL.length:=by omega
       obtain⟨b5,o5,rfl,hb5l,hcj⟩:=zbg hnr hjl;have hqv:=uh Hrv j hjl;obtain⟨q,hq⟩:∃ q:Nat,RL.getD j 0=(q:Int):=⟨(RL.getD j 0).toNat,by omega⟩;rw[hq] at hcj hqv;have hlr:q<G.rules.length:=by omega
       have HUs:=zaa (zns (U:=U) (k:=k) hjl hq);have hul:=uh Hul q;have hal:=zoH (U:=U) (L:=RL) (k:=k) (j:=j) (r:=q);obtain⟨V2,hV2⟩:=hT;obtain⟨ta,tc,hVl,tcl,-,-⟩:=za8 hV2 hlr;have hgnl:∀ i,O2' i->i≠gb:=λi hi=>by
        rcases hO i hi with h | h
        ·exact(uh HgO2 i h)
        ·omega
       have hglw:gb<wr.heap.size:=by omega
       have HS:Hid (∀ W,Fr O2' wr W->(λW:World=>W.cell? ⟨gb,6,none⟩=some (.slice (some ⟨ub,0,none⟩) G.rules.length G.rules.length)/\True) W):=zaa (λW hf=>⟨(zsL (hf.2.1 gb hglw (λh=>hgnl gb h rfl))).trans hc6,trivial⟩);have HT:=zaa hV2;have HVl:=zaa hVl;have HRow:=zaa (show wr.ownsRow 0 3 1 (.slice ta (zeG U RL k j q).length tc) (zeG U RL k j q).length (zao (zeG U RL k j q)) by rw[<- hVl];exact(hV2.rows q hlr).1);have hF0:Fr O2' wr wr:=zax _ _;have HO:=zaa hO;have Hfr:=zaa hfr;generalize hFl:zeG U RL k j q=Fl at *;clear hV2 hVl hO hfr hnr hgnl;go_wp2;refine wp_region_held_drew (S:=(λW:World=>W.cell? ⟨gb,6,none⟩=some (.slice (some ⟨ub,0,none⟩) G.rules.length G.rules.length)/\True)) (by kernel_rfl) (uh HS _ hF0) (λhZ=>?_);refine zad 0 54 rfl rfl hZ (λw ⟨k0,k1⟩=>by go_simp;try rfl) ?_;simp only[Act.put,zsA,zsB,zsC];refine zad 1 55 rfl rfl hZ (λw ⟨k0,k1⟩=>by go_simp;try rfl) ?_;simp only[Act.put,zsA,zsB,zsC];refine zad 2 56 rfl rfl hZ (λw ⟨k0,k1⟩=>by go_simp;try rfl) ?_;simp only[Act.put,zsA,zsB,zsC];refine zad 3 57 rfl rfl hZ (λw ⟨k0,k1⟩=>by go_simp;try rfl) ?_;simp only[Act.put,zsA,zsB,zsC];refine zad 4 58 rfl rfl hZ (λw ⟨k0,k1⟩=>by go_simp;try rfl) ?_;simp only[Act.put,zsA,zsB,zsC];refine zad 5 59 rfl rfl hZ (λw ⟨k0,k1⟩=>by go_simp;try rfl) ?_;simp only[Act.put,zsA,zsB,zsC];refine zad 6 60 rfl rfl hZ (λw ⟨k0,k1⟩=>by go_simp;try rfl) ?_;simp only[Act.put,zsA,zsB,zsC];refine zad 7 61 rfl rfl hZ (λw ⟨k0,k1⟩=>by go_simp;try rfl) ?_;simp only[Act.put,zsA,zsB,zsC];refine zad 8 62 rfl rfl hZ (λw ⟨k0,k1⟩=>by go_simp;try rfl) ?_;simp only[Act.put,zsA,zsB,zsC];refine zad 9 63 rfl rfl hZ (λw ⟨k0,k1⟩=>by go_simp;try rfl) ?_;simp only[Act.put,zsA,zsB,zsC];refine zad 10 64 rfl rfl hZ (λw ⟨k0,k1⟩=>by go_simp;try rfl) ?_;simp only[Act.put,zsA,zsB,zsC];refine zad 12 66 rfl rfl hZ (λw ⟨k0,k1⟩=>by go_simp;try rfl) ?_;simp only[Act.put,zsA,zsB,zsC];refine zcY 11 13 rfl rfl (λK hK=>?_) λK hK=>?_;go_simp;refine hK.out _ _ (uh HS _ hF0) (λhZ=>?_);clear hK K;refine zah 13 rfl λK hK=>?_;go_simp;have hj9:(wr.alloc (.cells #[.int .i64 (k:Int)] 3)).heap[wr.heap.size]? = some (.cells #[.int .i64 (k:Int)] 3):=zsH _ _;have hbA:Below wr.heap.size wr (wr.alloc (.cells #[.int .i64 (k:Int)] 3)):=(zsY _ _).alloc (zsG _) _;have hF:=zdi hF0 hbA;rotate_left;go_simp;have hj9:(wr.alloc (.cells #[.int .i64 (k:Int)] 3)).heap[wr.heap.size]? = some (.cells #[.int .i64 (k:Int)] 3):=zsH _ _;have hbA:Below wr.heap.size wr (wr.alloc (.cells #[.int .i64 (k:Int)] 3)):=(zsY _ _).alloc (zsG _) _;have hF:=zdi hF0 hbA;refine hK.out _ _ (uh HS _ hF) (λhZ=>?_);clear hK K;refine zah 11 rfl λK hK=>?_;have tcl2:(wr.alloc (.cells #[.int .i64 (k:Int)] 3)).cell? ⟨ub,q,none⟩=some (.slice ta Fl.length tc):=(hbA.cell (p:=⟨ub,q,none⟩) ((uh HT).lt _ (uh HT).own)).trans tcl;go_simp;rotate_left
       all_goals
        refine hK.out _ _ (uh HS _ hF) (λhZ=>?_);clear hK K;refine zah 14 rfl λK hK=>?_;have ow:=zaO (zaW (uh HRow) hbA) (zsG _);refine step_append_lies _ rfl (.tmp 65) (.tmp 67) 50 rfl 0 3 i3 (.int .i64 0) 1 8 Tryz.underlying50 hi3 hz30 hz31 hz32 rfl (by decide) (.slice ta Fl.length tc) Fl.length (zao Fl) (by simp[Act.eval]) ow ⟨wr.heap.size,0,none⟩ 1 1 [.int .i64 (k:Int)] (by simp[Act.eval]) rfl (λj u hu=>zeP hj9 hu) (λu hu=>by simp at hu;subst hu;rfl) (by decide) (by unfold maxLen;omega) (by omega) (zsK _) _ rfl ?_;intro g cap W6 ho6 hg6 hw6 hlt6;have hg6:(wr.alloc (.cells #[.int .i64 (k:Int)] 3)).grownBy W6 (Value.ownBlock (.slice ta Fl.length tc)):=⟨hg6.os,hg6.tape,hg6.output,hg6.size,hg6.block⟩;rw[<- uh HVl] at hg6 hw6;have ho6:W6.ownsRow 0 3 1 (.slice (some ⟨g,0,none⟩) (Fl ++ [(k:Int)]).length cap) (Fl ++ [(k:Int)]).length (zao (Fl ++ [(k:Int)])):=by rw[<- zaX,zsI];exact ho6
        obtain⟨hT7,hF7⟩:=zee (uh HT) hlr hbA rfl ho6 hg6 hw6 hlt6;have hF6:Fr _ wr W6:=⟨zsy hF.1 hg6.size,λj hj ho=>(hg6.block j (zsJ hj hF.1) (λe=>ho (((uh HT).rows _ hlr).2 j e.symm))).trans (hF.2.1 j hj ho),hg6.os.trans hF.2.2.1,hg6.tape.trans hF.2.2.2.1,hg6.output.trans hF.2.2.2.2⟩;go_simp;refine hK.out _ _ (uh HS _ hF6) (λhZ=>?_);clear hK K;refine zad 15 69 rfl rfl hZ (λw ⟨k0,k1⟩=>by go_simp;try rfl) ?_;simp only[Act.put,zsA,zsB,zsC];refine zah 16 rfl λK hK=>?_;have hfz:W6.frozen? ⟨ub,q,none⟩=false:=(zbI (uh HT) hlr hbA hg6);have hcz:=zcx (uh HT) hlr hbA hg6;rw[uh HVl] at hcz;go_simp;have hlen6:(Fl ++ [(k:Int)]).length=Fl.length+1:=by simp
        rw[hlen6] at hT7 hF7;refine hK.out _ _ (uh HS _ hF7) (λhZ=>?_);clear hK K;refine wpAnyH_done (by kernel_rfl) ?_ _;have HT7:=zaa hT7;have HF7:=zaa hF7;have hs6:=hg6.size;clear ow hT7 hF7 hF6 ho6 hg6 hw6 hlt6 hfz hcz hF hj9 hlen6 hZ;have hT8:=uh HT7;rw[<- uh HUs] at hT8;have HT8:=zaa hT8;clear hT8;have HF8:=zaa (zwu (uh Hfr) (uh HF7) (uh HO));have HO8:=zaa (λ(i:Nat) (hi:O2' i\/wr.heap.size<=i/\i<W6.heap.size)=>show O2b i\/w5.heap.size<=i from hi.elim (uh HO i) (λh=>.inr (by omega)));clear HT7 HF7 HT HVl HRow HS tcl hc6 hcj hF0 hbA;go_wp2;go_roundw
        case rel=>exact⟨j+1,_,by go_num,by omega,uh HT8,uh HO8,uh HF8⟩
        case measure=>simp[intOf];omega
      ·obtain rfl:j=RL.length:=by omega
       rw[<- uh HU1] at hT;have HNx:=zaa (uh HB wr O2' hT hO hfr);clear hT hO hfr hc6 hnr;go_wp2;go_roundw
       case rel=>exact⟨k+1,by go_num,by omega,uh HNx⟩
       case measure=>simp[intOf];omega
   ·obtain rfl:k=G.prods.length:=by omega
    have hszk:wr.heap.size<=wr.heap.size:=zsG _;have hgin:GIn wr.heap.size wr G ka pa ra qa:=zlL (uh Hg) (by omega);have hgl:gb<wr.heap.size:=(zsO.1 hbx).1;have Hfin:Hid (∃ ob ub,GrAt wr.heap.size wr G ka kc pa pc ra rc qa qc gb ob ub):=zaa ⟨ob,ub,hgin,hgl,hbx,⟨O1,hT1,by obtain⟨V,hV⟩:=hT1;exact hV.lt⟩,⟨O2,hT2,by obtain⟨V,hV⟩:=hT2;exact hV.lt⟩⟩;have Hbf:=zaa ((uh Hb1).trans (zab hbW (by omega)));clear hT1 hT2 hbx hbW hst hO12 hO1 hO2;go_wp2;go_ret;obtain⟨ob,ub,h⟩:=uh Hfin;exact⟨gb,ob,ub,rfl,h,uh Hbf⟩
def zdT(l:List Int)(x:Int):Nat->List Int
 | 0=>[]
 | k+1=>zdT l x k ++ if l.getD k 0=x then[(k:Int)] else[]
theorem zgX(l:List Int)(x:Int):∀ k,(zdT l x k).length<=k
 | 0=>by simp[zdT]
 | k+1=>by unfold zdT;rw[zsI];have:=zgX l x k;split <;> simp <;> omega
theorem zmu(l:List Int)(x:Int):∀ k,zdT l x k=((List.range k).filter λq=>decide (l.getD q 0=x)).map λ(q:Nat)=>(q:Int)
 | 0=>rfl
 | k+1=>by
   unfold zdT;rw[zmu l x k,List.range_succ,List.filter_append,List.map_append]
   congr 1
   by_cases h:l.getD k 0=x
   ·rw[if_pos h,List.filter_cons_of_pos (by simpa using h)];rfl
   ·rw[if_neg h,List.filter_cons_of_neg (by simpa using h)];rfl
theorem znL(a:Option Addr)(cap:Nat)(l:List Int)(x:Int)(hn:l.length<=1048576)(w:World)(hrow:NRow w.heap.size w a l) :
 Calls Tryz.prog 197 #[.slice a l.length cap,.int .i64 x] w λe w'=>∃ v,e=.returned v/\w'.ownsRow w.heap.size 3 1 v (zdT l x l.length).length (zao (zdT l x l.length))/\Below w.heap.size w w':=by
 obtain⟨i0,hi,hz0,hz1,hz2⟩:=zak zdL;have Hrow:=zaa hrow;clear hrow;go_enter Tryz.func197,Tryz.ntmps197;go_wp2
 go_loopw [5,10] (λu y wr=>∃ k:Nat,y=.int .i64 k/\k<=l.length/\wr.ownsRow w.heap.size 3 1 u (zdT l x k).length (zao (zdT l x k))/\Below w.heap.size w wr) (λ_ y _=>l.length - (intOf y).toNat)
 case atStart=>exact⟨0,rfl,zsK _,World.ownsRow_nil _ _ _ _,zsY _ _⟩
 case round =>
  obtain⟨k,rfl,hk,hown,hb⟩:=hrel;obtain⟨ua,uc,rfl⟩:=zaf hown;have hsz:=hb.size;have hle:=zgX l x k;have Hown:=zaa hown;have Hb:=zaa hb;clear hown hb;by_cases hlt:k<l.length
  ·have hlt':(k:Int)<l.length:=by omega
   obtain⟨b,off,rfl,hbl,hc⟩:=zbg (zaS (uh Hb) (uh Hrow)) hlt;have Hs:Hid (zdT l x (k+1)=zdT l x k ++ if l.getD k 0=x then[(k:Int)] else[]):=zaa rfl;generalize l.getD k 0=y at *;by_cases hy:y=x
   ·subst hy;have hyy:(y == y)=true:=by simp
    rw[if_pos rfl] at Hs;generalize zdT l y k=acc at *;go_wp2_with (at_builtin;refine wpList_append_own _ rfl _ _ 50 rfl w.heap.size 3 i0 (.int .i64 0) 1 8 Tryz.underlying50 hi hz0 hz1 hz2 rfl (by decide) _ _ _ rfl ((uh Hown).alloc _) ⟨wr.heap.size,0,none⟩ 1 1 [.int .i64 (k:Int)] rfl rfl ?zc1 ?zc2 ?zc3 ?zc4 ?zc5 ?_)
    case zc1=>exact zpV _ _ _
    case zc2=>intro u hu;simp at hu;rcases hu with rfl;rfl
    case zc3=>unfold maxLen;omega
    case zc4=>omega
    case zc5=>simp;omega
    intro v' W3 hown' hgrow _;have Hb4:=zaa (((uh Hb).alloc hsz _).grown hgrow (by simp;omega) (λj hj=>((uh Hown).lt j hj).1));have Ho4:=zaa (show W3.ownsRow w.heap.size 3 1 v' (zdT l y (k+1)).length (zao (zdT l y (k+1))) by rw[uh Hs,<- zaX,zsI];exact hown');clear hown' hgrow;go_wp2;go_roundw
    case rel=>exact⟨k+1,by go_num,by omega,uh Ho4,uh Hb4⟩
    case measure=>simp[intOf];omega
   ·have hyy:(y == x)=false:=by simpa using hy
    rw[if_neg hy,List.append_nil] at Hs;go_wp2;go_roundw
    case rel=>exact⟨k+1,by go_num,by omega,by rw[uh Hs];exact uh Hown,uh Hb⟩
    case measure=>simp[intOf];omega
  ·obtain rfl:k=l.length:=by omega
   go_wp2;go_ret;exact⟨_,rfl,uh Hown,uh Hb⟩
def fdM(l:List Int):Nat->Bool:=λr=>decide (l.getD r 0 ≠ -1)
theorem zgc(a:Option Addr)(cap:Nat)(l:List Int)(hn:l.length<=1048576)(w:World)(hrow:NRow w.heap.size w a l) :
 Calls Tryz.prog 156 #[.slice a l.length cap] w λe w'=>∃ b,e=.returned (.slice (some ⟨b,0,none⟩) l.length l.length)/\w'.rowIs b 4 l.length (λr=>.bool (fdM l r))/\w.heap.size<=b/\Below w.heap.size w w':=by
 have hmk:=λw=>run_make_row' (P:=Tryz.prog) 69 4 (.bool false) 1 Tryz.underlying69 zts rfl .i64 .i64 l.length (by omega) (by omega) w;have Hrow:=zaa hrow;clear hrow;have hnot:=zbm;go_enter Tryz.func156,Tryz.ntmps156;go_wp2;have Hz:=zaa (World.rowIs_made w (.bool false) l.length 4)
 go_loopw [11] (λy wr=>∃ k:Nat,y=.int .i64 k/\k<=l.length/\wr.rowIs w.heap.size 4 l.length (λr=>.bool (decide (r<k) && fdM l r))/\Below w.heap.size w wr) (λy _=>l.length - (intOf y).toNat)
 case atStart=>exact⟨0,rfl,zsK _,(uh Hz).congr (λi _=>by simp),(zsY _ _).alloc (zsG _) _⟩
 case round =>
  obtain⟨k,rfl,hk,hr,hb⟩:=hrel;have hsz:=hb.size;have hlb:=hr.lt;have Hb:=zaa hb;clear hb Hz;by_cases hlt:k<l.length
  ·have hlt':(k:Int)<l.length:=by omega
   obtain⟨b,off,rfl,hbl,hc⟩:=zbg (zaS (uh Hb) (uh Hrow)) hlt;have hfz:=hr.frozen k;have hcl:=hr.cell hlt
   have Hr2:=zaa (show (wr.setCell ⟨w.heap.size,k,none⟩ (.bool (l.getD k 0 != -1))).rowIs w.heap.size 4 l.length (λr=>.bool (decide (r<k+1) && fdM l r)) from(hr.set k _).congr (λi _=>by
    by_cases e:i=k
    ·subst e;rw[if_pos rfl];unfold fdM;simp;rw[Bool.eq_iff_iff];simp
    ·rw[if_neg e];have h1:decide (i<k)=decide (i<k+1):=by rw[decide_eq_decide];omega
     rw[h1]))
   have Hb2:=zaa ((uh Hb).setCell (p:=⟨w.heap.size,k,none⟩) (zsG _) (.bool (l.getD k 0 != -1)));generalize l.getD k 0=y at *;clear hr;go_wp2;go_roundw
   case rel=>exact⟨k+1,by go_num,by omega,uh Hr2,uh Hb2⟩
   case measure=>simp[intOf];omega
  ·obtain rfl:k=l.length:=by omega
   have Hr2:=zaa (hr.congr (g:=λr=>.bool (fdM l r)) (λi hi=>by simp[hi]));clear hr;go_wp2;go_ret;exact⟨w.heap.size,rfl,uh Hr2,zsG _,uh Hb⟩
theorem zpy{W:World}{B g n c:Nat}{l:List Int}(h:W.ownsRow B 3 1 (.slice (some ⟨g,0,none⟩) n c) n (zao l))(i:Nat)(x:Int):(W.setCell ⟨g,i,none⟩ (.int .i64 x)).ownsRow B 3 1 (.slice (some ⟨g,0,none⟩) n c) n (zao (l.set i x)):=by
 obtain⟨h1,h2⟩:=h;rcases h2 with ⟨hv,_⟩ | ⟨g',cap,cur,hv,hb,hh,hn,hm,hs,ht⟩
 ·cases hv
 ·cases hv
  refine⟨by rw[zbj,List.length_set];rw[zbj] at h1;exact h1,.inr ⟨g,c,cur.setIfInBounds i (.int .i64 x),rfl,hb,Wk.block_set hh _,hn,hm,by simpa using hs,?_⟩⟩;rw[Array.toList_setIfInBounds,List.take_set,ht];unfold zao;rw[List.map_set]
theorem zmy{W:World}{B:Nat}{v:Value}{l:List Int}(h:W.ownsRow B 3 1 v l.length (zao l)){i:Nat}(hi:i<l.length):∃ g c,v=.slice (some ⟨g,0,none⟩) l.length c/\g<W.heap.size/\W.cell? ⟨g,i,none⟩=some (.int .i64 (l.getD i 0))/\W.frozen? ⟨g,i,none⟩=false:=by
 obtain⟨g,c,hv,-,hlt,-⟩:=Wk.own_pos h (by omega);subst hv;refine⟨g,c,rfl,hlt,?_,?_⟩
 ·rw[Wk.own_cell h rfl i (by rw[zbj];exact hi)];unfold zao;simp[List.getD_eq_getElem?_getD,hi]
 ·exact h.frozenAt i
def atZ(l:List Int):Nat->Int:=λq=>l.getD q 0
theorem zxg{l:List Int}{i:Nat}{x:Int}(hi:i<l.length):atZ (l.set i x)=upZ (atZ l) i x:=by
 funext j;unfold atZ upZ;by_cases e:j=i
 ·subst e;simp[List.getD_eq_getElem?_getD,hi]
 ·rw[if_neg e];simp[List.getD_eq_getElem?_getD,Ne.symm e]
def ze0(G:Gm)(r:Nat):List Nat:=(List.range G.prods.length).flatMap λi=>List.replicate ((zaA G.nk (G.prods.getD i pd0).right).count (r:Int)) i
def zag(l:List Nat):List Int:=l.map λ(r:Nat)=>(r:Int)
theorem zam(l:List Nat):(zag l).length=l.length:=by simp[zag]
theorem zbS{l:List Nat}{i:Nat}(h:i<l.length):(zag l).getD i 0=((l.getD i 0:Nat):Int):=by
 unfold zag;rw[zsE,List.getElem?_map,zsE,zsF h];rfl
theorem zeF(G:Gm)(r:Nat):ze5 G G.prods.length r=zag (ze0 G r):=by
 unfold ze5 ze0 zag;rw[List.map_flatMap]
 congr 1
 funext i;simp
theorem zgK{G:Gm}{r q:Nat}(h:q ∈ ze0 G r):q<G.prods.length:=by
 unfold ze0 at h;obtain⟨i,hi,hq⟩:=List.mem_flatMap.1 h;have:=(List.mem_replicate.1 hq).2;have:=List.mem_range.1 hi;omega
theorem ziD{G:Gm}(hG:GOk G)(r:Nat):(ze0 G r).length<=262144:=by
 have h1:=zgJ hG r G.prods.length (zsG _);rw[zeF,zam] at h1;have:=hG.ps;omega
theorem zed(l:List Nat)(i:Nat)(h:i<l.length):l.take (i+1)=l.take i ++ [l.getD i 0]:=zcH l i 0 h
theorem zfq{l:List Nat}{i:Nat}(h:i<l.length):l.getD i 0 ∈ l:=by
 rw[zsE,zsF h];exact List.getElem_mem h
def zbU(G:Gm)(found:List Nat)(i:Nat):List Nat:=(found.take i).flatMap (ze0 G)
theorem ziq{G:Gm}{found:List Nat}{i:Nat}(h:i<found.length):zbU G found (i+1)=zbU G found i ++ ze0 G (found.getD i 0):=by
 unfold zbU;rw[zed _ _ h,List.flatMap_append];simp
theorem zhr{G:Gm}(hG:GOk G)(found:List Nat):∀ i,i<=found.length->(zbU G found i).length<=i * 262144
 | 0,_=>by simp[zbU]
 | i+1,h=>by
   rw[ziq (by omega),zsI];have:=zhr hG found i (by omega);have:=ziD hG (found.getD i 0);omega
theorem dcR_lt{P:List Nat}{m:Nat->Int}{q:Nat}(h:q ∈ dcR P m):q ∈ P:=by
 have:=(zf2 P m q).1 h;exact List.count_pos_iff.1 (by omega)
theorem zwE{n:Nat}(P:List Nat)(m:Nat->Int)(h:∀ q,q ∈ P->q<n):(dcR P m).length<=n:=by
 have hnd:=zfu P m;have:=List.Nodup.length_le_of_subset hnd (l₂:=List.range n) (λq hq=>List.mem_range.2 (h q (dcR_lt hq)));simpa using this
theorem ztM(P:List Nat)(m:Nat->Int)(q:Nat):dcM (P ++ [q]) m=upZ (dcM P m) q (dcM P m q - 1):=by rw[zis];rfl
theorem ztL(P:List Nat)(m:Nat->Int)(q:Nat):dcR (P ++ [q]) m=dcR P m ++ if dcM P m q - 1=0 then[q] else[]:=by rw[zir];simp[dcR]
structure RdI (M:Nat) (w:World) (mv:Value) (ml:List Int) (P:List Nat) (u:Value) (W:World):Prop where
 rd:W.ownsRow w.heap.size 3 1 u (zag (dcR P (atZ ml))).length (zao (zag (dcR P (atZ ml))))
 ms:∃ ml',ml'.length=ml.length/\atZ ml'=dcM P (atZ ml)/\W.ownsRow M 3 1 mv ml'.length (zao ml')
 fr:Fr (λk=>mv.ownBlock=some k) w W
theorem zli(G:Gm)(hG:GOk G)(ka pa ra qa:Option Addr)(kc pc rc qc gb ob ub:Nat)(M:Nat)(fa:Option Addr)(fc:Nat)(found:List Nat)(hfl:found.length<=2048)(hfr:∀ r,r ∈ found->r<G.rules.length)(mv:Value)(ml:List Int)(hml:ml.length=G.prods.length)(hmb:∀ q,-1048576<=atZ ml q/\atZ ml q<=1048576)
 (w:World) (hM:M<=w.heap.size) (hg:GrAt M w G ka kc pa pc ra rc qa qc gb ob ub) (hf:NRow w.heap.size w fa (zag found)) (hm:w.ownsRow M 3 1 mv ml.length (zao ml)) (hfm:∀ x,fa=some x->mv.ownBlock≠some x.block) :
 Calls Tryz.prog 198 #[.pointer (some ⟨gb,0,none⟩),.slice fa found.length fc,mv] w λe w'=>∃ v,e=.returned v/\RdI M w mv ml (found.flatMap (ze0 G)) v w':=by
 obtain⟨i3,hi3,hz30,hz31,hz32⟩:=zak zdL;obtain⟨ma,mc,hmv⟩:=zaf hm;have hps:=hG.ps;have hMO:∀ k,mv.ownBlock=some k->M<=k:=λk hk=>(hm.lt k hk).1;have hMw:∀ k,mv.ownBlock=some k->k<w.heap.size:=λk hk=>(hm.lt k hk).2
 have HK:Hid (∀ W,Fr (λk=>mv.ownBlock=some k) w W->GrAt M W G ka kc pa pc ra rc qa qc gb ob ub/\NRow W.heap.size W fa (zag found)):=zaa (λW hF=>by
  have hb:Below M w W:=zau hF hM hMO;refine⟨za0 hg hb,?_⟩;rcases hf with h | ⟨b,o,h1,h2,h3⟩
  ·exact .inl h
  ·exact .inr ⟨b,o,h1,by have:=hF.1;omega,λj hj=>(zsL (hF.2.1 b h2 (hfm _ h1))).trans (h3 j hj)⟩)
 have Hstart:Hid (RdI M w mv ml (zbU G found 0) (.slice none 0 0) w):=zaa ⟨World.ownsRow_nil _ _ _ _,⟨ml,rfl,rfl,hm⟩,zax _ _⟩;have Hmb:=zaa hmb;have Hfr:=zaa hfr;have Hml:=zaa hml;have hml4:ml.length<=4096:=by omega
 clear hg hf hfm hmb hfr hm hml;subst hmv;go_enter Tryz.func198,Tryz.ntmps198;go_wp2
 go_loopw [7,14] (λu x W=>∃ i:Nat,x=.int .i64 i/\i<=found.length/\RdI M w (.slice ma ml.length mc) ml (zbU G found i) u W) (λ_ x _=>found.length - (intOf x).toNat)
 case atStart=>exact⟨0,rfl,zsK _,uh Hstart⟩
 case round =>
  clear Hstart;obtain⟨i,rfl,hi,hR⟩:=hrel;obtain⟨hgr,hfn⟩:=uh HK wr hR.fr;obtain⟨ua,uc,rfl⟩:=zaf hR.rd;have HR:=zaa hR;by_cases hlt:i<found.length
  ·have hlt':(i:Int)<found.length:=by omega
   obtain⟨fb,fo,rfl,hfb,hcf⟩:=zbg hfn (k:=i) (by rw[zam];exact hlt);rw[zbS hlt] at hcf;have hrl:=uh Hfr _ (zfq hlt);have HPs:=zaa (ziq (G:=G) hlt);have hPl:=zhr hG found i hi;generalize found.getD i 0=r at *;have c6:wr.cell? ⟨gb,6,none⟩=some (.slice (some ⟨ub,0,none⟩) G.rules.length G.rules.length):=by unfold World.cell?;rw[hgr.box];rfl
   obtain⟨Ou,htu,-⟩:=hgr.uses;obtain⟨xa,xc,tcu,hxn⟩:=zoY htu hrl;rw[zeF] at tcu hxn;rw[zam] at tcu;have hul:=ziD hG r;have hux:∀ q,q ∈ ze0 G r->q<ml.length:=λq hq=>by rw[uh Hml];exact zgK hq
   have hPx:∀ q,q ∈ zbU G found i->q<ml.length:=λq hq=>by
    rw[uh Hml];unfold zbU at hq;obtain⟨s,-,hs⟩:=List.mem_flatMap.1 hq;exact zgK hs
   have HX:=zaa (And.intro hux hPx)
   -- the rule's row stays
   have HY:Hid (∀ W,Below M wr W->NRow W.heap.size W xa (zag (ze0 G r))):=zaa (λW hbW=>by
    have hF:Fr (λk=>M<=k) wr W:=⟨hbW.size,λk _ hk=>hbW.block k (by omega),hbW.os,hbW.tape,hbW.output⟩;obtain⟨Ou2,⟨V,hV⟩,hOu⟩:=hgr.uses;obtain⟨a1,c1,e1,e2,-,e3⟩:=za8 hV hrl;have hV2:=ze8 hV hF (λk hk hk2=>by have:=hOu k hk;omega);obtain⟨a2,c2,e4,e5,-,e6⟩:=za8 hV2 hrl;rw[e1] at e4;cases e4;rw[zeF,zam] at e2;rw[zeF] at e6;rw[tcu] at e2;cases e2
    exact e6)
   generalize ze0 G r=L at *;clear hgr hfn htu hux hPx;go_wp2
   go_loopw [7,26] (λu x W=>∃ j:Nat,x=.int .i64 j/\j<=L.length/\RdI M w (.slice ma ml.length mc) ml (zbU G found i ++ L.take j) u W/\Below M wr W) (λ_ x _=>L.length - (intOf x).toNat)
   case atStart=>exact⟨0,rfl,zsK _,by simpa using uh HR,zsY _ _⟩
   case round =>
    clear tcu c6 hcf HR;obtain⟨j,rfl,hj,hR,hFo⟩:=hrel;obtain⟨hrd,⟨ml',hl',hd',hms⟩,hFr⟩:=hR;obtain⟨va,vc,rfl⟩:=zaf hrd;have hxn2:=uh HY wr hFo;have hsz:=hFr.1;by_cases hjl:j<L.length
    ·have hjl':(j:Int)<L.length:=by omega
     obtain⟨xb,xo,rfl,hxb,hcx⟩:=zbg hxn2 (k:=j) (by rw[zam];exact hjl);rw[zbS hjl] at hcx;have hqm:=(uh HX).1 _ (zfq hjl);have HTs:=zaa (zed L j hjl);have hPm:∀ q,q ∈ zbU G found i ++ L.take j->q<ml.length:=λq hq=>(List.mem_append.1 hq).elim ((uh HX).2 q) (λh=>(uh HX).1 q (List.mem_of_mem_take h));have hrl2:=zwE (zbU G found i ++ L.take j) (atZ ml) hPm;have hPc:∀ q,(((zbU G found i ++ L.take j).count q:Nat):Int)<=2048 * 262144+262144:=λq=>by
      have h1:(zbU G found i ++ L.take j).count q<=(zbU G found i ++ L.take j).length:=List.count_le_length;rw[zsI,zsV] at h1;omega
     generalize hq:L.getD j 0=q at *;have hqv:ml'.getD q 0=atZ ml q - (((zbU G found i ++ L.take j).count q:Nat):Int):=by
      have h1:atZ ml' q=dcM (zbU G found i ++ L.take j) (atZ ml) q:=by rw[hd']
      rw[zm5] at h1;exact h1
     have hqb:=uh Hmb q;have hqc:=hPc q;have Hdm:=zaa (ztM (zbU G found i ++ L.take j) (atZ ml) q);have Hdr:=zaa (ztL (zbU G found i ++ L.take j) (atZ ml) q);have Hdq:Hid (dcM (zbU G found i ++ L.take j) (atZ ml) q=ml'.getD q 0):=zaa (by rw[<- hd'];rfl);have HPj:Hid (zbU G found i ++ L.take (j+1)=(zbU G found i ++ L.take j) ++ [q]):=zaa (by rw[uh HTs,List.append_assoc]);generalize zbU G found i ++ L.take j=P at *;obtain⟨mg,mc',hmv,hmgl,hcm,hfz⟩:=zmy hms (i:=q) (by omega);simp only[Value.slice.injEq] at hmv;obtain⟨rfl,-,rfl⟩:=hmv;rw[hl'] at hms;have hq0:q<ml'.length:=by omega
     have Hat:=zaa (λx=>zxg (l:=ml') (i:=q) (x:=x) hq0);generalize hx:ml'.getD q 0=x at *;have hwx:IntKind.i64.wrap (x - 1)=x - 1:=by rw[IntKind.wrap_i64];omega
     have hms1:=zpy hms q (x - 1);have hset:Fr (· = mg) wr (wr.setCell ⟨mg,q,none⟩ (.int .i64 (x - 1))):=zaE (zax _ _) (by rfl) _;have hmgw:mg<w.heap.size:=hMw mg rfl;have hrd1:=zvG hrd hset hmgw;have hF1:Fr (λk=>(Value.slice (some ⟨mg,0,none⟩) ml.length mc).ownBlock=some k) w (wr.setCell ⟨mg,q,none⟩ (.int .i64 (x - 1))):=zaE hFr (by rfl) _;have hmgM:M<=mg:=hMO mg rfl;have hF2:=hFo.setCell (p:=⟨mg,q,none⟩) hmgM (.int .i64 (x - 1));have hlset:(ml'.set q (x - 1)).length=ml.length:=by rw[List.length_set,hl']
     have c1:(wr.setCell ⟨mg,q,none⟩ (.int .i64 (x - 1))).cell? ⟨mg,q,none⟩=some (.int .i64 (x - 1)):=by
      have h2:=hms1;rw[<- hlset] at h2;obtain⟨mg2,mc2,e1,-,e2,-⟩:=zmy h2 (i:=q) (by omega);simp only[Value.slice.injEq,Option.some.injEq,Addr.mk.injEq] at e1;obtain⟨⟨rfl,-⟩,-,rfl⟩:=e1;rw[e2];simp[List.getD_eq_getElem?_getD,hq0]
     have hmlq:(q:Int)<ml.length:=by omega
     have Hnext:Hid (∀ (W':World) (u':Value),W'.ownsRow w.heap.size 3 1 u' (zag (dcR (P ++ [q]) (atZ ml))).length (zao (zag (dcR (P ++ [q]) (atZ ml))))->Below w.heap.size (wr.setCell ⟨mg,q,none⟩ (.int .i64 (x - 1))) W'->RdI M w (.slice (some ⟨mg,0,none⟩) ml.length mc) ml (P ++ [q]) u' W'/\Below M _ W'):=zaa (λW' u' ho hb=>by
      refine⟨⟨ho,⟨ml'.set q (x - 1),hlset,?_,?_⟩,?_⟩,?_⟩
      ·rw[uh Hat,uh Hdm,hd',uh Hdq]
      ·rw[hlset];obtain⟨e1,e2⟩:=hms1;refine⟨by rw[e1],?_⟩;rcases e2 with e2 | ⟨g',cap',cur',e3,e4,e5,rest⟩
       ·exact .inl e2
       ·have:g'=mg:=by cases e3;rfl
        subst this;exact .inr ⟨g',cap',cur',e3,e4,(hb.block g' hmgw).trans e5,rest⟩
      ·exact⟨zsy hF1.1 hb.size,λk hk ho=>(hb.block k hk).trans (hF1.2.1 k hk ho),hb.os.trans hF1.2.2.1,hb.tape.trans hF1.2.2.2.1,hb.output.trans hF1.2.2.2.2⟩
      ·exact hF2.trans (zab hb hM))
     have HT2:=zaa (And.intro hrd1 hF1);have hle1:=hF1.1;clear hms hms1 hrd hrd1 hF1 hF2 hFr hFo hset hxn2 hd' Hat Hdm HX HTs hPm hqv hqb hqc hPc hx;by_cases hz:x - 1=0
     ·have hzz:(x - 1 == 0)=true:=by simpa using hz
      have Hdr2:Hid (dcR (P ++ [q]) (atZ ml)=dcR P (atZ ml) ++ [q]):=zaa (by rw[uh Hdr,uh Hdq,if_pos hz]);clear hz;generalize hA:zag (dcR P (atZ ml))=A at *;have hAl:A.length<=ml.length:=by rw[<- hA,zam];exact hrl2
      go_wp2_with (at_builtin;refine wpList_append_own _ rfl _ _ 50 rfl w.heap.size 3 i3 (.int .i64 0) 1 8 Tryz.underlying50 hi3 hz30 hz31 hz32 rfl (by decide) _ _ _ rfl ((uh HT2).1.alloc _) ⟨wr.heap.size,0,none⟩ 1 1 [.int .i64 (q:Int)] rfl rfl ?zc1 ?zc2 ?zc3 ?zc4 ?zc5 ?_)
      case zc1=>intro j u hu;have h:=zpV (wr.setCell ⟨mg,q,none⟩ (.int .i64 (x - 1))) (.int .i64 (q:Int)) 3 j u hu;simpa using h
      case zc2=>intro u hu;simp at hu;rcases hu with rfl;rfl
      case zc3=>unfold maxLen;omega
      case zc4=>omega
      case zc5=>simp;omega
      intro v' W3 hown' hgrow _;have hb3:Below w.heap.size (wr.setCell ⟨mg,q,none⟩ (.int .i64 (x - 1))) W3:=((zsY _ _).alloc (by simp;omega) _).grown hgrow (by simp;omega) (λk hk=>((uh HT2).1.lt k hk).1)
      have HN:=zaa (uh Hnext W3 v' (by
       have e1:zag (dcR (P ++ [q]) (atZ ml))=A ++ [(q:Int)]:=by rw[uh Hdr2,<- hA];unfold zag;rw[List.map_append];rfl
       rw[e1,<- zaX,zsI];exact hown') hb3)
      clear hown' hgrow hb3;go_wp2;go_roundw
      case rel=>exact⟨j+1,by go_num,by omega,by rw[uh HPj];exact(uh HN).1,(uh HN).2⟩
      case measure=>simp[intOf];omega
     ·have hzz:(x - 1 == 0)=false:=by simpa using hz
      have Hdr2:Hid (dcR (P ++ [q]) (atZ ml)=dcR P (atZ ml)):=zaa (by rw[uh Hdr,uh Hdq,if_neg hz,List.append_nil]);clear hz;have HN:=zaa (uh Hnext _ _ (by rw[uh Hdr2];exact(uh HT2).1) (zsY _ _));go_wp2;go_roundw
      case rel=>exact⟨j+1,by go_num,by omega,by rw[uh HPj];exact(uh HN).1,(uh HN).2⟩
      case measure=>simp[intOf];omega
    ·obtain rfl:j=L.length:=by omega
     have e1:L.take L.length=L:=zsN;have hRx:RdI M w (.slice ma ml.length mc) ml (zbU G found (i+1)) (.slice va (zag (dcR (zbU G found i ++ L.take L.length) (atZ ml))).length vc) wr:=by
      rw[uh HPs];rw[e1] at hrd hd' ⊢;exact⟨hrd,⟨ml',hl',hd',hms⟩,hFr⟩
     have HRx:=zaa hRx;clear hrd hd' hms hFr hFo hxn2 hRx;go_wp2;go_roundw
     case rel=>exact⟨i+1,by go_num,by omega,uh HRx⟩
     case measure=>simp[intOf];omega
  ·obtain rfl:i=found.length:=by omega
   have hall:zbU G found found.length=found.flatMap (ze0 G):=by unfold zbU;rw[zsN]
   rw[hall] at HR hR ⊢;clear hgr hfn;go_wp2;go_ret;exact⟨_,rfl,uh HR⟩
structure TsV (B:Nat) (w:World) (vb:Nat) (wv:Value) (n mb lb ib:Nat) (ov mv:Value) (vs:List Value) (s:Ts):Prop where
 box:w.heap[vb]? = some (.cells #[wv,.int .i64 (s.count:Nat),.slice (some ⟨mb,0,none⟩) n n,.slice (some ⟨lb,0,none⟩) n n,ov,.slice (some ⟨ib,0,none⟩) n n,mv] 316 (0,0))
 met:w.rowIs mb 3 n (λr=>.int .i64 (s.met r:Nat))
 low:w.rowIs lb 3 n (λr=>.int .i64 (s.low r:Nat))
 isO:w.rowIs ib 4 n (λr=>.bool (s.isO r))
 opn:w.ownsRow B 3 1 ov s.opn.length (zao (zag s.opn))
 made:w.ownsRow B 50 1 mv s.made.length vs
 ring:∀ (i:Nat) (a:List Nat),s.made[i]? = some a->∃ (g c:Nat) (cs:Array Value),vs[i]? = some (.slice (some ⟨g,0,none⟩) a.length c)/\B<=g/\g≠mb/\g≠lb/\ov.ownBlock≠some g/\w.heap[g]? = some (.cells cs 3 (0,0))/\∀ j x:Nat,a[j]? = some x->cs[j]? = some (Value.int .i64 (x:Nat))
 ml:mb≠lb
 om:ov.ownBlock≠some mb
 ol:ov.ownBlock≠some lb
 b1:B<=vb
 b2:B<=mb
 b3:B<=lb
 b4:B<=ib
theorem zav{w:World}{a b t u:Nat}{cs ds:Array Value}{f g:Nat × Nat}(h:w.heap[a]? = some (.cells cs t f))(k:w.heap[b]? = some (.cells ds u g))(hn:t≠u):a≠b:=λe=>by
 subst e;rw[h] at k;simp only[Option.some.injEq,Obj.cells.injEq] at k;exact hn k.2.1
theorem zcI{w:World}{B e size n:Nat}{v:Value}{xs:List Value}(h:w.ownsRow B e size v n xs){k:Nat}(hk:v.ownBlock=some k):∃ cs,w.heap[k]? = some (.cells cs e (0,0)):=by
 rcases h.2 with ⟨rfl,_⟩ | ⟨g,cap,cur,rfl,_,hh,_⟩
 ·simp[Value.ownBlock] at hk
 ·simp only[Value.ownBlock,Option.some.injEq] at hk;subst hk;exact⟨_,hh⟩
theorem zaB{w:World}{b t n:Nat}{f:Nat->Value}(h:w.rowIs b t n f):∃ cs,w.heap[b]? = some (.cells cs t (0,0)):=by obtain⟨cs,h1,_⟩:=h;exact⟨cs,h1⟩
theorem zal(w:World){b o k:Nat}{v:Value}(h:k≠b):(w.setCell ⟨b,o,none⟩ v).heap[k]? = w.heap[k]?:=Below.heap_setCell w ⟨b,o,none⟩ v k h
theorem zgt{w w':World}{B e s n:Nat}{v:Value}{xs:List Value}(h:w.ownsRow B e s v n xs)(hb:Below w.heap.size w w'):w'.ownsRow B e s v n xs:=by
 refine⟨h.1,?_⟩;rcases h.2 with h1 | ⟨g,cap,cur,hv,hg,hh,rest⟩
 ·exact .inl h1
 ·exact .inr ⟨g,cap,cur,hv,hg,(hb.block g (zsO.1 hh).1).trans hh,rest⟩
section
variable {B:Nat} {w w':World} {vb:Nat} {wv:Value} {n mb lb ib:Nat} {ov mv:Value} {vs:List Value} {s:Ts}
theorem zaV(h:TsV B w vb wv n mb lb ib ov mv vs s)(hb:Below w.heap.size w w'):TsV B w' vb wv n mb lb ib ov mv vs s:=by
 have hl:∀ {k:Nat} {o:Obj},w.heap[k]? = some o->w'.heap[k]? = some o:=fun {k o} hk=>(hb.block k (zsO.1 hk).1).trans hk;refine⟨hl h.box,h.met.of_block (hb.block _ h.met.lt),h.low.of_block (hb.block _ h.low.lt),h.isO.of_block (hb.block _ h.isO.lt),zgt h.opn hb,zgt h.made hb,λi a ha=>?_,h.ml,h.om,h.ol,h.b1,h.b2,h.b3,h.b4⟩;obtain⟨g,c,cs,h1,h2,h3,h4,h5,h6,h7⟩:=h.ring i a ha;exact⟨g,c,cs,h1,h2,h3,h4,h5,hl h6,h7⟩
theorem zfc(h:TsV B w vb wv n mb lb ib ov mv vs s){b o:Nat}{v:Value}(hn:∀ g cs,w.heap[g]? = some (.cells cs 3 (0,0))->g≠mb->g≠lb->ov.ownBlock≠some g->g≠b)(i:Nat)(a:List Nat)(ha:s.made[i]? = some a):∃ (g c:Nat) (cs:Array Value),vs[i]? = some (.slice (some ⟨g,0,none⟩) a.length c)/\B<=g/\g≠mb/\g≠lb/\ov.ownBlock≠some g/\(w.setCell ⟨b,o,none⟩ v).heap[g]? = some (.cells cs 3 (0,0))/\∀ j x:Nat,a[j]? = some x->cs[j]? = some (Value.int .i64 (x:Nat)):=by
 obtain⟨g,c,cs,h1,h2,h3,h4,h5,h6,h7⟩:=h.ring i a ha;exact⟨g,c,cs,h1,h2,h3,h4,h5,(zal w (hn g cs h6 h3 h4 h5)).trans h6,h7⟩
theorem zbO{w:World}{B e s n:Nat}{v:Value}{xs:List Value}(h:w.ownsRow B e s v n xs){b o:Nat}{u:Value}(hn:v.ownBlock≠some b):(w.setCell ⟨b,o,none⟩ u).ownsRow B e s v n xs:=by
 refine⟨h.1,?_⟩;rcases h.2 with h1 | ⟨g,cap,cur,hv,hg,hh,rest⟩
 ·exact .inl h1
 ·exact .inr ⟨g,cap,cur,hv,hg,(zal w (λe=>hn (by rw[hv,<- e];rfl))).trans hh,rest⟩
theorem zaZ{w:World}{B e s n b t:Nat}{v:Value}{xs:List Value}{cs:Array Value}{f:Nat × Nat}(h:w.ownsRow B e s v n xs)(hb:w.heap[b]? = some (.cells cs t f))(hn:e≠t):v.ownBlock≠some b:=λhk=>by
 obtain⟨ds,hd⟩:=zcI h hk;exact zav hd hb hn rfl
theorem zve(h:TsV B w vb wv n mb lb ib ov mv vs s){i c:Nat}{u:Value}{s':Ts}(hc:i=1/\u=.int .i64 (c:Nat)/\s'={ s with count:=c }):TsV B (w.setCell ⟨vb,i,none⟩ u) vb wv n mb lb ib ov mv vs s':=by
 obtain⟨rfl,rfl,rfl⟩:=hc;obtain⟨m1,hm⟩:=zaB h.met;obtain⟨l1,hl⟩:=zaB h.low;obtain⟨i1,hi⟩:=zaB h.isO;refine⟨?_,h.met.of_block (zal w (zav hm h.box (by decide))),h.low.of_block (zal w (zav hl h.box (by decide))),h.isO.of_block (zal w (zav hi h.box (by decide))),zbO h.opn (zaZ h.opn h.box (by decide)),zbO h.made (zaZ h.made h.box (by decide)),zfc h (λg cs hg _ _ _=>zav hg h.box (by decide)),h.ml,h.om,h.ol,h.b1,h.b2,h.b3,h.b4⟩;have:=Wk.block_set (i:=1) h.box (.int .i64 (c:Nat));simpa using this
theorem zvc(h:TsV B w vb wv n mb lb ib ov mv vs s)(r v:Nat):TsV B (w.setCell ⟨mb,r,none⟩ (.int .i64 (v:Nat))) vb wv n mb lb ib ov mv vs { s with met:=upN s.met r v }:=by
 obtain⟨m1,hm⟩:=zaB h.met;obtain⟨l1,hl⟩:=zaB h.low;obtain⟨i1,hi⟩:=zaB h.isO;refine⟨(zal w (zav h.box hm (by decide))).trans h.box,(h.met.set r _).congr (λi _=>?_),h.low.of_block (zal w (λe=>h.ml e.symm)),h.isO.of_block (zal w (zav hi hm (by decide))),zbO h.opn h.om,zbO h.made (zaZ h.made hm (by decide)),zfc h (λg cs hg h1 _ _=>h1),h.ml,h.om,h.ol,h.b1,h.b2,h.b3,h.b4⟩;show (if i=r then _ else _)=Value.int .i64 ((upN s.met r v i:Nat):Int);unfold upN
 split <;> rfl
theorem zoR(h:TsV B w vb wv n mb lb ib ov mv vs s)(r v:Nat):TsV B (w.setCell ⟨lb,r,none⟩ (.int .i64 (v:Nat))) vb wv n mb lb ib ov mv vs { s with low:=upN s.low r v }:=by
 obtain⟨m1,hm⟩:=zaB h.met;obtain⟨l1,hl⟩:=zaB h.low;obtain⟨i1,hi⟩:=zaB h.isO;refine⟨(zal w (zav h.box hl (by decide))).trans h.box,h.met.of_block (zal w h.ml),(h.low.set r _).congr (λi _=>?_),h.isO.of_block (zal w (zav hi hl (by decide))),zbO h.opn h.ol,zbO h.made (zaZ h.made hl (by decide)),zfc h (λg cs hg _ h1 _=>h1),h.ml,h.om,h.ol,h.b1,h.b2,h.b3,h.b4⟩;show (if i=r then _ else _)=Value.int .i64 ((upN s.low r v i:Nat):Int);unfold upN
 split <;> rfl
theorem zoS(h:TsV B w vb wv n mb lb ib ov mv vs s)(r:Nat)(v:Bool):TsV B (w.setCell ⟨ib,r,none⟩ (.bool v)) vb wv n mb lb ib ov mv vs { s with isO:=upB s.isO r v }:=by
 obtain⟨m1,hm⟩:=zaB h.met;obtain⟨l1,hl⟩:=zaB h.low;obtain⟨i1,hi⟩:=zaB h.isO;refine⟨(zal w (zav h.box hi (by decide))).trans h.box,h.met.of_block (zal w (zav hm hi (by decide))),h.low.of_block (zal w (zav hl hi (by decide))),(h.isO.set r _).congr (λi _=>?_),zbO h.opn (zaZ h.opn hi (by decide)),zbO h.made (zaZ h.made hi (by decide)),zfc h (λg cs hg _ _ _=>zav hg hi (by decide)),h.ml,h.om,h.ol,h.b1,h.b2,h.b3,h.b4⟩;show (if i=r then _ else _)=Value.bool (upB s.isO r v i);unfold upB
 split <;> rfl
theorem zrZ(h:TsV B w vb wv n mb lb ib ov mv vs s){w1 w2:World}(hb:Below w.heap.size w w1){r g cap:Nat}(hg:w1.grownBy w2 ov.ownBlock)(ho:w2.ownsRow B 3 1 (.slice (some ⟨g,0,none⟩) (s.opn.length+1) cap) (s.opn.length+1) (zao (zag s.opn) ++ [.int .i64 (r:Nat)]))(hw:ov.ownBlock=some g\/w1.heap.size<=g) :
 TsV B (w2.setCell ⟨vb,4,none⟩ (.slice (some ⟨g,0,none⟩) (s.opn.length+1) cap)) vb wv n mb lb ib (.slice (some ⟨g,0,none⟩) (s.opn.length+1) cap) mv vs { s with opn:=s.opn ++ [r] }:=by
 have h1:=zaV h hb;have hk:∀ k,k<w1.heap.size->ov.ownBlock≠some k->w2.heap[k]? = w1.heap[k]?:=λk hk hne=>hg.block k hk (λe=>hne e.symm);have hl:∀ {k:Nat} {o:Obj},w1.heap[k]? = some o->ov.ownBlock≠some k->w2.heap[k]? = some o:=fun {k o} hk' hne=>(hk k (zsO.1 hk').1 hne).trans hk';obtain⟨m1,hm⟩:=zaB h1.met;obtain⟨l1,hlw⟩:=zaB h1.low;obtain⟨i1,hi⟩:=zaB h1.isO;have nb:=zaZ h1.opn h1.box (by decide);have ni:=zaZ h1.opn hi (by decide);have hbox:=hl h1.box nb;have hm2:=hl hm h1.om;have hl2:=hl hlw h1.ol;have hi2:=hl hi ni;have hgn:∀ k,k<w1.heap.size->ov.ownBlock≠some k->g≠k:=λk hk' hne e=>by
  subst e;rcases hw with hw | hw
  ·exact hne hw
  ·omega
 have lt1:∀ {k:Nat} {o:Obj},w1.heap[k]? = some o->k<w1.heap.size:=λhk'=>(zsO.1 hk').1;refine⟨?_,(h1.met.of_block (hk _ (lt1 hm) h1.om)).of_block (zal w2 (zav hm2 hbox (by decide))),(h1.low.of_block (hk _ (lt1 hlw) h1.ol)).of_block (zal w2 (zav hl2 hbox (by decide))),(h1.isO.of_block (hk _ (lt1 hi) ni)).of_block (zal w2 (zav hi2 hbox (by decide))),?_,?_,λi a ha=>?_,h.ml,?_,?_,h.b1,h.b2,h.b3,h.b4⟩
 ·have:=Wk.block_set (i:=4) hbox (.slice (some ⟨g,0,none⟩) (s.opn.length+1) cap);simpa using this
 ·have e1:(s.opn ++ [r]).length=s.opn.length+1:=by simp
  have e2:zao (zag (s.opn ++ [r]))=zao (zag s.opn) ++ [.int .i64 (r:Nat)]:=by simp[zao,zag]
  show (w2.setCell _ _).ownsRow B 3 1 _ (s.opn ++ [r]).length (zao (zag (s.opn ++ [r])));rw[e1,e2];refine zbO ho ?_;obtain⟨cs,hcs⟩:=zcI ho rfl;intro e;simp only[Value.ownBlock,Option.some.injEq] at e;exact zav hcs hbox (by decide) e
 ·have hmd:mv.ownBlock≠ov.ownBlock\/mv.ownBlock=none:=by
   cases hmv:mv.ownBlock with
   | none=>exact .inr rfl
   | some k =>
     left;intro e;obtain⟨c1,d1⟩:=zcI h1.made hmv;obtain⟨c2,d2⟩:=zcI h1.opn e.symm;exact zav d1 d2 (by decide) rfl
  have hm3:w2.ownsRow B 50 1 mv s.made.length vs:=h1.made.kept hg (hmd.elim .inr .inl);exact zbO hm3 (zaZ hm3 hbox (by decide))
 ·obtain⟨q,c,cs,h3,h4,h5,h6,h7,h8,h9⟩:=h1.ring i a ha;have h10:=hl h8 h7;exact⟨q,c,cs,h3,h4,h5,h6,λe=>hgn q (lt1 h8) h7 (by simpa [Value.ownBlock] using e),(zal w2 (zav h10 hbox (by decide))).trans h10,h9⟩
 ·intro e;exact hgn mb (lt1 hm) h1.om (by simpa [Value.ownBlock] using e)
 ·intro e;exact hgn lb (lt1 hlw) h1.ol (by simpa [Value.ownBlock] using e)
theorem zvd(h:TsV B w vb wv n mb lb ib ov mv vs s){g c p:Nat}(hv:ov=.slice (some ⟨g,0,none⟩) s.opn.length c)(hp:p<=s.opn.length):TsV B (w.setCell ⟨vb,4,none⟩ (.slice (some ⟨g,0,none⟩) p c)) vb wv n mb lb ib (.slice (some ⟨g,0,none⟩) p c) mv vs { s with opn:=s.opn.take p }:=by
 subst hv;obtain⟨m1,hm⟩:=zaB h.met;obtain⟨l1,hl⟩:=zaB h.low;obtain⟨i1,hi⟩:=zaB h.isO;have hob:=zaZ h.opn h.box (by decide);refine⟨?_,h.met.of_block (zal w (zav hm h.box (by decide))),h.low.of_block (zal w (zav hl h.box (by decide))),h.isO.of_block (zal w (zav hi h.box (by decide))),?_,zbO h.made (zaZ h.made h.box (by decide)),zfc h (λg cs hg _ _ _=>zav hg h.box (by decide)),h.ml,h.om,h.ol,h.b1,h.b2,h.b3,h.b4⟩
 ·have:=Wk.block_set (i:=4) h.box (.slice (some ⟨g,0,none⟩) p c);simpa using this
 ·have e1:(s.opn.take p).length=p:=by rw[zsV];omega
  show (w.setCell _ _).ownsRow B 3 1 _ (s.opn.take p).length (zao (zag (s.opn.take p)));rw[e1];refine zbO (v:=.slice (some ⟨g,0,none⟩) p c) ⟨?_,.inr ?_⟩ hob
  ·rw[zbj,zam,e1];omega
  ·rcases h.opn.2 with ⟨h1,-⟩ | ⟨g',cap',cur,hv',hb',hh,h2,h3,h4,h5⟩
   ·cases h1
   ·cases hv'
    refine⟨g,c,cur,rfl,hb',hh,by omega,h3,h4,?_⟩;have:zao (zag (s.opn.take p))=(zao (zag s.opn)).take p:=by simp[zao,zag,List.map_take]
    rw[this,<- h5,List.take_take]
    congr 1
    omega
theorem zr0(h:TsV B w vb wv n mb lb ib ov mv vs s){q qc:Nat}{cs:Array Value}{a:List Nat}(hq:w.heap[q]? = some (.cells cs 3 (0,0)))(hqb:B<=q)(q1:q≠mb)(q2:q≠lb)(q3:ov.ownBlock≠some q)(hc:∀ j x:Nat,a[j]? = some x->cs[j]? = some (Value.int .i64 (x:Nat)))
 {w1 w2:World} (hb:Below w.heap.size w w1) {mv':Value} (hg:w1.grownBy w2 mv.ownBlock) (ho:w2.ownsRow B 50 1 mv' (s.made.length+1) (vs ++ [.slice (some ⟨q,0,none⟩) a.length qc])) :
 TsV B (w2.setCell ⟨vb,6,none⟩ mv') vb wv n mb lb ib ov mv' (vs ++ [.slice (some ⟨q,0,none⟩) a.length qc]) { s with made:=s.made ++ [a] }:=by
 have h1:=zaV h hb;have hvl:vs.length=s.made.length:=by have:=h.made.1;omega
 have hl:∀ {k t:Nat} {c:Array Value},w1.heap[k]? = some (.cells c t (0,0))->t≠50->w2.heap[k]? = some (.cells c t (0,0)):=fun {k t c} hk' hne=>(hg.block k (zsO.1 hk').1 (λe=>by
  obtain⟨c1,d1⟩:=zcI h1.made e.symm
  exact zav hk' d1 hne rfl)).trans hk'
 have hq1:w1.heap[q]? = some (.cells cs 3 (0,0)):=(hb.block q (zsO.1 hq).1).trans hq;obtain⟨m1,hm⟩:=zaB h1.met;obtain⟨l1,hlw⟩:=zaB h1.low;obtain⟨i1,hi⟩:=zaB h1.isO;have hbox:=hl h1.box (by decide);have hm2:=hl hm (by decide);have hl2:=hl hlw (by decide);have hi2:=hl hi (by decide);have hop:w2.ownsRow B 3 1 ov s.opn.length (zao (zag s.opn)):=by
  refine h1.opn.kept hg ?_
  cases hov:ov.ownBlock with
  | none=>exact .inl rfl
  | some k =>
    right;intro e;obtain⟨c1,d1⟩:=zcI h1.opn hov;obtain⟨c2,d2⟩:=zcI h1.made e.symm;exact zav d1 d2 (by decide) rfl
 refine⟨?_,(h1.met.of_block (hm2.trans hm.symm)).of_block (zal w2 (zav hm2 hbox (by decide))),(h1.low.of_block (hl2.trans hlw.symm)).of_block (zal w2 (zav hl2 hbox (by decide))),(h1.isO.of_block (hi2.trans hi.symm)).of_block (zal w2 (zav hi2 hbox (by decide))),zbO hop (zaZ hop hbox (by decide)),?_,λi b hib=>?_,h.ml,h.om,h.ol,h.b1,h.b2,h.b3,h.b4⟩
 ·have:=Wk.block_set (i:=6) hbox mv';simpa using this
 ·have e1:(s.made ++ [a]).length=s.made.length+1:=by simp
  show (w2.setCell _ _).ownsRow B 50 1 _ (s.made ++ [a]).length _;rw[e1];exact zbO ho (zaZ ho hbox (by decide))
 ·have hib:(s.made ++ [a])[i]? = some b:=hib;by_cases hlt:i<s.made.length
  ·rw[List.getElem?_append_left hlt] at hib;obtain⟨g,c,ds,h3,h4,h5,h6,h7,h8,h9⟩:=h1.ring i b hib;have h10:=hl h8 (by decide);exact⟨g,c,ds,by rw[List.getElem?_append_left (by omega)];exact h3,h4,h5,h6,h7,(zal w2 (zav h10 hbox (by decide))).trans h10,h9⟩
  ·have hi3:i=s.made.length:=by
    have:=(zsP.1 hib).1;simp at this;omega
   subst hi3;simp at hib;subst hib;have h10:=hl hq1 (by decide);exact⟨q,qc,cs,by rw[<- hvl];simp,hqb,q1,q2,q3,(zal w2 (zav h10 hbox (by decide))).trans h10,hc⟩
end
open Go.Maps
theorem zkp:Keyed Tryz.prog 3:=int_keyed Tryz.underlying3
abbrev ki(i:Nat):Lit:=.int .i64 i
def zeD(w:World)(b n:Nat)(S:Nat->Bool):Prop:=∃ D:DataW Unit,w.ownsMap Tryz.prog 3 unitElem b n D/\∀ i:Nat,Maps.has D (ki i)=S i
theorem zu0(w:World):(zeroValue 280).run Tryz.prog w=.ok (.agg #[]) w:=by kernel_rfl
theorem zhz(gb nr:Nat)(ra:Option Addr)(rc:Nat)(hnr:nr<=2048)(w:World)(hgb:gb<w.heap.size)(c2:w.cell? ⟨gb,2,none⟩=some (.slice ra nr rc)) :
 Calls Tryz.prog 153 #[.pointer (some ⟨gb,0,none⟩)] w λe w'=>∃ b,e=.returned (.map (some b))/\zeD w' b nr (λi=>decide (i<nr))/\w.heap.size<=b/\b<w'.heap.size/\Below w.heap.size w w':=by
 have hmm:=@run_makeMap Tryz.prog;go_enter Tryz.func153,Tryz.ntmps153;go_wp2
 go_loopw [12] (λx W=>∃ (k:Nat) (D:DataW Unit),x=.int .i64 k/\k<=nr/\W.ownsMap Tryz.prog 3 unitElem w.heap.size k D/\(∀ i:Nat,Maps.has D (ki i)=decide (i<k))/\Below w.heap.size w W) (λx _=>nr - (intOf x).toNat)
 case atStart=>exact⟨0,.map [],rfl,zsK _,World.ownsMap_made _ _ _ _,λi=>(by simp[Maps.has]),(zsY _ _).alloc (zsG _) _⟩
 case round =>
  obtain⟨k,D,rfl,hk,hown,hkt,hb⟩:=hrel;by_cases hlt:k<nr
  ·have hlt':(k:Int)<nr:=by omega
   have hwf:(Lit.int .i64 (k:Int)).wf=true:=WalkArith.wf_i64 (by omega)
   have Hkt:Hid (∀ i:Nat,Maps.has (D.put (ki k) (.agg [])) (ki i)=decide (i<k+1)):=zaa (λi=>by
    by_cases e:i=k
    ·subst e;rw[has_put_same hown.isMap (show WideAt.IsKeyLit (ki i) from trivial)];simp
    ·rw[has_put_other (λe'=>by simp at e';omega),hkt i,decide_eq_decide];omega)
   clear hkt;go_wp2_with (first | (at_mapUpdate;refine wpList_mapUpdate_own _ rfl _ _ _ 226 rfl 3 280 zkp Tryz.underlying226 _ w.heap.size k D rfl hown (by unfold maxLen;omega) _ _ (ki k) rfl rfl (keyOf_int_mk Tryz.underlying3 hwf) _ [] unitElem_mk ?_;intro w1 hown1 hgrow1;go_frame) | go_in);go_roundw
   case rel=>exact⟨k+1,_,by go_num,by omega,hown1,uh Hkt,hb.grown hgrow1 hb.size (λj hj=>by cases hj;exact zsG _)⟩
   case measure=>simp[intOf];omega
  ·obtain rfl:k=nr:=by omega
   have hlt2:=hown.lt;go_wp2;go_ret;exact⟨w.heap.size,rfl,⟨D,hown,hkt⟩,zsG _,hlt2,hb⟩
theorem ziI(b n r:Nat)(S:Nat->Bool)(hr:r<=1048576)(w:World)(h:zeD w b n S) :
 Calls Tryz.prog 154 #[.map (some b),.int .i64 (r:Int)] w λe w'=>e=.returned (.bool (S r))/\zeD w' b n (λi=>if i=r then false else S i)/\Fr (· = b) w w':=by
 obtain⟨D,hown,hS⟩:=h;have hwf:(Lit.int .i64 (r:Int)).wf=true:=WalkArith.wf_i64 (by omega);have hkey:=keyOf_int_mk Tryz.underlying3 hwf;have hS2:∀ i:Nat,Maps.has (D.del (ki r)) (ki i)=if i=r then false else S i:=λi=>by
  by_cases e:i=r
  ·subst e;rw[has_del_same,if_pos rfl]
  ·rw[has_del_other (λe'=>by simp at e';omega),if_neg e,hS i]
 have hSr:=hS r;have HS2:=zaa hS2;generalize S r=R at *;clear hS hS2;have hbl:=hown.lt
 have HOwn:Hid (∀ W,Below w.heap.size w W->W.ownsMap Tryz.prog 3 unitElem b n D):=zaa (λW hb=>by
  obtain⟨es,c,hh,rr⟩:=hown
  exact⟨es,c,(hb.block b hbl).trans hh,rr⟩)
 clear hown;go_enter Tryz.func154,Tryz.ntmps154;go_wp2_with (first | (at_lookup;refine wpList_lookup_own_unit _ rfl _ _ 226 rfl 3 280 zkp Tryz.underlying226 (zu0 _) b n D rfl (uh HOwn _ (by first | exact zsY _ _ | exact(zsY _ _).alloc (zsG _) _)) _ _ rfl hkey ?_) | (at_delete;refine wpList_delete_own _ rfl _ _ 226 3 rfl 280 zkp Tryz.underlying226 _ b n D rfl (uh HOwn _ (by first | exact zsY _ _ | exact(zsY _ _).alloc (zsG _) _)) _ _ rfl hkey ?_;intro w1 hown1 hturn1;go_frame) | go_in);go_ret;have hg:=hturn1.grown;refine⟨rfl,⟨_,hown1,uh HS2⟩,?_⟩;have hb1:Below w.heap.size w (w.alloc (.cells #[] 280)):=(zsY _ _).alloc (zsG _) _;exact⟨by have:=hg.size;have:=hb1.size;omega,λk hk ho=>(hg.block k (by have:=hb1.size;omega) (λe=>ho (by cases e;rfl))).trans (hb1.block k hk),hg.os.trans hb1.os,hg.tape.trans hb1.tape,hg.output.trans hb1.output⟩
end Go.Proofs.YtieciibnajeibaaGreatDoor
namespace Go.Proofs.YtieciibnajeibaaGreatDoor
open Go.RowKit
variable{B B' k:Nat}{G:Gm}{a:Option Addr}{ls:List (List It)}{w:World}
theorem zfO{l:List Int}(h:NRow B w a l)(hB:B<=B'):NRow B' w a l:=by
 rcases h with h | ⟨b,off,h1,h2,h3⟩
 ·exact .inl h
 ·exact .inr ⟨b,off,h1,by omega,h3⟩
theorem zeC{gb:Nat}(h:GmB B w gb G)(hB:B<=w.heap.size):GmB w.heap.size w gb G:=by
 obtain⟨ka,kc,pa,pc,ra,rc,qa,qc,wa,wc,hlt,hbox,hin,hw,hwc⟩:=h;exact⟨ka,kc,pa,pc,ra,rc,qa,qc,wa,wc,by omega,hbox,zlL hin hB,zfO hw hB,hwc⟩
def zez(B:Nat)(w:World)(a:Option Addr)(ls:List (List It)):Prop :=
 ls=[]\/∃ b off,a=some ⟨b,off,none⟩/\b<B/\∀ j,j<ls.length->∃ ia ic,w.cell? ⟨b,off+j,none⟩=some (.slice ia (ls.getD j []).length ic)/\zcE B w ia (ls.getD j [])/\(ls.getD j []).length<=281474976710656
theorem za3{w':World}(hb:Below B w w')(h:zez B w a ls):zez B w' a ls:=by
 rcases h with rfl | ⟨b,off,rfl,hlt,hc⟩
 ·exact .inl rfl
 ·refine .inr ⟨b,off,rfl,hlt,λj hj=>?_⟩;obtain⟨ia,ic,h1,h2,h3⟩:=hc j hj;exact⟨ia,ic,(hb.cell hlt).trans h1,zaw hb h2,h3⟩
theorem zaD{l:List It}(h:zcE B w a l)(hB:B<=B'):zcE B' w a l:=by
 rcases h with h | ⟨b,off,h1,h2,h3⟩
 ·exact .inl h
 ·exact .inr ⟨b,off,h1,by omega,h3⟩
theorem zb1(h:zez B w a ls)(hB:B<=B'):zez B' w a ls:=by
 rcases h with rfl | ⟨b,off,rfl,hlt,hc⟩
 ·exact .inl rfl
 ·refine .inr ⟨b,off,rfl,by omega,λj hj=>?_⟩;obtain⟨ia,ic,h1,h2,h3⟩:=hc j hj;exact⟨ia,ic,h1,zaD h2 hB,h3⟩
theorem zb6(h:zez B w a ls)(hk:k<ls.length):∃ b off ia ic,a=some ⟨b,off,none⟩/\b<B/\w.cell? ⟨b,off+k,none⟩=some (.slice ia (ls.getD k []).length ic)/\zcE B w ia (ls.getD k [])/\(ls.getD k []).length<=281474976710656:=by
 rcases h with rfl | ⟨b,off,h1,h2,h3⟩
 ·simp at hk
 ·obtain⟨ia,ic,g1,g2,g3⟩:=h3 k hk;exact⟨b,off,ia,ic,h1,h2,g1,g2,g3⟩
def zdJ(G:Gm)(ls:List (List It)):Bool:=ls.all (zck G)
theorem areItL_iff:zdJ G ls=true↔∀ l,l ∈ ls->zck G l=true:=List.all_eq_true
theorem zp0{l:List (List It)}{i:Nat}(h:i<l.length):l.getD i [] ∈ l:=by
 rw[zsE,zsF h];exact List.getElem_mem h
def zjE(G:Gm)(ls:List (List It))(w:World)(e:Ending)(w':World):Prop :=
 Below w.heap.size w w'/\((za1 G=false/\e=.returned (.tuple #[.pointer none,.int .i64 130]))\/(za1 G=true/\zdJ G ls=false/\e=.returned (.tuple #[.pointer none,.int .i64 140])) \/
  (za1 G=true/\zdJ G ls=true/\∃ gb,e=.returned (.tuple #[.pointer (some ⟨gb,0,none⟩),.int .i64 0])/\w.heap.size<=gb/\GmB w'.heap.size w' gb G))
theorem zem(G:Gm)(ka pa ra qa:Option Addr)(kc pc rc qc:Nat)(la:Option Addr)(lc:Nat)(ls:List (List It))(hl:ls.length<=281474976710656)(w:World)(hin:GIn w.heap.size w G ka pa ra qa)(hsm:smG G)(hi:zez w.heap.size w la ls) :
 Calls Tryz.prog 32 #[gV G ka pa ra qa kc pc rc qc,.slice la ls.length lc] w λe w'=>zjE G ls w e w':=by
 have hb1:Below w.heap.size w (w.alloc (.cells #[.slice ka G.kinds.length kc,.slice pa G.precs.length pc,.slice ra G.rules.length rc,.slice qa G.prods.length qc,.int .i64 G.start] 26)):=(zsY _ _).alloc (zsG _) _;have hst:=zeT (kc:=kc) (pc:=pc) (rc:=rc) (qc:=qc) (zsG _) hin 26;have hs1:(w.alloc (.cells #[.slice ka G.kinds.length kc,.slice pa G.precs.length pc,.slice ra G.rules.length rc,.slice qa G.prods.length qc,.int .i64 G.start] 26)).heap.size=w.heap.size+1:=by simp
 have HC:=zaa (zwW G ka pa ra qa kc pc rc qc _ (zbY hin hb1) hsm);have Hin:=zaa (zbY hin hb1);have Hi0:=zaa hi;have Hb1:=zaa hb1;have Hst:=zaa hst;unfold zrc at HC;clear hb1 hst hin hi;unfold gV at HC ⊢
 cases hc:za1 G with
 | false =>
   rw[hc] at HC;simp only[Bool.false_eq_true,if_false] at HC;have Hc:=zaa hc;clear hc;go_enter Tryz.func32,Tryz.ntmps32;go_wp2_with fail;refine(uh HC).mono ?_;rintro e w2 ⟨rfl,hb2⟩;have Hb2:=zaa ((uh Hb1).trans (zab hb2 (uh Hb1).size));clear hb2;go_wp2;refine bodyPost_ret (v:=.tuple #[.pointer none,.int .i64 130]) ?zz9 rfl ⟨uh Hb2,.inl ⟨uh Hc,rfl⟩⟩
   case zz9=>simp[results,Tryz.results32,go_sem]
 | true =>
   have hG:=zbi hc;have hk3:=hG.k3;have hr2:=hG.r2;have hs0:=hG.s0;have hs1':=hG.s1;unfold Gm.nk at hk3;unfold Gm.nr at hr2 hs1';have hwrap:IntKind.i64.wrap ((G.kinds.length:Int)+G.start)=(G.kinds.length:Int)+G.start:=by rw[IntKind.wrap_i64];omega
   rw[hc] at HC;simp only[if_true] at HC;have Hc:=zaa hc;obtain⟨R,hR⟩:∃ R,R=zdJ G ls:=⟨_,rfl⟩;have HR:=zaa hR;clear hc hR;go_enter Tryz.func32,Tryz.ntmps32;go_wp2_with fail;refine(uh HC).mono ?_;rintro e w2 ⟨rfl,hb2⟩;have hst2:=zb8 (zab hb2 (by rw[hs1];exact zsG _)) (zsG _) (uh Hst);have g0:=hst2.c0;have g1:=hst2.c1;have g2:=hst2.c2;have g3:=hst2.c3;have g4:=hst2.c4;clear hst2;have Hin2:=zaa (zbY (uh Hin) hb2);have Hb2:=zaa ((uh Hb1).trans (zab hb2 (uh Hb1).size));clear hb2 HC
   have Hg3:Hid (∀ W3,W3=(w2.alloc (.cells #[.int .i64 ((G.kinds.length:Int)+G.start)] 3)).alloc (.cells #[.slice ka G.kinds.length kc,.slice pa G.precs.length pc,.slice ra G.rules.length rc,.slice qa G.prods.length qc,.int .i64 G.start,.slice (some ⟨w2.heap.size,0,none⟩) 1 1] 101)->GmB W3.heap.size W3 (w2.heap.size+1) G/\Below w2.heap.size w2 W3/\W3.heap.size=w2.heap.size+2):=zaa (λW3 hW=>by
    have e0:=zsH w2 (.cells #[.int .i64 ((G.kinds.length:Int)+G.start)] 3);have e1:=zsH (w2.alloc (.cells #[.int .i64 ((G.kinds.length:Int)+G.start)] 3)) (.cells #[.slice ka G.kinds.length kc,.slice pa G.precs.length pc,.slice ra G.rules.length rc,.slice qa G.prods.length qc,.int .i64 G.start,.slice (some ⟨w2.heap.size,0,none⟩) 1 1] 101);have hb:Below w2.heap.size w2 W3:=by rw[hW];exact((zsY _ _).alloc (zsG _) _).alloc (by simp) _
    have hs:W3.heap.size=w2.heap.size+2:=by rw[hW];simp
    have h1:(w2.alloc (.cells #[.int .i64 ((G.kinds.length:Int)+G.start)] 3)).heap.size=w2.heap.size+1:=by simp
    rw[h1] at e1;refine⟨⟨ka,kc,pa,pc,ra,rc,qa,qc,some ⟨w2.heap.size,0,none⟩,1,by omega,by rw[hW];exact e1,zbY (uh Hin2) hb,.inr ⟨w2.heap.size,0,rfl,by omega,λj hj=>?_⟩,zsG _⟩,hb,hs⟩;have hj0:j=0:=by simp at hj;omega
    subst hj0;have e2:W3.heap[w2.heap.size]? = some (.cells #[.int .i64 ((G.kinds.length:Int)+G.start)] 3 (0,0)):=by
     rw[hW];exact(zsZ _ _ _ (by simp)).trans e0
    exact zac e2 0 rfl)
   go_wp2_with fail;obtain⟨W3,hW3⟩:∃ W3,W3=(w2.alloc (.cells #[.int .i64 ((G.kinds.length:Int)+G.start)] 3)).alloc (.cells #[.slice ka G.kinds.length kc,.slice pa G.precs.length pc,.slice ra G.rules.length rc,.slice qa G.prods.length qc,.int .i64 G.start,.slice (some ⟨w2.heap.size,0,none⟩) 1 1] 101):=⟨_,rfl⟩;rw[<- hW3];obtain⟨hgm,hbw,hsz3⟩:=uh Hg3 W3 hW3;have Hb3:=zaa ((uh Hb2).trans (zab hbw (uh Hb2).size));have Hi3:Hid (zez W3.heap.size W3 la ls):=zaa (zb1 (za3 (uh Hb3) (uh Hi0)) (uh Hb3).size);have Hgm:=zaa hgm;clear hgm hbw hW3 Hg3
   go_loopw [27] (λx wr=>∃ k:Nat,x=.int .i64 k/\k<=ls.length/\(∀ j,j<k->zck G (ls.getD j [])=true)/\Below W3.heap.size W3 wr) (λx _=>ls.length - (intOf x).toNat)
   case atStart=>exact⟨0,rfl,zsK _,λj hj=>absurd hj (Nat.not_lt_zero _),zsY _ _⟩
   case round =>
    obtain⟨k,rfl,hk,hall,hb⟩:=hrel;have hsz:=hb.size;have Hall:=zaa hall;have Hb:=zaa hb;clear hall hb;by_cases hlt:k<ls.length
    ·have hlt':(k:Int)<ls.length:=by omega
     obtain⟨b,off,ia,ic,rfl,hbl,q0,hrow,hlen⟩:=zb6 (za3 (uh Hb) (uh Hi3)) hlt;have HI:=zaa (zfo wr.heap.size (w2.heap.size+1) G hG ia ic (ls.getD k []) hlen wr (zsG _) (zeC (zbQ (uh Hgm) (zsG _) (uh Hb)) hsz) (zaD hrow hsz));clear hrow
     cases hx:zck G (ls.getD k []) with
     | false =>
       have hv:zdJ G ls=false:=by
        rw[Bool.eq_false_iff];intro h;rw[areItL_iff.1 h _ (zp0 hlt)] at hx
        cases hx
       obtain rfl:R=false:=(uh HR).trans hv;rw[hx] at HI;clear hv hx;generalize ls.getD k []=x at *;go_wp2_with fail;refine(uh HI).mono ?_;rintro e w4 ⟨rfl,hb4⟩;have Hb4:=zaa ((uh Hb3).trans (zab ((uh Hb).trans (zab hb4 hsz)) (uh Hb3).size));clear hb4;go_wp2;refine bodyPost_ret (v:=.tuple #[.pointer none,.int .i64 140]) ?zz9 rfl ⟨uh Hb4,.inr (.inl ⟨uh Hc,(uh HR).symm,rfl⟩)⟩
       case zz9=>simp[results,Tryz.results32,go_sem]
     | true =>
       have Ha2:Hid (∀ j,j<k+1->zck G (ls.getD j [])=true):=zaa (λj hj=>by
        by_cases e:j=k
        ·rw[e];exact hx
        ·exact uh Hall j (by omega))
       rw[hx] at HI;clear hx;generalize ls.getD k []=x at *;go_wp2_with fail;refine(uh HI).mono ?_;rintro e w4 ⟨rfl,hb4⟩;have Hb4:=zaa ((uh Hb).trans (zab hb4 hsz));clear hb4;go_wp2;go_roundw
       case rel=>exact⟨k+1,by go_num,by omega,uh Ha2,uh Hb4⟩
       case measure=>simp[intOf];omega
    ·have hlt':¬ (k:Int)<ls.length:=by omega
     have hv:zdJ G ls=true:=areItL_iff.2 (λx hx=>by
      obtain⟨j,hj,rfl⟩:=zsT.1 hx;have:=uh Hall j (by omega);rw[zsE,zsF hj] at this
      exact this)
     obtain rfl:R=true:=(uh HR).trans hv;clear hv;have Hgm4:Hid (GmB wr.heap.size wr (w2.heap.size+1) G):=zaa (zeC (zbQ (uh Hgm) (zsG _) (uh Hb)) hsz);have Hb4:=zaa ((uh Hb3).trans (zab (uh Hb) (uh Hb3).size));have hz2:=(uh Hb2).size;go_wp2;refine bodyPost_ret (v:=.tuple #[.pointer (some ⟨w2.heap.size+1,0,none⟩),.int .i64 0]) ?zz8 rfl ⟨uh Hb4,.inr (.inr ⟨uh Hc,(uh HR).symm,_,rfl,by omega,uh Hgm4⟩)⟩
     case zz8=>simp[results,Tryz.results32,go_sem]
open Go.Lib
def zjF(n:Nat)(nxs:List (List Int)):Prop:=0<n/\nxs.length=n/\∀ j,j<nxs.length->(nxs.getD j []).length=(nxs.getD 0 []).length/\∀ x,x ∈ nxs.getD j []->-1<=x/\x<n
theorem ztx(F:Nat)(cap:Array Value)(f:Int->Bool)(hcf:∀ args W,Sem.run Tryz.prog (callFunc F args) W=.ok (.enter F args) W)(a:Option Addr)(c:Nat)(l:List Int)(hl:l.length<=281474976710656)(w:World)(hrow:NRow w.heap.size w a l)
 (hF:∀ x,x ∈ l->Calls Tryz.prog F (#[.int .i64 x] ++ cap) w λe W'=>e=.returned (.bool (f x))/\W'=w) :
 Calls Tryz.prog 137 #[.slice a l.length c,.func (.func F) #[] cap] w λe w'=>∃ i:Int,e=.returned (.int .i64 i)/\(0<=i↔∃ x,x ∈ l/\f x=true)/\w'=w:=by
 have Hrow:=zaa hrow;have HF:=zaa hF;clear hrow hF;go_enter Tryz.func137,Tryz.ntmps137;go_wp2
 go_loopw [8] (λx W=>∃ k:Nat,x=.int .i64 k/\k<=l.length/\(∀ y,y ∈ l.take k->f y=false)/\W=w) (λx _=>l.length - (intOf x).toNat)
 case atStart=>exact⟨0,rfl,zsK _,by simp,rfl⟩
 case round =>
  obtain⟨k,rfl,hk,hno,rfl⟩:=hrel;by_cases hlt:k<l.length
  ·have hlt':(k:Int)<l.length:=by omega
   obtain⟨b,off,rfl,hbl,hc⟩:=zbg (uh Hrow) hlt;have hm:l.getD k 0 ∈ l:=by rw[zsE,zsF hlt];exact List.getElem_mem hlt
   have HC:=zaa (uh HF _ hm);have e1:l.take (k+1)=l.take k ++ [l.getD k 0]:=by rw[zsU,zsE,zsF hlt];rfl
   generalize l.getD k 0=y at *;have Hno:=zaa hno;clear hno;go_wp2_with fail;refine(uh HC).mono ?_;rintro e w2 ⟨rfl,rfl⟩
   cases hf:f y with
   | true =>
     go_wp2;go_ret;exact⟨k,rfl,⟨λ_=>⟨y,hm,hf⟩,λ_=>by omega⟩,rfl⟩
   | false =>
     go_wp2;go_roundw
     case rel=>exact⟨k+1,by go_num,by omega,λz hz=>by
      rw[e1] at hz;rcases List.mem_append.1 hz with h | h
      ·exact uh Hno z h
      ·simp at h;subst h;exact hf,trivial⟩
     case measure=>simp[intOf];omega
  ·obtain rfl:k=l.length:=by omega
   rw[List.take_of_length_le (zsG _)] at hno;have Hno:=zaa hno;clear hno;go_wp2;go_ret;exact⟨-1,rfl,⟨λh=>by omega,fun⟨x,h1,h2⟩=>by rw[uh Hno x h1] at h2;cases h2⟩,rfl⟩
theorem ztS(F:Nat)(cap:Array Value)(f:Int->Bool)(hcf:∀ args W,Sem.run Tryz.prog (callFunc F args) W=.ok (.enter F args) W)(a:Option Addr)(c:Nat)(l:List Int)(hl:l.length<=281474976710656)(w:World)(hrow:NRow w.heap.size w a l)
 (hF:∀ x,x ∈ l->Calls Tryz.prog F (#[.int .i64 x] ++ cap) w λe W'=>e=.returned (.bool (f x))/\W'=w) :
 Calls Tryz.prog 90 #[.slice a l.length c,.func (.func F) #[] cap] w λe w'=>e=.returned (.bool (l.any f))/\w'=w:=by
 have HI:=zaa (ztx F cap f hcf a c l hl w hrow hF);clear hF hrow;go_enter Tryz.func90,Tryz.ntmps90;go_wp2_with fail;refine(uh HI).mono ?_;rintro e w2 ⟨i,rfl,hi,rfl⟩;have e1:(decide (0<=i))=l.any f:=by rw[Bool.eq_iff_iff,decide_eq_true_eq,hi,List.any_eq_true]
 have E1:=zaa e1;clear hi e1;go_wp2;go_ret;exact⟨by rw[<- uh E1];rfl,rfl⟩
theorem zdd{ll:List (List Int)}(h:zeb w a ll)(hk:k<ll.length):∃ b off,a=some ⟨b,off,none⟩/\b<w.heap.size/\∃ ra rc,w.cell? ⟨b,off+k,none⟩=some (.slice ra (ll.getD k []).length rc)/\NRow w.heap.size w ra (ll.getD k []):=by
 rcases h with rfl | ⟨b,off,h1,h2,h3⟩
 ·simp at hk
 ·exact⟨b,off,h1,h2,h3 k hk⟩
theorem zw4:∀ args W,Sem.run Tryz.prog (callFunc 91 args) W=.ok (.enter 91 args) W:=λ_ _=>by simp[callFunc,Tryz.func91,Tryz.f91,go_sem,Result.andThen]
theorem zq9(ab n sc m nc:Nat)(sa na:Option Addr)(w:World)(hx:w.heap[ab]? = some (.cells #[.slice sa n sc,.slice na m nc] 45 (0,0)))(t:Int) :
 Calls Tryz.prog 91 (#[.int .i64 t] ++ #[.pointer (some ⟨ab,0,none⟩)]) w λe w'=>e=.returned (.bool (decide (t < -1\/(n:Int)<=t)))/\w'=w:=by
 have c0:=zac hx 0 rfl;show Calls Tryz.prog 91 #[.int .i64 t,.pointer (some ⟨ab,0,none⟩)] w _;by_cases h1:t < -1
 ·have hd:decide (t < -1\/(n:Int)<=t)=true:=decide_eq_true (.inl h1);rw[hd];go_enter Tryz.func91,Tryz.ntmps91;go_wp2;go_ret;exact⟨rfl,rfl⟩
 ·by_cases h2:(n:Int)<=t
  ·have hd:decide (t < -1\/(n:Int)<=t)=true:=decide_eq_true (.inr h2);rw[hd];go_enter Tryz.func91,Tryz.ntmps91;go_wp2;go_ret;exact⟨rfl,rfl⟩
  ·have hd:decide (t < -1\/(n:Int)<=t)=false:=decide_eq_false (by omega);rw[hd];go_enter Tryz.func91,Tryz.ntmps91;go_wp2;go_ret;exact⟨rfl,rfl⟩
def RowP(n len0:Nat)(r:List Int):Prop:=r.length=len0/\∀ x,x ∈ r->-1<=x/\x<n
theorem zxh{n:Nat}{r:List Int}:(r.any λt=>decide (t < -1\/(n:Int)<=t))=false↔∀ x,x ∈ r->-1<=x/\x<n:=by
 rw[List.any_eq_false];constructor
 ·intro h x hx;have:=h x hx;rw[decide_eq_true_eq] at this;omega
 ·intro h x hx;have:=h x hx;rw[decide_eq_true_eq];omega
theorem zhN(sa na:Option Addr)(n sc nc:Nat)(nxs:List (List Int))(hn:n<=281474976710656)(hl:∀ j,j<nxs.length->(nxs.getD j []).length<=281474976710656)(hl2:nxs.length<=281474976710656)(w:World)(h:zeb w na nxs) :
 Calls Tryz.prog 54 #[.agg #[.slice sa n sc,.slice na nxs.length nc]] w λe w'=>(∃ r:Bool,e=.returned (.bool r)/\(r=true↔zjF n nxs))/\Below w.heap.size w w':=by
 have H:=zaa h;clear h;by_cases h0:n=0
 ·subst h0;have Hf:=zaa (show ¬ zjF 0 nxs from λh=>by have:=h.1;omega);go_enter Tryz.func54,Tryz.ntmps54;go_wp2_with fail;refine bodyPost_ret (v:=.bool false) ?zz1 rfl ⟨⟨false,rfl,⟨(λh=>absurd h (by decide)),λh=>absurd h (uh Hf)⟩⟩,(zsY _ _).alloc (zsG _) _⟩
  case zz1=>simp[results,Tryz.results54,go_sem]
 ·have h0I:(((n:Nat):Int) == 0)=false:=by simpa using h0
  by_cases h1:nxs.length=n
  ·subst h1;have h1I:(((nxs.length:Nat):Int) != (nxs.length:Int))=false:=by simp
   go_enter Tryz.func54,Tryz.ntmps54;go_wp2_with fail;obtain⟨W1,hW1⟩:∃ W1,W1=w.alloc (.cells #[.slice sa nxs.length sc,.slice na nxs.length nc] 45):=⟨_,rfl⟩;have hb1:Below w.heap.size w W1:=by rw[hW1];exact(zsY _ _).alloc (zsG _) _
   have hx1:W1.heap[w.heap.size]? = some (.cells #[.slice sa nxs.length sc,.slice na nxs.length nc] 45 (0,0)):=by rw[hW1];exact zsH _ _
   have hs1:=hb1.size;have hlt1:=(zsO.1 hx1).1;rw[<- hW1];have H1:=zaa (zbD (uh H) hb1);have Hb1:=zaa hb1;have Hx1:=zaa hx1;have H0:=zaa h0;clear hW1 hb1 hx1 h0
   go_loopw [21] (λx wr=>∃ k:Nat,x=.int .i64 (k:Int)/\k<=nxs.length/\(∀ j,j<k->RowP nxs.length (nxs.getD 0 []).length (nxs.getD j []))/\Below W1.heap.size W1 wr) (λx _=>nxs.length - (intOf x).toNat)
   case atStart=>exact⟨0,rfl,zsK _,λj hj=>absurd hj (Nat.not_lt_zero _),zsY _ _⟩
   case round =>
    obtain⟨k,rfl,hk,hok,hb⟩:=hrel;have hsz:=hb.size;have Hok:=zaa hok;have Hb:=zaa hb;clear hok hb;by_cases hlt:k<nxs.length
    ·have hlt':(k:Int)<(nxs.length:Int):=by omega
     have h00:(0:Int)<(nxs.length:Int):=by omega
     have hrow:=zbD (uh H1) (uh Hb);obtain⟨b,off,rfl,hbl,ra,rc,q0,hr0⟩:=zdd hrow hlt;obtain⟨b2,off2,e2,-,ra2,rc2,q1,-⟩:=zdd hrow (k:=0) (by omega);obtain⟨rfl,rfl⟩:b=b2/\off=off2:=by simpa using e2
     have hxw:=(uh Hb).block _ hlt1 |>.trans (uh Hx1)
     have y0:=zac hxw 0 rfl;have y1:=zac hxw 1 rfl
     have Hnx:Hid (RowP nxs.length (nxs.getD 0 []).length (nxs.getD k [])->∀ j,j<k+1->RowP nxs.length (nxs.getD 0 []).length (nxs.getD j [])):=zaa (λh9 j hj=>by
      by_cases e:j=k
      ·rw[e];exact h9
      ·exact uh Hok j (by omega))
     have Hno:Hid (¬ RowP nxs.length (nxs.getD 0 []).length (nxs.getD k [])->¬ zjF nxs.length nxs):=zaa (λh9 hr=>h9 (hr.2.2 k hlt));have hlk:=hl k hlt;have HCF:Hid (∀ W:World,Below wr.heap.size wr W->Calls Tryz.prog 90 #[.slice ra (nxs.getD k []).length rc,.func (.func 91) #[] #[.pointer (some ⟨w.heap.size,0,none⟩)]] W λe w'=>e=.returned (.bool ((nxs.getD k []).any λt=>decide (t < -1\/(nxs.length:Int)<=t)))/\w'=W):=zaa (λW hW=>ztS 91 #[.pointer (some ⟨w.heap.size,0,none⟩)] _ zw4 ra rc (nxs.getD k []) hlk W (zg2 hr0 hW) (λx hx=>zq9 w.heap.size nxs.length sc nxs.length nc sa _ W ((hW.block _ (by omega)).trans hxw) x));have HRow:=zaa hrow;have Hr0:=zaa hr0;have Hxw:=zaa hxw;clear hrow hr0 hxw H Hok;unfold RowP at Hnx Hno;generalize nxs.getD k []=r at *;generalize (nxs.getD 0 []).length=m at *;by_cases hm:r.length=m
     ·subst hm;have hmI:(((r.length:Nat):Int) != (r.length:Int))=false:=by simp
      have Hany:=zaa (@zxh nxs.length r);generalize hv:(r.any λt=>decide (t < -1\/(nxs.length:Int)<=t))=v at *;clear hv;have q1':wr.cell? ⟨b,off,none⟩=some (.slice ra2 r.length rc2):=q1;have HC1:=zaa (uh HCF _ (zsY _ _))
      cases v with
      | false =>
        have Hf:=zaa (uh Hnx ⟨rfl,(uh Hany).1 rfl⟩);clear Hnx Hno Hany HCF;go_wp2_with fail;refine(uh HC1).mono ?_;rintro e W2 ⟨rfl,rfl⟩;go_wp2;go_roundw
        case rel=>exact⟨k+1,by go_num,by omega,uh Hf,uh Hb⟩
        case measure=>simp[intOf];omega
      | true =>
        have Hf:=zaa (uh Hno (λh=>by have:=(uh Hany).2 h.2;cases this));have Hbw:=zaa ((uh Hb1).trans (zab (uh Hb) hs1));clear Hnx Hno Hany HCF;go_wp2_with fail;refine(uh HC1).mono ?_;rintro e W2 ⟨rfl,rfl⟩;go_wp2;refine bodyPost_ret (v:=.bool false) ?zz6 rfl ⟨⟨false,rfl,⟨(λh=>absurd h (by decide)),λh=>absurd h (uh Hf)⟩⟩,uh Hbw⟩
        case zz6=>simp[results,Tryz.results54,go_sem]
     ·have hmI:(((r.length:Nat):Int) != (m:Int))=true:=by simp;omega
      have Hf:=zaa (uh Hno (λh=>hm h.1));have q1':wr.cell? ⟨b,off,none⟩=some (.slice ra2 m rc2):=q1;have Hbw:=zaa ((uh Hb1).trans (zab (uh Hb) hs1));clear Hnx Hno HCF;go_wp2_with fail;refine bodyPost_ret (v:=.bool false) ?zz5 rfl ⟨.inl ⟨rfl,uh Hf⟩,uh Hbw⟩
      case zz5=>simp[results,Tryz.results54,go_sem]
    ·have hlt':¬ (k:Int)<(nxs.length:Int):=by omega
     obtain rfl:k=nxs.length:=by omega
     have Hf:Hid (zjF nxs.length nxs):=zaa ⟨by have:=uh H0;omega,rfl,λj hj=>uh Hok j hj⟩;have Hbw:=zaa ((uh Hb1).trans (zab (uh Hb) hs1));go_wp2;refine bodyPost_ret (v:=.bool true) ?zz2 rfl ⟨.inr ⟨rfl,uh Hf⟩,uh Hbw⟩
     case zz2=>simp[results,Tryz.results54,go_sem]
  ·have h1I:(((nxs.length:Nat):Int) != (n:Int))=true:=by simp;omega
   have Hf:=zaa (show ¬ zjF n nxs from λh=>h1 h.2.1);go_enter Tryz.func54,Tryz.ntmps54;go_wp2_with fail;refine bodyPost_ret (v:=.bool false) ?zz1 rfl ⟨⟨false,rfl,⟨(λh=>absurd h (by decide)),λh=>absurd h (uh Hf)⟩⟩,(zsY _ _).alloc (zsG _) _⟩
   case zz1=>simp[results,Tryz.results54,go_sem]
theorem znE(sa na:Option Addr)(n sc nc:Nat)(nxs:List (List Int))(hHv:zjF n nxs)(hn:n<=281474976710656)(hl:∀ j,j<nxs.length->(nxs.getD j []).length<=281474976710656)(w:World)(h:zeb w na nxs) :
 Calls Tryz.prog 31 #[.agg #[.slice sa n sc,.slice na nxs.length nc]] w λe w'=>e=.returned (.bool true)/\Below w.heap.size w w':=by
 obtain⟨h0,h1,h2⟩:=hHv;subst h1;obtain⟨W1,hW1⟩:∃ W1,W1=w.alloc (.cells #[.slice sa nxs.length sc,.slice na nxs.length nc] 45):=⟨_,rfl⟩;have hb1:Below w.heap.size w W1:=by rw[hW1];exact(zsY _ _).alloc (zsG _) _
 have hx1:W1.heap[w.heap.size]? = some (.cells #[.slice sa nxs.length sc,.slice na nxs.length nc] 45 (0,0)):=by rw[hW1];exact zsH _ _
 have hs1:=hb1.size;have hlt1:=(zsO.1 hx1).1;have H1:=zaa (zbD h hb1);have Hb1:=zaa hb1;have Hx1:=zaa hx1;have H2:=zaa h2;have Hw1:=zaa hW1;have h0I:(((nxs.length:Nat):Int) == 0)=false:=by rw[beq_eq_false_iff_ne];omega
 have hneI:(((nxs.length:Nat):Int) != (nxs.length:Int))=false:=by simp
 clear hb1 hx1 h2 h hW1;go_enter Tryz.func31,Tryz.ntmps31;go_wp2_with fail;rw[<- uh Hw1]
 go_loopw [3] (λx wr=>∃ k:Nat,x=.int .i64 (k:Int)/\k<=nxs.length/\Below W1.heap.size W1 wr) (λx _=>nxs.length - (intOf x).toNat)
 case atStart=>exact⟨0,rfl,zsK _,zsY _ _⟩
 case round =>
  obtain⟨k,rfl,hk,hb⟩:=hrel;have hsz:=hb.size;have Hb:=zaa hb;have hxw:=(hb.block _ hlt1).trans (uh Hx1);have y0:=zac hxw 0 rfl;have y1:=zac hxw 1 rfl;by_cases hlt:k<nxs.length
  ·have hlt':(k:Int)<(nxs.length:Int):=by omega
   obtain⟨b,off,rfl,hbl,ra,rc,q0,hr0⟩:=zdd (zbD (uh H1) hb) hlt;have hlk:=hl k hlt;have Hr2:=zaa (uh H2 k hlt).2;obtain⟨w5,hw5⟩:∃ w5,w5=wr:=⟨_,rfl⟩;subst hw5;have Hr0:=zaa hr0;have Hq0:=zaa q0;have Hxw:=zaa hxw;have hl5:=(zsO.1 hxw).1;clear hb hr0 hxw;generalize nxs.getD k []=r at *;go_wp2_with fail;clear y0 y1 q0
   go_loopw [4] (λx wr=>∃ q:Nat,x=.int .i64 (q:Int)/\q<=r.length/\Below w5.heap.size w5 wr) (λx _=>r.length - (intOf x).toNat)
   case atStart=>exact⟨0,rfl,zsK _,zsY _ _⟩
   case round =>
    obtain⟨q,rfl,hq,hb6⟩:=hrel;have hx6:=(hb6.block _ hl5).trans (uh Hxw);have y0:=zac hx6 0 rfl;have y1:=zac hx6 1 rfl;have q6:=(hb6.cell (p:=⟨b,off+k,none⟩) hbl).trans (uh Hq0);have Hb6:=zaa hb6;by_cases hql:q<r.length
    ·have hqI:(q:Int)<(r.length:Int):=by omega
     obtain⟨rb,roff,rfl,hrb,p0⟩:∃ b off,ra=some ⟨b,off,none⟩/\b<w5.heap.size/\w5.cell? ⟨b,off+q,none⟩=some (.int .i64 (r.getD q 0)):=by
      rcases uh Hr0 with h9 | ⟨b,off,h9,h8,h7⟩
      ·rw[h9] at hql;simp at hql
      ·exact⟨b,off,h9,h8,h7 q hql⟩
     have p6:=(hb6.cell (p:=⟨rb,roff+q,none⟩) hrb).trans p0;have hv:=uh Hr2 (r.getD q 0) (by rw[zsE,zsF hql];exact List.getElem_mem hql);clear hx6 hb6 p0;generalize r.getD q 0=t at *;have hv1:¬ t < -1:=by omega
     have hv2:¬ (nxs.length:Int)<=t:=by omega
     go_wp2_with fail;go_quiet (fail);go_wp2;go_roundw
     case rel=>exact⟨q+1,by go_num,by omega,zaq (uh Hb6) _⟩
     case measure=>simp[intOf];omega
    ·have hqI:¬ (q:Int)<(r.length:Int):=by omega
     have Hb7:=zaa ((uh Hb).trans (zab hb6 hsz));clear hx6 hb6;go_wp2;go_roundw
     case rel=>exact⟨k+1,by go_num,by omega,uh Hb7⟩
     case measure=>simp[intOf];omega
  ·have hlt':¬ (k:Int)<(nxs.length:Int):=by omega
   have Hbf:=zaa ((uh Hb1).trans (zab hb hs1));clear hb hxw;go_wp2;refine bodyPost_ret (v:=.bool true) ?zz1 rfl ⟨rfl,uh Hbf⟩
   case zz1=>simp[results,Tryz.results31,go_sem]
end Go.Proofs.YtieciibnajeibaaGreatDoor

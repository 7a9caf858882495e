import Derived.Test.YtieciibnajeibaaGreatDoorJR
set_option maxHeartbeats 8000000
set_option maxRecDepth 100000
namespace Go.Proofs.YtieciibnajeibaaGreatDoor
open Go.RowKit Go.Maps
def ClW(R:Nat->Prop)(B0 B cb gb tb sb mb lb:Nat)(G:Gm)(P:Nat->Bool)(A:Nat->Nat)(w:World)(M':Nat->Nat->Bool)(H':Nat->Bool)(wr:World):Prop :=
 ∃ (R':Nat->Prop) (P':Nat->Bool) (A':Nat->Nat) (OO':Nat->Nat->Prop) (LO':Nat->Prop) (n':Nat),ClS R' B cb gb tb sb mb lb G P' A' OO' LO' n' M' H' (zeo G (ctW M') G.prods.length) wr/\StF B0 sb mb P' OO' LO'/\(∀ k,R k->R' k)/\(∀ k,R' k->R k\/w.heap.size<=k)/\(∀ q,P q=true->P' q=true/\A' q=A q)/\Fr (λk=>k=tb\/B0<=k) w wr
variable{A:Nat->Nat}{B B0 cb gb lb mb n r sb tb:Nat}{G:Gm}{H P S:Nat->Bool}{LO R:Nat->Prop}{M:Nat->Nat->Bool}{OO:Nat->Nat->Prop}{e:Ending}{o:Option Nat}{w w':World}
theorem zm1(h:ClS R B cb gb tb sb mb lb G P A OO LO n M H (zeo G (ctW M) G.prods.length) w)(hf:StF B0 sb mb P OO LO):ClW R B0 B cb gb tb sb mb lb G P A w M H w :=
 ⟨R,P,A,OO,LO,n,h,hf,λ_ h=>h,λ_ h=>.inl h,λ_ h=>⟨h,rfl⟩,zax _ _⟩
theorem zkA{R1:Nat->Prop}{P1:Nat->Bool}{A1:Nat->Nat}{wr:World}{M2:Nat->Nat->Bool}{H2:Nat->Bool}(h1:∀ k,R k->R1 k)(h2:∀ k,R1 k->R k\/w.heap.size<=k)(h3:∀ q,P q=true->P1 q=true/\A1 q=A q)(h4:Fr (λk=>k=tb\/B0<=k) w wr)
 (h:ClW R1 B0 B cb gb tb sb mb lb G P1 A1 wr M2 H2 w'):ClW R B0 B cb gb tb sb mb lb G P A w M2 H2 w':=by
 obtain⟨R',P',A',OO',LO',n',g1,g2,g3,g4,g5,g6⟩:=h;refine⟨R',P',A',OO',LO',n',g1,g2,λk hk=>g3 k (h1 k hk),λk hk=>?_,λq hq=>?_,zcK h4 g6⟩
 ·rcases g4 k hk with h9 | h9
  ·exact h2 k h9
  ·exact .inr (zsy h4.1 h9)
 ·obtain⟨e1,e2⟩:=h3 q hq;obtain⟨e3,e4⟩:=g5 q e1;exact⟨e3,e4.trans e2⟩
theorem zkd(h:zhu R B0 B cb gb tb sb mb lb G P A M H w o S e w'):e=.returned (.tuple #[])/\∃ (M':Nat->Nat->Bool) (H':Nat->Bool),ClW R B0 B cb gb tb sb mb lb G P A w M' H' w' /\
 match (generalizing:=false) o with
 | none=>M'=M/\H'=H
 | some r=>M'=zce M r S/\(∀ q,q≠r->H' q=H q)/\((H' r=true/\∃ k,S k=true/\M r k=false)\/(H' r=H r/\∀ k,S k=true->M r k=true)):=by
 obtain⟨rfl,hF,R',P',A',OO',LO',n',M',H',h1,h2,h3,h4,h5,h6⟩:=h;refine⟨rfl,M',H',⟨R',P',A',OO',LO',n',h1,h2,h3,h4,h5,zaj hF (λk _ h=>h.imp id (λh=>h.1))⟩,?_⟩
 cases o with
 | none=>exact h6
 | some r=>exact⟨h6.1,h6.2.2.1,h6.2.2.2⟩
theorem zp9(h:zhu R B0 B cb gb tb sb mb lb G P A M H w o S e w')(ht:¬ R tb):Fr (λk=>¬ R k) w w' :=
 zaj h.2.1 (λ_ _ h=>h.elim (λe=>e▸ht) (λh=>h.2))
theorem hF_pop(H:Nat->Bool)(r:Nat):upH (hF H) r none=hF (λq=>if q=r then false else H q):=by
 funext j;unfold upH hF;by_cases e:j=r
 ·simp[e]
 ·simp[e]
theorem zwQ{cnt:Nat}(h:ClS R B cb gb tb sb mb lb G P A OO LO n M H cnt w)(hf:Fr LO w w')(hl:zor w' lb LO (upH (hF H) r none)):ClS R B cb gb tb sb mb lb G P A OO LO n M (λq=>if q=r then false else H q) cnt w':=by
 have hbl:=(zsO.1 h.box).1;have hml:=zc7 h.mp;have hfR:Fr (λk=>¬ R k) w w':=zaj hf (λk _ ho hR=>(h.lo k ho).1 hR);exact⟨(hf.2.1 sb hbl (λho=>(h.lo _ ho).2.1 rfl)).trans h.box,zbb h.cl hfR,zbC h.rt (zaj hf (λk _ ho=>⟨(h.lo k ho).1,(h.lo k ho).2.2.1⟩)),λk hR=>zsJ (h.rl k hR) hf.1,zdJ h.mp (hf.2.1 mb hml (λho=>(h.lo _ ho).2.2.2 rfl)),h.nle,λq hq=>zaz (h.set q hq) hf (λk hk ho=>(h.out q hq k hk).2 ho),h.non,h.out,h.ap,by rw[<- hF_pop];exact hl,h.lo,h.nR,h.pn⟩
def zdn(G:Gm)(r:Nat):List Nat:=(List.range G.prods.length).filter λp=>decide ((G.prods.getD p pd0).left=(r:Int))
theorem zux(G:Gm)(r:Nat):zfA G r=(zdn G r).map λ(p:Nat)=>(p:Int):=rfl
theorem ze9(G:Gm)(r:Nat):(zfA G r).length=(zdn G r).length:=by rw[zux,List.length_map]
theorem zjW{j:Nat}(h:j<(zdn G r).length):(zfA G r).getD j 0=(((zdn G r).getD j 0:Nat):Int):=by
 rw[zux,zsE,List.getElem?_map,zsE,zsF h];rfl
theorem ownNk_mem{p:Nat}:p ∈ zdn G r↔p<G.prods.length/\(G.prods.getD p pd0).left=(r:Int):=by
 unfold zdn;rw[List.mem_filter,List.mem_range,decide_eq_true_eq]
theorem zgF(l:List Nat)(i:Nat)(h:i<l.length):l.take (i+1)=l.take i ++ [l.getD i 0]:=by
 rw[zsU,zsF h,zsE,zsF h];rfl
theorem zj8{l:List Nat}{i:Nat}(h:i<l.length):l.getD i 0 ∈ l:=by
 rw[zsE,zsF h];exact List.getElem_mem h
def zrH(R:Nat->Prop)(B0 B cb gb tb sb mb lb:Nat)(G:Gm)(P:Nat->Bool)(A:Nat->Nat)(l:List It)(w:World)(e:Ending)(w':World):Prop :=
 ∃ (M':Nat->Nat->Bool) (H':Nat->Bool),ClW R B0 B cb gb tb sb mb lb G P A w M' H' w'/\ClI G l l.length M' H' /\
  ((e=.returned (.bool true)/\(∀ r,H' r=false)/\zeo G (ctW M') G.prods.length<=65536)\/(e=.returned (.bool false)/\65536<zeo G (ctW M') G.prods.length))
theorem zoi(R R0:Nat->Prop)(B0 B cb gb tb sb mb lb:Nat)(G:Gm)(hG:GOk G)(P:Nat->Bool)(A:Nat->Nat)(OO:Nat->Nat->Prop)(LO:Nat->Prop)(n:Nat)(M:Nat->Nat->Bool)(H:Nat->Bool)(w:World)(hB0:B0<=w.heap.size)
 (h:ClS R B cb gb tb sb mb lb G P A OO LO n M H (zeo G (ctW M) G.prods.length) w) (hf:StF B0 sb mb P OO LO) (hc0:ClB R0 B w cb gb tb G) (hR0:∀ k,R0 k->k<B0/\k≠tb) (l:List It) (hl:∀ x,x ∈ l->zcv G x=true) (hI:ClI G l l.length M H) :
 Calls Tryz.prog 68 #[.pointer (some ⟨sb,0,none⟩)] w λe w'=>zrH R B0 B cb gb tb sb mb lb G P A l w e w':=by
 have Hw:=zaa (zm1 h hf);have HI:=zaa hI
 have HHR:Hid (∀ W:World,Fr (λk=>k=tb\/B0<=k) w W->Fr (λk=>¬ R0 k) w W):=zaa (λW hf=>zaj hf (λk _ ho hR=>by
  have:=hR0 k hR
  omega))
 obtain⟨na,nc,fa,fc,oa,oc,rc,hcbx,hR0c,-,-,-,-,-,hOw⟩:=hc0;have HOw:=zaa hOw;have hcc:=zac hcbx 3 rfl;have Hcc:=zaa hcc;clear h hf hI hOw hcc hcbx;go_enter Tryz.func68,Tryz.ntmps68;go_wp2_with fail
 go_loopg [] (muC G M H) (λk wr=>∃ (M1:Nat->Nat->Bool) (H1:Nat->Bool),ClW R B0 B cb gb tb sb mb lb G P A w M1 H1 wr/\ClI G l l.length M1 H1/\muC G M1 H1=k)
 case atStart=>exact⟨M,H,uh Hw,uh HI,rfl⟩
 case round =>
  obtain⟨M1,H1,hw,hi,rfl⟩:=hrel;obtain⟨R1,P1,A1,OO1,LO1,n1,h1,hf1,hRR,hR1,hPA,hFr⟩:=hw;have hM1:∀ q k,M1 q k=true->k<G.nk:=λq k hk=>zlJ (hi.snd q k hk);have s0:=zac h1.box 0 rfl;have s1:=zac h1.box 1 rfl;have s2:=zac h1.box 2 rfl;have s3:=zac h1.box 3 rfl;obtain⟨c1,hc1⟩:∃ c,c=zeo G (ctW M1) G.prods.length:=⟨_,rfl⟩;rw[<- hc1] at s3 h1;have Hc1:=zaa hc1;have Hi:=zaa hi;have Hh1:=zaa h1;have Hf1:=zaa hf1;have HRR:=zaa hRR;have HR1:=zaa hR1;have HPA:=zaa hPA;have HFr:=zaa hFr;have HM1:=zaa hM1;have HPop:=zaa (pop_h lb LO1 (hF H1) wr h1.ls);clear hc1 hi h1 hf1 hRR hR1 hPA hFr hM1;by_cases hc:(c1:Int)<=65536
  case neg =>
   go_wp2_with fail;go_ret;exact⟨M1,H1,⟨R1,P1,A1,OO1,LO1,n1,by rw[<- uh Hc1];exact uh Hh1,uh Hf1,uh HRR,uh HR1,uh HPA,uh HFr⟩,uh Hi,.inr ⟨rfl,by rw[<- uh Hc1];omega⟩⟩
  case pos =>
   go_wp2_with fail;refine(uh HPop).mono ?_;rintro e W2 (⟨hno,rfl,hw2⟩ | ⟨r,v,hr,-,rfl,hf2,hl2⟩)
   ·subst hw2
    have Hno:Hid (∀ r,H1 r=false):=zaa (λr=>by
     have:=hno r;unfold hF at this
     cases h9:H1 r with
     | false=>rfl
     | true=>rw[h9] at this;cases this)
    clear hno;go_wp2;go_ret;exact⟨M1,H1,⟨R1,P1,A1,OO1,LO1,n1,by rw[<- uh Hc1];exact uh Hh1,uh Hf1,uh HRR,uh HR1,uh HPA,uh HFr⟩,uh Hi,.inl ⟨rfl,uh Hno,by rw[<- uh Hc1];omega⟩⟩
   ·have hHr:H1 r=true:=by
     unfold hF at hr
     cases h9:H1 r with
     | true=>rfl
     | false=>rw[h9] at hr;simp at hr
    obtain⟨k1,hk1⟩:=(uh Hi).some r hHr;have hrn:r<G.nr:=dm_r hG hl ((uh Hi).snd r k1 hk1);have hr48:r<=1048576:=by have:=hG.r2;omega
    have hPr:P1 r=true:=by
     cases h9:P1 r with
     | true=>rfl
     | false=>have:=(uh Hh1).non r h9 k1;rw[this] at hk1;cases hk1
    have h2:=zwQ (uh Hh1) hf2 hl2;have hFr2:Fr (λk=>k=tb\/B0<=k) w W2:=zcK (uh HFr) (zaj hf2 (λk _ ho=>.inr ((uh Hf1).lo k ho)));have hmu:muC G M1 (λq=>if q=r then false else H1 q)<muC G M1 H1:=mu_pop hrn hHr (if_pos rfl) (λq hq=>if_neg hq);have hpp:PpI G l M1 (λq=>if q=r then false else H1 q) r []:=zpq (uh Hi) hHr (λq hq=>if_neg hq) (if_pos rfl);have hW2:ClW R B0 B cb gb tb sb mb lb G P A w M1 (λq=>if q=r then false else H1 q) W2:=⟨R1,P1,A1,OO1,LO1,n1,by rw[<- uh Hc1];exact h2,uh Hf1,uh HRR,uh HR1,uh HPA,hFr2⟩;obtain⟨ob,ooff,owa,owc,rfl,hR0o,hoc,hor⟩:=uh HOw r hrn;have hfR2:=uh HHR W2 hFr2;have t0:=zac h2.box 0 rfl;have t3:=zbp hfR2 hR0c (uh Hcc);have t9:=zbp hfR2 hR0o hoc;have hrI:(r:Int)<(G.nr:Int):=by omega
    have Hmu:=zaa hmu;have Hpp:=zaa hpp;have HW2:=zaa hW2;have Hor:=zaa hor;have HPr:=zaa hPr;clear hr hf2 hl2 hk1 h2 hFr2 hmu hpp hW2 hfR2 hor hoc HPop hPr hHr s0 s1 s2 s3;go_wp2_with fail
    go_loopw [35] (λx wr=>∃ (j:Nat) (M3:Nat->Nat->Bool) (H3:Nat->Bool),x=.int .i64 (j:Int)/\j<=(zfA G r).length/\ClW R B0 B cb gb tb sb mb lb G P A w M3 H3 wr/\PpI G l M3 H3 r ((zdn G r).take j)/\muC G M3 H3<muC G M1 H1) (λx _=>(zfA G r).length - (intOf x).toNat)
    case atStart=>exact⟨0,M1,_,rfl,zsK _,uh HW2,uh Hpp,uh Hmu⟩
    case round =>
     obtain⟨j,M3,H3,rfl,hj,hw3,hp3,hm3⟩:=hrel;clear Hmu Hpp HW2 Hi Hh1 Hf1 HRR HR1 HPA HFr HM1 HPr Hc1 hc t0 t3 t9;by_cases hjl:j<(zfA G r).length
     ·have hjlI:(j:Int)<((zfA G r).length:Int):=by omega
      obtain⟨R3,P3,A3,OO3,LO3,n3,h3,hf3,hRR,hR3,hPA,hFr⟩:=hw3;obtain⟨rb,roff,rfl,hRr,hrc⟩:=(uh Hor).resolve_left (λe=>by rw[e] at hjl;simp at hjl);have q0:=zbp (uh HHR wr hFr) hRr (hrc j hjl);have hjN:j<(zdn G r).length:=by rw[<- ze9];exact hjl
      rw[zjW hjN] at q0;have hpm:=ownNk_mem.1 (zj8 hjN);have htk:=zgF (zdn G r) j hjN;generalize (zdn G r).getD j 0=p at *;have s0:=zac h3.box 0 rfl;have s1:=zac h3.box 1 rfl;obtain⟨k3,hk3⟩:=hp3.has;have hP3:P3 r=true:=by
       cases h9:P3 r with
       | true=>rfl
       | false=>have:=h3.non r h9 k3;rw[this] at hk3;cases hk3
      have hlk:=ze7 h3.mp r hr48;rw[hP3] at hlk;simp only[if_true,zkQ] at hlk;have hM3:∀ q k,M3 q k=true->k<G.nk:=λq k hk=>zlJ (hp3.snd q k hk);have hlay:=zp8 R3 B0 B cb gb tb sb mb lb G hG P3 A3 OO3 LO3 n3 M3 H3 wr (zsy hB0 hFr.1) h3 hf3 hM3 (M3 r) (hM3 r) p 0 0 (by omega) (zsK _) (A3 r) (.inr ⟨r,hP3,rfl,rfl⟩);rw[show ((0:Nat):Int)=0 from rfl] at hlay;have HLay:=zaa hlay;have Hgo:Hid (∀ (M4:Nat->Nat->Bool) (H4:Nat->Bool) (W:World),ClW R3 B0 B cb gb tb sb mb lb G P3 A3 wr M4 H4 W->ClW R B0 B cb gb tb sb mb lb G P A w M4 H4 W):=zaa (λM4 H4 W hW=>zkA hRR hR3 hPA hFr hW);have hol:=zpw hG r;have Hjl:Hid (j+1<=(zfA G r).length):=zaa hjl;have Hp3:=zaa hp3;have Hm3:=zaa hm3;have Htk:=zaa htk;have Hpm:=zaa hpm;have HM3:=zaa hM3;clear hlay hp3 hm3 htk hpm hM3 h3 hf3 hRR hR3 hPA hFr hk3 hP3 hrc;go_wp2_with fail;refine(uh HLay).mono ?_;rintro e W4 hpost;obtain⟨rfl,M4,H4,hw4,hm4⟩:=zkd hpost;have Hw4:=zaa (uh Hgo M4 H4 W4 hw4);have Hm4:=zaa hm4;clear hpost hw4 hm4;go_wp2;go_roundw
      case rel =>
       obtain⟨hp1,hp2⟩:=uh Hpm;have hlt:∀ k,zuV G M3 p r k=true->∀ r':Nat,zdh G ((p:Int),0,0)=some ((G.nk:Int)+r')->Dm G l r' k:=λk hk r' hr'=>dm_ask hG (uh Hp3) hp1 hp2 hr' k hk;refine⟨j+1,M4,H4,by go_num,uh Hjl,uh Hw4,?_,?_⟩
       ·rw[uh Htk];have hm:=uh Hm4
        cases hat:atR G ((p:Int),0,0) with
        | none =>
          rw[hat] at hm;obtain⟨rfl,rfl⟩:=hm;exact zsm (uh Hp3) (λr' hr'=>by rw[atR_iff.2 hr'] at hat;cases hat)
        | some r' =>
          rw[hat] at hm;obtain⟨rfl,ho,hc⟩:=hm;have hsy:=atR_iff.1 hat;exact zvw (uh Hp3) hsy (λk hk=>hlt k hk r' hsy) ho (hc.imp (λh=>⟨h.1,h.2.imp (λ_ h=>h.1)⟩) id)
       ·have hm:=uh Hm4
        cases hat:atR G ((p:Int),0,0) with
        | none =>
          rw[hat] at hm;obtain⟨rfl,rfl⟩:=hm;exact uh Hm3
        | some r' =>
          rw[hat] at hm;obtain⟨rfl,ho,hc⟩:=hm;have hsy:=atR_iff.1 hat;have hr':r'<G.nr:=zk3 hG (zi3 hp1 (by have:=hG.k2;omega):zcv G ((p:Int),0,((0:Nat):Int))=true) hsy;exact Nat.lt_of_le_of_lt (mu_lay hr' (λk hk=>zlJ (hlt k hk r' hsy)) ho hc) (uh Hm3)
      case measure=>have:=uh Hjl;simp[intOf];omega
     ·obtain rfl:j=(zfA G r).length:=by omega
      have hjlI:¬ (((zfA G r).length:Nat):Int)<((zfA G r).length:Int):=by omega
      have Hw3:=zaa hw3;have Hp3:=zaa hp3;have Hm3:=zaa hm3;clear hw3 hp3 hm3;go_wp2
      go_roundg (muC G M3 H3)
      case rel =>
       have hp:=uh Hp3;rw[ze9,zsN] at hp;exact⟨M3,H3,uh Hw3,zvx hp (λp h1 h2=>ownNk_mem.2 ⟨h1,h2⟩),rfl⟩
      case measure=>exact uh Hm3
theorem zky(G:Gm){ct:Nat->Nat}(h:∀ q,ct q=0):∀ n,zeo G ct n=0
 | 0=>rfl
 | n+1=>by
   unfold zeo;rw[zky G h n,h]
theorem zrf(R:Nat->Prop)(B cb gb tb:Nat)(G:Gm)(w:World)(hc:ClB R B w cb gb tb G)(ht:RsT R w G tb)(hRl:∀ k,R k->k<w.heap.size) :
 Calls Tryz.prog 66 #[.pointer (some ⟨cb,0,none⟩)] w λe w'=>∃ sb mb lb,e=.returned (.pointer (some ⟨sb,0,none⟩))/\ClS R B cb gb tb sb mb lb G (λ_=>false) (λ_=>0) (λ_ _=>False) (λk=>k=lb) 0 (λ_ _=>false) (λ_=>false) (zeo G (ctW (λ_ _=>false)) G.prods.length) w'/\StF w.heap.size sb mb (λ_=>false) (λ_ _=>False) (λk=>k=lb)/\Below w.heap.size w w':=by
 have hmm:=@run_makeMap Tryz.prog;have HN:=zaa (λW=>zlm W);have h0:zeo G (ctW (λ_ _=>false)) G.prods.length=0:=zky G (λq=>ztP (λ_=>rfl)) _;rw[h0];have htb:tb<w.heap.size:=by obtain⟨_,cs,htc,-⟩:=ht;exact(zsO.1 htc).1
 have HF:Hid (∀ W1 W2 W3:World,W1=w.alloc (.map #[] 0)->W2=W1.alloc (.cells #[.slice none 0 0,.map none] 239)->W3=W2.alloc (.cells #[.pointer (some ⟨cb,0,none⟩),.map (some w.heap.size),.pointer (some ⟨w.heap.size+1,0,none⟩),.int .i64 0] 178) ->
  ClS R B cb gb tb (w.heap.size+2) w.heap.size (w.heap.size+1) G (λ_=>false) (λ_=>0) (λ_ _=>False) (λk=>k=w.heap.size+1) 0 (λ_ _=>false) (λ_=>false) 0 W3/\Below w.heap.size w W3):=zaa (λW1 W2 W3 e1 e2 e3=>by
  have b1:Below w.heap.size w W1:=by rw[e1];exact(zsY _ _).alloc (zsG _) _
  have s1:W1.heap.size=w.heap.size+1:=by rw[e1];simp
  have b2:Below W1.heap.size W1 W2:=by rw[e2];exact(zsY _ _).alloc (zsG _) _
  have s2:W2.heap.size=w.heap.size+2:=by rw[e2];simp[s1]
  have b3:Below W2.heap.size W2 W3:=by rw[e3];exact(zsY _ _).alloc (zsG _) _
  have b13:Below W1.heap.size W1 W3:=b2.trans (zab b3 b2.size);have b03:Below w.heap.size w W3:=b1.trans (zab b13 b1.size);have m1:PtM W1 w.heap.size 0 (λ_=>none):=by rw[e1];exact zvt w
  have l2:zor W2 (w.heap.size+1) (λk=>k=w.heap.size+1) (hF (λ_=>false)):=by
   refine⟨[],?_,?_,?_⟩
   ·rw[e2,<- s1];exact Wk.lst_new W1
   ·intro i _ h2;exact absurd h2 (Nat.not_lt_zero _)
   ·intro r v;constructor
    ·intro h;cases h
    ·rintro⟨t,ht,-⟩;cases ht
  have hfR:Fr (λk=>¬ R k) w W3:=zba b03;refine⟨⟨?_,zbb hc hfR,zbC ht (zaj (zae (O:=λ_=>False) b03) (λ_ _ h=>h.elim)),λk hR=>zsJ (hRl k hR) b03.size,zdJ m1 (b13.block _ (by omega)),?_,λq hq=>(by cases hq),λ_ _ _=>rfl,λq hq=>(by cases hq),λq q' hq=>(by cases hq),ztg l2 b3,λk hk=>?_,⟨λhR=>?_,λhR=>?_⟩,λq hq=>(by cases hq)⟩,b03⟩
  ·rw[e3];have:=zsH W2 (.cells #[.pointer (some ⟨cb,0,none⟩),.map (some w.heap.size),.pointer (some ⟨w.heap.size+1,0,none⟩),.int .i64 0] 178);rw[s2] at this;exact this
  ·have:=zjd (λ_=>false) 2048;omega
  ·subst hk;exact⟨λhR=>by have:=hRl _ hR;omega,by omega,by omega,by omega⟩
  ·have:=hRl _ hR;omega
  ·have:=hRl _ hR;omega)
 clear hc ht hRl htb h0;go_enter Tryz.func66,Tryz.ntmps66;go_wp2_with (go_at_call 114;refine(uh HN _).mono ?_;rintro e W2 ⟨rfl,rfl⟩);go_ret;exact⟨_,_,w.heap.size+1,rfl,(uh HF _ _ _ rfl rfl rfl).1,⟨by omega,zsG _,λq hq=>(by cases hq),λk hk=>by have e:k=w.heap.size+1:=hk;omega⟩,(uh HF _ _ _ rfl rfl rfl).2⟩
end Go.Proofs.YtieciibnajeibaaGreatDoor
namespace Go.Proofs.YtieciibnajeibaaGreatDoor
open Go.RowKit Go.Shelf
def goesOn{α:Type}(B:Nat)(Kp:World->World->Prop)(I:List α->World->Prop)(xs:List α)(W:World)(e:Exit)(_:Act)(W':World):Prop:=e=.normal/\KeepsFrom B W W'/\Kp W W'/\I xs W'
def zne{α:Type}(F:Fence)(n:Nat)(P:Program)(g:Nat)(fb:Array Value)(encs:α->Array Value)(Kp:World->World->Prop)(S:List α->Prop)(N:Nat)(w:World):Prop :=
 ∀ (l:Nat) (J:List α->World->Prop) (W:World),Below w.heap.size w W->AbidesFrom W.heap.size J ->
  (∀ pre x W1,J pre W1->pre.length<N->YieldAt F (n - 1) P l (encs x) W1 λe W'=>e=.returned (.bool true)/\J (pre ++ [x]) W'/\Kp W1 W')->J [] W ->
  CallsIn F n P g (fb ++ #[.func (.yield l) #[] #[]]) W λe W'=>(∃ v,e=.returned v)/\∃ xs,S xs/\J xs W'
theorem zgz{α:Type}{F:Fence}{n:Nat}{P:Program}{g:Operand}{ps:Array Tmp}{assign body:Code}{Q:Exit->Act->World->Prop}{a:Act}{w:World}
 (hro:F.round=none) (h1:1<=n) {gf:Nat} {fb:Array Value} (hg:a.eval g=.func (.func gf) fb #[]) (hFg:F.fn gf) (eg:∀ args w,(callFunc gf args).run P w=.ok (.enter gf args) w)
 {encs:α->Array Value} {Kp:World->World->Prop} {S:List α->Prop} {N:Nat} (hseq:zne F (n - 1) P gf fb encs Kp S N w)
 (hKt:∀ {A B C:World},Kp A B->Kp B C->Kp A C) (hKb:∀ (W:World) (l:Nat) (o o':Obj),w.heap.size<=l->W.heap[l]? = some o->o.isCells=false->o.isWalk=false->Kp W (W.putObj l o')) (hps:∀ x,(encs x).size=ps.size)
 (I:List α->World->Prop) (hI:OwnFrom w.heap.size I) (h0:I [] w) (Ax:α->Act->World->Prop) (hAx:∀ x a',OwnFrom w.heap.size (λ(_:Unit) W=>Ax x a' W))
 (hassign:∀ (l:Nat) (pre:List α) (x:α) (W:World) (K:Act->World->Prop),I pre W->(∀ a' W',KeepsFrom w.heap.size W W'->Kp W W'->I pre W'->Ax x a' W'->K a' W') ->
  assign.wpIn (F.inRound l) (n - 1 - 1) P (Exit.then K (λ_ _ _=>False)) { tmps:=(ps.zip (encs x)).foldl (λt (p,v)=>t.setIfInBounds p v) a.tmps,defers:=[] } W)
 (hbody:∀ (l:Nat) (pre:List α) (x:α) (a':Act) (W:World),w.heap.size<=l->(∃ r,W.heap[l]? = some (.loop r))->I pre W->Ax x a' W->pre.length<N->body.wpIn (F.inRound l) (n - 1 - 1) P (goesOn w.heap.size Kp I (pre ++ [x]) W) a' W)
 (hdone:∀ (D:Nat) (xs:List α) (W:World),w.heap.size<=D->S xs->I xs W->W.heap[D]? = some (.deferred (some []))->Q .normal { a with defers:={ target:=.collected D,args:=#[] }::a.defers } W) :
 (Code.rangeFunc g ps assign body).wpIn F n P Q a w:=by
 refine wpIn_rangeFunc (λfn hfn=>?_);rw[hro]
 -- the loop's record
 obtain⟨lr,hlr⟩:∃ lr:LoopState->Loop,lr=λst=>{ state:=st,pending:=none,fn,tmps:=a.tmps,params:=ps,assign,body,defers:=w.heap.size }:=⟨_,rfl⟩;obtain⟨V,hV⟩:∃ V,V=(w.alloc (.deferred (some []))).alloc (.loop (lr .ready)):=⟨_,rfl⟩;have vl:V.heap[w.heap.size+1]? = some (.loop (lr .ready)):=by
  have:=World.alloc_heap_new (w.alloc (.deferred (some []))) (.loop (lr .ready));rw[World.size_alloc] at this;rw[hV];exact this
 have vd:V.heap[w.heap.size]? = some (.deferred (some [])):=by
  rw[hV];exact(zsZ _ _ _ (by simp)).trans (World.alloc_heap_new w _)
 have vI:I [] V:=by rw[hV];exact hI.alloc _ (hI.alloc _ h0)
 have vb:Below w.heap.size w V:=by rw[hV];exact((zsY _ w).alloc (zsG _) _).alloc (by simp) _
 have vs:V.heap.size=w.heap.size+2:=by rw[hV];simp
 refine⟨w.heap.size+1,[{ target:=.collected w.heap.size,args:=#[] }],V,{ target:=.fn (.func gf) #[],args:=fb ++ #[.func (.yield (w.heap.size+1)) #[] #[]] },V,gf,fb ++ #[.func (.yield (w.heap.size+1)) #[] #[]],V,?_,?_,?_,?_,λ_=>h1,?_⟩
 ·rw[hV,hlr];exact run_enterLoop_outer _ _ _ _ _
 ·simp only[resolve,hg];simp[go_sem]
 ·intro f' hf';simp[Target.leads] at hf';exact hf'▸hFg
 ·simp[invoke,go_sem,eg]
 ·refine(hseq (w.heap.size+1) (λpre W=>I pre W/\W.heap[w.heap.size+1]? = some (.loop (lr .ready))/\W.heap[w.heap.size]? = some (.deferred (some []))) V vb ?_ ?_ ⟨vI,vl,vd⟩).mono ?_
  ·-- what is kept abides the iterator's own walks
   rintro s A B row ⟨k1,k2,k3⟩ hgr hr;refine⟨hI s A B row k1 hgr (λr e=>?_),(grownBy_keeps hgr (λr e=>(hr r e).2) k2 rfl).trans k2,(grownBy_keeps hgr (λr e=>(hr r e).2) k3 rfl).trans k3⟩;obtain⟨hB,o,ho,hw⟩:=hr r e;exact⟨by omega,o,ho,Obj.not_cells_of_walk hw⟩
  ·-- a round
   rintro pre x W ⟨k1,k2,k3⟩ hlen;have hy:=run_yield (P:=P) (args:=encs x) k2 (by rw[hlr];exact hps x);rw[hlr] at hy;refine⟨fn,_,assign,body,hy,roundIn_of_wpIn hfn (hassign _ pre x W _ k1 ?_)⟩;intro a' X hx1 hx2 hx3 hx4;have xl:=hx1.same _ _ (by omega) k2 rfl;have xd:=hx1.same _ _ (zsG _) k3 rfl;have xlt:=(zsO.1 xl).1;refine⟨_,run_beginRound xl (by rw[hlr]),?_⟩;obtain⟨Y,hY⟩:∃ Y,Y=X.putObj (w.heap.size+1) (.loop { lr .ready with state:=.busy }):=⟨_,rfl⟩;have yl:Y.heap[w.heap.size+1]? = some (.loop { lr .ready with state:=.busy }):=by rw[hY];exact World.putObj_heap_same xlt
   have yd:Y.heap[w.heap.size]? = some (.deferred (some [])):=by rw[hY];exact(World.putObj_heap_other (by omega)).trans xd
   have yk:Kp X Y:=by rw[hY];exact hKb _ _ _ _ (by omega) xl rfl rfl
   have yI:I pre Y:=by rw[hY];exact hI.putObj _ hx3 (by omega) xl rfl
   have yA:Ax x a' Y:=by rw[hY];exact(hAx x a').putObj (s:=()) _ hx4 (by omega) xl rfl
   rw[<- hY];refine wpIn_mono (hbody _ pre x a' Y (by omega) ⟨_,yl⟩ yI yA hlen) ?_;rintro e a3 Z ⟨rfl,z1,z2,z3⟩;have zl:=z1.same _ _ (by omega) yl rfl;have zd:=z1.same _ _ (zsG _) yd rfl;have hr:=run_endRound (P:=P) none zl;rw[hlr] at hr zl;refine⟨_,_,hr,rfl,⟨hI.putObj _ z3 (by omega) zl rfl,?_,(World.putObj_heap_other (by omega)).trans zd⟩,hKt hx2 (hKt (hKt yk z2) (hKb _ _ _ _ (by omega) zl rfl rfl))⟩;rw[hlr];exact World.putObj_heap_same (zsO.1 zl).1
  ·-- behind the iterator
   rintro e W2 ⟨⟨v,rfl⟩,xs,hS,k1,k2,k3⟩;have hr:=run_endLoop (P:=P) k2 (by rw[hlr];simp);rw[hlr] at hr k2;exact⟨none,_,hr,hdone _ xs _ (zsG _) hS (hI.putObj _ k1 (by omega) k2 rfl) ((World.putObj_heap_other (by omega)).trans k3)⟩
end Go.Proofs.YtieciibnajeibaaGreatDoor

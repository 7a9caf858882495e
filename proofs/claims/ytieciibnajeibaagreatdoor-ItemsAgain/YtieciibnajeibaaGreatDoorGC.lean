import Derived.Test.YtieciibnajeibaaGreatDoorP0
import Derived.Test.YtieciibnajeibaaGreatDoorWkK1
set_option maxHeartbeats 8000000
set_option maxRecDepth 100000
namespace Go.Proofs.YtieciibnajeibaaGreatDoor
open Go.RowKit
def zjt(pb:Nat)(l:Int)(w:World)(e:Ending)(w':World):Prop:=∃ c',e=.returned (.bool (decide (0<=l)))/\(0<=l->c'=256 - l)/\w'.heap[pb]? = some (.cells #[.int .i64 c'] 3)/\Fr (· = pb) w w'
def ActC(B:Nat)(sy:Int)(N:Nat):Prop:=∀ (t:Ac) (c:Int) (pb:Nat) (w:World) (v0 v1 v2 v3:Value),B<=pb->B<=w.heap.size->zhx B w t v0 v1 v2 v3->0<=c->c<=256->256 - c<N->w.heap[pb]? = some (.cells #[.int .i64 c] 3) ->
 Calls Tryz.prog 223 #[.agg #[v0,v1,v2,v3],.int .i64 sy,.pointer (some ⟨pb,0,none⟩)] w λe w'=>zjt pb (zbZ t sy (256 - c)) w e w'
def KidC(B:Nat)(sy:Int)(N:Nat):Prop:=∀ (ks:List Ac) (c:Int) (pb:Nat) (w:World) (a:Option Addr) (cap:Nat) (vs:List Value),B<=pb->B<=w.heap.size->zjx B w ks vs->(ks=[]\/∃ b off,a=some ⟨b,off,none⟩/\b<B/\∀ j u,vs[j]? = some u->w.cell? ⟨b,off+j,none⟩=some u)->0<=c->c<=256->256 - c<N->w.heap[pb]? = some (.cells #[.int .i64 c] 3) ->
 Calls Tryz.prog 244 #[.slice a ks.length cap,.int .i64 sy,.pointer (some ⟨pb,0,none⟩)] w λe w'=>zjt pb (zbY ks sy (256 - c)) w e w'
theorem zqP{w:World}{pb:Nat}{v:Value}(h:w.heap[pb]? = some (.cells #[v] 3)):w.cell? ⟨pb,0,none⟩=some v/\w.frozen? ⟨pb,0,none⟩=false:=by
 constructor
 ·unfold World.cell?;rw[h];rfl
 ·unfold World.frozen?;rw[h];rfl
variable{B N:Nat}{sy:Int}
theorem zv9(hA:ActC B sy N):KidC B sy N:=by
 intro ks c pb w a cap vs hpb hB hts hcs hc0 hc1 hN hct;have HA:=zaa hA;have Hts:=zaa hts;have Hcs:=zaa hcs;clear hA hts hcs;have hnot:=zbl;obtain⟨R,hR⟩:∃ R,R=zbY ks sy (256 - c):=⟨_,rfl⟩;rw[<- hR];go_enter Tryz.func244,Tryz.ntmps244;go_wp2
 go_loopw [11] (λx wr=>∃ (i:Nat) (ci:Int),x=.int .i64 i/\i<=ks.length/\(i:Int)<=ci - c/\ci<=256/\256 - ci<N/\R=zbY (ks.drop i) sy (256 - ci)/\wr.heap[pb]? = some (.cells #[.int .i64 ci] 3)/\Fr (· = pb) w wr) (λx _=>ks.length - (intOf x).toNat)
 case atStart=>exact⟨0,c,rfl,zsK _,by omega,hc1,hN,hR,hct,zax _ _⟩
 case round =>
  obtain⟨i,ci,rfl,hi,h0,h1,h2,hRi,hcti,hfr⟩:=hrel;have hbW:Below B w wr:=zau hfr hB (λk hk=>by have hk:k=pb:=hk;omega);have Hfr:=zaa hfr;have hszr:=hfr.1;clear hfr hR hct;by_cases hlt:i<ks.length
  ·have hlt':(i:Int)<ks.length:=by omega
   obtain⟨u0,u1,u2,u3,e0,e1,e2,e3,hu⟩:=znc ks vs (uh Hts) i hlt;rcases uh Hcs with h | ⟨b,off,rfl,hbB,hcs⟩
   ·rw[h] at hlt;simp at hlt
   have c0:=(hbW.cell (p:=⟨b,off+i * 4,none⟩) hbB).trans (hcs _ _ e0);have c1:=(hbW.cell (p:=⟨b,off+i * 4+1,none⟩) hbB).trans (hcs _ _ e1);have c2:=(hbW.cell (p:=⟨b,off+i * 4+2,none⟩) hbB).trans (hcs _ _ e2);have c3:=(hbW.cell (p:=⟨b,off+i * 4+3,none⟩) hbB).trans (hcs _ _ e3);have hu2:=zdg hbW _ _ _ _ _ hu;obtain⟨y0,y1,y2,y3,m3,d3,rfl,rfl,rfl,rfl⟩:=zkJ hu2;have hpbl:pb<wr.heap.size:=(zsO.1 hcti).1;have hb2:Below wr.heap.size wr (wr.alloc (.cells #[.int .i64 y0,.int .i64 y1,.string y2,.slice y3 m3 d3] 114)):=(zsY _ _).alloc (zsG _) _;have hs2:(wr.alloc (.cells #[.int .i64 y0,.int .i64 y1,.string y2,.slice y3 m3 d3] 114)).heap.size=wr.heap.size+1:=by simp
   have HC:=zaa (uh HA (ks.getD i ac0) ci pb (wr.alloc (.cells #[.int .i64 y0,.int .i64 y1,.string y2,.slice y3 m3 d3] 114)) _ _ _ _ hpb (by omega) (zdg (zab hb2 (by omega)) _ _ _ _ _ hu2) (by omega) h1 h2 ((hb2.block pb hpbl).trans hcti));have Hfr2:=zaa (zdc (uh Hfr) hb2);have hbd:=zmp (ks.getD i ac0) sy (256 - ci) (by omega);have hRi2:R=zbY (ks.drop (i+1)) sy (zbZ (ks.getD i ac0) sy (256 - ci)):=by rw[hRi,dropA hlt,zbY,if_neg (by omega)]
   generalize zbZ (ks.getD i ac0) sy (256 - ci)=q2 at *;clear hu hu2 hbW e0 e1 e2 e3 hcs hRi hb2;go_wp2_with fail;refine(uh HC).mono ?_;rintro e w3 ⟨c',rfl,hc',hct',hfr3⟩;have Hfr3:=zaa (zcK (uh Hfr2) hfr3);clear hfr3;by_cases hq:0<=q2
   ·have hd:decide (0<=q2)=true:=by simpa using hq
    have hc2:=hc' hq;go_wp2;go_roundw
    case rel=>exact⟨i+1,c',by go_num,by omega,by omega,by omega,by omega,by rw[show (256:Int) - c'=q2 by omega];exact hRi2,hct',uh Hfr3⟩
    case measure=>simp[intOf];omega
   ·have hd:decide (0<=q2)=false:=decide_eq_false hq;have hRq:R=q2:=by rw[hRi2];exact znD _ _ _ (by omega)
    have Hr:Hid (decide (0<=R)=false):=zaa (by rw[hRq];exact hd);have Hn:Hid (0<=R->False):=zaa (λh=>by omega);go_wp2;go_ret;refine⟨c',?_,λh=>(uh Hn h).elim,hct',uh Hfr3⟩;rw[uh Hr];rfl
  ·obtain rfl:i=ks.length:=by omega
   have hR2:R=256 - ci:=by rw[hRi,List.drop_length];rfl
   have hd:decide (0<=R)=true:=by simp;omega
   go_wp2;go_ret;refine⟨ci,?_,λ_=>by omega,hcti,uh Hfr⟩;rw[hd];rfl
theorem act_of(hK:KidC B sy N):ActC B sy (N+1):=by
 rintro⟨k,p,n,ks⟩ c pb w v0 v1 v2 v3 hpb hB hA hc0 hc1 hN hct;unfold zhx at hA;obtain⟨rfl,rfl,rfl,ka,kc,vs,rfl,hts,hkc⟩:=hA;have hpbl:pb<w.heap.size:=(zsO.1 hct).1;obtain⟨o1,ho1⟩:∃ o1,o1=Obj.cells #[.int .i64 k,.int .i64 p,.string (bs n),.slice ka ks.length kc] 114:=⟨_,rfl⟩;obtain⟨d0,df⟩:=zqP hct;have hs1:((w.setCell ⟨pb,0,none⟩ (.int .i64 (c+1))).alloc o1).heap.size=w.heap.size+1:=by simp
 have hne:w.heap.size≠pb:=by omega
 obtain⟨W1,hW1⟩:∃ W1,W1=w.setCell ⟨pb,0,none⟩ (.int .i64 (c+1)):=⟨_,rfl⟩;have hct1:W1.heap[pb]? = some (.cells #[.int .i64 (c+1)] 3):=by rw[hW1];exact Wk.block_set (i:=0) hct _
 have hf1:Fr (· = pb) w W1:=by rw[hW1];exact zaD (zax _ _) (by rfl) _
 have hsW1:W1.heap.size=w.heap.size:=by rw[hW1];simp
 obtain⟨W2,hW2⟩:∃ W2,W2=W1.alloc o1:=⟨_,rfl⟩;have hb1:Below W1.heap.size W1 W2:=by rw[hW2];exact(zsY _ _).alloc (zsG _) _
 have hct2:=(hb1.block pb (by omega)).trans hct1;have hf:Fr (· = pb) w W2:=zdc hf1 hb1;have hbW:Below B w W2:=zau hf hB (λk hk=>by have hk:k=pb:=hk;omega);have hsz2:=hf.1;have z4:=(zqP hct1).1;have Hf:=zaa hf;have Hct2:=zaa hct2;have hnot:=zbl;have hwc:IntKind.i64.wrap (c+1)=c+1:=by rw[IntKind.wrap_i64];omega
 have Hts:=zaa (zfv hbW _ _ hts);have Hkc:=zaa (show ks=[]\/∃ b off,ka=some ⟨b,off,none⟩/\b<B/\∀ j u,vs[j]? = some u->W2.cell? ⟨b,off+j,none⟩=some u from hkc.imp id (fun⟨b,off,h1,h2,h3⟩=>⟨b,off,h1,h2,λj u hu=>(hbW.cell (p:=⟨b,off+j,none⟩) h2).trans (h3 j u hu)⟩));have HK:=zaa hK
 have HE:=zaa (λo:Obj=>show ((w.setCell ⟨pb,0,none⟩ (.int .i64 (c+1))).alloc o).heap[pb]? = some (.cells #[.int .i64 (c+1)] 3)/\Fr (· = pb) w ((w.setCell ⟨pb,0,none⟩ (.int .i64 (c+1))).alloc o) by
  rw[<- hW1];have hbo:Below W1.heap.size W1 (W1.alloc o):=(zsY _ _).alloc (zsG _) _
  exact⟨(hbo.block pb (by omega)).trans hct1,zdc hf1 hbo⟩)
 have HK2:=zaa (λo:Obj=>show ∀ q:Unit,zjx B ((w.setCell ⟨pb,0,none⟩ (.int .i64 (c+1))).alloc o) ks vs/\(ks=[]\/∃ b off,ka=some ⟨b,off,none⟩/\b<B/\∀ j u,vs[j]? = some u->((w.setCell ⟨pb,0,none⟩ (.int .i64 (c+1))).alloc o).cell? ⟨b,off+j,none⟩=some u) by
  intro _;have hbo:=zau (uh HE o).2 hB (λk hk=>by have hk:k=pb:=hk;omega)
  exact⟨zfv hbo _ _ hts,hkc.imp id (fun⟨b,off,h1,h2,h3⟩=>⟨b,off,h1,h2,λj u hu=>(hbo.cell (p:=⟨b,off+j,none⟩) h2).trans (h3 j u hu)⟩)⟩)
 rw[hW1] at hW2 z4;rw[ho1] at hW2;clear Hts Hkc;clear hct hct1 hb1 hf hf1 hbW hts hkc hct2 hK hW1 ho1 hs1;by_cases hcm:c=256
 ·have hgt:(256:Int)<c+1:=by omega
  have Hp:Hid (decide (0<=zbZ (.mk k p n ks) sy (256 - c))=false):=zaa (by subst hcm;unfold zbZ;rfl);have Hq:Hid (0<=zbZ (.mk k p n ks) sy (256 - c)->False):=zaa (by subst hcm;unfold zbZ;intro h;simp at h);clear hcm;go_enter Tryz.func223,Tryz.ntmps223;go_wp2;rw[<- hW2];go_ret;refine⟨c+1,?_,λh=>(uh Hq h).elim,uh Hct2,uh Hf⟩;rw[uh Hp];rfl
 ·have hc257:¬ (256:Int)<c+1:=by omega
  have Hpa:Hid (zbZ (.mk k p n ks) sy (256 - c)=if okA k p n ks.length sy then zbY ks sy (256 - (c+1)) else -1):=zaa (by unfold zbZ;rw[if_neg (by omega),show (256:Int) - c - 1=256 - (c+1) by omega]);obtain⟨R,hR⟩:∃ R,R=zbZ (.mk k p n ks) sy (256 - c):=⟨_,rfl⟩;rw[<- hR] at Hpa ⊢;clear hR;go_enter Tryz.func223,Tryz.ntmps223
  have Hc1:Hid (okA k p n ks.length sy->k≠2->R=256 - (c+1)):=zaa (λh hk=>by
   have h0:ks=[]:=by
    rcases h with h | h | h | h
    ·exact zsX h.2.2.2
    ·exact zsX h.2.2.2.2
    ·exact zsX h.2.2.2
    ·exact absurd h.1 hk
   rw[uh Hpa,if_pos h,h0];rfl)
  have Hc0:Hid (¬ okA k p n ks.length sy->R = -1):=zaa (λh=>by rw[uh Hpa,if_neg h]);have hne0:(n=[])↔n.length=0:=List.length_eq_zero_iff.symm;have Hne:Hid ((bs n).toList=[]↔n.length=0):=zaa (by rw[zfs];exact hne0);have Hsz:Hid ((bs n).size=n.length):=zaa rfl
  have Hfin:Hid (∀ (b:Bool) (W:World),(b=true↔(k=0/\p=0/\n.length=0/\ks.length=0)\/(k=1/\0<=p/\p<sy/\n.length=0/\ks.length=0)\/(k=3/\n.length<=4096/\p=0/\ks.length=0)\/(k=2/\1<=n.length/\n.length<=32/\p=0))->(k=2->b=false)->(∃ o,W=(w.setCell ⟨pb,0,none⟩ (.int .i64 (c+1))).alloc o)->zjt pb R w (.returned (.bool b)) W):=zaa (by
   rintro b W h1 h2 ⟨o,rfl⟩;have ho:okA k p n ks.length sy↔b=true:=by rw[h1];unfold okA;rw[hne0]
   refine⟨c+1,zbo ?_,?_,(uh HE _).1,(uh HE _).2⟩
   ·cases hb:b
    ·have:=uh Hc0 (λh=>by rw[ho,hb] at h;cases h);rw[this];rfl
    ·have:=uh Hc1 (ho.2 hb) (λh=>by rw[h2 h] at hb;cases hb);rw[this];symm;simp;omega
   ·intro hR;by_cases h:okA k p n ks.length sy
    ·have:=uh Hc1 h (λhk=>by rw[ho,h2 hk] at h;cases h);omega
    ·have:=uh Hc0 h;omega)
  have Hnode:Hid (k=2->p=0->¬ n.length=0->n.length<=32->R=zbY ks sy (256 - (c+1))):=zaa (λh1 h2 h3 h4=>by
   rw[uh Hpa,if_pos (.inr (.inr (.inr ⟨h1,by omega,h4,h2⟩)))])
  clear hW2 Hf Hct2 hne0 Hc1 Hc0 Hpa;go_wp2_with fail
  all_goals first
   | (go_ret
      refine uh Hfin _ _ ?_ ?_ ⟨_,rfl⟩
      · have e2:=uh Hne;have e3:=uh Hsz;clear Hfin Hnode Hne Hsz HE HK2 HK;simp only[e2,e3,beq_iff_eq,beq_eq_false_iff_ne,ne_eq,Bool.false_eq_true,false_iff] at *;omega
      · intro hk2
        first
          | rfl
          | (exfalso;clear Hfin Hnode Hne Hsz HE HK2 HK;simp only[beq_iff_eq,beq_eq_false_iff_ne,ne_eq] at *;omega))
   | skip
  refine(uh HK ks (c+1) pb _ ka kc vs hpb (by simp;omega) (uh HK2 _ ()).1 (uh HK2 _ ()).2 (by omega) (by omega) (by omega) (uh HE _).1).mono ?_;rintro e w3 ⟨c',rfl,h1,h2,h3⟩;have hf4:=zcK (uh HE _).2 h3
  have Hz:Hid (∀ b:Bool,(!(bs n).toList.isEmpty && b)=b):=zaa (λb=>by
   have hn:(bs n).toList.isEmpty=false:=by rw[List.isEmpty_eq_false_iff];assumption
   rw[hn];rfl)
  have hRR:R=zbY ks sy (256 - (c+1)):=by
   have e2:=uh Hne;have e3:=uh Hsz;clear Hfin Hne Hsz HE HK2 HK h1 h2 h3 hf4 Hz;simp only[e2,e3,beq_iff_eq] at *;exact uh Hnode (by omega) (by omega) (by omega) (by omega)
  have Hpost:Hid (zjt pb R w (.returned (.bool (decide (0<=zbY ks sy (256 - (c+1)))))) w3):=zaa (by rw[hRR];exact⟨c',rfl,h1,h2,hf4⟩);clear Hfin Hnode Hne Hsz HE HK2 HK h1 h2 h3 hf4 hRR;generalize decide (0<=zbY ks sy (256 - (c+1)))=bb at *;go_wp2;go_ret;have hp:=uh Hpost;rw[<- uh Hz bb] at hp;exact hp
theorem zry(B:Nat)(sy:Int):∀ N,ActC B sy N
 | 0=>by
   intro t c pb w v0 v1 v2 v3 hpb hB hA hc0 hc1 hN hct;have hN:(256:Int) - c<((0:Nat):Int):=hN;exfalso;omega
 | N+1=>act_of (zv9 (zry B sy N))
end Go.Proofs.YtieciibnajeibaaGreatDoor

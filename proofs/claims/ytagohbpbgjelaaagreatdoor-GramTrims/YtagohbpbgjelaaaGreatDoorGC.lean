/- The code's actions. -/
import Derived.Test.YtagohbpbgjelaaaGreatDoorR1
import Derived.Test.YtagohbpbgjelaaaGreatDoorWkK1
namespace Go.Proofs.YtagohbpbgjelaaaGreatDoor
open Go.RowKit

def zid (pb:Nat) (l:Int) (w:World) (e:Ending) (w':World):Prop:=∃ c',e=.returned (.bool (decide (0≤l)))∧(0≤l→c'=256 - l)∧w'.heap[pb]? = some (.cells #[.int .i64 c'] 3)∧Fr (· = pb) w w'
def ActC (B:Nat) (sy:Int) (N:Nat):Prop:=∀ (t:Ac) (c:Int) (pb:Nat) (w:World) (v0 v1 v2 v3:Value),B≤pb→B≤w.heap.size→zdh B w t v0 v1 v2 v3→0≤c→c≤256→256 - c<N→w.heap[pb]? = some (.cells #[.int .i64 c] 3) →
 Calls Tryz.prog 142 #[.agg #[v0,v1,v2,v3],.int .i64 sy,.pointer (some ⟨pb,0,none⟩)] w fun e w'=>zid pb (zaU t sy (256 - c)) w e w'
def KidC (B:Nat) (sy:Int) (N:Nat):Prop:=∀ (ks:List Ac) (c:Int) (pb:Nat) (w:World) (a:Option Addr) (cap:Nat) (vs:List Value),B≤pb→B≤w.heap.size→zgI B w ks vs→(ks=[]∨∃ b off,a=some ⟨b,off,none⟩∧b<B∧∀ j u,vs[j]? = some u→w.cell? ⟨b,off+j,none⟩=some u)→0≤c→c≤256→256 - c<N→w.heap[pb]? = some (.cells #[.int .i64 c] 3) →
 Calls Tryz.prog 160 #[.slice a ks.length cap,.int .i64 sy,.pointer (some ⟨pb,0,none⟩)] w fun e w'=>zid pb (zbh ks sy (256 - c)) w e w'
theorem znR {w:World} {pb:Nat} {v:Value} (h:w.heap[pb]? = some (.cells #[v] 3)):w.cell? ⟨pb,0,none⟩=some v∧w.frozen? ⟨pb,0,none⟩=false:=by
 constructor
 ·unfold World.cell?;rw[h];rfl
 ·unfold World.frozen?;rw[h];rfl
set_option maxHeartbeats 1000000 in
set_option maxRecDepth 100000 in
theorem zq7 {B:Nat} {sy:Int} {N:Nat} (hA:ActC B sy N):KidC B sy N:=by
 intro ks c pb w a cap vs hpb hB hts hcs hc0 hc1 hN hct
 have HA:=zaa hA;have Hts:=zaa hts;have Hcs:=zaa hcs
 clear hA hts hcs
 have hnot:=zaG
 obtain⟨R,hR⟩:∃ R,R=zbh ks sy (256 - c):=⟨_,rfl⟩
 rw[← hR]
 go_enter Tryz.func160,Tryz.ntmps160
 go_wp2
 go_loopw [11] (fun x wr=>∃ (i:Nat) (ci:Int),x=.int .i64 i∧i≤ks.length∧(i:Int)≤ci - c∧ci≤256∧256 - ci<N∧R=zbh (ks.drop i) sy (256 - ci)∧wr.heap[pb]? = some (.cells #[.int .i64 ci] 3)∧Fr (· = pb) w wr) (fun x _=>ks.length - (intOf x).toNat)
 case atStart=>exact⟨0,c,rfl,Nat.zero_le _,by omega,hc1,hN,hR,hct,zav _ _⟩
 case round =>
  obtain⟨i,ci,rfl,hi,h0,h1,h2,hRi,hcti,hfr⟩:=hrel
  have hbW:Below B w wr:=zah hfr hB (fun k hk=>by have hk:k=pb:=hk;omega)
  have Hfr:=zaa hfr
  have hszr:=hfr.1
  clear hfr hR hct
  by_cases hlt:i<ks.length
  ·have hlt':(i:Int)<ks.length:=by omega
   obtain⟨u0,u1,u2,u3,e0,e1,e2,e3,hu⟩:=zei ks vs (uh Hts) i hlt
   rcases uh Hcs with h | ⟨b,off,rfl,hbB,hcs⟩
   ·rw[h] at hlt;simp at hlt
   have c0:=(hbW.cell (p:=⟨b,off+i * 4,none⟩) hbB).trans (hcs _ _ e0)
   have c1:=(hbW.cell (p:=⟨b,off+i * 4+1,none⟩) hbB).trans (hcs _ _ e1)
   have c2:=(hbW.cell (p:=⟨b,off+i * 4+2,none⟩) hbB).trans (hcs _ _ e2)
   have c3:=(hbW.cell (p:=⟨b,off+i * 4+3,none⟩) hbB).trans (hcs _ _ e3)
   have hu2:=zbd hbW _ _ _ _ _ hu
   obtain⟨y0,y1,y2,y3,m3,d3,rfl,rfl,rfl,rfl⟩:=zdg hu2
   have hpbl:pb<wr.heap.size:=(Array.getElem?_eq_some_iff.1 hcti).1
   have hb2:Below wr.heap.size wr (wr.alloc (.cells #[.int .i64 y0,.int .i64 y1,.string y2,.slice y3 m3 d3] 87)):=(Below.refl _ _).alloc (Nat.le_refl _) _
   have hs2:(wr.alloc (.cells #[.int .i64 y0,.int .i64 y1,.string y2,.slice y3 m3 d3] 87)).heap.size=wr.heap.size+1:=by simp
   have HC:=zaa (uh HA (ks.getD i ac0) ci pb (wr.alloc (.cells #[.int .i64 y0,.int .i64 y1,.string y2,.slice y3 m3 d3] 87)) _ _ _ _ hpb (by omega) (zbd (zab hb2 (by omega)) _ _ _ _ _ hu2) (by omega) h1 h2 ((hb2.block pb hpbl).trans hcti))
   have Hfr2:=zaa (zb3 (uh Hfr) hb2)
   have hbd:=zd7 (ks.getD i ac0) sy (256 - ci) (by omega)
   have hRi2:R=zbh (ks.drop (i+1)) sy (zaU (ks.getD i ac0) sy (256 - ci)):=by rw[hRi,dropA hlt,zbh,if_neg (by omega)]
   generalize zaU (ks.getD i ac0) sy (256 - ci)=q2 at *
   clear hu hu2 hbW e0 e1 e2 e3 hcs hRi hb2
   go_wp2_with fail
   refine(uh HC).mono ?_
   rintro e w3 ⟨c',rfl,hc',hct',hfr3⟩
   have Hfr3:=zaa (zfr (uh Hfr2) hfr3)
   clear hfr3
   by_cases hq:0≤q2
   ·have hd:decide (0≤q2)=true:=by simpa using hq
    have hc2:=hc' hq
    go_wp2
    go_roundw
    case rel=>exact⟨i+1,c',by go_num,by omega,by omega,by omega,by omega,by rw[show (256:Int) - c'=q2 by omega];exact hRi2,hct',uh Hfr3⟩
    case measure=>simp[intOf];omega
   ·have hd:decide (0≤q2)=false:=decide_eq_false hq
    have hRq:R=q2:=by rw[hRi2];exact zgY _ _ _ (by omega)
    have Hr:Hid (decide (0≤R)=false):=zaa (by rw[hRq];exact hd)
    have Hn:Hid (0≤R→False):=zaa (fun h=>by omega)
    go_wp2
    go_ret
    refine⟨c',?_,fun h=>(uh Hn h).elim,hct',uh Hfr3⟩
    rw[uh Hr];rfl
  ·obtain rfl:i=ks.length:=by omega
   have hR2:R=256 - ci:=by rw[hRi,List.drop_length];rfl
   have hd:decide (0≤R)=true:=by simp;omega
   go_wp2
   go_ret
   refine⟨ci,?_,fun _=>by omega,hcti,uh Hfr⟩
   rw[hd];rfl
set_option maxHeartbeats 1000000 in
set_option maxRecDepth 100000 in
theorem act_of {B:Nat} {sy:Int} {N:Nat} (hK:KidC B sy N):ActC B sy (N+1):=by
 rintro⟨k,p,n,ks⟩ c pb w v0 v1 v2 v3 hpb hB hA hc0 hc1 hN hct
 unfold zdh at hA
 obtain⟨rfl,rfl,rfl,ka,kc,vs,rfl,hts,hkc⟩:=hA
 have hpbl:pb<w.heap.size:=(Array.getElem?_eq_some_iff.1 hct).1
 obtain⟨o1,ho1⟩:∃ o1,o1=Obj.cells #[.int .i64 k,.int .i64 p,.string (bs n),.slice ka ks.length kc] 87:=⟨_,rfl⟩
 obtain⟨d0,df⟩:=znR hct
 have hs1:((w.setCell ⟨pb,0,none⟩ (.int .i64 (c+1))).alloc o1).heap.size=w.heap.size+1:=by simp
 have hne:w.heap.size≠pb:=by omega
 obtain⟨W1,hW1⟩:∃ W1,W1=w.setCell ⟨pb,0,none⟩ (.int .i64 (c+1)):=⟨_,rfl⟩
 have hct1:W1.heap[pb]? = some (.cells #[.int .i64 (c+1)] 3):=by rw[hW1];exact Wk.block_set (i:=0) hct _
 have hf1:Fr (· = pb) w W1:=by rw[hW1];exact zaz (zav _ _) (by rfl) _
 have hsW1:W1.heap.size=w.heap.size:=by rw[hW1];simp
 obtain⟨W2,hW2⟩:∃ W2,W2=W1.alloc o1:=⟨_,rfl⟩
 have hb1:Below W1.heap.size W1 W2:=by rw[hW2];exact(Below.refl _ _).alloc (Nat.le_refl _) _
 have hct2:=(hb1.block pb (by omega)).trans hct1
 have hf:Fr (· = pb) w W2:=zb3 hf1 hb1
 have hbW:Below B w W2:=zah hf hB (fun k hk=>by have hk:k=pb:=hk;omega)
 have hsz2:=hf.1
 have z4:=(znR hct1).1
 have Hf:=zaa hf;have Hct2:=zaa hct2
 have hnot:=zaG
 have hwc:IntKind.i64.wrap (c+1)=c+1:=by rw[IntKind.wrap_i64];omega
 have Hts:=zaa (zdT hbW _ _ hts)
 have Hkc:=zaa (show ks=[]∨∃ b off,ka=some ⟨b,off,none⟩∧b<B∧∀ j u,vs[j]? = some u→W2.cell? ⟨b,off+j,none⟩=some u from hkc.imp id (fun⟨b,off,h1,h2,h3⟩=>⟨b,off,h1,h2,fun j u hu=>(hbW.cell (p:=⟨b,off+j,none⟩) h2).trans (h3 j u hu)⟩))
 have HK:=zaa hK
 have HE:=zaa (fun o:Obj=>show ((w.setCell ⟨pb,0,none⟩ (.int .i64 (c+1))).alloc o).heap[pb]? = some (.cells #[.int .i64 (c+1)] 3)∧Fr (· = pb) w ((w.setCell ⟨pb,0,none⟩ (.int .i64 (c+1))).alloc o) by
  rw[← hW1]
  have hbo:Below W1.heap.size W1 (W1.alloc o):=(Below.refl _ _).alloc (Nat.le_refl _) _
  exact⟨(hbo.block pb (by omega)).trans hct1,zb3 hf1 hbo⟩)
 have HK2:=zaa (fun o:Obj=>show ∀ q:Unit,zgI B ((w.setCell ⟨pb,0,none⟩ (.int .i64 (c+1))).alloc o) ks vs∧(ks=[]∨∃ b off,ka=some ⟨b,off,none⟩∧b<B∧∀ j u,vs[j]? = some u→((w.setCell ⟨pb,0,none⟩ (.int .i64 (c+1))).alloc o).cell? ⟨b,off+j,none⟩=some u) by
  intro _
  have hbo:=zah (uh HE o).2 hB (fun k hk=>by have hk:k=pb:=hk;omega)
  exact⟨zdT hbo _ _ hts,hkc.imp id (fun⟨b,off,h1,h2,h3⟩=>⟨b,off,h1,h2,fun j u hu=>(hbo.cell (p:=⟨b,off+j,none⟩) h2).trans (h3 j u hu)⟩)⟩)
 rw[hW1] at hW2 z4
 rw[ho1] at hW2
 clear Hts Hkc
 clear hct hct1 hb1 hf hf1 hbW hts hkc hct2 hK hW1 ho1 hs1
 by_cases hcm:c=256
 ·have hgt:(256:Int)<c+1:=by omega
  have Hp:Hid (decide (0≤zaU (.mk k p n ks) sy (256 - c))=false):=zaa (by subst hcm;unfold zaU;rfl)
  have Hq:Hid (0≤zaU (.mk k p n ks) sy (256 - c)→False):=zaa (by subst hcm;unfold zaU;intro h;simp at h)
  clear hcm
  go_enter Tryz.func142,Tryz.ntmps142
  go_wp2
  rw[← hW2]
  go_ret
  refine⟨c+1,?_,fun h=>(uh Hq h).elim,uh Hct2,uh Hf⟩
  rw[uh Hp];rfl
 ·have hc257:¬ (256:Int)<c+1:=by omega
  have Hpa:Hid (zaU (.mk k p n ks) sy (256 - c)=if okA k p n ks.length sy then zbh ks sy (256 - (c+1)) else -1):=zaa (by unfold zaU;rw[if_neg (by omega),show (256:Int) - c - 1=256 - (c+1) by omega])
  obtain⟨R,hR⟩:∃ R,R=zaU (.mk k p n ks) sy (256 - c):=⟨_,rfl⟩
  rw[← hR] at Hpa ⊢
  clear hR
  go_enter Tryz.func142,Tryz.ntmps142
  have Hc1:Hid (okA k p n ks.length sy→k≠2→R=256 - (c+1)):=zaa (fun h hk=>by
   have h0:ks=[]:=by
    rcases h with h | h | h | h
    ·exact List.eq_nil_of_length_eq_zero h.2.2.2
    ·exact List.eq_nil_of_length_eq_zero h.2.2.2.2
    ·exact List.eq_nil_of_length_eq_zero h.2.2.2
    ·exact absurd h.1 hk
   rw[uh Hpa,if_pos h,h0];rfl)
  have Hc0:Hid (¬ okA k p n ks.length sy→R = -1):=zaa (fun h=>by rw[uh Hpa,if_neg h])
  have hne0:(n=[])↔n.length=0:=List.length_eq_zero_iff.symm
  have Hne:Hid ((bs n).toList=[]↔n.length=0):=zaa (by rw[zbG];exact hne0)
  have Hsz:Hid ((bs n).size=n.length):=zaa rfl
  have Hfin:Hid (∀ (b:Bool) (W:World),(b=true↔(k=0∧p=0∧n.length=0∧ks.length=0)∨(k=1∧0≤p∧p<sy∧n.length=0∧ks.length=0)∨(k=3∧n.length≤4096∧p=0∧ks.length=0)∨(k=2∧1≤n.length∧n.length≤32∧p=0))→(k=2→b=false)→(∃ o,W=(w.setCell ⟨pb,0,none⟩ (.int .i64 (c+1))).alloc o)→zid pb R w (.returned (.bool b)) W):=zaa (by
   rintro b W h1 h2 ⟨o,rfl⟩
   have ho:okA k p n ks.length sy↔b=true:=by rw[h1];unfold okA;rw[hne0]
   refine⟨c+1,zbQ ?_,?_,(uh HE _).1,(uh HE _).2⟩
   ·cases hb:b
    ·have:=uh Hc0 (fun h=>by rw[ho,hb] at h;cases h)
     rw[this];rfl
    ·have:=uh Hc1 (ho.2 hb) (fun h=>by rw[h2 h] at hb;cases hb)
     rw[this];symm;simp;omega
   ·intro hR
    by_cases h:okA k p n ks.length sy
    ·have:=uh Hc1 h (fun hk=>by rw[ho,h2 hk] at h;cases h)
     omega
    ·have:=uh Hc0 h;omega)
  have Hnode:Hid (k=2→p=0→¬ n.length=0→n.length≤32→R=zbh ks sy (256 - (c+1))):=zaa (fun h1 h2 h3 h4=>by
   rw[uh Hpa,if_pos (.inr (.inr (.inr ⟨h1,by omega,h4,h2⟩)))])
  clear hW2 Hf Hct2 hne0 Hc1 Hc0 Hpa
  go_wp2_with fail
  all_goals first
   | (go_ret
      refine uh Hfin _ _ ?_ ?_ ⟨_,rfl⟩
      · have e2:=uh Hne;have e3:=uh Hsz
        clear Hfin Hnode Hne Hsz HE HK2 HK
        simp only[e2,e3,beq_iff_eq,beq_eq_false_iff_ne,ne_eq,Bool.false_eq_true,false_iff] at *
        omega
      · intro hk2
        first
          | rfl
          | (exfalso;clear Hfin Hnode Hne Hsz HE HK2 HK;simp only[beq_iff_eq,beq_eq_false_iff_ne,ne_eq] at *;omega))
   | skip
  refine(uh HK ks (c+1) pb _ ka kc vs hpb (by simp;omega) (uh HK2 _ ()).1 (uh HK2 _ ()).2 (by omega) (by omega) (by omega) (uh HE _).1).mono ?_
  rintro e w3 ⟨c',rfl,h1,h2,h3⟩
  have hf4:=zfr (uh HE _).2 h3
  have Hz:Hid (∀ b:Bool,(!(bs n).toList.isEmpty && b)=b):=zaa (fun b=>by
   have hn:(bs n).toList.isEmpty=false:=by rw[List.isEmpty_eq_false_iff];assumption
   rw[hn];rfl)
  have hRR:R=zbh ks sy (256 - (c+1)):=by
   have e2:=uh Hne;have e3:=uh Hsz
   clear Hfin Hne Hsz HE HK2 HK h1 h2 h3 hf4 Hz
   simp only[e2,e3,beq_iff_eq] at *
   exact uh Hnode (by omega) (by omega) (by omega) (by omega)
  have Hpost:Hid (zid pb R w (.returned (.bool (decide (0≤zbh ks sy (256 - (c+1)))))) w3):=zaa (by rw[hRR];exact⟨c',rfl,h1,h2,hf4⟩)
  clear Hfin Hnode Hne Hsz HE HK2 HK h1 h2 h3 hf4 hRR
  generalize decide (0≤zbh ks sy (256 - (c+1)))=bb at *
  go_wp2
  go_ret
  have hp:=uh Hpost
  rw[← uh Hz bb] at hp
  exact hp
theorem zoe (B:Nat) (sy:Int):∀ N,ActC B sy N
 | 0=>by
   intro t c pb w v0 v1 v2 v3 hpb hB hA hc0 hc1 hN hct
   have hN:(256:Int) - c<((0:Nat):Int):=hN
   exfalso;omega
 | N+1=>act_of (zq7 (zoe B sy N))
end Go.Proofs.YtagohbpbgjelaaaGreatDoor

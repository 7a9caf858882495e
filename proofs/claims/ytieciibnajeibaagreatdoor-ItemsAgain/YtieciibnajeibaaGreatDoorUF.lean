import Derived.Test.YtieciibnajeibaaGreatDoorKU
set_option maxHeartbeats 8000000
set_option maxRecDepth 100000
namespace Go.Proofs.YtieciibnajeibaaGreatDoor
open Go.RowKit
def znf(G:Gm)(sts:List (List It))(nxs:List (List Int)):Prop:=zng sts/\zkM sts.length nxs/\(nxs.getD 0 []).length=G.nk+G.nr/\∀ j,j<sts.length->zni G (sts.getD j [])
def FitP(G:Gm)(st step:List It):Prop:=zcI (zgr G st)=zcI step/\∀ i,i ∈ step->i ∈ st
def StepP(G:Gm)(sts:List (List It))(step:List It)(t:Int):Prop:=(t = -1↔step=[])/\(t ≠ -1->FitP G (sts.getD t.toNat []) step)
def zun(G:Gm)(sts:List (List It))(nxs:List (List Int)):Prop:=zaP G ∈ sts.getD 0 []/\(∀ j,j<sts.length->zl0 G (sts.getD j []))/\∀ j,j<sts.length->∀ x,x<(nxs.getD j []).length->StepP G sts (zcb G (sts.getD j []) x) ((nxs.getD j []).getD x 0)
def RightP(G:Gm)(sts:List (List It))(nxs:List (List Int)):Prop:=znf G sts nxs/\zun G sts nxs
theorem zg9{α:Type}{l:List (List α)}{i:Nat}(h:i<l.length):l.getD i [] ∈ l:=by
 rw[zsE,zsF h];exact List.getElem_mem h
theorem zdR{α:Type}{l m:List (List α)}{i:Nat}(h:i<l.length):(l ++ m).getD i []=l.getD i []:=by
 rw[zsE,zsE,List.getElem?_append_left h]
theorem zfk{α:Type}{l:List (List α)}{x:List α}:(l ++ [x]).getD l.length []=x:=by simp[List.getD_eq_getElem?_getD]
structure KerP (G:Gm) (m:List It):Prop where
 is:∀ x,x ∈ m->zcv G x=true
 ker:∀ x,x ∈ m->zi2 G x=true
 up:UpI m
 ne:m≠[]
structure BInv (G:Gm) (s:BM):Prop where
 len:s.kers.length=s.sts.length
 st:∀ i,i<s.sts.length->s.sts.getD i []=clL G (s.kers.getD i [])/\(clL G (s.kers.getD i [])).length<=65536
 ker:∀ m,m ∈ s.kers->KerP G m
 sum:zk4 s.sts=s.cnt
 cnt:s.cnt<=1048576
 n1:s.sts.length<=4096
 nd:s.kers.Nodup
def Grw(s s':BM):Prop:=s.kers.length<=s'.kers.length/\s.sts.length<=s'.sts.length/\(∀ i,i<s.kers.length->s'.kers.getD i []=s.kers.getD i [])/\∀ i,i<s.sts.length->s'.sts.getD i []=s.sts.getD i []
theorem zgs(s:BM):Grw s s:=⟨zsG _,zsG _,λ_ _=>rfl,λ_ _=>rfl⟩
theorem zkn{a b c:BM}(h:Grw a b)(k:Grw b c):Grw a c:=⟨zsy h.1 k.1,zsy h.2.1 k.2.1,λi hi=>(k.2.2.1 i (zsJ hi h.1)).trans (h.2.2.1 i hi),λi hi=>(k.2.2.2 i (zsJ hi h.2.1)).trans (h.2.2.2 i hi)⟩
theorem zna{G:Gm}{s s':BM}{l:List It}{n:Nat}(h:BInv G s)(hl:KerP G l)(e:zh0 G s l=.ok (s',n)):BInv G s'/\Grw s s'/\n<s'.kers.length/\s'.kers.getD n []=l:=by
 unfold zh0 at e
 split at e
 ·rename_i hm;simp only[Except.ok.injEq,Prod.mk.injEq] at e;obtain⟨rfl,rfl⟩:=e;have hi:=List.idxOf_lt_length_iff.2 hm;refine⟨h,zgs _,hi,?_⟩;rw[zsE,zsF hi];exact List.getElem_idxOf hi
 ·rename_i hm
  split at e
  ·rename_i hv;simp only[Except.ok.injEq,Prod.mk.injEq] at e;obtain⟨rfl,rfl⟩:=e;have hv2:clV G l=0/\s.cnt+(clR G l).length<=1048576/\s.sts.length≠4096:=by
    unfold zpG at hv
    split at hv
    ·rename_i h0;refine⟨h0,?_⟩
     split at hv
     ·cases hv
     ·split at hv
      ·cases hv
      ·exact⟨by omega,by assumption⟩
    ·rename_i h0;exact absurd hv h0
   have hlen:(clL G l).length<=65536:=by
    have h0:=hv2.1;unfold clV at h0
    split at h0
    ·assumption
    ·cases h0
   have hR:clR G l=clL G l:=by unfold clR;rw[if_pos hlen]
   refine⟨⟨by simp[h.len],λi hi=>?_,λm hm2=>?_,?_,hv2.2.1,?_,?_⟩,⟨by simp,by simp,λi hi=>zdR hi,λi hi=>zdR hi⟩,by simp[h.len],?_⟩
   ·simp only[zsI,List.length_cons,List.length_nil] at hi;by_cases e:i<s.sts.length
    ·rw[zdR e,zdR (by rw[h.len];exact e)];exact h.st i e
    ·obtain rfl:i=s.sts.length:=by omega
     have e2:(s.kers ++ [l]).getD s.sts.length []=l:=by rw[<- h.len];exact zfk
     simp only[zfk,e2,hR];exact⟨trivial,hlen⟩
   ·rcases List.mem_append.1 hm2 with h9 | h9
    ·exact h.ker m h9
    ·rw[List.mem_singleton.1 h9];exact hl
   ·show zk4 (s.sts ++ [clR G l])=s.cnt+(clR G l).length;rw[zjF,h.sum]
   ·have:=h.n1;simp only[zsI,List.length_cons,List.length_nil];omega
   ·exact List.nodup_append.2 ⟨h.nd,by simp,λa ha b hb e=>hm (by rw[List.mem_singleton] at hb;rw[<- hb,<- e];exact ha)⟩
   ·show (s.kers ++ [l]).getD s.sts.length []=l;rw[<- h.len];exact zfk
  ·cases e
theorem zrQ{G:Gm}{l:List It}(h:UpI l)(y:Nat):UpI (zcb G l y):=by
 unfold zcb UpI;rw[List.pairwise_map];refine(h.filter _).imp (fun {a b} hab=>?_);unfold ltI at hab ⊢;simp only;omega
theorem zte{G:Gm}{l:List It}{y:Nat}{x:It}(h:x ∈ zcb G l y):∃ z,z ∈ l/\zdh G z=some (y:Int)/\x=(z.1,z.2.1+1,z.2.2):=by
 unfold zcb at h;obtain⟨z,hz,rfl⟩:=List.mem_map.1 h;obtain⟨h1,h2⟩:=List.mem_filter.1 hz;exact⟨z,h1,of_decide_eq_true h2,rfl⟩
theorem zto{G:Gm}{l:List It}(hl:∀ x,x ∈ l->zcv G x=true)(hu:UpI l){y:Nat}(hn:zcb G l y≠[]):KerP G (zcb G l y):=by
 refine⟨ziT hl,λx hx=>?_,zrQ hu y,hn⟩;obtain⟨z,hz,-,rfl⟩:=zte hx;obtain⟨-,-,e3,-⟩:=of_decide_eq_true (hl z hz);unfold zi2;simp only[Bool.or_eq_true,decide_eq_true_eq];left;omega
def zos(_G:Gm)(s:BM)(step:List It)(t:Int):Prop:=(t = -1/\step=[])\/∃ n:Nat,n<s.kers.length/\t=(n:Int)/\s.kers.getD n []=step/\step≠[]
theorem zmN{G:Gm}{s s':BM}{step:List It}{t:Int}(h:zos G s step t)(hg:Grw s s'):zos G s' step t:=by
 rcases h with h | ⟨n,h1,h2,h3,h4⟩
 ·exact .inl h
 ·exact .inr ⟨n,zsJ h1 hg.1,h2,(hg.2.2.1 n h1).trans h3,h4⟩
theorem zrr{G:Gm}{st:List It}(hl:∀ x,x ∈ st->zcv G x=true)(hu:UpI st):∀ {ys:List Int} {s s':BM} {nx nx':List Int},BInv G s->(∀ y,y ∈ ys->∃ q:Nat,y=(q:Int)/\q<nx.length/\zcb G st q≠[])->(∀ x,x<nx.length->(x:Int) ∉ ys->zos G s (zcb G st x) (nx.getD x 0))->goM G st ys s nx=.ok (s',nx') ->
 BInv G s'/\Grw s s'/\nx'.length=nx.length/\∀ x,x<nx.length->zos G s' (zcb G st x) (nx'.getD x 0)
 | [],s,s',nx,nx',h,_,ho,e=>by
   simp only[goM,Except.ok.injEq,Prod.mk.injEq] at e;obtain⟨rfl,rfl⟩:=e;exact⟨h,zgs _,rfl,λx hx=>ho x hx (by simp)⟩
 | y::ys,s,s',nx,nx',h,hy,ho,e=>by
   unfold goM at e;obtain⟨q,rfl,hq,hne⟩:=hy y (by simp)
   split at e
   ·cases e
   ·rename_i s2 n hn;rw[zsS] at hn e;obtain⟨h2,hg,hnl,hnk⟩:=zna h (zto hl hu hne) hn
    have:=zrr hl hu (ys:=ys) h2 (λz hz=>by
     obtain⟨q',h1,h3,h4⟩:=hy z (List.mem_cons_of_mem _ hz)
     exact⟨q',h1,by simpa using h3,h4⟩) (λx hx hxn=>by
     rw[List.length_set] at hx;by_cases ex:x=q
     ·subst ex;rw[zsE,List.getElem?_set_self hx];exact .inr ⟨n,hnl,rfl,hnk,hne⟩
     ·rw[zsE,List.getElem?_set_ne (λe=>ex e.symm),<- zsE]
      exact zmN (ho x hx (by
       rw[List.mem_cons];rintro(h9 | h9)
       ·exact ex (by omega)
       ·exact hxn h9)) hg) e
    obtain⟨i1,i2,i3,i4⟩:=this;rw[List.length_set] at i3 i4;exact⟨i1,zkn hg i2,i3,i4⟩
def zxx(G:Gm)(s:BM)(nxs:List (List Int)):Prop:=nxs.length<=s.sts.length/\∀ j,j<nxs.length->(nxs.getD j []).length=G.nk+G.nr/\∀ x,x<G.nk+G.nr->zos G s (zcb G (s.sts.getD j []) x) ((nxs.getD j []).getD x 0)
theorem zrq{G:Gm}(hG:GOk G){s:BM}(h:BInv G s){j:Nat}(hj:j<s.sts.length):(∀ x,x ∈ s.sts.getD j []->zcv G x=true)/\UpI (s.sts.getD j []):=by
 rw[(h.st j hj).1];exact⟨zqg hG (h.ker _ (zg9 (by rw[h.len];exact hj))).is,zeD _ _⟩
theorem zkH{G:Gm}(hG:GOk G):∀ {f:Nat} {s s':BM} {nxs nxs':List (List Int)},BInv G s->zxx G s nxs->4096<=nxs.length+f->zdq G f s nxs=.ok (s',nxs')->BInv G s'/\Grw s s'/\zxx G s' nxs'/\nxs'.length=s'.sts.length
 | 0,s,s',nxs,nxs',h,hn,hf,e=>by
   simp only[zdq,Except.ok.injEq,Prod.mk.injEq] at e;obtain⟨rfl,rfl⟩:=e;have:=h.n1;exact⟨h,zgs _,hn,by have:=hn.1;omega⟩
 | f+1,s,s',nxs,nxs',h,hn,hf,e=>by
   by_cases hlt:nxs.length<s.sts.length
   ·cases hg:goM G (s.sts.getD nxs.length []) (ysI G (s.sts.getD nxs.length [])) s (List.replicate (G.nk+G.nr) (-1)) with
    | error v=>rw[zka hlt hg] at e;cases e
    | ok r =>
      obtain⟨s2,nx⟩:=r;rw[zei hlt hg] at e;obtain⟨hi,hu⟩:=zrq hG h hlt
      obtain⟨i1,i2,i3,i4⟩:=zrr hi hu h (λy hy=>by
       obtain⟨q,h1,-,h3,h4⟩:=zow hG hi hy
       exact⟨q,h1,by simpa using h4,h3⟩) (λx hx hxn=>by
       rw[List.length_replicate] at hx;left;refine⟨by rw[zsE,List.getElem?_replicate,if_pos hx];rfl,?_⟩;by_cases hm:zcb G (s.sts.getD nxs.length []) x=[]
       ·exact hm
       ·exfalso;apply hxn;rw[zgy hG hi]
        exact List.mem_map.2 ⟨x,List.mem_filter.2 ⟨List.mem_range.2 hx,decide_eq_true hm⟩,rfl⟩) hg
      rw[List.length_replicate] at i3 i4
      have:=zkH hG (nxs:=nxs ++ [nx]) i1 ⟨by rw[zsI];have:=i2.2.1;simp;omega,λj hj=>by
       rw[zsI] at hj;simp only[List.length_cons,List.length_nil] at hj;by_cases ej:j<nxs.length
       ·rw[zdR ej,i2.2.2.2 j (by omega)];exact⟨(hn.2 j ej).1,λx hx=>zmN ((hn.2 j ej).2 x hx) i2⟩
       ·obtain rfl:j=nxs.length:=by omega
        rw[zfk,i2.2.2.2 nxs.length hlt]
        exact⟨i3,i4⟩⟩ (by simp;omega) e
      exact⟨this.1,zkn i2 this.2.1,this.2.2⟩
   ·rw[zg0 hlt] at e;simp only[Except.ok.injEq,Prod.mk.injEq] at e;obtain⟨rfl,rfl⟩:=e;exact⟨h,zgs _,hn,by have:=hn.1;omega⟩
theorem znW{G:Gm}(hG:GOk G):KerP G [zaP G]:=by
 refine⟨λx hx=>?_,λx hx=>?_,by simp[UpI],by simp⟩
 ·rw[List.mem_singleton.1 hx];exact ze4 hG
 ·rw[List.mem_singleton.1 hx];unfold zi2 zaP;simp
theorem zrb{G:Gm}(hG:GOk G){s:BM}{nxs:List (List Int)}(h:zcp G=.ok (s,nxs)):BInv G s/\zxx G s nxs/\nxs.length=s.sts.length/\0<s.kers.length/\s.kers.getD 0 []=[zaP G]:=by
 unfold zcp at h
 split at h
 ·cases h
 ·rename_i s0 n hn;have h0:BInv G ⟨[],[],0⟩:=⟨rfl,λi hi=>absurd hi (Nat.not_lt_zero _),λm hm=>by simp at hm,rfl,by simp,by simp,List.nodup_nil⟩;obtain⟨i1,i2,i3,i4⟩:=zna h0 (znW hG) hn;have hn0:n=0:=by
   unfold zh0 at hn;rw[if_neg (by simp)] at hn
   split at hn
   ·simp only[Except.ok.injEq,Prod.mk.injEq] at hn;exact hn.2.symm
   ·cases hn
  subst hn0;obtain⟨j1,j2,j3,j4⟩:=zkH hG (nxs:=[]) i1 ⟨by simp,λj hj=>absurd hj (Nat.not_lt_zero _)⟩ (by simp) h;exact⟨j1,j3,j4,zsJ i3 j2.1,(j2.2.2.1 0 i3).trans i4⟩
theorem zwa{G:Gm}(hG:GOk G){m:List It}(h:KerP G m):zgr G (clL G m)=m:=by
 refine zd4 ((zeD G m).filter _) h.up (λx=>?_);unfold zgr;rw[List.mem_filter];constructor
 ·rintro⟨h1,h2⟩;rcases(zcE hG).1 h1 with h3 | ⟨p,k,rfl,hp,-⟩
  ·exact h3
  ·unfold zi2 at h2;simp only[Bool.or_eq_true,decide_eq_true_eq] at h2;omega
 ·intro hx;exact⟨zkz hG hx,h.ker x hx⟩
theorem zko{G:Gm}(hG:GOk G){s:BM}(h:BInv G s){step:List It}{t:Int}(hs:zos G s step t):(-1<=t/\t<s.sts.length)/\StepP G s.sts step t:=by
 rcases hs with ⟨rfl,rfl⟩ | ⟨n,h1,rfl,h3,h4⟩
 ·exact⟨⟨by omega,by omega⟩,⟨λ_=>rfl,λ_=>rfl⟩,λh=>absurd rfl h⟩
 ·have hl:=h.len;refine⟨⟨by omega,by omega⟩,⟨λe=>by omega,λe=>absurd e h4⟩,λ_=>?_⟩;rw[zsS,(h.st n (by omega)).1,h3];have hk:KerP G step:=h3▸h.ker _ (zg9 h1);unfold FitP;rw[zwa hG hk];exact⟨rfl,λi hi=>zkz hG hi⟩
theorem zt2{G:Gm}(hG:GOk G){m:List It}(h:(clL G m).length<=65536):zl0 G (clL G m):=by
 unfold zl0 clV clR;rw[zm3 hG,if_pos h,if_pos h];exact⟨rfl,rfl⟩
theorem zpV{l:List Int}{x:Int}(h:x ∈ l):∃ i,i<l.length/\l.getD i 0=x:=by
 obtain⟨i,hi,rfl⟩:=List.getElem_of_mem h;exact⟨i,hi,by rw[zsE,zsF hi];rfl⟩
theorem zlR{G:Gm}(hG:GOk G){s:BM}{nxs:List (List Int)}(h:zcp G=.ok (s,nxs)):RightP G s.sts nxs:=by
 obtain⟨i1,i2,i3,i4,i5⟩:=zrb hG h;have hl:=i1.len;have h0:0<s.sts.length:=by omega
 have hrow:∀ j,j<nxs.length->(nxs.getD j []).length=G.nk+G.nr:=λj hj=>(i2.2 j hj).1;refine⟨⟨⟨⟨h0,i1.n1⟩,λj hj=>?_,by rw[i1.sum];exact i1.cnt⟩,⟨h0,i3,λj hj=>⟨by rw[hrow j hj,hrow 0 (by omega)],λx hx=>?_⟩⟩,hrow 0 (by omega),λj hj=>?_⟩,?_,λj hj=>?_,λj hj x hx=>?_⟩
 ·have hk:=i1.ker _ (zg9 (show j<s.kers.length by omega));rw[(i1.st j hj).1];refine⟨?_,(i1.st j hj).2⟩;obtain⟨z,hz⟩:=List.exists_mem_of_ne_nil _ hk.ne;exact List.length_pos_of_mem (zkz hG hz)
 ·obtain⟨q,hq,rfl⟩:=zpV hx;rw[hrow j hj] at hq;exact(zko hG i1 ((i2.2 j hj).2 q hq)).1
 ·obtain⟨a,b⟩:=zrq hG i1 hj;exact⟨areIt_iff.2 a,b⟩
 ·rw[(i1.st 0 h0).1,i5];exact zkz hG (by simp)
 ·rw[(i1.st j hj).1];exact zt2 hG (i1.st j hj).2
 ·rw[hrow j (by omega)] at hx;exact(zko hG i1 ((i2.2 j (by omega)).2 x hx)).2
open Go.Maps
def kcL(G:Gm)(st:List It):List Sp:=zcI (zgr G st)
structure LdI (w:World) (B cb gb tb:Nat) (G:Gm) (sts:List (List It)) (j:Nat) (vC:Value) (vs:List Value) (wr:World):Prop where
 cl:∃ R:Nat->Prop,ClB R B wr cb gb tb G/\RsT R wr G tb/\(∀ k,R k->k<wr.heap.size)/\∀ k,vC.ownBlock=some k->¬ R k
 row:wr.ownsRow w.heap.size 157 1 vC j vs
 len:vs.length=j
 cs:∀ i,i<j->∃ a c,vs[i]? = some (.slice a (kcL G (sts.getD i [])).length c)/\wr.ownsRow w.heap.size 121 2 (.slice a (kcL G (sts.getD i [])).length c) (kcL G (sts.getD i [])).length (za9 (kcL G (sts.getD i [])))
 fr:Fr (λk=>k=tb) w wr
section
variable {w:World} {B cb gb tb:Nat} {G:Gm} {sts:List (List It)} {j:Nat} {vC:Value} {vs:List Value} {wr:World}
theorem zfg{w2:World}(h:LdI w B cb gb tb G sts j vC vs wr)(hb:Below wr.heap.size wr w2):LdI w B cb gb tb G sts j vC vs w2:=by
 obtain⟨R,h1,h2,h3,h4⟩:=h.cl;refine⟨⟨R,zbb h1 (zae hb),zbC h2 (zae hb),λk hk=>zsJ (h3 k hk) hb.size,h4⟩,zaC h.row (zae (O:=λ_=>False) hb) (λ_ _ h=>h),h.len,λi hi=>?_,zcK h.fr (zae hb)⟩;obtain⟨a,c,g1,g2⟩:=h.cs i hi;exact⟨a,c,g1,zaC g2 (zae (O:=λ_=>False) hb) (λ_ _ h=>h)⟩
theorem ztk{w2:World}(h:LdI w B cb gb tb G sts j vC vs wr)(ht:tb<w.heap.size){R R':Nat->Prop}(hv:∀ k,vC.ownBlock=some k->¬ R k)(hf:Fr (λk=>k=tb) wr w2)(h1:ClB R' B w2 cb gb tb G)(h2:RsT R' w2 G tb)(h3:∀ k,R' k->R k\/wr.heap.size<=k)(h4:∀ k,R' k->k<w2.heap.size):LdI w B cb gb tb G sts j vC vs w2:=by
 refine⟨⟨R',h1,h2,h4,λk hk hR=>?_⟩,zaC h.row hf (λk hk e=>?_),h.len,λi hi=>?_,zcK h.fr hf⟩
 ·rcases h3 k hR with h9 | h9
  ·exact hv k hk h9
  ·obtain⟨-,cs,h8⟩:=zaH h.row hk;have:=(zsO.1 h8).1;omega
 ·have:=(zaH h.row hk).1;omega
 ·obtain⟨a,c,g1,g2⟩:=h.cs i hi;exact⟨a,c,g1,zaC g2 hf (λk hk e=>by have:=(zaH g2 hk).1;omega)⟩
theorem ztj{w6:World}(h:LdI w B cb gb tb G sts j vC vs wr)(ht:tb<w.heap.size){a:Option Addr}{c:Nat}(hc:wr.ownsRow w.heap.size 121 2 (.slice a (kcL G (sts.getD j [])).length c) (kcL G (sts.getD j [])).length (za9 (kcL G (sts.getD j [])))){v':Value}(hr:w6.ownsRow w.heap.size 157 1 v' (j+1) (vs ++ [.slice a (kcL G (sts.getD j [])).length c]))(hg:wr.grownBy w6 vC.ownBlock)(hv:v'.ownBlock=vC.ownBlock\/v'.ownBlock=some wr.heap.size):LdI w B cb gb tb G sts (j+1) v' (vs ++ [.slice a (kcL G (sts.getD j [])).length c]) w6:=by
 obtain⟨R,h1,h2,h3,h4⟩:=h.cl;have hf:Fr (λk=>vC.ownBlock=some k) wr w6:=zn2 hg (λk e=>e);have hlow:∀ k,vC.ownBlock=some k->w.heap.size<=k:=λk hk=>(zaH h.row hk).1;have hty:∀ k {v:Value} {n:Nat} {xs:List Value},wr.ownsRow w.heap.size 121 2 v n xs->v.ownBlock=some k->vC.ownBlock≠some k:=λk v n xs h8 h9 e=>by
  obtain⟨-,cs,h10⟩:=zaH h8 h9;obtain⟨-,cs',h11⟩:=zaH h.row e;rw[h10] at h11;simp at h11
 refine⟨⟨R,zbb h1 (zaj hf (λk _ e=>h4 k e)),zbC h2 (zaj hf (λk _ e=>⟨h4 k e,λe2=>by have:=hlow k e;omega⟩)),λk hk=>zsJ (h3 k hk) hf.1,λk hk hR=>?_⟩,hr,by simp[h.len],λi hi=>?_,zws h.fr hf (λk hk e=>by have:=hlow k e;omega)⟩
 ·rcases hv with e | e
  ·exact h4 k (e▸hk) hR
  ·rw[e] at hk
   cases hk
   have:=h3 _ hR;omega
 ·by_cases e:i<j
  ·obtain⟨a',c',g1,g2⟩:=h.cs i e;exact⟨a',c',by rw[List.getElem?_append_left (by rw[h.len];exact e)];exact g1,zaC g2 hf (λk hk=>hty k g2 hk)⟩
  ·obtain rfl:i=j:=by omega
   exact⟨a,c,by rw[<- h.len];simp,zaC hc hf (λk hk=>hty k hc hk)⟩
end
theorem zp5{w w1:World}{R:Nat->Prop}{B cb gb tb:Nat}{G:Gm}{sts:List (List It)}(h1:ClB R B w cb gb tb G)(h2:RsT R w G tb)(h3:∀ k,R k->k<w.heap.size)(hb:Below w.heap.size w w1):LdI w B cb gb tb G sts 0 (.slice none 0 0) [] w1 :=
 ⟨⟨R,zbb h1 (zae hb),zbC h2 (zae hb),λk hk=>zsJ (h3 k hk) hb.size,λk hk=>by simp[Value.ownBlock] at hk⟩,⟨rfl,.inl ⟨rfl,rfl⟩⟩,rfl,λi hi=>absurd hi (Nat.not_lt_zero _),zae hb⟩
theorem zwg:(Tryz.prog.info? 157).map (λi=>(i.zero,i.size,i.bytes))=some (some (.slice none 0 0),1,24):=by kernel_rfl
theorem zmz{B:Nat}{w:World}{a:Option Addr}{l:List Int}(h:NRow B w a l){k:Nat}(hk:k<l.length):∃ b off,a=some ⟨b,off,none⟩/\b<B/\w.cell? ⟨b,off+k,none⟩=some (.int .i64 (l.getD k 0)):=by
 rcases h with rfl | ⟨b,off,h1,h2,h3⟩
 ·simp at hk
 ·exact⟨b,off,h1,h2,h3 k hk⟩
theorem zqO(l:List Sp):∀ m,(cuS l m).length<=m
 | 0=>zsG _
 | m+1=>by
   have ih:=zqO l m;unfold cuS;rw[zsI]
   split <;> simp <;> omega
theorem zwb(G:Gm)(st:List It):(kcL G st).length<=st.length:=by
 have h1:=zqO ((zgr G st).map spt) ((zgr G st).map spt).length;have h2:(zgr G st).length<=st.length:=List.length_filter_le _ _;rw[List.length_map] at h1;unfold kcL zcI;rw[List.length_map];omega
open Classical in
theorem zls(R0:Nat->Prop)(B cb gb tb:Nat)(G:Gm)(hG:GOk G)(w0 w:World)(hc0:ClB R0 B w cb gb tb G)(ht:RsT R0 w G tb)(hR0:∀ k,R0 k->k<w.heap.size)(htab:Tb w0.heap.size w0)(htb:w0.heap.size<=tb)(hb0:Below w0.heap.size w0 w)(sa na:Option Addr)(sc nc:Nat)(sts:List (List It))(nxs:List (List Int))(hsh:znf G sts nxs)(hlp:zun G sts nxs)(hs:zev w0.heap.size w0 sa sts)(hn:zeu w0 na nxs) :
 Calls Tryz.prog 58 #[.pointer (some ⟨cb,0,none⟩),.agg #[.slice sa sts.length sc,.slice na nxs.length nc]] w λe w'=>e=.returned (.bool true)/\Below w0.heap.size w0 w':=by
 obtain⟨hRm,hHv,hle,hIt⟩:=hsh;have hsl:0<sts.length:=hRm.1.1;have hsl4:sts.length<=4096:=hRm.1.2;have hsl0:(0:Int)<(sts.length:Int):=by omega
 obtain⟨cna,cnc,cfa,cfc,coa,coc,crc,hcbx,hRc,hgm,hBw,hBR,-⟩:=id hc0;have htl:tb<w.heap.size:=by obtain⟨-,cs,h1,-⟩:=id ht;exact(zsO.1 h1).1
 have hcbl:=hR0 cb hRc;have hs0:=hb0.size;obtain⟨W1,hW1⟩:∃ W1,W1=w.alloc (.cells #[.slice sa sts.length sc,.slice na nxs.length nc] 45):=⟨_,rfl⟩;have hb1:Below w.heap.size w W1:=by rw[hW1];exact(zsY _ _).alloc (zsG _) _
 have hx1:W1.heap[w.heap.size]? = some (.cells #[.slice sa sts.length sc,.slice na nxs.length nc] 45 (0,0)):=by rw[hW1];exact zsH _ _
 have hs1:W1.heap.size=w.heap.size+1:=by rw[hW1];simp
 have hcx1:=(hb1.block _ hcbl).trans hcbx;obtain⟨sb,soff,s0a,c0,rfl,hsb,q0,hr0,hl0⟩:=zdp hs (k:=0) hRm.1.1;have hb01:=hb0.trans (zab hb1 hs0);have q0':W1.cell? ⟨sb,soff,none⟩=some (.slice s0a (sts.getD 0 []).length c0):=(hb01.cell (p:=⟨sb,soff,none⟩) hsb).trans q0;have Hld:=zaa (zp5 (sts:=sts) hc0 ht hR0 hb1);have Hhs:=zaa hs;have Hhn:=zaa hn;have Htab:=zaa htab;have HIt:=zaa hIt;have Hb0:=zaa hb0;have Hx1:=zaa hx1;have Hhv:=zaa hHv;have HSt:=zaa (λ(W:World) (hb:Below W1.heap.size W1 W)=>ze3 B gb G W (zsy hBw (by have:=hb.size;omega)) (zaX (zab (hb1.trans (zab hb (by omega))) hBw) hgm));have HH:=zaa (λ(W:World) (hb:Below W1.heap.size W1 W)=>show Calls Tryz.prog 97 #[.slice s0a (sts.getD 0 []).length c0,itV (zaP G)] W (λe w'=>e=.returned (.bool (decide (zaP G ∈ sts.getD 0 [])))/\Below W.heap.size W w') from zkm s0a c0 (sts.getD 0 []) hl0 (hIt 0 hRm.1.1).2 (zaP G) W (zaI (zaw (hb01.trans (zab hb (by omega))) hr0) (by have:=hb.size;omega)));have HS:Hid (∀ W:World,Below W1.heap.size W1 W->W.cell? ⟨w.heap.size,0,none⟩=some (.slice (some ⟨sb,soff,none⟩) sts.length sc)/\W.cell? ⟨sb,soff,none⟩=some (.slice s0a (sts.getD 0 []).length c0)/\W.cell? ⟨cb,0,none⟩=some (.pointer (some ⟨gb,0,none⟩))):=zaa (λW hb=>⟨(hb.cell (p:=⟨w.heap.size,0,none⟩) (by show w.heap.size<_;omega)).trans (zac hx1 0 rfl),(hb.cell (p:=⟨sb,soff,none⟩) (by show sb<_;omega)).trans q0',(hb.cell (p:=⟨cb,0,none⟩) (by show cb<_;omega)).trans (zac hcx1 0 rfl)⟩);have Hb1:=zaa hb1;have HBw:=zaa hBw;have Hlp:=zaa hlp;have Hrm:=zaa hRm;clear hc0 ht hR0 htab hb0 hs hn hIt hb1 hx1 hcbx hcx1 hgm hBR hr0 q0 q0' hHv hRm hlp;have Hw1:=zaa hW1;clear hW1;have hin:zaP G ∈ sts.getD 0 []:=(uh Hlp).1;have hd:decide (zaP G ∈ sts.getD 0 [])=true:=decide_eq_true hin;rw[hd] at HH;clear hin hd hl0;obtain⟨n0,hn0⟩:∃ n0,n0=(sts.getD 0 []).length:=⟨_,rfl⟩;rw[<- hn0] at HH HS;clear hn0;go_enter Tryz.func58,Tryz.ntmps58;go_wp2_with fail;rw[<- uh Hw1];have hS:Below W1.heap.size W1 W1.drew:=(zsY _ _).drew
 go_region_held3 (λW:World=>W.cell? ⟨w.heap.size,0,none⟩=some (.slice (some ⟨sb,soff,none⟩) sts.length sc)/\W.cell? ⟨sb,soff,none⟩=some (.slice s0a n0 c0)/\W.cell? ⟨cb,0,none⟩=some (.pointer (some ⟨gb,0,none⟩)))
  (exact uh HS _ hS)
  (first
  | (go_at_call 88;refine(uh HSt _ hS).mono ?_;rintro e W3 ⟨rfl,hb3⟩;have hS:=hS.trans (zab hb3 hS.size);clear hb3)
  | (go_at_call 97;refine(uh HH _ hS).mono ?_;rintro e W3 ⟨rfl,hb3⟩;have hS:=hS.trans (zab hb3 hS.size);clear hb3)
    | fail)
 have Hld1:=zaa (zfg (uh Hld) hS);have hsz1:=hS.size;have hx1:=(hS.block w.heap.size (by omega)).trans (uh Hx1);have x0:=zac hx1 0 rfl;have Hx1b:=zaa hx1;clear HSt HH HS Hld Hx1 hx1 hS;obtain⟨i0,hi0,hz0,hz1,hz2⟩:=zah zwg;go_wp2_with fail
 go_loopw [5,28] (λv x wr=>∃ (j:Nat) (vs:List Value),x=.int .i64 (j:Int)/\j<=sts.length/\LdI w B cb gb tb G sts j v vs wr/\wr.heap[w.heap.size]? = some (.cells #[.slice (some ⟨sb,soff,none⟩) sts.length sc,.slice na nxs.length nc] 45 (0,0))) (λ_ x _=>sts.length - (intOf x).toNat)
 case atStart=>exact⟨0,[],rfl,zsK _,uh Hld1,uh Hx1b⟩
 case round =>
  obtain⟨j,vs,rfl,hj,hld,hxw⟩:=hrel;have hbw:Below w0.heap.size w0 wr:=(uh Hb0).trans (zau hld.fr hs0 (λk hk=>by omega));have hsw:=hld.fr.1;have hlw:=(zsO.1 hxw).1;have Hbw:=zaa hbw;have Hld:=zaa hld;have Hxw:=zaa hxw;obtain⟨va,vc,hva⟩:=zaf hld.row;clear hld hxw Hld1 Hx1b;subst hva;by_cases hjl:j<sts.length
  ·have hjI:(j:Int)<(sts.length:Int):=by omega
   obtain⟨b,off,ia,ic,e1,hbl,p0,hrow,hlen⟩:=zdp (zaU (uh Hbw) (uh Hhs)) hjl;obtain⟨rfl,rfl⟩:sb=b/\soff=off:=by simpa using e1
   obtain⟨R,hcl,hrt,hRl,hRv⟩:=(uh Hld).cl;have hok:0<(sts.getD j []).length/\(sts.getD j []).length<=65536:=(uh Hrm).2.1 j hjl;have hits:=uh HIt j hjl;have Hpos:=zaa hok
   have HC:=zaa (zki R B cb gb tb G hG wr hcl hrt hRl (zdz (uh Htab) (zsG _) (uh Hbw)) ia ic (sts.getD j []) (by omega) (areIt_iff.1 hits.1) (zaI hrow (uh Hbw).size) (λx hx=>by
    rcases hrow with h | ⟨b9,off9,h9,h8,-⟩
    ·rw[h] at hok;exact absurd hok.1 (by simp)
    ·rw[hx] at h9;obtain rfl:=Option.some.inj h9;show b9≠tb
     omega))
   have Hgc:Hid (∀ W:World,Fr (λk=>k=tb) wr W->∀ R':Nat->Prop,ClB R' B W cb gb tb G->W.cell? ⟨cb,0,none⟩=some (.pointer (some ⟨gb,0,none⟩))/\GmB B W gb G/\B<=W.heap.size):=zaa (λW _ R' hcl'=>by
    obtain⟨ba,bc,fa,fc,oa,oc,rc,hcbx,hRc,hgm,hBw,-⟩:=hcl'
    exact⟨zac hcbx 0 rfl,hgm,hBw⟩)
   have Hrow:=zaa hrow;have Hcl:=zaa ((uh Hlp).2.1 j hjl);have Hkc:=zaa (show kcL G (sts.getD j [])=zcI (zgr G (sts.getD j [])) from rfl);have HldP:=zaa (λ(w6 W5:World) (h5:LdI w B cb gb tb G sts j (.slice va j vc) vs W5) (a:Option Addr) (c:Nat) (hc:W5.ownsRow w.heap.size 121 2 (.slice a (kcL G (sts.getD j [])).length c) (kcL G (sts.getD j [])).length (za9 (kcL G (sts.getD j [])))) (v':Value) (hr:w6.ownsRow w.heap.size 157 1 v' (j+1) (vs ++ [.slice a (kcL G (sts.getD j [])).length c])) (hg:W5.grownBy w6 (Value.slice va j vc).ownBlock) (hv:v'.ownBlock=(Value.slice va j vc).ownBlock\/v'.ownBlock=some W5.heap.size)=>ztj (w6:=w6) h5 htl hc hr hg hv);have Hrv:=zaa hRv;have y0:=zac (uh Hxw) 0 rfl;clear hcl hrt hRl hRv hrow hok hits e1;generalize hst:sts.getD j []=st at *;clear hst;go_wp2_with fail;refine(uh HC).mono ?_;rintro e w2 ⟨⟨r,rfl,hr⟩,hf2,R',hcl2,hrt2,hR2a,hR2b,hR2l⟩;have hld2:=ztk (uh Hld) htl (uh Hrv) hf2 hcl2 hrt2 hR2b hR2l;have hx2:=(hf2.2.1 w.heap.size hlw (by omega)).trans (uh Hxw);obtain rfl:r=true:=hr.2 (uh Hcl);obtain⟨g0,hgm2,hB2⟩:=uh Hgc w2 hf2 R' hcl2;have hbw2:Below w0.heap.size w0 w2:=(uh Hb0).trans (zau hld2.fr hs0 (λk hk=>by omega));have hs2:=hbw2.size;have HK:=zaa (znV w2.heap.size gb G hG ia ic st (by have:=uh Hpos;omega) w2 (zsG _) (zkp hgm2 hB2) (zaI (zaw ((zau hf2 (B:=w0.heap.size) (by omega) (λk hk=>by omega))) (uh Hrow)) hs2));have Hld2:=zaa hld2;have Hx2:=zaa hx2;have hlt2:w.heap.size<w2.heap.size:=(zsO.1 hx2).1;clear HC Hgc hr hf2 hcl2 hrt2 hR2a hR2b hR2l hld2 hx2 hbw2 y0 p0 hgm2;go_wp2_with fail;refine(uh HK).mono ?_;rintro e w3 ⟨a3,c3,rfl,hown3,hb3⟩;have hkl:(zgr G st).length<=65536:=by
    have:=uh Hpos;have h9:=List.length_filter_le (zi2 G) st;unfold zgr;omega
   have HCo:=zaa (zmY a3 c3 (zgr G st) (by omega) w3 (za4 hown3));have Hld3:=zaa (zfg (uh Hld2) hb3);have hx3:=(hb3.block _ hlt2).trans (uh Hx2);have hs3:=hb3.size;have Hx3:=zaa hx3;clear HK hown3 hb3 hx3 Hld2 Hx2;go_wp2_with fail;refine(uh HCo).mono ?_;rintro e w4 ⟨a4,c4,rfl,hown4,hb4⟩;rw[<- uh Hkc] at hown4 ⊢;have hs4:=hb4.size;have Hld4:=zaa (zfg (uh Hld3) hb4);have hx4:=(hb4.block _ (by omega)).trans (uh Hx3);have Hc4:=zaa (zaR hown4 (show w.heap.size<=w3.heap.size by omega));have Hx4:=zaa hx4;clear HCo hown4 hb4 hx4 Hld3 Hx3 Hkc hkl;have hs5:(w4.alloc (.cells #[.slice a4 (kcL G st).length c4] 157)).heap.size=w4.heap.size+1:=by simp
   have hb5:Below w4.heap.size w4 (w4.alloc (.cells #[.slice a4 (kcL G st).length c4] 157)):=(zsY _ _).alloc (zsG _) _;have hld5:=zfg (uh Hld4) hb5;have Hrow5:=zaa hld5.row;have hc5:=zaC (uh Hc4) (zae (O:=λ_=>False) hb5) (λ_ _ h=>h);have hx5:=(hb5.block _ (by omega)).trans (uh Hx4);have Hnb:=zaa (zsH w4 (.cells #[.slice a4 (kcL G st).length c4] 157));have HP:=zaa (λ(w6:World)=>uh HldP w6 _ hld5 a4 c4 hc5);have Hx5:=zaa hx5;have hlt5:w.heap.size<(w4.alloc (.cells #[.slice a4 (kcL G st).length c4] 157)).heap.size:=by omega
   clear hld5 hc5 hx5 hb5 Hld4 Hc4 Hx4 HldP;generalize (kcL G st).length=n at *;go_wp2_with (at_builtin;refine wpList_append_own_at _ rfl _ _ 155 rfl w.heap.size 157 i0 (.slice none 0 0) 1 24 Tryz.underlying155 hi0 hz0 hz1 hz2 rfl (by decide) _ j vs rfl (uh Hrow5) ⟨w4.heap.size,0,none⟩ 1 1 [.slice a4 n c4] rfl rfl ?qc2 ?qc3 ?qc4 ?qc5 ?qc6 ?_)
   case qc2=>intro i u hi;exact World.news_of_block (by simpa using uh Hnb) i u hi
   case qc3=>intro u hu;simp at hu;subst hu;rfl
   case qc4=>unfold maxLen;omega
   case qc5=>omega
   case qc6=>omega
   intro v' w6 hown6 hg6 hnil6 hat6;have hld6:=uh HP w6 v' hown6 hg6 (by rw[hs5];exact hat6)
   have hx6:=(hg6.block w.heap.size hlt5 (λe=>by
    obtain⟨-,cs,h9⟩:=zaH (uh Hrow5) e.symm;rw[uh Hx5] at h9
    simp at h9)).trans (uh Hx5)
   obtain⟨va6,vc6,hv6⟩:=zaf hown6;have Hld6:=zaa hld6;have Hx6:=zaa hx6;clear hld6 hx6 hown6 hg6 hnil6 hat6 HP Hx5 Hnb Hrow5;go_wp2;go_roundw
   case rel=>exact⟨j+1,_,by go_num,by omega,uh Hld6,uh Hx6⟩
   case measure=>simp[intOf];omega
  · have hjI : ¬ (j : Int) < (sts.length : Int) := by omega
    obtain rfl:j=sts.length:=by omega
    have hlen:=(uh Hld).len;obtain⟨g,cp,rfl,rfl⟩:∃ g cp,va=some ⟨g,0,none⟩/\vc=cp:=by
      rcases(uh Hld).row.2 with ⟨h9,h8⟩ | ⟨g,cap,cur,h9,-⟩
      · omega
      · exact⟨g,cap,by simpa using h9⟩
    obtain⟨R,hcl,-,hRl,-⟩:=(uh Hld).cl;obtain⟨cna,cnc,cfa,cfc,coa,coc,crc,hcbx,hRc,hgm,hBw,-⟩:=hcl;have hcbl5:=hRl cb hRc
    have Hco:Hid (∀ W:World,Below wr.heap.size wr W->∀ i,i<sts.length->∃ a c,W.cell? ⟨g,i,none⟩=some (.slice a (kcL G (sts.getD i [])).length c)/\zhF W.heap.size W a (kcL G (sts.getD i []))):=zaa (λW hW i hi=>by
      obtain⟨a,c,g1,g2⟩:=(uh Hld).cs i hi;have h8:=(uh Hld).row.cells (g:=g) rfl i _ g1;rw[Go.WideShapes.add_plain,Nat.zero_add] at h8;obtain⟨a',c',e2,h7⟩:=zjJ g2;obtain⟨rfl,rfl⟩:a=a'/\c=c':=by simpa using e2
      exact⟨a,c,(hW.cell (p:=⟨g,i,none⟩) (zsQ wr _ h8)).trans h8,zfD (zfE hW h7) hW.size⟩)
    have hlt5:=(zsO.1 (uh Hxw)).1
    have HG:Hid (∀ W:World,Below wr.heap.size wr W->(W.cell? ⟨w.heap.size,0,none⟩=some (.slice (some ⟨sb,soff,none⟩) sts.length sc)/\W.cell? ⟨w.heap.size,1,none⟩=some (.slice na nxs.length nc)/\W.cell? ⟨cb,0,none⟩=some (.pointer (some ⟨gb,0,none⟩)))/\GmB B W gb G/\B<=W.heap.size/\zev w0.heap.size W (some ⟨sb,soff,none⟩) sts/\zeu W na nxs/\w0.heap.size<=W.heap.size/\Below w0.heap.size w0 W):=zaa (λW hW=>by
      have hx9:=(hW.block _ hlt5).trans (uh Hxw);have hc9:=(hW.block _ hcbl5).trans hcbx;have hb9:=(uh Hbw).trans (zab hW (uh Hbw).size)
      exact⟨⟨zac hx9 0 rfl,zac hx9 1 rfl,zac hc9 0 rfl⟩,zaX (zab hW hBw) hgm,zsy hBw hW.size,zaU hb9 (uh Hhs),zbE (uh Hhn) hb9,hb9.size,hb9⟩)
    clear hcbx hgm hRl hlen Hxw Hld Hbw;obtain⟨⟨x0,-⟩,-⟩:=uh HG wr (zsY _ _);go_wp2_with fail;clear x0;obtain⟨w5,hw5⟩:∃ w5,w5=wr:=⟨_,rfl⟩;subst hw5
    go_loopw [50] (λx w7=>∃ s:Nat,x=.int .i64 (s:Int)/\s<=sts.length/\Below w5.heap.size w5 w7) (λx _=>sts.length - (intOf x).toNat)
    case atStart=>exact⟨0,rfl,zsK _,zsY _ _⟩
    case round =>
      obtain⟨w7,hw7⟩:∃ w7,w7=wr:=⟨_,rfl⟩;subst hw7;obtain⟨s,rfl,hs,hb7⟩:=hrel;have hsz7:=hb7.size;have Hb7:=zaa hb7;clear hb7;obtain⟨⟨x0,x1,xg⟩,hgm7,hB7,hrows7,hnx7,hle7,hbw7⟩:=uh HG _ (uh Hb7);by_cases hsl2:s<sts.length
      · have hsI:(s:Int)<(sts.length:Int):=by omega
        have hsn:s<nxs.length:=by have:=(uh Hhv).2.1;omega
        have hsnI:(s:Int)<(nxs.length:Int):=by omega
        obtain⟨b,off,ia,ic,e1,hbl,p0,hrow,hlen⟩:=zdp hrows7 hsl2;obtain⟨rfl,rfl⟩:sb=b/\soff=off:=by simpa using e1
        obtain⟨nb,noff,e2,hnb,ra,rc,p1,hnr⟩:=zfb hnx7 hsn;subst e2;have hits:=uh HIt s hsl2;have hok:0<(sts.getD s []).length/\(sts.getD s []).length<=65536:=(uh Hrm).2.1 s hsl2;have Hok:=zaa hok;have HSt:=zaa (zjG w7.heap.size gb G hG ia ic (sts.getD s []) (by omega) (areIt_iff.1 hits.1) w7 (zsG _) (zkp hgm7 hB7) (zaI hrow hle7));have hrl:(nxs.getD s []).length<=3072:=by
          have h1:=((uh Hhv).2.2 s hsn).1;have hk3:=hG.k3;have hr2:=hG.r2;omega
        have Hto:=zaa (λ(y:Nat) (hy:y<(nxs.getD s []).length)=>((uh Hhv).2.2 s hsn).2 _ (zbg (i:=y) hy));have Hstp:=zaa ((uh Hlp).2.2 s hsl2);have Hnr:=zaa hnr;have hx01:=And.intro x0 (And.intro x1 p1);clear hrow hits hok hnr hgm7 hrows7 hnx7 hbw7 e1;generalize sts.getD s []=st at *;generalize nxs.getD s []=row at *;go_wp2_with fail;refine(uh HSt).mono ?_;rintro e w8 ⟨mb,n,A,rfl,hmb,hmp,hnl,hsti,hb8⟩;have hb8r:Below w5.heap.size w5 w8:=(uh Hb7).trans (zab hb8 hsz7);have hs8:=hb8.size;have Hb8r:=zaa hb8r;have hmbl:=zj7 hmp;obtain⟨⟨y0,y1,-⟩,-⟩:=uh HG _ hb8r;have y2:=(hb8.cell (p:=⟨nb,noff+s,none⟩) hnb).trans p1;have Hnr8:=zaa (zfJ (uh Hnr) hb8);have Hmp:=zaa hmp;have Hsti:=zaa hsti;clear hmp hsti hb8 hb8r x0 x1 xg p0 p1 hx01 HSt Hnr;go_wp2_with fail;clear y0 y1 y2
        go_loopw [67] (λx w9=>∃ q:Nat,x=.int .i64 (q:Int)/\q<=row.length/\Below w8.heap.size w8 w9) (λx _=>row.length - (intOf x).toNat)
        case atStart=>exact⟨0,rfl,zsK _,zsY _ _⟩
        case round =>
          obtain⟨q,rfl,hq,hb9⟩:=hrel;have hs9:=hb9.size;have Hb9:=zaa hb9;clear hb9;by_cases hql:q<row.length
          · have hqI:(q:Int)<(row.length:Int):=by omega
            have hb59:Below w5.heap.size w5 wr:=(uh Hb8r).trans (zab (uh Hb9) (uh Hb8r).size);have hmp9:=zgU (uh Hmp) ((uh Hb9).block _ hmbl);have hst9:=zhQ (O:=λ_=>False) (uh Hsti) (zae (uh Hb9)) (λ_ _ _ h=>h);have hlk:=ziR hmp9 q (by omega);obtain⟨ta,tc,hta⟩:=zaf (hst9.row q);have hrowT:=za4 (by have:=hst9.row q;rw[hta] at this;exact this);rw[hta] at hlk;have hml:=ziS G st q;obtain⟨rb,roff,rfl,hrb,r0⟩:=zmz (zfJ (uh Hnr8) (uh Hb9)) hql;have hto:=uh Hto q hql;have hstp:=uh Hstp q hql;have HT:=zaa hrowT;have hlem:(zcb G st q=[])↔(zcb G st q).length=0:=List.length_eq_zero_iff.symm;clear hmp9 hst9 hta hrowT;generalize hTP:zcb G st q=tp at *;clear hTP;generalize row.getD q 0=t0 at *;by_cases hm1:t0 = -1
            · have he:tp.length=0:=hlem.1 (hstp.1.1 hm1);have heI:(((tp.length:Nat):Int) == 0)=true:=by rw[he];rfl
              have hmI:(t0 == -1)=true:=by rw[hm1];rfl
              have hmI2:(t0 != -1)=false:=by simp only[bne,hmI];rfl
              clear hstp hlem HT hto hml hm1 he hb59;generalize tp.length=tn at *;go_wp2_with fail;go_quiet (fail);go_wp2;go_roundw
              case rel=>exact⟨q+1,by go_num,by omega,zap (uh Hb9) _⟩
              case measure=>simp[intOf];omega
            · have hmI:(t0 == -1)=false:=by rw[beq_eq_false_iff_ne];exact hm1
              have he:tp.length≠0:=λh=>hm1 (hstp.1.2 (hlem.2 h));have heI:(((tp.length:Nat):Int) == 0)=false:=by rw[beq_eq_false_iff_ne];omega
              have hmI2:(t0 != -1)=true:=by simp only[bne,hmI];rfl
              obtain⟨t,rfl⟩:∃ t:Nat,t0=(t:Int):=⟨t0.toNat,by omega⟩;have htl2:t<sts.length:=by omega
              have htI:(t:Int)<(sts.length:Int):=by omega
              obtain⟨⟨z0,-,-⟩,-,-,hrw9,-,hle9,hbw9⟩:=uh HG _ hb59;obtain⟨b',off',ja,jc,e3,hjb,z1,hjr,hjl⟩:=zdp hrw9 htl2;obtain⟨rfl,rfl⟩:sb=b'/\soff=off':=by simpa using e3
              obtain⟨ka,kc,z2,hks⟩:=uh Hco _ hb59 t htl2;have hkn:(kcL G (sts.getD t [])).length<=281474976710656:=by have:=zwb G (sts.getD t []);omega
              have HF:=zaa (λ(W:World) (hW:Below wr.heap.size wr W)=>zcJ (ztH ja ka ta jc kc tc (sts.getD t []) (kcL G (sts.getD t [])) tp hjl hkn (by have:=uh Hok;omega) (uh HIt t htl2).2 W (zaI (zaw (zab hW hle9) hjr) (by have:=hW.size;omega)) (zfD (zfE hW hks) hW.size) (zaI (zaw hW (uh HT)) hW.size)));have hfit:kcL G (sts.getD t [])=zcI tp/\(∀ i,i ∈ tp->i ∈ sts.getD t []):=by have h8:=hstp.2 hm1;rw[zsS] at h8;exact h8
              generalize hjs:sts.getD t []=js at *;generalize kcL G js=ks at *;clear hjs e3;have hsbw:sb<wr.heap.size:=by omega
              have hgw:=zsQ wr _ z2;have hww:=zsQ wr _ z0;have HS:Hid (∀ W:World,Below wr.heap.size wr W->W.cell? ⟨w.heap.size,0,none⟩=some (.slice (some ⟨sb,soff,none⟩) sts.length sc)/\W.cell? ⟨sb,soff+t,none⟩=some (.slice ja js.length jc)/\W.cell? ⟨g,t,none⟩=some (.slice ka ks.length kc)):=zaa (λW hb=>⟨(hb.cell (p:=⟨w.heap.size,0,none⟩) hww).trans z0,(hb.cell (p:=⟨sb,soff+t,none⟩) hsbw).trans z1,(hb.cell (p:=⟨g,t,none⟩) hgw).trans z2⟩);have Hbw9:=zaa hbw9;clear hstp hlem HT hto hml hrw9 hks hjr hbw9 z0 z1 z2 hb59;have hd:decide (ks=zcI tp/\∀ i,i ∈ tp->i ∈ js)=true:=decide_eq_true hfit;rw[hd] at HF;clear hfit hd hm1 he;generalize tp.length=tn at *;generalize js.length=jn at *;generalize ks.length=kn at *;go_wp2_with fail;have hS:Below wr.heap.size wr wr.drew:=(zsY _ _).drew
              go_region_held3 (λW:World=>W.cell? ⟨w.heap.size,0,none⟩=some (.slice (some ⟨sb,soff,none⟩) sts.length sc)/\W.cell? ⟨sb,soff+t,none⟩=some (.slice ja jn jc)/\W.cell? ⟨g,t,none⟩=some (.slice ka kn kc))
                (exact uh HS _ hS)
                (first
                | (go_at_call 100;refine(uh HF _ hS).mono ?_;rintro e W3 ⟨rfl,hb3⟩;have hS:=hS.trans (zab hb3 hS.size);clear hb3)
                  | fail)
              go_wp2;go_roundw
              case rel=>exact⟨q+1,by go_num,by omega,(uh Hb9).trans (zab hS hs9)⟩
              case measure=>simp[intOf];omega
          · have hqI:¬ (q:Int)<(row.length:Int):=by omega
            obtain rfl:q=row.length:=by omega
            have Hbf:=zaa ((uh Hb8r).trans (zab (uh Hb9) (uh Hb8r).size));go_wp2;go_roundw
            case rel=>exact⟨s+1,by go_num,by omega,uh Hbf⟩
            case measure=>simp[intOf];omega
      · have hsI:¬ (s:Int)<(sts.length:Int):=by omega
        obtain rfl:s=sts.length:=by omega
        have Hbf:=zaa hbw7;clear x0 x1 xg hgm7 hrows7 hnx7 hbw7;go_wp2;refine bodyPost_ret (v:=.bool true) ?zz9 rfl ⟨rfl,uh Hbf⟩
        case zz9=>simp[results,Tryz.results58,go_sem]
end Go.Proofs.YtieciibnajeibaaGreatDoor
namespace Go.Proofs.YtieciibnajeibaaGreatDoor
open Go.RowKit Go.Maps
theorem zhV(hLY:zd3 64)(G:Gm)(ka pa ra qa:Option Addr)(kc pc rc qc:Nat)(sa na:Option Addr)(sc nc:Nat)(sts:List (List It))(nxs:List (List Int))(hsl:sts.length<=281474976710656)(hl:∀ j,j<nxs.length->(nxs.getD j []).length<=281474976710656)(hl2:nxs.length<=281474976710656)(w:World)(hin:GIn w.heap.size w G ka pa ra qa)(hsm:smG G)(htab:Tb w.heap.size w)(h1:zbK G=true)(d:Bool)(hyes:d=true->znf G sts nxs/\zun G sts nxs)(hno:d=false->¬ zng sts)(hs:zev w.heap.size w sa sts)(hn:zeu w na nxs) :
 Calls Tryz.prog 27 #[gV G ka pa ra qa kc pc rc qc,.agg #[.slice sa sts.length sc,.slice na nxs.length nc]] w λe w'=>e=.returned (.int .i64 (if d then 0 else 141))/\Below w.heap.size w w':=by
 obtain⟨W1,hW1⟩:∃ W1,W1=(w.alloc (.cells #[.slice ka G.kinds.length kc,.slice pa G.precs.length pc,.slice ra G.rules.length rc,.slice qa G.prods.length qc,.int .i64 G.start] 26)).alloc (.cells #[.slice sa sts.length sc,.slice na nxs.length nc] 45):=⟨_,rfl⟩;have hb1:Below w.heap.size w W1:=by rw[hW1];exact((zsY _ _).alloc (zsG _) _).alloc (by simp) _
 have hs1:W1.heap.size=w.heap.size+2:=by rw[hW1];simp
 have hx1:W1.heap[w.heap.size+1]? = some (.cells #[.slice sa sts.length sc,.slice na nxs.length nc] 45 (0,0)):=by
  have:=zsH (w.alloc (.cells #[.slice ka G.kinds.length kc,.slice pa G.precs.length pc,.slice ra G.rules.length rc,.slice qa G.prods.length qc,.int .i64 G.start] 26)) (.cells #[.slice sa sts.length sc,.slice na nxs.length nc] 45);rw[<- hW1] at this;simpa using this
 have HN:=zaa (zfK G ka pa ra qa kc pc rc qc none 0 [] (by simp) W1 (zcQ hin hb1) hsm (.inl rfl));have HB:=zaa (And.intro hb1 (And.intro hs1 hx1));have Hs:=zaa hs;have Hn:=zaa hn;have Htab:=zaa htab;have Hw1:=zaa hW1;unfold gV at HN ⊢;clear hin htab hs hn hb1 hx1 hW1;go_enter Tryz.func27,Tryz.ntmps27;go_wp2_with fail;rw[<- uh Hw1];refine(uh HN).mono ?_;rintro e w2 ⟨hb2,h⟩;obtain⟨hb1,-,hx1⟩:=uh HB;have hbw2:Below w.heap.size w w2:=hb1.trans (zab hb2 hb1.size);have hs2:=hb2.size;have hx2:=(hb2.block (w.heap.size+1) (by omega)).trans hx1;obtain⟨gb,rfl,h5⟩:∃ gb,e=.returned (.tuple #[.pointer (some ⟨gb,0,none⟩),.int .i64 0])/\GmB w2.heap.size w2 gb G:=by
  rcases h with ⟨h2,-⟩ | ⟨-,h2,-⟩ | ⟨-,-,gb,h3,-,h5⟩
  ·rw[h1] at h2;cases h2
  ·cases h2
  ·exact⟨gb,h3,h5⟩
 have hG:=zb8 h1;have Hbw2:=zaa hbw2;have HS:Hid (∀ W:World,Below w2.heap.size w2 W->W.cell? ⟨w.heap.size+1,0,none⟩=some (.slice sa sts.length sc)/\W.cell? ⟨w.heap.size+1,1,none⟩=some (.slice na nxs.length nc)):=zaa (λW hb=>⟨(hb.cell (p:=⟨w.heap.size+1,0,none⟩) (by show w.heap.size+1<_;omega)).trans (zac hx2 0 rfl),(hb.cell (p:=⟨w.heap.size+1,1,none⟩) (by show w.heap.size+1<_;omega)).trans (zac hx2 1 rfl)⟩);have hup:=λ(W:World) (hb:Below w2.heap.size w2 W)=>hbw2.trans (zab hb hbw2.size);have HNc:=zaa (λ(W:World) (hb:Below w2.heap.size w2 W)=>zdo hLY w2.heap.size gb G h1 W hb.size (zaX hb h5))
 have HLd:Hid (∀ (W4:World) (cb tb:Nat) (W3:World),Below w2.heap.size w2 W3->Below W3.heap.size W3 W4->W3.heap.size<=tb->tb<W4.heap.size->ClB (λk=>k<W4.heap.size/\k≠tb) w2.heap.size W4 cb gb tb G->RsT (λk=>k<W4.heap.size/\k≠tb) W4 G tb->znf G sts nxs->zun G sts nxs->Calls Tryz.prog 58 #[.pointer (some ⟨cb,0,none⟩),.agg #[.slice sa sts.length sc,.slice na nxs.length nc]] W4 λe w'=>e=.returned (.bool true)/\Below w2.heap.size w2 w'):=zaa (λW4 cb tb W3 hb3 hb4 ht1 ht2 hcl hrs hsh hlp=>by
  have hb42:=hb3.trans (zab hb4 hb3.size)
  exact zls _ w2.heap.size cb gb tb G hG w2 W4 hcl hrs (λk hk=>hk.1) (zdz (uh Htab) (zsG _) (uh Hbw2)) (zsy hb3.size ht1) hb42 sa na sc nc sts nxs hsh hlp (zbx (zaU (uh Hbw2) (uh Hs)) (uh Hbw2).size) (zbE (uh Hn) (uh Hbw2)))
 cases d with
 | true =>
   have HSh:=zaa (λ(W:World) (hb:Below w2.heap.size w2 W)=>zkl w2.heap.size gb G hG sa na sc nc sts nxs hsl hl hl2 W hb.size (zaX hb h5) (zbx (zaU (hup W hb) (uh Hs)) (hup W hb).size) (zbE (uh Hn) (hup W hb)) (hyes rfl).1.1 (hyes rfl).1.2.1 (hyes rfl).1.2.2.1 (hyes rfl).1.2.2.2);have HLd:=zaa (λW4 cb tb W3 a1 a2 a3 a4 a5 a6=>uh HLd W4 cb tb W3 a1 a2 a3 a4 a5 a6 (hyes rfl).1 (hyes rfl).2);clear hb1 hb2 hx1 hx2 HN HB hup h5 hbw2 hyes hno;go_wp2_with fail;have hS:Below w2.heap.size w2 w2.drew:=(zsY _ _).drew
   go_region_held3 (λW:World=>W.cell? ⟨w.heap.size+1,0,none⟩=some (.slice sa sts.length sc)/\W.cell? ⟨w.heap.size+1,1,none⟩=some (.slice na nxs.length nc))
    (exact uh HS _ hS)
    (first
    | (go_at_call 57;refine(uh HSh _ hS).mono ?_;rintro e W3 ⟨rfl,hb3⟩;have hS:=hS.trans (zab hb3 hS.size);clear hb3)
    | (go_at_call 33;refine(uh HNc _ hS).mono ?_;rintro e W4 ⟨cb,tb,rfl,ht1,ht2,hcl,hrs,hb4⟩;have HL:=zaa (uh HLd W4 cb tb _ hS hb4 ht1 ht2 hcl hrs);have hS:=hS.trans (zab hb4 hS.size);clear hb4 hcl hrs ht1 ht2)
    | (go_at_call 58;refine(uh HL).mono ?_;rintro e W5 ⟨rfl,hb5⟩;have hS:=hb5;clear hb5)
    | fail)
   go_wp2;refine bodyPost_ret (v:=.int .i64 0) ?zz2 rfl ⟨rfl,(uh Hbw2).trans (zab hS (uh Hbw2).size)⟩
   case zz2=>simp[results,Tryz.results27,go_sem]
 | false =>
   have HSh:=zaa (λ(W:World) (hb:Below w2.heap.size w2 W)=>zlC w2.heap.size gb G hG sa na sc nc sts nxs hsl hl hl2 W hb.size (zaX hb h5) (zbx (zaU (hup W hb) (uh Hs)) (hup W hb).size) (zbE (uh Hn) (hup W hb)) (hno rfl));clear hb1 hb2 hx1 hx2 HN HB hup h5 hbw2 hyes hno HLd HNc;go_wp2_with fail;have hS:Below w2.heap.size w2 w2.drew:=(zsY _ _).drew;refine wp_region_held_drew (S:=(λW:World=>W.cell? ⟨w.heap.size+1,0,none⟩=some (.slice sa sts.length sc)/\W.cell? ⟨w.heap.size+1,1,none⟩=some (.slice na nxs.length nc))) (by kernel_rfl) (uh HS _ hS) (λhH=>?_);refine zad 0 15 rfl rfl hH (λw ⟨k0,k1⟩=>by go_simp;try rfl) ?_;simp only[Act.put,zsA,zsB,zsC];refine zad 1 16 rfl rfl hH (λw ⟨k0,k1⟩=>by go_simp;try rfl) ?_;simp only[Act.put,zsA,zsB,zsC];refine zai 2 rfl λK hK=>?_;go_simp;refine(uh HSh _ hS).mono ?_;rintro e W3 ⟨rfl,hb3⟩;have hS:=hS.trans (zab hb3 hS.size);clear hb3;go_wp2_with fail;refine hK.out _ _ (uh HS _ hS) (λhH=>?_);clear hK K;refine zad 3 18 rfl rfl hH (λw ⟨k0,k1⟩=>by go_simp;try rfl) ?_;simp only[Act.put,zsA,zsB,zsC];refine zad 4 19 rfl rfl hH (λw ⟨k0,k1⟩=>by go_simp;try rfl) ?_;simp only[Act.put,zsA,zsB,zsC];refine zbH 5 20 rfl rfl hH ?_;simp only[Act.put,zsA,zsB,zsC];refine zbH 6 21 rfl rfl hH ?_;simp only[Act.put,zsA,zsB,zsC];refine zbH 7 22 rfl rfl hH ?_;simp only[Act.put,zsA,zsB,zsC];refine zbH 8 23 rfl rfl hH ?_;simp only[Act.put,zsA,zsB,zsC];refine zbH 9 24 rfl rfl hH ?_;simp only[Act.put,zsA,zsB,zsC];refine zad 10 25 rfl rfl hH (λw ⟨k0,k1⟩=>by go_simp;try rfl) ?_;simp only[Act.put,zsA,zsB,zsC];refine wpAnyH_done (by kernel_rfl) ?_ _;go_wp2;refine bodyPost_ret (v:=.int .i64 141) ?zz4 rfl ⟨rfl,(uh Hbw2).trans (zab hS (uh Hbw2).size)⟩
   case zz4=>simp[results,Tryz.results27,go_sem]
end Go.Proofs.YtieciibnajeibaaGreatDoor
namespace Go.Proofs.YtieciibnajeibaaGreatDoor
open Go.RowKit
theorem zo4(w:World)(ht:Tb w.heap.size w) :
 Calls Tryz.prog 49 #[] w λe w'=>∃ ka kc pa pc ra rc qa qc,e=.returned (gV gSm ka pa ra qa kc pc rc qc)/\GIn w'.heap.size w' gSm ka pa ra qa/\Below w.heap.size w w':=by
 have hmk:∀ w:World,(Instr.makeSlice 23 (.int .i64 3) (.int .i64 3)).run Tryz.prog w=.ok (.slice (some ⟨w.heap.size,0,none⟩) 3 3) (w.alloc (.cells #[.int .i64 0,.int .i64 0,.int .i64 0,.int .i64 0,.int .i64 0,.int .i64 0] 202)):=λw=>by kernel_rfl
 go_enter Tryz.func49,Tryz.ntmps49;go_wp2;have hall:=zxk w (.cells #[.slice (some ⟨w.heap.size+1+1+1+1,0,none⟩) 3 3,.slice (some ⟨w.heap.size+1+1+1+1+1,0,none⟩) 3 3,.slice (some ⟨w.heap.size+1+1+1+1+1+1,0,none⟩) 1 1,.slice (some ⟨w.heap.size+1+1+1,0,none⟩) 2 2,.int .i64 0] 26) (.cells #[.int .i64 3,.int .i64 2] 3) (.cells #[.int .i64 2] 3) (.cells #[.int .i64 0,.slice (some ⟨w.heap.size+1,0,none⟩) 2 2,.int .i64 0,.int .i64 0,.int .i64 0,.string ⟨#[]⟩,.slice none 0 0,.int .i64 0,.slice (some ⟨w.heap.size+1+1,0,none⟩) 1 1,.int .i64 0,.int .i64 0,.int .i64 0,.string ⟨#[]⟩,.slice none 0 0] 116) (.cells #[.string ⟨#[101,110,100]⟩,.string ⟨#[101,114,114,111,114]⟩,.string ⟨#[97]⟩] 9) (.cells #[.int .i64 0,.int .i64 0,.int .i64 0,.int .i64 0,.int .i64 0,.int .i64 0] 202) (.cells #[.string ⟨#[83]⟩] 9);obtain⟨WF,hWF⟩:∃ WF,WF=(((((((w.alloc (.cells #[.slice (some ⟨w.heap.size+1+1+1+1,0,none⟩) 3 3,.slice (some ⟨w.heap.size+1+1+1+1+1,0,none⟩) 3 3,.slice (some ⟨w.heap.size+1+1+1+1+1+1,0,none⟩) 1 1,.slice (some ⟨w.heap.size+1+1+1,0,none⟩) 2 2,.int .i64 0] 26)).alloc (.cells #[.int .i64 3,.int .i64 2] 3)).alloc (.cells #[.int .i64 2] 3)).alloc (.cells #[.int .i64 0,.slice (some ⟨w.heap.size+1,0,none⟩) 2 2,.int .i64 0,.int .i64 0,.int .i64 0,.string ⟨#[]⟩,.slice none 0 0,.int .i64 0,.slice (some ⟨w.heap.size+1+1,0,none⟩) 1 1,.int .i64 0,.int .i64 0,.int .i64 0,.string ⟨#[]⟩,.slice none 0 0] 116)).alloc (.cells #[.string ⟨#[101,110,100]⟩,.string ⟨#[101,114,114,111,114]⟩,.string ⟨#[97]⟩] 9)).alloc (.cells #[.int .i64 0,.int .i64 0,.int .i64 0,.int .i64 0,.int .i64 0,.int .i64 0] 202)).alloc (.cells #[.string ⟨#[83]⟩] 9)):=⟨_,rfl⟩;rw[<- hWF] at hall ⊢;clear hWF hmk;obtain⟨h0,h1,h2,h3,h4,h5,h6,hs,hb⟩:=hall;obtain⟨c0,c1,c2,c3,c4⟩:=zfT h0;refine bodyPost_ret (v:=.agg #[.slice (some ⟨w.heap.size+1+1+1+1,0,none⟩) 3 3,.slice (some ⟨w.heap.size+1+1+1+1+1,0,none⟩) 3 3,.slice (some ⟨w.heap.size+1+1+1+1+1+1,0,none⟩) 1 1,.slice (some ⟨w.heap.size+1+1+1,0,none⟩) 2 2,.int .i64 0]) ?zz9 rfl ⟨_,3,_,3,_,1,_,2,rfl,⟨?_,?_,?_,?_,?_⟩,hb⟩
 case zz9=>simp[results,Tryz.results49,go_sem,c0,c1,c2,c3,c4]
 ·refine .inr ⟨_,_,rfl,by omega,λj hj=>?_⟩;rcases j with _ | _ | _ | j
  ·unfold World.cell?;rw[h4];rfl
  ·unfold World.cell?;rw[h4];rfl
  ·unfold World.cell?;rw[h4];rfl
  ·exact absurd hj (by simp[gSm])
 ·refine .inr ⟨_,_,rfl,by omega,λj hj=>?_⟩;rcases j with _ | _ | _ | j
  ·constructor <;> (unfold World.cell?;rw[h5];rfl)
  ·constructor <;> (unfold World.cell?;rw[h5];rfl)
  ·constructor <;> (unfold World.cell?;rw[h5];rfl)
  ·exact absurd hj (by simp[gSm])
 ·refine .inr ⟨_,_,rfl,by omega,λj hj=>?_⟩;rcases j with _ | j
  ·unfold World.cell?;rw[h6];rfl
  ·exact absurd hj (by simp[gSm])
 ·refine .inr ⟨_,_,rfl,by omega,λj hj=>?_⟩;rcases j with _ | _ | j
  ·refine⟨_,_,_,_,_,_,_,⟨rfl,⟨some ⟨w.heap.size+1,0,none⟩,2,rfl,.inr ⟨_,_,rfl,by omega,λi hi=>?_⟩,by simp[gSm]⟩,rfl,zuX _ _⟩,?_,?_,?_,?_,?_,?_,?_⟩
   ·rcases i with _ | _ | i
    ·unfold World.cell?;rw[h1];rfl
    ·unfold World.cell?;rw[h1];rfl
    ·exact absurd hi (by simp[gSm])
   all_goals (unfold World.cell?;rw[h3];rfl)
  ·refine⟨_,_,_,_,_,_,_,⟨rfl,⟨some ⟨w.heap.size+1+1,0,none⟩,1,rfl,.inr ⟨_,_,rfl,by omega,λi hi=>?_⟩,by simp[gSm]⟩,rfl,zuX _ _⟩,?_,?_,?_,?_,?_,?_,?_⟩
   ·rcases i with _ | i
    ·unfold World.cell?;rw[h2];rfl
    ·exact absurd hi (by simp[gSm])
   all_goals (unfold World.cell?;rw[h3];rfl)
  ·exact absurd hj (by simp[gSm])
 ·exact zdz ht (zsG _) hb
open Go.Maps
theorem zqs:smG gSm:=λp hp=>by
 have h:p.right.length<=2:=by
  unfold gSm at hp;simp only[List.mem_cons,List.not_mem_nil,or_false] at hp;rcases hp with rfl | rfl <;> decide
 omega
theorem zpg:¬ zng []:=λh=>by have:=h.1;simp at this
theorem zlU(hLY:zd3 64)(w:World)(ht:Tb w.heap.size w):Calls Tryz.prog 21 #[] w λe w'=>e=.returned (.bool true)/\Below w.heap.size w w':=by
 have HS:=zaa (zo4 w ht);have Ht:=zaa ht;have HL:=zaa hLY;clear hLY ht;unfold gV at HS;go_enter Tryz.func21,Tryz.ntmps21;go_wp2_with fail;refine(uh HS).mono ?_;rintro e w2 ⟨ka,kc,pa,pc,ra,rc,qa,qc,rfl,hin,hb2⟩;obtain⟨W3,hW3⟩:∃ W3,W3=w2.alloc (.cells #[.slice ka gSm.kinds.length kc,.slice pa gSm.precs.length pc,.slice ra gSm.rules.length rc,.slice qa gSm.prods.length qc,.int .i64 gSm.start] 26):=⟨_,rfl⟩;have hb3:Below w2.heap.size w2 W3:=by rw[hW3];exact(zsY _ _).alloc (zsG _) _
 have hs3:W3.heap.size=w2.heap.size+1:=by rw[hW3];simp
 have hx3:W3.heap[w2.heap.size]? = some (.cells #[.slice ka gSm.kinds.length kc,.slice pa gSm.precs.length pc,.slice ra gSm.rules.length rc,.slice qa gSm.prods.length qc,.int .i64 gSm.start] 26 (0,0)):=by rw[hW3];exact zsH _ _
 have hin3:=zcQ hin hb3;have hbw3:=hb2.trans (zab hb3 hb2.size);have ht3:=zdz (uh Ht) (zsG _) hbw3;have HBd:=zaa (zkI (uh HL) gSm ka pa ra qa kc pc rc qc W3 hin3 zqs ht3);have Hin3:=zaa hin3;have Hbw3:=zaa hbw3;have Hx3:=zaa hx3;have Ht3:=zaa ht3;have Hw3:=zaa hW3;unfold gV at HBd;clear hin hb2 hb3 hx3 hin3 hbw3 ht3 HS Ht hW3;go_wp2_with fail;rw[<- uh Hw3];refine(uh HBd).mono ?_;rintro e w4 ⟨hb4,h⟩;rw[if_pos zfn,zm7] at h;obtain⟨R',vS,vN,svs,nvs,rfl,hR,hoS,hsS,hoN,hsN⟩:=h
 obtain⟨sa,sc,rfl,hLS⟩:=zv0 hoS hsS hR (λj hj=>by
  have hj:j<4:=hj;have:(smB.sts.getD j []).length<=5:=by
   have:j=0\/j=1\/j=2\/j=3:=by omega
   rcases this with rfl | rfl | rfl | rfl <;> decide
  omega)
 obtain⟨na,nc,rfl,hLN⟩:=zs3 hoN hsN hR;have l4:smB.sts.length=4:=rfl;have n4:smN.length=4:=rfl;rw[l4,n4];obtain⟨W5,hW5⟩:∃ W5,W5=w4.alloc (.cells #[.slice sa 4 sc,.slice na 4 nc] 45):=⟨_,rfl⟩;have hb5:Below w4.heap.size w4 W5:=by rw[hW5];exact(zsY _ _).alloc (zsG _) _
 have hs5:W5.heap.size=w4.heap.size+1:=by rw[hW5];simp
 have hx5:W5.heap[w4.heap.size]? = some (.cells #[.slice sa 4 sc,.slice na 4 nc] 45 (0,0)):=by rw[hW5];exact zsH _ _
 have hs4:=hb4.size;have hb35:Below W3.heap.size W3 W5:=hb4.trans (zab hb5 hs4);have hg5:=(hb35.block w2.heap.size (by omega)).trans (uh Hx3)
 have HG:Hid (∀ W:World,Below W5.heap.size W5 W->(W.cell? ⟨w2.heap.size,0,none⟩=some (.slice ka gSm.kinds.length kc)/\W.cell? ⟨w2.heap.size,1,none⟩=some (.slice pa gSm.precs.length pc)/\W.cell? ⟨w2.heap.size,2,none⟩=some (.slice ra gSm.rules.length rc)/\W.cell? ⟨w2.heap.size,3,none⟩=some (.slice qa gSm.prods.length qc)/\W.cell? ⟨w2.heap.size,4,none⟩=some (.int .i64 gSm.start))/\W.cell? ⟨w4.heap.size,0,none⟩=some (.slice sa 4 sc)/\W.cell? ⟨w4.heap.size,1,none⟩=some (.slice na 4 nc)):=zaa (λW hW=>by
  obtain⟨c0,c1,c2,c3,c4⟩:=zfT ((hW.block _ (by omega)).trans hg5);have hx:=(hW.block _ (by omega)).trans hx5
  exact⟨⟨c0,c1,c2,c3,c4⟩,zac hx 0 rfl,zac hx 1 rfl⟩)
 have hin5:=zcQ (uh Hin3) hb35;have hbw5:=(uh Hbw3).trans (zab hb35 (uh Hbw3).size)
 have HR1:Hid (Calls Tryz.prog 27 #[gV gSm ka pa ra qa kc pc rc qc,.agg #[.slice sa 4 sc,.slice na 4 nc]] W5 λe w'=>e=.returned (.int .i64 0)/\Below W5.heap.size W5 w'):=zaa (by
  exact zhV (uh HL) gSm ka pa ra qa kc pc rc qc sa na sc nc smB.sts smN (by decide) (λj hj=>by
   have hj:j<4:=hj;have:(smN.getD j []).length<=5:=by
    have:j=0\/j=1\/j=2\/j=3:=by omega
    rcases this with rfl | rfl | rfl | rfl <;> decide
   omega) (by decide) W5 hin5 zqs (zdz (uh Ht3) (zsG _) hb35) zfn true (λ_=>zlR zfm zm7) (λh=>by cases h) (zbx (zaU hb5 hLS) hb5.size) (zbE hLN hb5))
 have HR2:Hid (∀ W:World,Below W5.heap.size W5 W->Calls Tryz.prog 27 #[gV gSm ka pa ra qa kc pc rc qc,.agg #[.slice none 0 0,.slice none 0 0]] W λe w'=>e=.returned (.int .i64 141)/\Below W.heap.size W w'):=zaa (λW hW=>by
  exact zhV (uh HL) gSm ka pa ra qa kc pc rc qc none none 0 0 [] [] (by decide) (λj hj=>absurd hj (Nat.not_lt_zero _)) (by decide) W (zcQ hin5 hW) zqs (zdz (uh Ht3) (zsG _) (hb35.trans (zab hW hb35.size))) zfn false (λh=>by cases h) (λ_=>zpg) (.inl rfl) (.inl rfl))
 have Hbw5:=zaa hbw5;unfold gV at HR1 HR2;obtain⟨⟨d0,d1,d2,d3,d4⟩,e0,e1⟩:=uh HG W5 (zsY _ _);rw[hW5] at d0 d1 d2 d3 d4 e0 e1;have Hw5:=zaa hW5;clear hb4 hb5 hx5 hb35 hg5 hin5 hbw5 hLS hLN hoS hoN hsS hsN hR Hx3 Hin3 HBd hW5 HL;go_wp2_with fail;rw[<- uh Hw5];clear d0 d1 d2 d3 d4 e0 e1;refine(uh HR1).mono ?_;rintro e w6 ⟨rfl,hb6⟩;obtain⟨⟨d0,d1,d2,d3,d4⟩,e0,e1⟩:=uh HG w6 hb6;have HR3:=zaa (uh HR2 w6 hb6);have hs6:=hb6.size;have Hb6:=zaa ((uh Hbw5).trans (zab hb6 (uh Hbw5).size));clear HR1 HR2 hb6 HG;go_wp2_with fail;refine(uh HR3).mono ?_;rintro e w7 ⟨rfl,hb7⟩;have Hb7:=zaa ((uh Hb6).trans (zab hb7 (uh Hb6).size));clear HR3 hb7 d0 d1 d2 d3 d4 e0 e1;go_wp2;go_ret;exact⟨rfl,uh Hb7⟩
theorem zer{w:World}{g cap:Nat}{l:List It}(h:zjw w g cap l)(j:Nat):w.frozen? ⟨g,j,none⟩=false:=by
 obtain⟨cu,h1,-⟩:=h;exact Wk.frozen_block h1 _
theorem zkT{W:World}{ops:Array Oper}{rest:List Oper}{o:Oper}{a:Act}{Q:Exit->Act->World->Prop}(hgd:o.guard=none)(s x:Operand)
 (ho:o.op=.call { callee:=.builtin .append,args:=#[s,x],argTypes:=#[27,27] }) (B g0 c0:Nat) (hown:W.ownsRow B 57 3 (.slice (some ⟨g0,0,none⟩) 0 c0) 0 []) (hs:a.eval s=.slice (some ⟨g0,0,none⟩) 0 c0)
 (ia:Option Addr) (ic:Nat) (l:List It) (hx:a.eval x=.slice ia l.length ic) (hnil:ia=none->ic=0) (hi:zcy W.heap.size W ia l) (hl:l.length<=5864062014805) (hB:B<=W.heap.size) (hg0:B<=g0)
 (h:∀ v' w' g cap,v'=.slice (some ⟨g,0,none⟩) l.length cap->w'.ownsRow B 57 3 v' l.length (zaE l)->Below B W w'->wpList Tryz.prog ops Q rest (a.put o.dst v') w'):wpList Tryz.prog ops Q (o::rest) a W:=by
 obtain⟨i0,hi0,hz0,hz1,hz2⟩:=zah zh6
 cases ia with
 | none =>
   have h0:l=[]:=by
    rcases hi with h | ⟨b,off,h,_⟩
    ·exact h
    ·cases h
   subst h0;obtain rfl:=hnil rfl;exact wpList_append_own_none hgd s x 27 ho B 57 i0 3 Tryz.underlying27 hi0 _ 0 [] hs hown hx (h _ W g0 c0 rfl hown (zsY _ _))
 | some ad =>
   have hc:∀ j u,(zaE l)[j]? = some u->W.cell? (ad.add j)=some u:=λj u hj=>by
    rcases hi with rfl | ⟨b,off,h,hlt,hc⟩
    ·simp[zaE] at hj
    ·cases h
     have hj2:j<l.length * 3:=by
      have:=(zsP.1 hj).1
      rwa [zbU] at this
     have e:(⟨b,off,none⟩:Addr).add j=⟨b,off+j,none⟩:=by unfold Addr.add;split <;> simp_all
     rw[e];have f:=zgv l (j / 3) (by omega);have g:=hc (j / 3) (by omega);have h2:j % 3=0\/j % 3=1\/j % 3=2:=by omega
     rcases h2 with h2 | h2 | h2
     ·rw[show j / 3 * 3=j by omega] at f g;rw[f.1] at hj;cases hj;exact g.1
     ·rw[show off+j / 3 * 3+1=off+j by omega] at g;rw[show j / 3 * 3+1=j by omega] at f;rw[f.2.1] at hj;cases hj;exact g.2.1
     ·rw[show off+j / 3 * 3+2=off+j by omega] at g;rw[show j / 3 * 3+2=j by omega] at f;rw[f.2.2] at hj;cases hj;exact g.2.2
   refine wpList_append_own W hgd s x 27 ho B 57 i0 (.agg #[.int .i64 0,.int .i64 0,.int .i64 0]) 3 24 Tryz.underlying27 hi0 hz0 hz1 hz2 rfl (by decide) _ 0 [] hs hown ad l.length ic (zaE l) hx (zbU l) hc (zfo l) (by unfold maxLen;omega) (by omega) hB ?_;intro v' w' hown' hgrow hnil';rw[Nat.zero_add,List.nil_append] at hown';rcases hown'.2 with ⟨h1,h2⟩ | ⟨g,cap,cur,h1,h2⟩
   ·have:=(hnil'.1 h1).1
    cases this
   ·exact h v' w' g cap h1 hown' ((zsY _ W).grown hgrow hB (λk hk=>by simp[Value.ownBlock] at hk;omega))
theorem zoq(hLY:zd3 64)(G:Gm)(ka pa ra qa:Option Addr)(kc pc rc qc:Nat)(ia:Option Addr)(ic:Nat)(l:List It)(hl:l.length<=5864062014805)(hnil:ia=none->ic=0)(oa:Option Addr)(oc:Nat)(order:List Int)(hol:order.length<=281474976710656)(w:World)(hin:GIn w.heap.size w G ka pa ra qa)(hsm:smG G)(htab:Tb w.heap.size w)(hi:zcy w.heap.size w ia l)(ho:NRow w.heap.size w oa order) :
 Calls Tryz.prog 6 #[gV G ka pa ra qa kc pc rc qc,.slice ia l.length ic,.slice oa order.length oc] w λe w'=>e=.returned (.bool true)/\Below w.heap.size w w':=by
 obtain⟨i0,hi0,hz0,hz1,hz2⟩:=zah zh6;obtain⟨W1,hW1⟩:∃ W1,W1=w.alloc (.cells #[.slice ka G.kinds.length kc,.slice pa G.precs.length pc,.slice ra G.rules.length rc,.slice qa G.prods.length qc,.int .i64 G.start] 26):=⟨_,rfl⟩;have hb1:Below w.heap.size w W1:=by rw[hW1];exact(zsY _ _).alloc (zsG _) _
 have hs1:W1.heap.size=w.heap.size+1:=by rw[hW1];simp
 have hx1:W1.heap[w.heap.size]? = some (.cells #[.slice ka G.kinds.length kc,.slice pa G.precs.length pc,.slice ra G.rules.length rc,.slice qa G.prods.length qc,.int .i64 G.start] 26 (0,0)):=by rw[hW1];exact zsH _ _
 have HUp:Hid (∀ W:World,Below W1.heap.size W1 W->Below w.heap.size w W):=zaa (λW hW=>hb1.trans (zab hW (by omega)));have HCl:Hid (∀ W:World,Below W1.heap.size W1 W->∀ (ja:Option Addr) (jc:Nat) (m:List It),m.length<=5864062014805->zcy W.heap.size W ja m->Calls Tryz.prog 9 #[.agg #[.slice ka G.kinds.length kc,.slice pa G.precs.length pc,.slice ra G.rules.length rc,.slice qa G.prods.length qc,.int .i64 G.start],.slice ja m.length jc] W λe w'=>zcT G m W e w'):=zaa (λW hW ja jc m hm hj=>zt1 hLY G ka pa ra qa kc pc rc qc ja jc m hm W (zcQ hin (uh HUp W hW)) hsm (zdz htab (zsG _) (uh HUp W hW)) hj);have HAw:Hid (∀ W:World,Below W1.heap.size W1 W->Calls Tryz.prog 21 #[] W λe w'=>e=.returned (.bool true)/\Below W.heap.size W w'):=zaa (λW hW=>zlU hLY W (zdz htab (zsG _) (uh HUp W hW)));have HG:Hid (∀ W:World,Below W1.heap.size W1 W->W.cell? ⟨w.heap.size,0,none⟩=some (.slice ka G.kinds.length kc)/\W.cell? ⟨w.heap.size,1,none⟩=some (.slice pa G.precs.length pc)/\W.cell? ⟨w.heap.size,2,none⟩=some (.slice ra G.rules.length rc)/\W.cell? ⟨w.heap.size,3,none⟩=some (.slice qa G.prods.length qc)/\W.cell? ⟨w.heap.size,4,none⟩=some (.int .i64 G.start)):=zaa (λW hW=>zfT ((hW.block _ (by omega)).trans hx1));have HIr:Hid (∀ W:World,Below W1.heap.size W1 W->zcy W.heap.size W ia l):=zaa (λW hW=>zaI (zaw (uh HUp W hW) hi) (uh HUp W hW).size);have HOr:Hid (∀ W:World,Below W1.heap.size W1 W->NRow W.heap.size W oa order):=zaa (λW hW=>zfJ ho (uh HUp W hW));have Hw1:=zaa hW1;have hcl1:=uh HCl W1 (zsY _ _) ia ic l hl (uh HIr W1 (zsY _ _));have HC1:=zaa hcl1;have hz1':W1.heap.size=W1.heap.size:=rfl;obtain⟨d0,d1,d2,d3,d4⟩:=uh HG W1 (zsY _ _);rw[hW1] at d0 d1 d2 d3 d4;clear hin htab hi ho hb1 hx1 hW1 hcl1 hz1' hLY;unfold gV;go_enter Tryz.func6,Tryz.ntmps6;go_wp2_with fail;rw[<- uh Hw1];clear d0 d1 d2 d3 d4;refine(uh HC1).mono ?_;rintro e w2 ⟨sa,sc,rfl,hown2,hb2⟩;clear HC1;have hs2:=hb2.size;by_cases hv:zcL G l=0
 case neg =>
  have hne:=zwL hv;have hvI:(zcL G l != 0)=true:=by simpa using hv
  have HA:=zaa (uh HAw w2 hb2);have Hb:=zaa (uh HUp w2 hb2);clear hown2 hv hb2 HUp HCl HAw HG HIr HOr;rw[hne];generalize zcL G l=v at *;go_wp2_with fail;refine(uh HA).mono ?_;rintro e w3 ⟨rfl,hb3⟩;have Hb3:=zaa ((uh Hb).trans (zab hb3 (uh Hb).size));clear hb3 HA;go_wp2;go_ret;exact⟨rfl,uh Hb3⟩
 have Hv:=zaa hv;have hlenS:(zbD G l).length<=65536:=ztZ;rw[hv];obtain⟨S,hS⟩:∃ S,S=zbD G l:=⟨_,rfl⟩;rw[<- hS] at hown2 hlenS ⊢;have HS:=zaa hS;have hirS:zcy w2.heap.size w2 sa S:=za4 hown2;have HSr:Hid (∀ W:World,Below w2.heap.size w2 W->zcy W.heap.size W sa S):=zaa (λW hW=>zaI (zaw hW hirS) hW.size);have HB2:=zaa hb2;have HU2:Hid (∀ W:World,Below w2.heap.size w2 W->Below W1.heap.size W1 W):=zaa (λW hW=>hb2.trans (zab hW hb2.size));clear hown2 hv hS hirS hb2;have hwl:=hlenS;have hA0:(w2.alloc (.cells #[] 57)).ownsRow w2.heap.size 57 3 (.slice (some ⟨w2.heap.size,0,none⟩) 0 0) 0 []:=World.ownsRow_made w2 #[] 0 (zsG _) (zsK _) (by simp);have HA0:=zaa hA0;have HiA:=zaa (uh HIr _ (uh HU2 _ ((zsY w2.heap.size w2).alloc (zsG _) (.cells #[] 57))));clear hA0;go_wp2_with (at_builtin;refine zkT rfl _ _ rfl w2.heap.size w2.heap.size 0 (uh HA0) rfl ia ic l rfl hnil (uh HiA) hl (by simp) (zsG _) ?_);intro v9 w6 g cap hv9 hown6 hb6;have Hb6:=zaa (((zsY w2.heap.size w2).alloc (zsG _) (.cells #[] 57)).trans hb6);subst hv9;have Hown6:=zaa hown6;clear hown6 hb6 HA0 HiA;go_wp2_with fail
 go_loopw [10] (λx wr=>∃ (k:Nat) (M:List It),x=.int .i64 (k:Int)/\k<=l.length/\M.length=l.length/\(∀ y,y ∈ M↔y ∈ l)/\wr.ownsRow w2.heap.size 57 3 (.slice (some ⟨g,0,none⟩) l.length cap) l.length (zaE M)/\Below w2.heap.size w2 wr) (λx _=>l.length - (intOf x).toNat)
 case atStart=>exact⟨0,l,rfl,zsK _,rfl,λ_=>Iff.rfl,uh Hown6,uh Hb6⟩
 case round =>
  obtain⟨k,M,rfl,hk,hM,hmem,hown,hb⟩:=hrel;have hsz:=hb.size;have Hown:=zaa hown;have Hb:=zaa hb;have Hmem:=zaa hmem;clear hown hb hmem Hown6 Hb6;by_cases hin:k<order.length/\k<l.length
  ·obtain⟨hko,hkl⟩:=hin;have hkoI:(k:Int)<(order.length:Int):=by omega
   have hklI:(k:Int)<(l.length:Int):=by omega
   have hor:=uh HOr wr (uh HU2 _ (uh Hb));obtain⟨ob,ooff,rfl,hob,p0⟩:=zmz hor hko;clear hor;generalize order.getD k 0=t0 at *;by_cases h0:0<=t0
   ·by_cases h1:t0<(l.length:Int)
    ·obtain⟨t,rfl⟩:∃ t:Nat,t0=(t:Int):=⟨t0.toNat,by omega⟩;have htl:t<l.length:=by omega
     have hne:M≠[]:=λe=>by rw[e] at hM;simp at hM;omega
     obtain⟨g',cap',e9,hg9,hbk⟩:=zjk (by rw[<- hM] at Hown;exact uh Hown) hne;obtain⟨rfl,rfl⟩:g=g'/\cap=cap':=by simpa [hM] using e9
     have hgl:=zlT hbk;obtain⟨Wa,hWa⟩:∃ Wa,Wa=wr.alloc (.cells #[.int .i64 (M.getD k it0).1,.int .i64 (M.getD k it0).2.1,.int .i64 (M.getD k it0).2.2] 57):=⟨_,rfl⟩;have hba:Below wr.heap.size wr Wa:=by rw[hWa];exact(zsY _ _).alloc (zsG _) _
     have hxa:Wa.heap[wr.heap.size]? = some (.cells #[.int .i64 (M.getD k it0).1,.int .i64 (M.getD k it0).2.1,.int .i64 (M.getD k it0).2.2] 57 (0,0)):=by rw[hWa];exact zsH _ _
     have hbka:=zxa hbk (hba.block g hgl);have hbkb:=zjj hbka (i:=k) (by omega) (M.getD t it0);have hbkc:=zjj hbkb (i:=t) (by rw[List.length_set];omega) (M.getD k it0);have hMsw:(M.set k (M.getD t it0)).set t (M.getD k it0)=zr2 M k t:=rfl;rw[hMsw] at hbkc;have hfb:∀ (u0 u1 u2:Value),(((Wa.setCell ⟨g,k * 3,none⟩ u0).setCell ⟨g,k * 3+1,none⟩ u1).setCell ⟨g,k * 3+2,none⟩ u2).heap[wr.heap.size]? = Wa.heap[wr.heap.size]?:=λu0 u1 u2=>by
      rw[Below.heap_setCell _ _ _ _ (by show wr.heap.size≠g;omega),Below.heap_setCell _ _ _ _ (by show wr.heap.size≠g;omega),Below.heap_setCell _ _ _ _ (by show wr.heap.size≠g;omega)]
     obtain⟨a0,a1,a2⟩:=zbk hbk (j:=k) (by omega);obtain⟨b0,b1,b2⟩:=zbk hbka (j:=t) (by omega);obtain⟨c0,c1,c2⟩:=zbk hbka (j:=k) (by omega);have f0:=zer hbka (k * 3);have f1:=zer hbka (k * 3+1);have f2:=zer hbka (k * 3+2);have hxb:=(hfb (.int .i64 (M.getD t it0).1) (.int .i64 (M.getD t it0).2.1) (.int .i64 (M.getD t it0).2.2)).trans hxa;have x0:=zac hxb 0 rfl;have x1:=zac hxb 1 rfl;have x2:=zac hxb 2 rfl;obtain⟨e0,e1,e2⟩:=zbk hbkb (j:=t) (by rw[List.length_set];omega);have h0f:=zer hbkb (t * 3);have h1f:=zer hbkb (t * 3+1);have h2f:=zer hbkb (t * 3+2);obtain⟨Wb,hWb⟩:∃ Wb,Wb=((Wa.setCell ⟨g,k * 3,none⟩ (.int .i64 (M.getD t it0).1)).setCell ⟨g,k * 3+1,none⟩ (.int .i64 (M.getD t it0).2.1)).setCell ⟨g,k * 3+2,none⟩ (.int .i64 (M.getD t it0).2.2):=⟨_,rfl⟩;have hbb:Below w2.heap.size w2 Wb:=by
      rw[hWb];exact((((uh Hb).trans (zab hba hsz)).setCell (p:=⟨g,k * 3,none⟩) hg9 _).setCell (p:=⟨g,k * 3+1,none⟩) hg9 _).setCell (p:=⟨g,k * 3+2,none⟩) hg9 _
     rw[<- hWb] at x0 x1 x2 e0 e1 e2 h0f h1f h2f hbkc
     have Hnew:Hid (∀ W:World,W=((Wb.setCell ⟨g,t * 3,none⟩ (.int .i64 (M.getD k it0).1)).setCell ⟨g,t * 3+1,none⟩ (.int .i64 (M.getD k it0).2.1)).setCell ⟨g,t * 3+2,none⟩ (.int .i64 (M.getD k it0).2.2)->(W.ownsRow w2.heap.size 57 3 (.slice (some ⟨g,0,none⟩) l.length cap) l.length (zaE (zr2 M k t)))/\Below w2.heap.size w2 W):=zaa (λW hW=>by
      have h8:=ziF hbkc hg9;rw[zgk,hM] at h8;rw[hW]
      exact⟨h8,((hbb.setCell (p:=⟨g,t * 3,none⟩) hg9 _).setCell (p:=⟨g,t * 3+1,none⟩) hg9 _).setCell (p:=⟨g,t * 3+2,none⟩) hg9 _⟩)
     have Hsm:Hid (∀ y,y ∈ zr2 M k t↔y ∈ l):=zaa (λy=>(zr1 (by omega) (by omega) y).trans (uh Hmem y));have Hsl:=zaa ((zgk M k t).trans hM);have Hxx:=zaa (And.intro x0 (And.intro x1 x2));have Hee:=zaa (And.intro (And.intro e0 (And.intro e1 e2)) (And.intro h0f (And.intro h1f h2f)));have Hbb:=zaa (And.intro (And.intro b0 (And.intro b1 b2)) (And.intro (And.intro c0 (And.intro c1 c2)) (And.intro f0 (And.intro f1 f2))));clear hbka hbkb hbkc hMsw hfb hxa hxb hbk hba hbb b0 b1 b2 c0 c1 c2 f0 f1 f2 x0 x1 x2 e0 e1 e2 h0f h1f h2f;have Hwa:=zaa hWa;have Hwb:=zaa hWb;clear hWa hWb;generalize M.getD k it0=X at *;generalize M.getD t it0=Y at *;go_upto_region 11 with fail;rw[<- uh Hwa];clear a0 a1 a2;obtain⟨⟨b0,b1,b2⟩,⟨c0,c1,c2⟩,f0,f1,f2⟩:=uh Hbb;go_upto_region 12 with fail;rw[<- uh Hwb];clear b0 b1 b2 c0 c1 c2 f0 f1 f2;obtain⟨⟨e0,e1,e2⟩,h0f,h1f,h2f⟩:=uh Hee;obtain⟨x0,x1,x2⟩:=uh Hxx;go_wp2_with fail;obtain⟨hownN,hbN⟩:=uh Hnew _ rfl;have HoN:=zaa hownN;have HbN:=zaa hbN;clear hownN hbN x0 x1 x2 e0 e1 e2 h0f h1f h2f Hnew Hbb Hee Hxx;go_roundw
     case rel=>exact⟨k+1,zr2 M k t,by go_num,by omega,uh Hsl,uh Hsm,uh HoN,uh HbN⟩
     case measure=>simp[intOf];omega
    ·go_wp2;go_roundw
     case rel=>exact⟨k+1,M,by go_num,by omega,hM,uh Hmem,uh Hown,uh Hb⟩
     case measure=>simp[intOf];omega
   ·go_wp2;go_roundw
    case rel=>exact⟨k+1,M,by go_num,by omega,hM,uh Hmem,uh Hown,uh Hb⟩
    case measure=>simp[intOf];omega
  ·have hex:¬ (k:Int)<(order.length:Int)\/((k:Int)<(order.length:Int)/\¬ (k:Int)<(l.length:Int)):=by omega
   have hsm:=zq1 (uh Hv) (uh Hmem);have hag:=zoj (uh Hv);rw[<- uh HS] at hsm hag;have hirM:zcy wr.heap.size wr (some ⟨g,0,none⟩) M:=by
    have h8:=uh Hown;rw[<- hM] at h8;exact za4 h8
   have HC2:Hid (Calls Tryz.prog 9 #[.agg #[.slice ka G.kinds.length kc,.slice pa G.precs.length pc,.slice ra G.rules.length rc,.slice qa G.prods.length qc,.int .i64 G.start],.slice (some ⟨g,0,none⟩) l.length cap] wr λe w'=>∃ a c,e=.returned (.tuple #[.slice a S.length c,.int .i64 0])/\w'.ownsRow wr.heap.size 57 3 (.slice a S.length c) S.length (zaE S)/\Below wr.heap.size wr w'):=zaa (by
    have h8:=uh HCl wr (uh HU2 _ (uh Hb)) (some ⟨g,0,none⟩) cap M (by omega) hirM;unfold zcT at h8;rw[hsm.1,hsm.2,hM] at h8
    exact h8)
   have HC3:Hid (∀ W:World,Below w2.heap.size w2 W->Calls Tryz.prog 9 #[.agg #[.slice ka G.kinds.length kc,.slice pa G.precs.length pc,.slice ra G.rules.length rc,.slice qa G.prods.length qc,.int .i64 G.start],.slice sa S.length sc] W λe w'=>∃ a c,e=.returned (.tuple #[.slice a S.length c,.int .i64 0])/\w'.ownsRow W.heap.size 57 3 (.slice a S.length c) S.length (zaE S)/\Below W.heap.size W w'):=zaa (λW hW=>by
    have h8:=uh HCl W (uh HU2 _ hW) sa sc S (by omega) (uh HSr W hW);unfold zcT at h8;rw[hag.1,hag.2] at h8
    exact h8)
   have HHas:Hid (∀ x,x ∈ l->decide (x ∈ S)=true):=zaa (λx hx=>decide_eq_true (by rw[uh HS];exact zt0 (uh Hv) hx));have hupS:Hid (UpI S):=zaa (by rw[uh HS];exact zwK);clear hsm hag hirM Hmem Hown;obtain⟨d0,d1,d2,d3,d4⟩:=uh HG wr (uh HU2 _ (uh Hb));rcases hex with hx1 | ⟨hx1,hx2⟩
   all_goals
    go_wp2_with fail;refine(uh HC2).mono ?_;rintro e w7 ⟨a7,c7,rfl,hown7,hb7⟩;have hb27:=(uh Hb).trans (zab hb7 (uh Hb).size);have hir7:=za4 hown7;have HC37:=zaa (uh HC3 w7 hb27);obtain⟨d0,d1,d2,d3,d4⟩:=uh HG w7 (uh HU2 _ hb27);have Hb27:=zaa hb27;have Hir7:=zaa hir7;clear hown7 hb7 HC2 HC3 hir7 hb27;go_wp2_with fail;clear d0 d1 d2 d3 d4;refine(uh HC37).mono ?_;rintro e w8 ⟨a8,c8,rfl,hown8,hb8⟩;have hb28:=(uh Hb27).trans (zab hb8 (uh Hb27).size);have hir8:=za4 hown8;have hir78:=zaI (zaw hb8 (uh Hir7)) hb8.size;have hirS8:=uh HSr w8 hb28
    have HS1:Hid (∀ W:World,(∃ q,W=w8.drewN q)->Calls Tryz.prog 11 #[.slice a7 S.length c7,.slice sa S.length sc] W λe w'=>e=.returned (.bool true)/\∃ q,w'=w8.drewN q):=zaa (by
     rintro W ⟨q,rfl⟩;refine(zjM a7 sa c7 sc S S (by omega) (w8.drewN q) hir78 hirS8).mono ?_;rintro e w' ⟨rfl,q2,rfl⟩
     exact⟨by rw[decide_eq_true rfl],q+q2,by rw[World.drewN_drewN]⟩)
    have HS2:Hid (∀ W:World,(∃ q,W=w8.drewN q)->Calls Tryz.prog 11 #[.slice a8 S.length c8,.slice sa S.length sc] W λe w'=>e=.returned (.bool true)/\∃ q,w'=w8.drewN q):=zaa (by
     rintro W ⟨q,rfl⟩;refine(zjM a8 sa c8 sc S S (by omega) (w8.drewN q) hir8 hirS8).mono ?_;rintro e w' ⟨rfl,q2,rfl⟩
     exact⟨by rw[decide_eq_true rfl],q+q2,by rw[World.drewN_drewN]⟩)
    have Hb28:=zaa hb28;clear hown8 hb8 hb28 hir8 hir78 hirS8 HC37 Hir7;go_wp2_with fail;refine(uh HS1 _ ⟨0,rfl⟩).mono ?_;rintro e w9 ⟨rfl,q1,rfl⟩;go_wp2_with fail;refine(uh HS2 _ ⟨q1,rfl⟩).mono ?_;rintro e w9 ⟨rfl,q2,rfl⟩;have hb29:Below w2.heap.size w2 (w8.drewN q2):=zap (uh Hb28) q2;generalize w8.drewN q2=w9 at *;have Hb29:=zaa hb29;clear hb29 HS1 HS2;go_wp2_with fail
    go_loopw [17] (λx wr=>∃ k:Nat,x=.int .i64 (k:Int)/\k<=l.length/\Below w2.heap.size w2 wr) (λx _=>l.length - (intOf x).toNat)
    case atStart=>exact⟨0,rfl,zsK _,uh Hb29⟩
    case round =>
     obtain⟨j,rfl,hj,hbj⟩:=hrel;have Hbj:=zaa hbj;have hszj:=hbj.size;have hU:=uh HU2 _ hbj;by_cases hjl:j<l.length
     ·have hjI:(j:Int)<(l.length:Int):=by omega
      obtain⟨b,off,rfl,hbl,x0,x1,x2⟩:=zby (uh HIr _ hU) hjl;have hd:=uh HHas _ (zbR hjl);have HH:=zaa (ztA sa sc S (by omega) (uh hupS) (l.getD j it0) wr (uh HSr _ hbj));rw[hd] at HH;unfold itV at HH;clear hbj hU hd;generalize l.getD j it0=X at *;go_wp2_with fail;refine(uh HH).mono ?_;rintro e w10 ⟨rfl,hb10⟩;have Hb10:=zaa ((uh Hbj).trans (zab hb10 hszj));clear hb10 HH x0 x1 x2;go_wp2;go_roundw
      case rel=>exact⟨j+1,by go_num,by omega,uh Hb10⟩
      case measure=>simp[intOf];omega
     ·have hjI:¬ (j:Int)<(l.length:Int):=by omega
      have HA:=zaa (uh HAw wr hU);have Hbf:=zaa (uh HUp wr hU);clear hbj hU;go_wp2_with fail;refine(uh HA).mono ?_;rintro e w11 ⟨rfl,hb11⟩;have Hb11:=zaa ((uh Hbf).trans (zab hb11 (uh Hbf).size));clear hb11 HA;go_wp2;refine bodyPost_ret (v:=.bool true) ?zzA rfl ⟨rfl,uh Hb11⟩
      case zzA=>simp[results,Tryz.results6,go_sem]
end Go.Proofs.YtieciibnajeibaaGreatDoor

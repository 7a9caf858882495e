import Derived.Test.YtieciibnajeibaaGreatDoorKU
set_option maxHeartbeats 8000000
set_option maxRecDepth 100000
namespace Go.Proofs.YtieciibnajeibaaGreatDoor
open Go.RowKit
def znn(G:Gm)(sts:List (List It))(nxs:List (List Int)):Prop:=zno sts/\zjF sts.length nxs/\(nxs.getD 0 []).length=G.nk+G.nr/\∀ j,j<sts.length->znq G (sts.getD j [])
def FitP(G:Gm)(st step:List It):Prop:=zcP (zfn G st)=zcP step/\∀ i,i ∈ step->i ∈ st
def StepP(G:Gm)(sts:List (List It))(step:List It)(t:Int):Prop:=(t = -1↔step=[])/\(t ≠ -1->FitP G (sts.getD t.toNat []) step)
def zun(G:Gm)(sts:List (List It))(nxs:List (List Int)):Prop:=zaQ G ∈ sts.getD 0 []/\(∀ j,j<sts.length->zl4 G (sts.getD j []))/\∀ j,j<sts.length->∀ x,x<(nxs.getD j []).length->StepP G sts (zby G (sts.getD j []) x) ((nxs.getD j []).getD x 0)
def RightP(G:Gm)(sts:List (List It))(nxs:List (List Int)):Prop:=znn G sts nxs/\zun G sts nxs
theorem zdg{α:Type}{l:List (List α)}{i:Nat}(h:i<l.length):l.getD i [] ∈ l:=by
 rw[zsE,zsF h];exact List.getElem_mem h
theorem zdZ{α:Type}{l m:List (List α)}{i:Nat}(h:i<l.length):(l ++ m).getD i []=l.getD i []:=by
 rw[zsE,zsE,List.getElem?_append_left h]
theorem zfp{α:Type}{l:List (List α)}{x:List α}:(l ++ [x]).getD l.length []=x:=by simp[List.getD_eq_getElem?_getD]
structure KerP (G:Gm) (m:List It):Prop where
 is:∀ x,x ∈ m->zcv G x=true
 ker:∀ x,x ∈ m->zhM G x=true
 up:UpI m
 ne:m≠[]
structure BInv (G:Gm) (s:BM):Prop where
 len:s.kers.length=s.sts.length
 st:∀ i,i<s.sts.length->s.sts.getD i []=clL G (s.kers.getD i [])/\(clL G (s.kers.getD i [])).length<=65536
 ker:∀ m,m ∈ s.kers->KerP G m
 sum:zlc s.sts=s.cnt
 cnt:s.cnt<=1048576
 n1:s.sts.length<=4096
 nd:s.kers.Nodup
def Grw(s s':BM):Prop:=s.kers.length<=s'.kers.length/\s.sts.length<=s'.sts.length/\(∀ i,i<s.kers.length->s'.kers.getD i []=s.kers.getD i [])/\∀ i,i<s.sts.length->s'.sts.getD i []=s.sts.getD i []
theorem zgB(s:BM):Grw s s:=⟨zsG _,zsG _,λ_ _=>rfl,λ_ _=>rfl⟩
theorem zkz{a b c:BM}(h:Grw a b)(k:Grw b c):Grw a c:=⟨zsy h.1 k.1,zsy h.2.1 k.2.1,λi hi=>(k.2.2.1 i (zsJ hi h.1)).trans (h.2.2.1 i hi),λi hi=>(k.2.2.2 i (zsJ hi h.2.1)).trans (h.2.2.2 i hi)⟩
theorem zni{G:Gm}{s s':BM}{l:List It}{n:Nat}(h:BInv G s)(hl:KerP G l)(e:zia G s l=.ok (s',n)):BInv G s'/\Grw s s'/\n<s'.kers.length/\s'.kers.getD n []=l:=by
 unfold zia at e
 split at e
 ·rename_i hm;simp only[Except.ok.injEq,Prod.mk.injEq] at e;obtain⟨rfl,rfl⟩:=e;have hi:=List.idxOf_lt_length_iff.2 hm;refine⟨h,zgB _,hi,?_⟩;rw[zsE,zsF hi];exact List.getElem_idxOf hi
 ·rename_i hm
  split at e
  ·rename_i hv;simp only[Except.ok.injEq,Prod.mk.injEq] at e;obtain⟨rfl,rfl⟩:=e;have hv2:clV G l=0/\s.cnt+(clR G l).length<=1048576/\s.sts.length≠4096:=by
    unfold zpK at hv
    split at hv
    ·rename_i h0;refine⟨h0,?_⟩
     split at hv
     ·cases hv
     ·split at hv
      ·cases hv
      ·exact⟨by omega,by assumption⟩
    ·rename_i h0;exact absurd hv h0
   have hlen:(clL G l).length<=65536:=by
    have h0:=hv2.1;unfold clV at h0
    split at h0
    ·assumption
    ·cases h0
   have hR:clR G l=clL G l:=by unfold clR;rw[if_pos hlen]
   refine⟨⟨by simp[h.len],λi hi=>?_,λm hm2=>?_,?_,hv2.2.1,?_,?_⟩,⟨by simp,by simp,λi hi=>zdZ hi,λi hi=>zdZ hi⟩,by simp[h.len],?_⟩
   ·simp only[zsI,List.length_cons,List.length_nil] at hi;by_cases e:i<s.sts.length
    ·rw[zdZ e,zdZ (by rw[h.len];exact e)];exact h.st i e
    ·obtain rfl:i=s.sts.length:=by omega
     have e2:(s.kers ++ [l]).getD s.sts.length []=l:=by rw[<- h.len];exact zfp
     simp only[zfp,e2,hR];exact⟨trivial,hlen⟩
   ·rcases List.mem_append.1 hm2 with h9 | h9
    ·exact h.ker m h9
    ·rw[List.mem_singleton.1 h9];exact hl
   ·show zlc (s.sts ++ [clR G l])=s.cnt+(clR G l).length;rw[zjR,h.sum]
   ·have:=h.n1;simp only[zsI,List.length_cons,List.length_nil];omega
   ·exact List.nodup_append.2 ⟨h.nd,by simp,λa ha b hb e=>hm (by rw[List.mem_singleton] at hb;rw[<- hb,<- e];exact ha)⟩
   ·show (s.kers ++ [l]).getD s.sts.length []=l;rw[<- h.len];exact zfp
  ·cases e
theorem zrU{G:Gm}{l:List It}(h:UpI l)(y:Nat):UpI (zby G l y):=by
 unfold zby UpI;rw[List.pairwise_map];refine(h.filter _).imp (fun {a b} hab=>?_);unfold ltI at hab ⊢;simp only;omega
theorem zte{G:Gm}{l:List It}{y:Nat}{x:It}(h:x ∈ zby G l y):∃ z,z ∈ l/\zdn G z=some (y:Int)/\x=(z.1,z.2.1+1,z.2.2):=by
 unfold zby at h;obtain⟨z,hz,rfl⟩:=List.mem_map.1 h;obtain⟨h1,h2⟩:=List.mem_filter.1 hz;exact⟨z,h1,of_decide_eq_true h2,rfl⟩
theorem zto{G:Gm}{l:List It}(hl:∀ x,x ∈ l->zcv G x=true)(hu:UpI l){y:Nat}(hn:zby G l y≠[]):KerP G (zby G l y):=by
 refine⟨zg5 hl,λx hx=>?_,zrU hu y,hn⟩;obtain⟨z,hz,-,rfl⟩:=zte hx;obtain⟨-,-,e3,-⟩:=of_decide_eq_true (hl z hz);unfold zhM;simp only[Bool.or_eq_true,decide_eq_true_eq];left;omega
def zl3(_G:Gm)(s:BM)(step:List It)(t:Int):Prop:=(t = -1/\step=[])\/∃ n:Nat,n<s.kers.length/\t=(n:Int)/\s.kers.getD n []=step/\step≠[]
theorem zmW{G:Gm}{s s':BM}{step:List It}{t:Int}(h:zl3 G s step t)(hg:Grw s s'):zl3 G s' step t:=by
 rcases h with h | ⟨n,h1,h2,h3,h4⟩
 ·exact .inl h
 ·exact .inr ⟨n,zsJ h1 hg.1,h2,(hg.2.2.1 n h1).trans h3,h4⟩
theorem zru{G:Gm}{st:List It}(hl:∀ x,x ∈ st->zcv G x=true)(hu:UpI st):∀ {ys:List Int} {s s':BM} {nx nx':List Int},BInv G s->(∀ y,y ∈ ys->∃ q:Nat,y=(q:Int)/\q<nx.length/\zby G st q≠[])->(∀ x,x<nx.length->(x:Int) ∉ ys->zl3 G s (zby G st x) (nx.getD x 0))->goM G st ys s nx=.ok (s',nx') ->
 BInv G s'/\Grw s s'/\nx'.length=nx.length/\∀ x,x<nx.length->zl3 G s' (zby G st x) (nx'.getD x 0)
 | [],s,s',nx,nx',h,_,ho,e=>by
   simp only[goM,Except.ok.injEq,Prod.mk.injEq] at e;obtain⟨rfl,rfl⟩:=e;exact⟨h,zgB _,rfl,λx hx=>ho x hx (by simp)⟩
 | y::ys,s,s',nx,nx',h,hy,ho,e=>by
   unfold goM at e;obtain⟨q,rfl,hq,hne⟩:=hy y (by simp)
   split at e
   ·cases e
   ·rename_i s2 n hn;rw[zsS] at hn e;obtain⟨h2,hg,hnl,hnk⟩:=zni h (zto hl hu hne) hn
    have:=zru hl hu (ys:=ys) h2 (λz hz=>by
     obtain⟨q',h1,h3,h4⟩:=hy z (List.mem_cons_of_mem _ hz)
     exact⟨q',h1,by simpa using h3,h4⟩) (λx hx hxn=>by
     rw[List.length_set] at hx;by_cases ex:x=q
     ·subst ex;rw[zsE,List.getElem?_set_self hx];exact .inr ⟨n,hnl,rfl,hnk,hne⟩
     ·rw[zsE,List.getElem?_set_ne (λe=>ex e.symm),<- zsE]
      exact zmW (ho x hx (by
       rw[List.mem_cons];rintro(h9 | h9)
       ·exact ex (by omega)
       ·exact hxn h9)) hg) e
    obtain⟨i1,i2,i3,i4⟩:=this;rw[List.length_set] at i3 i4;exact⟨i1,zkz hg i2,i3,i4⟩
def zxx(G:Gm)(s:BM)(nxs:List (List Int)):Prop:=nxs.length<=s.sts.length/\∀ j,j<nxs.length->(nxs.getD j []).length=G.nk+G.nr/\∀ x,x<G.nk+G.nr->zl3 G s (zby G (s.sts.getD j []) x) ((nxs.getD j []).getD x 0)
theorem zf3{G:Gm}(hG:GOk G){s:BM}(h:BInv G s){j:Nat}(hj:j<s.sts.length):(∀ x,x ∈ s.sts.getD j []->zcv G x=true)/\UpI (s.sts.getD j []):=by
 rw[(h.st j hj).1];exact⟨zwe hG (h.ker _ (zdg (by rw[h.len];exact hj))).is,zfI _ _⟩
theorem zkS{G:Gm}(hG:GOk G):∀ {f:Nat} {s s':BM} {nxs nxs':List (List Int)},BInv G s->zxx G s nxs->4096<=nxs.length+f->zdw G f s nxs=.ok (s',nxs')->BInv G s'/\Grw s s'/\zxx G s' nxs'/\nxs'.length=s'.sts.length
 | 0,s,s',nxs,nxs',h,hn,hf,e=>by
   simp only[zdw,Except.ok.injEq,Prod.mk.injEq] at e;obtain⟨rfl,rfl⟩:=e;have:=h.n1;exact⟨h,zgB _,hn,by have:=hn.1;omega⟩
 | f+1,s,s',nxs,nxs',h,hn,hf,e=>by
   by_cases hlt:nxs.length<s.sts.length
   ·cases hg:goM G (s.sts.getD nxs.length []) (ysI G (s.sts.getD nxs.length [])) s (List.replicate (G.nk+G.nr) (-1)) with
    | error v=>rw[zkl hlt hg] at e;cases e
    | ok r =>
      obtain⟨s2,nx⟩:=r;rw[zeo hlt hg] at e;obtain⟨hi,hu⟩:=zf3 hG h hlt
      obtain⟨i1,i2,i3,i4⟩:=zru hi hu h (λy hy=>by
       obtain⟨q,h1,-,h3,h4⟩:=zoA hG hi hy
       exact⟨q,h1,by simpa using h4,h3⟩) (λx hx hxn=>by
       rw[List.length_replicate] at hx;left;refine⟨by rw[zsE,List.getElem?_replicate,if_pos hx];rfl,?_⟩;by_cases hm:zby G (s.sts.getD nxs.length []) x=[]
       ·exact hm
       ·exfalso;apply hxn;rw[zgG hG hi]
        exact List.mem_map.2 ⟨x,List.mem_filter.2 ⟨List.mem_range.2 hx,decide_eq_true hm⟩,rfl⟩) hg
      rw[List.length_replicate] at i3 i4
      have:=zkS hG (nxs:=nxs ++ [nx]) i1 ⟨by rw[zsI];have:=i2.2.1;simp;omega,λj hj=>by
       rw[zsI] at hj;simp only[List.length_cons,List.length_nil] at hj;by_cases ej:j<nxs.length
       ·rw[zdZ ej,i2.2.2.2 j (by omega)];exact⟨(hn.2 j ej).1,λx hx=>zmW ((hn.2 j ej).2 x hx) i2⟩
       ·obtain rfl:j=nxs.length:=by omega
        rw[zfp,i2.2.2.2 nxs.length hlt]
        exact⟨i3,i4⟩⟩ (by simp;omega) e
      exact⟨this.1,zkz i2 this.2.1,this.2.2⟩
   ·rw[zha hlt] at e;simp only[Except.ok.injEq,Prod.mk.injEq] at e;obtain⟨rfl,rfl⟩:=e;exact⟨h,zgB _,hn,by have:=hn.1;omega⟩
theorem zn3{G:Gm}(hG:GOk G):KerP G [zaQ G]:=by
 refine⟨λx hx=>?_,λx hx=>?_,by simp[UpI],by simp⟩
 ·rw[List.mem_singleton.1 hx];exact zfa hG
 ·rw[List.mem_singleton.1 hx];unfold zhM zaQ;simp
theorem zkM{G:Gm}(hG:GOk G){s:BM}{nxs:List (List Int)}(h:zbZ G=.ok (s,nxs)):BInv G s/\zxx G s nxs/\nxs.length=s.sts.length/\0<s.kers.length/\s.kers.getD 0 []=[zaQ G]:=by
 unfold zbZ at h
 split at h
 ·cases h
 ·rename_i s0 n hn;have h0:BInv G ⟨[],[],0⟩:=⟨rfl,λi hi=>absurd hi (Nat.not_lt_zero _),λm hm=>by simp at hm,rfl,by simp,by simp,List.nodup_nil⟩;obtain⟨i1,i2,i3,i4⟩:=zni h0 (zn3 hG) hn;have hn0:n=0:=by
   unfold zia at hn;rw[if_neg (by simp)] at hn
   split at hn
   ·simp only[Except.ok.injEq,Prod.mk.injEq] at hn;exact hn.2.symm
   ·cases hn
  subst hn0;obtain⟨j1,j2,j3,j4⟩:=zkS hG (nxs:=[]) i1 ⟨by simp,λj hj=>absurd hj (Nat.not_lt_zero _)⟩ (by simp) h;exact⟨j1,j3,j4,zsJ i3 j2.1,(j2.2.2.1 0 i3).trans i4⟩
theorem zqh{G:Gm}(hG:GOk G){m:List It}(h:KerP G m):zfn G (clL G m)=m:=by
 refine zdo ((zfI G m).filter _) h.up (λx=>?_);unfold zfn;rw[List.mem_filter];constructor
 ·rintro⟨h1,h2⟩;rcases(zcK hG).1 h1 with h3 | ⟨p,k,rfl,hp,-⟩
  ·exact h3
  ·unfold zhM at h2;simp only[Bool.or_eq_true,decide_eq_true_eq] at h2;omega
 ·intro hx;exact⟨zkK hG hx,h.ker x hx⟩
theorem zkA{G:Gm}(hG:GOk G){s:BM}(h:BInv G s){step:List It}{t:Int}(hs:zl3 G s step t):(-1<=t/\t<s.sts.length)/\StepP G s.sts step t:=by
 rcases hs with ⟨rfl,rfl⟩ | ⟨n,h1,rfl,h3,h4⟩
 ·exact⟨⟨by omega,by omega⟩,⟨λ_=>rfl,λ_=>rfl⟩,λh=>absurd rfl h⟩
 ·have hl:=h.len;refine⟨⟨by omega,by omega⟩,⟨λe=>by omega,λe=>absurd e h4⟩,λ_=>?_⟩;rw[zsS,(h.st n (by omega)).1,h3];have hk:KerP G step:=h3▸h.ker _ (zdg h1);unfold FitP;rw[zqh hG hk];exact⟨rfl,λi hi=>zkK hG hi⟩
theorem zt0{G:Gm}(hG:GOk G){m:List It}(h:(clL G m).length<=65536):zl4 G (clL G m):=by
 unfold zl4 clV clR;rw[zt5 hG,if_pos h,if_pos h];exact⟨rfl,rfl⟩
theorem zpZ{l:List Int}{x:Int}(h:x ∈ l):∃ i,i<l.length/\l.getD i 0=x:=by
 obtain⟨i,hi,rfl⟩:=List.getElem_of_mem h;exact⟨i,hi,by rw[zsE,zsF hi];rfl⟩
theorem zhw{G:Gm}(hG:GOk G){s:BM}{nxs:List (List Int)}(h:zbZ G=.ok (s,nxs)):RightP G s.sts nxs:=by
 obtain⟨i1,i2,i3,i4,i5⟩:=zkM hG h;have hl:=i1.len;have h0:0<s.sts.length:=by omega
 have hrow:∀ j,j<nxs.length->(nxs.getD j []).length=G.nk+G.nr:=λj hj=>(i2.2 j hj).1;refine⟨⟨⟨⟨h0,i1.n1⟩,λj hj=>?_,by rw[i1.sum];exact i1.cnt⟩,⟨h0,i3,λj hj=>⟨by rw[hrow j hj,hrow 0 (by omega)],λx hx=>?_⟩⟩,hrow 0 (by omega),λj hj=>?_⟩,?_,λj hj=>?_,λj hj x hx=>?_⟩
 ·have hk:=i1.ker _ (zdg (show j<s.kers.length by omega));rw[(i1.st j hj).1];refine⟨?_,(i1.st j hj).2⟩;obtain⟨z,hz⟩:=List.exists_mem_of_ne_nil _ hk.ne;exact List.length_pos_of_mem (zkK hG hz)
 ·obtain⟨q,hq,rfl⟩:=zpZ hx;rw[hrow j hj] at hq;exact(zkA hG i1 ((i2.2 j hj).2 q hq)).1
 ·obtain⟨a,b⟩:=zf3 hG i1 hj;exact⟨areIt_iff.2 a,b⟩
 ·rw[(i1.st 0 h0).1,i5];exact zkK hG (by simp)
 ·rw[(i1.st j hj).1];exact zt0 hG (i1.st j hj).2
 ·rw[hrow j (by omega)] at hx;exact(zkA hG i1 ((i2.2 j (by omega)).2 x hx)).2
open Go.Maps
theorem zqm{R:Nat->Prop}{B:Nat}{w:World}{a:Option Addr}{l:List It}(h:zhQ R w a l)(hR:∀ k,R k->k<B):zcE B w a l:=by
 rcases h with h | ⟨b,off,h1,h2,h3⟩
 ·exact .inl h
 ·exact .inr ⟨b,off,h1,hR b h2,h3⟩
theorem zpM{R:Nat->Prop}{B:Nat}{w:World}{a:Option Addr}{l:List Int}(h:zkV R w a l)(hR:∀ k,R k->k<B):NRow B w a l:=by
 rcases h with h | ⟨b,off,h1,h2,h3⟩
 ·exact .inl h
 ·exact .inr ⟨b,off,h1,hR b h2,h3⟩
theorem zp4{R:Nat->Prop}{B:Nat}{w:World}{v:Value}{sts:List (List It)}{svs:List Value}(h:w.ownsRow B 27 1 v sts.length svs)(hs:zgj R w svs sts)(hR:∀ k,R k->k<w.heap.size)(hl:∀ j,j<sts.length->(sts.getD j []).length<=281474976710656):∃ a c,v=.slice a sts.length c/\zez w.heap.size w a sts:=by
 rcases h.2 with ⟨rfl,h0⟩ | ⟨g,cap,cur,rfl,_⟩
 ·have:sts=[]:=List.length_eq_zero_iff.1 h0;exact⟨none,0,by rw[this];rfl,.inl this⟩
 ·refine⟨some ⟨g,0,none⟩,cap,rfl,.inr ⟨g,0,rfl,(h.lt g rfl).2,λj hj=>?_⟩⟩;obtain⟨a,c,h1,h2⟩:=hs.2 j hj;refine⟨a,c,?_,zqm h2 hR,hl j hj⟩;have:=h.cells (g:=g) rfl j _ h1
  rwa [Go.WideShapes.add_plain] at this
theorem zmI{R:Nat->Prop}{B:Nat}{w:World}{v:Value}{nxs:List (List Int)}{nvs:List Value}(h:w.ownsRow B 50 1 v nxs.length nvs)(hs:zgk R w nvs nxs)(hR:∀ k,R k->k<w.heap.size):∃ a c,v=.slice a nxs.length c/\zeb w a nxs:=by
 rcases h.2 with ⟨rfl,h0⟩ | ⟨g,cap,cur,rfl,_⟩
 ·have:nxs=[]:=List.length_eq_zero_iff.1 h0;exact⟨none,0,by rw[this];rfl,.inl this⟩
 ·refine⟨some ⟨g,0,none⟩,cap,rfl,.inr ⟨g,0,rfl,(h.lt g rfl).2,λj hj=>?_⟩⟩;obtain⟨a,c,h1,h2⟩:=hs.2 j hj;refine⟨a,c,?_,zpM h2 hR⟩;have:=h.cells (g:=g) rfl j _ h1
  rwa [Go.WideShapes.add_plain] at this
def kcL(G:Gm)(st:List It):List Sp:=zcP (zfn G st)
structure LdI (w:World) (B cb gb tb:Nat) (G:Gm) (sts:List (List It)) (j:Nat) (vC:Value) (vs:List Value) (wr:World):Prop where
 cl:∃ R:Nat->Prop,ClB R B wr cb gb tb G/\RsT R wr G tb/\(∀ k,R k->k<wr.heap.size)/\∀ k,vC.ownBlock=some k->¬ R k
 row:wr.ownsRow w.heap.size 157 1 vC j vs
 len:vs.length=j
 cs:∀ i,i<j->∃ a c,vs[i]? = some (.slice a (kcL G (sts.getD i [])).length c)/\wr.ownsRow w.heap.size 121 2 (.slice a (kcL G (sts.getD i [])).length c) (kcL G (sts.getD i [])).length (zbb (kcL G (sts.getD i [])))
 fr:Fr (λk=>k=tb) w wr
section
variable {w:World} {B cb gb tb:Nat} {G:Gm} {sts:List (List It)} {j:Nat} {vC:Value} {vs:List Value} {wr:World}
theorem zfl{w2:World}(h:LdI w B cb gb tb G sts j vC vs wr)(hb:Below wr.heap.size wr w2):LdI w B cb gb tb G sts j vC vs w2:=by
 obtain⟨R,h1,h2,h3,h4⟩:=h.cl;refine⟨⟨R,za6 h1 (zae hb),zbp h2 (zae hb),λk hk=>zsJ (h3 k hk) hb.size,h4⟩,zaC h.row (zae (O:=λ_=>False) hb) (λ_ _ h=>h),h.len,λi hi=>?_,zcQ h.fr (zae hb)⟩;obtain⟨a,c,g1,g2⟩:=h.cs i hi;exact⟨a,c,g1,zaC g2 (zae (O:=λ_=>False) hb) (λ_ _ h=>h)⟩
theorem ztk{w2:World}(h:LdI w B cb gb tb G sts j vC vs wr)(ht:tb<w.heap.size){R R':Nat->Prop}(hv:∀ k,vC.ownBlock=some k->¬ R k)(hf:Fr (λk=>k=tb) wr w2)(h1:ClB R' B w2 cb gb tb G)(h2:RsT R' w2 G tb)(h3:∀ k,R' k->R k\/wr.heap.size<=k)(h4:∀ k,R' k->k<w2.heap.size):LdI w B cb gb tb G sts j vC vs w2:=by
 refine⟨⟨R',h1,h2,h4,λk hk hR=>?_⟩,zaC h.row hf (λk hk e=>?_),h.len,λi hi=>?_,zcQ h.fr hf⟩
 ·rcases h3 k hR with h9 | h9
  ·exact hv k hk h9
  ·obtain⟨-,cs,h8⟩:=zaI h.row hk;have:=(zsO.1 h8).1;omega
 ·have:=(zaI h.row hk).1;omega
 ·obtain⟨a,c,g1,g2⟩:=h.cs i hi;exact⟨a,c,g1,zaC g2 hf (λk hk e=>by have:=(zaI g2 hk).1;omega)⟩
theorem ztj{w6:World}(h:LdI w B cb gb tb G sts j vC vs wr)(ht:tb<w.heap.size){a:Option Addr}{c:Nat}(hc:wr.ownsRow w.heap.size 121 2 (.slice a (kcL G (sts.getD j [])).length c) (kcL G (sts.getD j [])).length (zbb (kcL G (sts.getD j [])))){v':Value}(hr:w6.ownsRow w.heap.size 157 1 v' (j+1) (vs ++ [.slice a (kcL G (sts.getD j [])).length c]))(hg:wr.grownBy w6 vC.ownBlock)(hv:v'.ownBlock=vC.ownBlock\/v'.ownBlock=some wr.heap.size):LdI w B cb gb tb G sts (j+1) v' (vs ++ [.slice a (kcL G (sts.getD j [])).length c]) w6:=by
 obtain⟨R,h1,h2,h3,h4⟩:=h.cl;have hf:Fr (λk=>vC.ownBlock=some k) wr w6:=zoa hg (λk e=>e);have hlow:∀ k,vC.ownBlock=some k->w.heap.size<=k:=λk hk=>(zaI h.row hk).1;have hty:∀ k {v:Value} {n:Nat} {xs:List Value},wr.ownsRow w.heap.size 121 2 v n xs->v.ownBlock=some k->vC.ownBlock≠some k:=λk v n xs h8 h9 e=>by
  obtain⟨-,cs,h10⟩:=zaI h8 h9;obtain⟨-,cs',h11⟩:=zaI h.row e;rw[h10] at h11;simp at h11
 refine⟨⟨R,za6 h1 (zai hf (λk _ e=>h4 k e)),zbp h2 (zai hf (λk _ e=>⟨h4 k e,λe2=>by have:=hlow k e;omega⟩)),λk hk=>zsJ (h3 k hk) hf.1,λk hk hR=>?_⟩,hr,by simp[h.len],λi hi=>?_,zwt h.fr hf (λk hk e=>by have:=hlow k e;omega)⟩
 ·rcases hv with e | e
  ·exact h4 k (e▸hk) hR
  ·rw[e] at hk
   cases hk
   have:=h3 _ hR;omega
 ·by_cases e:i<j
  ·obtain⟨a',c',g1,g2⟩:=h.cs i e;exact⟨a',c',by rw[List.getElem?_append_left (by rw[h.len];exact e)];exact g1,zaC g2 hf (λk hk=>hty k g2 hk)⟩
  ·obtain rfl:i=j:=by omega
   exact⟨a,c,by rw[<- h.len];simp,zaC hc hf (λk hk=>hty k hc hk)⟩
end
theorem zqa{w w1:World}{R:Nat->Prop}{B cb gb tb:Nat}{G:Gm}{sts:List (List It)}(h1:ClB R B w cb gb tb G)(h2:RsT R w G tb)(h3:∀ k,R k->k<w.heap.size)(hb:Below w.heap.size w w1):LdI w B cb gb tb G sts 0 (.slice none 0 0) [] w1 :=
 ⟨⟨R,za6 h1 (zae hb),zbp h2 (zae hb),λk hk=>zsJ (h3 k hk) hb.size,λk hk=>by simp[Value.ownBlock] at hk⟩,⟨rfl,.inl ⟨rfl,rfl⟩⟩,rfl,λi hi=>absurd hi (Nat.not_lt_zero _),zae hb⟩
end Go.Proofs.YtieciibnajeibaaGreatDoor
namespace Go.Proofs.YtieciibnajeibaaGreatDoor
open Go.RowKit Go.Lib
theorem zfx{F:Nat}{args:Array Value}{w:World}{p:Prop}[Decidable p](h:Calls Tryz.prog F args w λe w'=>(∃ r:Bool,e=.returned (.bool r)/\(r=true↔p))/\Below w.heap.size w w'):Calls Tryz.prog F args w λe w'=>e=.returned (.bool (decide p))/\Below w.heap.size w w' :=
 h.mono (by
  rintro e w' ⟨⟨r,rfl,hr⟩,hb⟩;refine⟨?_,hb⟩;have:r=decide p:=by rw[Bool.eq_iff_iff,decide_eq_true_eq];exact hr
  rw[this])
open Classical in
theorem zje(B gb:Nat)(G:Gm)(hG:GOk G)(sa na:Option Addr)(sc nc:Nat)(sts:List (List It))(nxs:List (List Int))(hsl:sts.length<=281474976710656)(hl:∀ j,j<nxs.length->(nxs.getD j []).length<=281474976710656)(hl2:nxs.length<=281474976710656)(w:World)(hB:B<=w.heap.size)(hg:GmB B w gb G)(hs:zez w.heap.size w sa sts)(hn:zeb w na nxs)(d:Bool)(hyes:d=true->zno sts/\zjF sts.length nxs/\(nxs.getD 0 []).length=G.nk+G.nr/\∀ j,j<sts.length->znq G (sts.getD j []))(hno:d=false->¬ zno sts) :
 Calls Tryz.prog 57 #[.pointer (some ⟨gb,0,none⟩),.agg #[.slice sa sts.length sc,.slice na nxs.length nc]] w λe w'=>e=.returned (.bool d)/\Below w.heap.size w w':=by
 obtain⟨w2,hw2⟩:∃ w2,w2=(w.alloc (.cells #[.pointer (some ⟨gb,0,none⟩)] 61)).alloc (.cells #[.slice sa sts.length sc,.slice na nxs.length nc] 45):=⟨_,rfl⟩;have hb2:Below w.heap.size w w2:=by rw[hw2];exact((zsY _ _).alloc (zsG _) _).alloc (by simp) _
 have hs2:w2.heap.size=w.heap.size+1+1:=by rw[hw2];simp
 have hxa:w2.heap[w.heap.size+1]? = some (.cells #[.slice sa sts.length sc,.slice na nxs.length nc] 45 (0,0)):=by
  have:=zsH (w.alloc (.cells #[.pointer (some ⟨gb,0,none⟩)] 61)) (.cells #[.slice sa sts.length sc,.slice na nxs.length nc] 45);rw[hw2];simpa using this
 have hxg:w2.heap[w.heap.size]? = some (.cells #[.pointer (some ⟨gb,0,none⟩)] 61 (0,0)):=by
  rw[hw2,zsZ _ _ _ (by simp)];exact zsH _ _
 have HS:Hid (∀ W:World,Below w2.heap.size w2 W->W.cell? ⟨w.heap.size,0,none⟩=some (.pointer (some ⟨gb,0,none⟩))/\W.cell? ⟨w.heap.size+1,0,none⟩=some (.slice sa sts.length sc)/\W.cell? ⟨w.heap.size+1,1,none⟩=some (.slice na nxs.length nc)):=zaa (λW hb=>⟨(hb.cell (p:=⟨w.heap.size,0,none⟩) (by show w.heap.size<_;omega)).trans (zac hxg 0 rfl),(hb.cell (p:=⟨w.heap.size+1,0,none⟩) (by show w.heap.size+1<_;omega)).trans (zac hxa 0 rfl),(hb.cell (p:=⟨w.heap.size+1,1,none⟩) (by show w.heap.size+1<_;omega)).trans (zac hxa 1 rfl)⟩);have hsu:=λ(W:World) (hb:Below w2.heap.size w2 W)=>hb2.trans (zab hb (by omega));have HA:=zaa (λ(W:World) (hb:Below w2.heap.size w2 W)=>zfx (zkx sa sc sts hsl W (zb1 (za3 (hsu W hb) hs) (hsu W hb).size)));have HB:=zaa (λ(W:World) (hb:Below w2.heap.size w2 W)=>zfx (zhN sa na sts.length sc nc nxs hsl hl hl2 W (zbD hn (hsu W hb))));have HC:=zaa (λ(W:World) (hb:Below w2.heap.size w2 W)=>zeJ B gb G hG W (za7 (zab (hsu W hb) hB) hg));have HD:=zaa (λ(W:World) (hb:Below w2.heap.size w2 W)=>zfx (ztR B w.heap.size gb G hG sa sc sts hsl W (by have:=(hsu W hb).size;omega) (za7 (zab (hsu W hb) hB) hg) ((hb.block _ (by omega)).trans hxg) (zb1 (za3 (hsu W hb) hs) (hsu W hb).size)));have hk3:=hG.k3;have hr2:=hG.r2;have Hn:=zaa (zbD hn hb2);have Hb2:=zaa hb2;clear hg hs hn hxa hxg hb2 hsu;have Hw2:=zaa hw2;clear hw2
 cases d with
 | true =>
   obtain⟨hRm,hHv,hle,hIt⟩:=hyes rfl;clear hyes hno;have hd:decide (zno sts)=true:=decide_eq_true hRm;rw[hd] at HA;have hd2:decide (zjF sts.length nxs)=true:=decide_eq_true hHv;rw[hd2] at HB;have hnl:0<nxs.length:=by have:=hHv.1;have:=hHv.2.1;omega
   have hnlI:(0:Int)<(nxs.length:Int):=by omega
   obtain⟨nb,noff,rfl,hnb,r0,c0,q0,-⟩:=zdd (uh Hn) hnl;have q0':w2.cell? ⟨nb,noff,none⟩=some (.slice r0 (nxs.getD 0 []).length c0):=q0
   have HS0:Hid (∀ W:World,Below w2.heap.size w2 W->W.cell? ⟨w.heap.size,0,none⟩=some (.pointer (some ⟨gb,0,none⟩))/\W.cell? ⟨w.heap.size+1,0,none⟩=some (.slice sa sts.length sc)/\W.cell? ⟨w.heap.size+1,1,none⟩=some (.slice (some ⟨nb,noff,none⟩) nxs.length nc)/\W.cell? ⟨nb,noff,none⟩=some (.slice r0 (nxs.getD 0 []).length c0)):=zaa (λW hb=>by
    obtain⟨a1,a2,a3⟩:=uh HS W hb
    exact⟨a1,a2,a3,(hb.cell (p:=⟨nb,noff,none⟩) hnb).trans q0'⟩)
   have hl0:=hl 0 hnl;have hleI:(((nxs.getD 0 []).length:Int) == (G.nk:Int)+(G.nr:Int))=true:=by rw[hle];simp
   have hd3:decide (∃ j,j<sts.length/\¬ znq G (sts.getD j []))=false:=decide_eq_false (fun⟨j,h1,h2⟩=>h2 (hIt j h1));rw[hd3] at HD;clear q0 q0' HS hl hRm hHv hIt hd hd2 hd3 hle Hn;generalize (nxs.getD 0 []).length=m at *;go_enter Tryz.func57,Tryz.ntmps57;go_wp2_with fail;rw[<- uh Hw2];have hS:Below w2.heap.size w2 w2.drew:=(zsY _ _).drew
   go_region_held3 (λW:World=>W.cell? ⟨w.heap.size,0,none⟩=some (.pointer (some ⟨gb,0,none⟩))/\W.cell? ⟨w.heap.size+1,0,none⟩=some (.slice sa sts.length sc)/\W.cell? ⟨w.heap.size+1,1,none⟩=some (.slice (some ⟨nb,noff,none⟩) nxs.length nc)/\W.cell? ⟨nb,noff,none⟩=some (.slice r0 m c0))
    (exact uh HS0 _ hS)
    (first
     | (go_at_call 93;refine(uh HA _ hS).mono ?_;rintro e W3 ⟨rfl,hb3⟩;have hS:=hS.trans (zab hb3 hS.size);clear hb3)
     | (go_at_call 54;refine(uh HB _ hS).mono ?_;rintro e W3 ⟨rfl,hb3⟩;have hS:=hS.trans (zab hb3 hS.size);clear hb3)
     | (go_at_call 40;refine(uh HC _ hS).mono ?_;rintro e W3 ⟨rfl,hb3⟩;have hS:=hS.trans (zab hb3 hS.size);clear hb3)
     | (go_at_call 94;refine(uh HD _ hS).mono ?_;rintro e W3 ⟨rfl,hb3⟩;have hS:=hS.trans (zab hb3 hS.size);clear hb3)
     | fail)
   all_goals
    go_wp2;refine bodyPost_ret (v:=.bool true) ?zq rfl ⟨rfl,(uh Hb2).trans (zab hS (uh Hb2).size)⟩
    case zq=>simp[results,Tryz.results57,go_sem]
 | false =>
   have hRm:=hno rfl;clear hyes hno hl;have hd:decide (zno sts)=false:=decide_eq_false hRm;rw[hd] at HA;clear HB HC HD hRm hd Hn;go_enter Tryz.func57,Tryz.ntmps57;go_wp2_with fail;rw[<- uh Hw2];have hS:Below w2.heap.size w2 w2.drew:=(zsY _ _).drew;refine wp_region_held_drew (S:=(λW:World=>W.cell? ⟨w.heap.size,0,none⟩=some (.pointer (some ⟨gb,0,none⟩))/\W.cell? ⟨w.heap.size+1,0,none⟩=some (.slice sa sts.length sc)/\W.cell? ⟨w.heap.size+1,1,none⟩=some (.slice na nxs.length nc))) (by kernel_rfl) (uh HS _ hS) (λhZ=>?_);refine zad 0 5 rfl rfl hZ (λw ⟨k0,k1,k2⟩=>by go_simp;try rfl) ?_;simp only[Act.put,zsA,zsB,zsC];refine zad 1 6 rfl rfl hZ (λw ⟨k0,k1,k2⟩=>by go_simp;try rfl) ?_;simp only[Act.put,zsA,zsB,zsC];refine zah 2 rfl λK hK=>?_;go_simp;refine(uh HA _ hS).mono ?_;rintro e W3 ⟨rfl,hb3⟩;have hS:=hS.trans (zab hb3 hS.size);clear hb3;go_wp2_with fail;refine hK.out _ _ (uh HS _ hS) (λhZ=>?_);clear hK K;refine zad 3 8 rfl rfl hZ (λw ⟨k0,k1,k2⟩=>by go_simp;try rfl) ?_;simp only[Act.put,zsA,zsB,zsC];refine zbH 4 9 rfl rfl hZ ?_;simp only[Act.put,zsA,zsB,zsC];refine zbH 5 10 rfl rfl hZ ?_;simp only[Act.put,zsA,zsB,zsC];refine zad 6 11 rfl rfl hZ (λw ⟨k0,k1,k2⟩=>by go_simp;try rfl) ?_;simp only[Act.put,zsA,zsB,zsC];refine zad 7 12 rfl rfl hZ (λw ⟨k0,k1,k2⟩=>by go_simp;try rfl) ?_;simp only[Act.put,zsA,zsB,zsC];refine zbH 8 13 rfl rfl hZ ?_;simp only[Act.put,zsA,zsB,zsC];refine zbH 9 14 rfl rfl hZ ?_;simp only[Act.put,zsA,zsB,zsC];refine zbH 10 15 rfl rfl hZ ?_;simp only[Act.put,zsA,zsB,zsC];refine zbH 11 16 rfl rfl hZ ?_;simp only[Act.put,zsA,zsB,zsC];refine zbH 12 17 rfl rfl hZ ?_;simp only[Act.put,zsA,zsB,zsC];refine zbH 13 18 rfl rfl hZ ?_;simp only[Act.put,zsA,zsB,zsC];refine zbH 14 19 rfl rfl hZ ?_;simp only[Act.put,zsA,zsB,zsC];refine zbH 15 20 rfl rfl hZ ?_;simp only[Act.put,zsA,zsB,zsC];refine zad 16 21 rfl rfl hZ (λw ⟨k0,k1,k2⟩=>by go_simp;try rfl) ?_;simp only[Act.put,zsA,zsB,zsC];refine zad 17 22 rfl rfl hZ (λw ⟨k0,k1,k2⟩=>by go_simp;try rfl) ?_;simp only[Act.put,zsA,zsB,zsC];refine zbH 18 23 rfl rfl hZ ?_;simp only[Act.put,zsA,zsB,zsC];refine zbH 19 24 rfl rfl hZ ?_;simp only[Act.put,zsA,zsB,zsC];refine zbH 20 25 rfl rfl hZ ?_;simp only[Act.put,zsA,zsB,zsC];refine zbH 21 26 rfl rfl hZ ?_;simp only[Act.put,zsA,zsB,zsC];refine zbH 22 27 rfl rfl hZ ?_;simp only[Act.put,zsA,zsB,zsC];refine zad 23 28 rfl rfl hZ (λw ⟨k0,k1,k2⟩=>by go_simp;try rfl) ?_;simp only[Act.put,zsA,zsB,zsC];refine zad 24 4 rfl rfl hZ (λw ⟨k0,k1,k2⟩=>by go_simp;try rfl) ?_;simp only[Act.put,zsA,zsB,zsC];refine wpAnyH_done (by kernel_rfl) ?_ _;go_wp2;refine bodyPost_ret (v:=.bool false) ?zq0 rfl ⟨rfl,(uh Hb2).trans (zab hS (uh Hb2).size)⟩
   case zq0=>simp[results,Tryz.results57,go_sem]
end Go.Proofs.YtieciibnajeibaaGreatDoor
namespace Go.Proofs.YtieciibnajeibaaGreatDoor
open Go.RowKit Go.Maps
theorem zwi:(Tryz.prog.info? 157).map (λi=>(i.zero,i.size,i.bytes))=some (some (.slice none 0 0),1,24):=by kernel_rfl
theorem zmG{B:Nat}{w:World}{a:Option Addr}{l:List Int}(h:NRow B w a l){k:Nat}(hk:k<l.length):∃ b off,a=some ⟨b,off,none⟩/\b<B/\w.cell? ⟨b,off+k,none⟩=some (.int .i64 (l.getD k 0)):=by
 rcases h with rfl | ⟨b,off,h1,h2,h3⟩
 ·simp at hk
 ·exact⟨b,off,h1,h2,h3 k hk⟩
theorem zqT(l:List Sp):∀ m,(cuS l m).length<=m
 | 0=>zsG _
 | m+1=>by
   have ih:=zqT l m;unfold cuS;rw[zsI]
   split <;> simp <;> omega
theorem zwc(G:Gm)(st:List It):(kcL G st).length<=st.length:=by
 have h1:=zqT ((zfn G st).map spt) ((zfn G st).map spt).length;have h2:(zfn G st).length<=st.length:=List.length_filter_le _ _;rw[List.length_map] at h1;unfold kcL zcP;rw[List.length_map];omega
open Classical in
theorem zlA(R0:Nat->Prop)(B cb gb tb:Nat)(G:Gm)(hG:GOk G)(w0 w:World)(hc0:ClB R0 B w cb gb tb G)(ht:RsT R0 w G tb)(hR0:∀ k,R0 k->k<w.heap.size)(htab:Tb w0.heap.size w0)(htb:w0.heap.size<=tb)(hb0:Below w0.heap.size w0 w)(sa na:Option Addr)(sc nc:Nat)(sts:List (List It))(nxs:List (List Int))(hsh:znn G sts nxs)(hlp:zun G sts nxs)(hs:zez w0.heap.size w0 sa sts)(hn:zeb w0 na nxs) :
 Calls Tryz.prog 58 #[.pointer (some ⟨cb,0,none⟩),.agg #[.slice sa sts.length sc,.slice na nxs.length nc]] w λe w'=>e=.returned (.bool true)/\Below w0.heap.size w0 w':=by
 obtain⟨hRm,hHv,hle,hIt⟩:=hsh;have hsl:0<sts.length:=hRm.1.1;have hsl4:sts.length<=4096:=hRm.1.2;have hsl0:(0:Int)<(sts.length:Int):=by omega
 obtain⟨cna,cnc,cfa,cfc,coa,coc,crc,hcbx,hRc,hgm,hBw,hBR,-⟩:=id hc0;have htl:tb<w.heap.size:=by obtain⟨-,cs,h1,-⟩:=id ht;exact(zsO.1 h1).1
 have hcbl:=hR0 cb hRc;have hs0:=hb0.size;obtain⟨W1,hW1⟩:∃ W1,W1=w.alloc (.cells #[.slice sa sts.length sc,.slice na nxs.length nc] 45):=⟨_,rfl⟩;have hb1:Below w.heap.size w W1:=by rw[hW1];exact(zsY _ _).alloc (zsG _) _
 have hx1:W1.heap[w.heap.size]? = some (.cells #[.slice sa sts.length sc,.slice na nxs.length nc] 45 (0,0)):=by rw[hW1];exact zsH _ _
 have hs1:W1.heap.size=w.heap.size+1:=by rw[hW1];simp
 have hcx1:=(hb1.block _ hcbl).trans hcbx;obtain⟨sb,soff,s0a,c0,rfl,hsb,q0,hr0,hl0⟩:=zb6 hs (k:=0) hRm.1.1;have hb01:=hb0.trans (zab hb1 hs0);have q0':W1.cell? ⟨sb,soff,none⟩=some (.slice s0a (sts.getD 0 []).length c0):=(hb01.cell (p:=⟨sb,soff,none⟩) hsb).trans q0;have Hld:=zaa (zqa (sts:=sts) hc0 ht hR0 hb1);have Hhs:=zaa hs;have Hhn:=zaa hn;have Htab:=zaa htab;have HIt:=zaa hIt;have Hb0:=zaa hb0;have Hx1:=zaa hx1;have Hhv:=zaa hHv;have HSt:=zaa (λ(W:World) (hb:Below W1.heap.size W1 W)=>ze9 B gb G W (zsy hBw (by have:=hb.size;omega)) (za7 (zab (hb1.trans (zab hb (by omega))) hBw) hgm));have HH:=zaa (λ(W:World) (hb:Below W1.heap.size W1 W)=>show Calls Tryz.prog 97 #[.slice s0a (sts.getD 0 []).length c0,itV (zaQ G)] W (λe w'=>e=.returned (.bool (decide (zaQ G ∈ sts.getD 0 [])))/\Below W.heap.size W w') from zky s0a c0 (sts.getD 0 []) hl0 (hIt 0 hRm.1.1).2 (zaQ G) W (zaD (zaw (hb01.trans (zab hb (by omega))) hr0) (by have:=hb.size;omega)));have HS:Hid (∀ W:World,Below W1.heap.size W1 W->W.cell? ⟨w.heap.size,0,none⟩=some (.slice (some ⟨sb,soff,none⟩) sts.length sc)/\W.cell? ⟨sb,soff,none⟩=some (.slice s0a (sts.getD 0 []).length c0)/\W.cell? ⟨cb,0,none⟩=some (.pointer (some ⟨gb,0,none⟩))):=zaa (λW hb=>⟨(hb.cell (p:=⟨w.heap.size,0,none⟩) (by show w.heap.size<_;omega)).trans (zac hx1 0 rfl),(hb.cell (p:=⟨sb,soff,none⟩) (by show sb<_;omega)).trans q0',(hb.cell (p:=⟨cb,0,none⟩) (by show cb<_;omega)).trans (zac hcx1 0 rfl)⟩);have Hb1:=zaa hb1;have HBw:=zaa hBw;have Hlp:=zaa hlp;have Hrm:=zaa hRm;clear hc0 ht hR0 htab hb0 hs hn hIt hb1 hx1 hcbx hcx1 hgm hBR hr0 q0 q0' hHv hRm hlp;have Hw1:=zaa hW1;clear hW1;have hin:zaQ G ∈ sts.getD 0 []:=(uh Hlp).1;have hd:decide (zaQ G ∈ sts.getD 0 [])=true:=decide_eq_true hin;rw[hd] at HH;clear hin hd hl0;obtain⟨n0,hn0⟩:∃ n0,n0=(sts.getD 0 []).length:=⟨_,rfl⟩;rw[<- hn0] at HH HS;clear hn0;go_enter Tryz.func58,Tryz.ntmps58;go_wp2_with fail;rw[<- uh Hw1];have hS:Below W1.heap.size W1 W1.drew:=(zsY _ _).drew
 go_region_held3 (λW:World=>W.cell? ⟨w.heap.size,0,none⟩=some (.slice (some ⟨sb,soff,none⟩) sts.length sc)/\W.cell? ⟨sb,soff,none⟩=some (.slice s0a n0 c0)/\W.cell? ⟨cb,0,none⟩=some (.pointer (some ⟨gb,0,none⟩)))
  (exact uh HS _ hS)
  (first
  | (go_at_call 88;refine(uh HSt _ hS).mono ?_;rintro e W3 ⟨rfl,hb3⟩;have hS:=hS.trans (zab hb3 hS.size);clear hb3)
  | (go_at_call 97;refine(uh HH _ hS).mono ?_;rintro e W3 ⟨rfl,hb3⟩;have hS:=hS.trans (zab hb3 hS.size);clear hb3)
    | fail)
 have Hld1:=zaa (zfl (uh Hld) hS);have hsz1:=hS.size;have hx1:=(hS.block w.heap.size (by omega)).trans (uh Hx1);have x0:=zac hx1 0 rfl;have Hx1b:=zaa hx1;clear HSt HH HS Hld Hx1 hx1 hS;obtain⟨i0,hi0,hz0,hz1,hz2⟩:=zak zwi;go_wp2_with fail
 go_loopw [5,28] (λv x wr=>∃ (j:Nat) (vs:List Value),x=.int .i64 (j:Int)/\j<=sts.length/\LdI w B cb gb tb G sts j v vs wr/\wr.heap[w.heap.size]? = some (.cells #[.slice (some ⟨sb,soff,none⟩) sts.length sc,.slice na nxs.length nc] 45 (0,0))) (λ_ x _=>sts.length - (intOf x).toNat)
 case atStart=>exact⟨0,[],rfl,zsK _,uh Hld1,uh Hx1b⟩
 case round =>
  obtain⟨j,vs,rfl,hj,hld,hxw⟩:=hrel;have hbw:Below w0.heap.size w0 wr:=(uh Hb0).trans (zau hld.fr hs0 (λk hk=>by omega));have hsw:=hld.fr.1;have hlw:=(zsO.1 hxw).1;have Hbw:=zaa hbw;have Hld:=zaa hld;have Hxw:=zaa hxw;obtain⟨va,vc,hva⟩:=zaf hld.row;clear hld hxw Hld1 Hx1b;subst hva;by_cases hjl:j<sts.length
  ·have hjI:(j:Int)<(sts.length:Int):=by omega
   obtain⟨b,off,ia,ic,e1,hbl,p0,hrow,hlen⟩:=zb6 (za3 (uh Hbw) (uh Hhs)) hjl;obtain⟨rfl,rfl⟩:sb=b/\soff=off:=by simpa using e1
   obtain⟨R,hcl,hrt,hRl,hRv⟩:=(uh Hld).cl;have hok:0<(sts.getD j []).length/\(sts.getD j []).length<=65536:=(uh Hrm).2.1 j hjl;have hits:=uh HIt j hjl;have Hpos:=zaa hok
   have HC:=zaa (zku R B cb gb tb G hG wr hcl hrt hRl (zcX (uh Htab) (zsG _) (uh Hbw)) ia ic (sts.getD j []) (by omega) (areIt_iff.1 hits.1) (zaD hrow (uh Hbw).size) (λx hx=>by
    rcases hrow with h | ⟨b9,off9,h9,h8,-⟩
    ·rw[h] at hok;exact absurd hok.1 (by simp)
    ·rw[hx] at h9;obtain rfl:=Option.some.inj h9;show b9≠tb
     omega))
   have Hgc:Hid (∀ W:World,Fr (λk=>k=tb) wr W->∀ R':Nat->Prop,ClB R' B W cb gb tb G->W.cell? ⟨cb,0,none⟩=some (.pointer (some ⟨gb,0,none⟩))/\GmB B W gb G/\B<=W.heap.size):=zaa (λW _ R' hcl'=>by
    obtain⟨ba,bc,fa,fc,oa,oc,rc,hcbx,hRc,hgm,hBw,-⟩:=hcl'
    exact⟨zac hcbx 0 rfl,hgm,hBw⟩)
   have Hrow:=zaa hrow;have Hcl:=zaa ((uh Hlp).2.1 j hjl);have Hkc:=zaa (show kcL G (sts.getD j [])=zcP (zfn G (sts.getD j [])) from rfl);have HldP:=zaa (λ(w6 W5:World) (h5:LdI w B cb gb tb G sts j (.slice va j vc) vs W5) (a:Option Addr) (c:Nat) (hc:W5.ownsRow w.heap.size 121 2 (.slice a (kcL G (sts.getD j [])).length c) (kcL G (sts.getD j [])).length (zbb (kcL G (sts.getD j [])))) (v':Value) (hr:w6.ownsRow w.heap.size 157 1 v' (j+1) (vs ++ [.slice a (kcL G (sts.getD j [])).length c])) (hg:W5.grownBy w6 (Value.slice va j vc).ownBlock) (hv:v'.ownBlock=(Value.slice va j vc).ownBlock\/v'.ownBlock=some W5.heap.size)=>ztj (w6:=w6) h5 htl hc hr hg hv);have Hrv:=zaa hRv;have y0:=zac (uh Hxw) 0 rfl;clear hcl hrt hRl hRv hrow hok hits e1;generalize hst:sts.getD j []=st at *;clear hst;go_wp2_with fail;refine(uh HC).mono ?_;rintro e w2 ⟨⟨r,rfl,hr⟩,hf2,R',hcl2,hrt2,hR2a,hR2b,hR2l⟩;have hld2:=ztk (uh Hld) htl (uh Hrv) hf2 hcl2 hrt2 hR2b hR2l;have hx2:=(hf2.2.1 w.heap.size hlw (by omega)).trans (uh Hxw);obtain rfl:r=true:=hr.2 (uh Hcl);obtain⟨g0,hgm2,hB2⟩:=uh Hgc w2 hf2 R' hcl2;have hbw2:Below w0.heap.size w0 w2:=(uh Hb0).trans (zau hld2.fr hs0 (λk hk=>by omega));have hs2:=hbw2.size;have HK:=zaa (zif w2.heap.size gb G hG ia ic st (by have:=uh Hpos;omega) w2 (zsG _) (zeC hgm2 hB2) (zaD (zaw ((zau hf2 (B:=w0.heap.size) (by omega) (λk hk=>by omega))) (uh Hrow)) hs2));have Hld2:=zaa hld2;have Hx2:=zaa hx2;have hlt2:w.heap.size<w2.heap.size:=(zsO.1 hx2).1;clear HC Hgc hr hf2 hcl2 hrt2 hR2a hR2b hR2l hld2 hx2 hbw2 y0 p0 hgm2;go_wp2_with fail;refine(uh HK).mono ?_;rintro e w3 ⟨a3,c3,rfl,hown3,hb3⟩;have hkl:(zfn G st).length<=65536:=by
    have:=uh Hpos;have h9:=List.length_filter_le (zhM G) st;unfold zfn;omega
   have HCo:=zaa (zm8 a3 c3 (zfn G st) (by omega) w3 (zaU hown3));have Hld3:=zaa (zfl (uh Hld2) hb3);have hx3:=(hb3.block _ hlt2).trans (uh Hx2);have hs3:=hb3.size;have Hx3:=zaa hx3;clear HK hown3 hb3 hx3 Hld2 Hx2;go_wp2_with fail;refine(uh HCo).mono ?_;rintro e w4 ⟨a4,c4,rfl,hown4,hb4⟩;rw[<- uh Hkc] at hown4 ⊢;have hs4:=hb4.size;have Hld4:=zaa (zfl (uh Hld3) hb4);have hx4:=(hb4.block _ (by omega)).trans (uh Hx3);have Hc4:=zaa (zaO hown4 (show w.heap.size<=w3.heap.size by omega));have Hx4:=zaa hx4;clear HCo hown4 hb4 hx4 Hld3 Hx3 Hkc hkl;have hs5:(w4.alloc (.cells #[.slice a4 (kcL G st).length c4] 157)).heap.size=w4.heap.size+1:=by simp
   have hb5:Below w4.heap.size w4 (w4.alloc (.cells #[.slice a4 (kcL G st).length c4] 157)):=(zsY _ _).alloc (zsG _) _;have hld5:=zfl (uh Hld4) hb5;have Hrow5:=zaa hld5.row;have hc5:=zaC (uh Hc4) (zae (O:=λ_=>False) hb5) (λ_ _ h=>h);have hx5:=(hb5.block _ (by omega)).trans (uh Hx4);have Hnb:=zaa (zsH w4 (.cells #[.slice a4 (kcL G st).length c4] 157));have HP:=zaa (λ(w6:World)=>uh HldP w6 _ hld5 a4 c4 hc5);have Hx5:=zaa hx5;have hlt5:w.heap.size<(w4.alloc (.cells #[.slice a4 (kcL G st).length c4] 157)).heap.size:=by omega
   clear hld5 hc5 hx5 hb5 Hld4 Hc4 Hx4 HldP;generalize (kcL G st).length=n at *;go_wp2_with (at_builtin;refine wpList_append_own_at _ rfl _ _ 155 rfl w.heap.size 157 i0 (.slice none 0 0) 1 24 Tryz.underlying155 hi0 hz0 hz1 hz2 rfl (by decide) _ j vs rfl (uh Hrow5) ⟨w4.heap.size,0,none⟩ 1 1 [.slice a4 n c4] rfl rfl ?qc2 ?qc3 ?qc4 ?qc5 ?qc6 ?_)
   case qc2=>intro i u hi;exact World.news_of_block (by simpa using uh Hnb) i u hi
   case qc3=>intro u hu;simp at hu;subst hu;rfl
   case qc4=>unfold maxLen;omega
   case qc5=>omega
   case qc6=>omega
   intro v' w6 hown6 hg6 hnil6 hat6;have hld6:=uh HP w6 v' hown6 hg6 (by rw[hs5];exact hat6)
   have hx6:=(hg6.block w.heap.size hlt5 (λe=>by
    obtain⟨-,cs,h9⟩:=zaI (uh Hrow5) e.symm;rw[uh Hx5] at h9
    simp at h9)).trans (uh Hx5)
   obtain⟨va6,vc6,hv6⟩:=zaf hown6;have Hld6:=zaa hld6;have Hx6:=zaa hx6;clear hld6 hx6 hown6 hg6 hnil6 hat6 HP Hx5 Hnb Hrow5;go_wp2;go_roundw
   case rel=>exact⟨j+1,_,by go_num,by omega,uh Hld6,uh Hx6⟩
   case measure=>simp[intOf];omega
  · have hjI : ¬ (j : Int) < (sts.length : Int) := by omega
    obtain rfl:j=sts.length:=by omega
    have hlen:=(uh Hld).len;obtain⟨g,cp,rfl,rfl⟩:∃ g cp,va=some ⟨g,0,none⟩/\vc=cp:=by
      rcases(uh Hld).row.2 with ⟨h9,h8⟩ | ⟨g,cap,cur,h9,-⟩
      · omega
      · exact⟨g,cap,by simpa using h9⟩
    obtain⟨R,hcl,-,hRl,-⟩:=(uh Hld).cl;obtain⟨cna,cnc,cfa,cfc,coa,coc,crc,hcbx,hRc,hgm,hBw,-⟩:=hcl;have hcbl5:=hRl cb hRc
    have Hco:Hid (∀ W:World,Below wr.heap.size wr W->∀ i,i<sts.length->∃ a c,W.cell? ⟨g,i,none⟩=some (.slice a (kcL G (sts.getD i [])).length c)/\zhP W.heap.size W a (kcL G (sts.getD i []))):=zaa (λW hW i hi=>by
      obtain⟨a,c,g1,g2⟩:=(uh Hld).cs i hi;have h8:=(uh Hld).row.cells (g:=g) rfl i _ g1;rw[Go.WideShapes.add_plain,Nat.zero_add] at h8;obtain⟨a',c',e2,h7⟩:=zjU g2;obtain⟨rfl,rfl⟩:a=a'/\c=c':=by simpa using e2
      exact⟨a,c,(hW.cell (p:=⟨g,i,none⟩) (zsQ wr _ h8)).trans h8,zfJ (zfK hW h7) hW.size⟩)
    have hlt5:=(zsO.1 (uh Hxw)).1
    have HG:Hid (∀ W:World,Below wr.heap.size wr W->(W.cell? ⟨w.heap.size,0,none⟩=some (.slice (some ⟨sb,soff,none⟩) sts.length sc)/\W.cell? ⟨w.heap.size,1,none⟩=some (.slice na nxs.length nc)/\W.cell? ⟨cb,0,none⟩=some (.pointer (some ⟨gb,0,none⟩)))/\GmB B W gb G/\B<=W.heap.size/\zez w0.heap.size W (some ⟨sb,soff,none⟩) sts/\zeb W na nxs/\w0.heap.size<=W.heap.size/\Below w0.heap.size w0 W):=zaa (λW hW=>by
      have hx9:=(hW.block _ hlt5).trans (uh Hxw);have hc9:=(hW.block _ hcbl5).trans hcbx;have hb9:=(uh Hbw).trans (zab hW (uh Hbw).size)
      exact⟨⟨zac hx9 0 rfl,zac hx9 1 rfl,zac hc9 0 rfl⟩,za7 (zab hW hBw) hgm,zsy hBw hW.size,za3 hb9 (uh Hhs),zbD (uh Hhn) hb9,hb9.size,hb9⟩)
    clear hcbx hgm hRl hlen Hxw Hld Hbw;obtain⟨⟨x0,-⟩,-⟩:=uh HG wr (zsY _ _);go_wp2_with fail;clear x0;obtain⟨w5,hw5⟩:∃ w5,w5=wr:=⟨_,rfl⟩;subst hw5
    go_loopw [50] (λx w7=>∃ s:Nat,x=.int .i64 (s:Int)/\s<=sts.length/\Below w5.heap.size w5 w7) (λx _=>sts.length - (intOf x).toNat)
    case atStart=>exact⟨0,rfl,zsK _,zsY _ _⟩
    case round =>
      obtain⟨w7,hw7⟩:∃ w7,w7=wr:=⟨_,rfl⟩;subst hw7;obtain⟨s,rfl,hs,hb7⟩:=hrel;have hsz7:=hb7.size;have Hb7:=zaa hb7;clear hb7;obtain⟨⟨x0,x1,xg⟩,hgm7,hB7,hrows7,hnx7,hle7,hbw7⟩:=uh HG _ (uh Hb7);by_cases hsl2:s<sts.length
      · have hsI:(s:Int)<(sts.length:Int):=by omega
        have hsn:s<nxs.length:=by have:=(uh Hhv).2.1;omega
        have hsnI:(s:Int)<(nxs.length:Int):=by omega
        obtain⟨b,off,ia,ic,e1,hbl,p0,hrow,hlen⟩:=zb6 hrows7 hsl2;obtain⟨rfl,rfl⟩:sb=b/\soff=off:=by simpa using e1
        obtain⟨nb,noff,e2,hnb,ra,rc,p1,hnr⟩:=zdd hnx7 hsn;subst e2;have hits:=uh HIt s hsl2;have hok:0<(sts.getD s []).length/\(sts.getD s []).length<=65536:=(uh Hrm).2.1 s hsl2;have Hok:=zaa hok;have HSt:=zaa (zgQ w7.heap.size gb G hG ia ic (sts.getD s []) (by omega) (areIt_iff.1 hits.1) w7 (zsG _) (zeC hgm7 hB7) (zaD hrow hle7));have hrl:(nxs.getD s []).length<=3072:=by
          have h1:=((uh Hhv).2.2 s hsn).1;have hk3:=hG.k3;have hr2:=hG.r2;omega
        have Hto:=zaa (λ(y:Nat) (hy:y<(nxs.getD s []).length)=>((uh Hhv).2.2 s hsn).2 _ (zbh (i:=y) hy));have Hstp:=zaa ((uh Hlp).2.2 s hsl2);have Hnr:=zaa hnr;have hx01:=And.intro x0 (And.intro x1 p1);clear hrow hits hok hnr hgm7 hrows7 hnx7 hbw7 e1;generalize sts.getD s []=st at *;generalize nxs.getD s []=row at *;go_wp2_with fail;refine(uh HSt).mono ?_;rintro e w8 ⟨mb,n,A,rfl,hmb,hmp,hnl,hsti,hb8⟩;have hb8r:Below w5.heap.size w5 w8:=(uh Hb7).trans (zab hb8 hsz7);have hs8:=hb8.size;have Hb8r:=zaa hb8r;have hmbl:=zkh hmp;obtain⟨⟨y0,y1,-⟩,-⟩:=uh HG _ hb8r;have y2:=(hb8.cell (p:=⟨nb,noff+s,none⟩) hnb).trans p1;have Hnr8:=zaa (zg2 (uh Hnr) hb8);have Hmp:=zaa hmp;have Hsti:=zaa hsti;clear hmp hsti hb8 hb8r x0 x1 xg p0 p1 hx01 HSt Hnr;go_wp2_with fail;clear y0 y1 y2
        go_loopw [67] (λx w9=>∃ q:Nat,x=.int .i64 (q:Int)/\q<=row.length/\Below w8.heap.size w8 w9) (λx _=>row.length - (intOf x).toNat)
        case atStart=>exact⟨0,rfl,zsK _,zsY _ _⟩
        case round =>
          obtain⟨q,rfl,hq,hb9⟩:=hrel;have hs9:=hb9.size;have Hb9:=zaa hb9;clear hb9;by_cases hql:q<row.length
          · have hqI:(q:Int)<(row.length:Int):=by omega
            have hb59:Below w5.heap.size w5 wr:=(uh Hb8r).trans (zab (uh Hb9) (uh Hb8r).size);have hmp9:=zg4 (uh Hmp) ((uh Hb9).block _ hmbl);have hst9:=zh0 (O:=λ_=>False) (uh Hsti) (zae (uh Hb9)) (λ_ _ _ h=>h);have hlk:=zgy hmp9 q (by omega);obtain⟨ta,tc,hta⟩:=zaf (hst9.row q);have hrowT:=zaU (by have:=hst9.row q;rw[hta] at this;exact this);rw[hta] at hlk;have hml:=zgz G st q;obtain⟨rb,roff,rfl,hrb,r0⟩:=zmG (zg2 (uh Hnr8) (uh Hb9)) hql;have hto:=uh Hto q hql;have hstp:=uh Hstp q hql;have HT:=zaa hrowT;have hlem:(zby G st q=[])↔(zby G st q).length=0:=List.length_eq_zero_iff.symm;clear hmp9 hst9 hta hrowT;generalize hTP:zby G st q=tp at *;clear hTP;generalize row.getD q 0=t0 at *;by_cases hm1:t0 = -1
            · have he:tp.length=0:=hlem.1 (hstp.1.1 hm1);have heI:(((tp.length:Nat):Int) == 0)=true:=by rw[he];rfl
              have hmI:(t0 == -1)=true:=by rw[hm1];rfl
              have hmI2:(t0 != -1)=false:=by simp only[bne,hmI];rfl
              clear hstp hlem HT hto hml hm1 he hb59;generalize tp.length=tn at *;go_wp2_with fail;go_quiet (fail);go_wp2;go_roundw
              case rel=>exact⟨q+1,by go_num,by omega,zaq (uh Hb9) _⟩
              case measure=>simp[intOf];omega
            · have hmI:(t0 == -1)=false:=by rw[beq_eq_false_iff_ne];exact hm1
              have he:tp.length≠0:=λh=>hm1 (hstp.1.2 (hlem.2 h));have heI:(((tp.length:Nat):Int) == 0)=false:=by rw[beq_eq_false_iff_ne];omega
              have hmI2:(t0 != -1)=true:=by simp only[bne,hmI];rfl
              obtain⟨t,rfl⟩:∃ t:Nat,t0=(t:Int):=⟨t0.toNat,by omega⟩;have htl2:t<sts.length:=by omega
              have htI:(t:Int)<(sts.length:Int):=by omega
              obtain⟨⟨z0,-,-⟩,-,-,hrw9,-,hle9,hbw9⟩:=uh HG _ hb59;obtain⟨b',off',ja,jc,e3,hjb,z1,hjr,hjl⟩:=zb6 hrw9 htl2;obtain⟨rfl,rfl⟩:sb=b'/\soff=off':=by simpa using e3
              obtain⟨ka,kc,z2,hks⟩:=uh Hco _ hb59 t htl2;have hkn:(kcL G (sts.getD t [])).length<=281474976710656:=by have:=zwc G (sts.getD t []);omega
              have HF:=zaa (λ(W:World) (hW:Below wr.heap.size wr W)=>zfx (ztG ja ka ta jc kc tc (sts.getD t []) (kcL G (sts.getD t [])) tp hjl hkn (by have:=uh Hok;omega) (uh HIt t htl2).2 W (zaD (zaw (zab hW hle9) hjr) (by have:=hW.size;omega)) (zfJ (zfK hW hks) hW.size) (zaD (zaw hW (uh HT)) hW.size)));have hfit:kcL G (sts.getD t [])=zcP tp/\(∀ i,i ∈ tp->i ∈ sts.getD t []):=by have h8:=hstp.2 hm1;rw[zsS] at h8;exact h8
              generalize hjs:sts.getD t []=js at *;generalize kcL G js=ks at *;clear hjs e3;have hsbw:sb<wr.heap.size:=by omega
              have hgw:=zsQ wr _ z2;have hww:=zsQ wr _ z0;have HS:Hid (∀ W:World,Below wr.heap.size wr W->W.cell? ⟨w.heap.size,0,none⟩=some (.slice (some ⟨sb,soff,none⟩) sts.length sc)/\W.cell? ⟨sb,soff+t,none⟩=some (.slice ja js.length jc)/\W.cell? ⟨g,t,none⟩=some (.slice ka ks.length kc)):=zaa (λW hb=>⟨(hb.cell (p:=⟨w.heap.size,0,none⟩) hww).trans z0,(hb.cell (p:=⟨sb,soff+t,none⟩) hsbw).trans z1,(hb.cell (p:=⟨g,t,none⟩) hgw).trans z2⟩);have Hbw9:=zaa hbw9;clear hstp hlem HT hto hml hrw9 hks hjr hbw9 z0 z1 z2 hb59;have hd:decide (ks=zcP tp/\∀ i,i ∈ tp->i ∈ js)=true:=decide_eq_true hfit;rw[hd] at HF;clear hfit hd hm1 he;generalize tp.length=tn at *;generalize js.length=jn at *;generalize ks.length=kn at *;go_wp2_with fail;have hS:Below wr.heap.size wr wr.drew:=(zsY _ _).drew
              go_region_held3 (λW:World=>W.cell? ⟨w.heap.size,0,none⟩=some (.slice (some ⟨sb,soff,none⟩) sts.length sc)/\W.cell? ⟨sb,soff+t,none⟩=some (.slice ja jn jc)/\W.cell? ⟨g,t,none⟩=some (.slice ka kn kc))
                (exact uh HS _ hS)
                (first
                | (go_at_call 100;refine(uh HF _ hS).mono ?_;rintro e W3 ⟨rfl,hb3⟩;have hS:=hS.trans (zab hb3 hS.size);clear hb3)
                  | fail)
              go_wp2;go_roundw
              case rel=>exact⟨q+1,by go_num,by omega,(uh Hb9).trans (zab hS hs9)⟩
              case measure=>simp[intOf];omega
          · have hqI:¬ (q:Int)<(row.length:Int):=by omega
            obtain rfl:q=row.length:=by omega
            have Hbf:=zaa ((uh Hb8r).trans (zab (uh Hb9) (uh Hb8r).size));go_wp2;go_roundw
            case rel=>exact⟨s+1,by go_num,by omega,uh Hbf⟩
            case measure=>simp[intOf];omega
      · have hsI:¬ (s:Int)<(sts.length:Int):=by omega
        obtain rfl:s=sts.length:=by omega
        have Hbf:=zaa hbw7;clear x0 x1 xg hgm7 hrows7 hnx7 hbw7;go_wp2;refine bodyPost_ret (v:=.bool true) ?zz9 rfl ⟨rfl,uh Hbf⟩
        case zz9=>simp[results,Tryz.results58,go_sem]
end Go.Proofs.YtieciibnajeibaaGreatDoor
namespace Go.Proofs.YtieciibnajeibaaGreatDoor
open Go.RowKit Go.Maps
theorem zh5(hLY:zdF 64)(G:Gm)(ka pa ra qa:Option Addr)(kc pc rc qc:Nat)(sa na:Option Addr)(sc nc:Nat)(sts:List (List It))(nxs:List (List Int))(hsl:sts.length<=281474976710656)(hl:∀ j,j<nxs.length->(nxs.getD j []).length<=281474976710656)(hl2:nxs.length<=281474976710656)(w:World)(hin:GIn w.heap.size w G ka pa ra qa)(hsm:smG G)(htab:Tb w.heap.size w)(h1:za1 G=true)(d:Bool)(hyes:d=true->znn G sts nxs/\zun G sts nxs)(hno:d=false->¬ zno sts)(hs:zez w.heap.size w sa sts)(hn:zeb w na nxs) :
 Calls Tryz.prog 27 #[gV G ka pa ra qa kc pc rc qc,.agg #[.slice sa sts.length sc,.slice na nxs.length nc]] w λe w'=>e=.returned (.int .i64 (if d then 0 else 141))/\Below w.heap.size w w':=by
 obtain⟨W1,hW1⟩:∃ W1,W1=(w.alloc (.cells #[.slice ka G.kinds.length kc,.slice pa G.precs.length pc,.slice ra G.rules.length rc,.slice qa G.prods.length qc,.int .i64 G.start] 26)).alloc (.cells #[.slice sa sts.length sc,.slice na nxs.length nc] 45):=⟨_,rfl⟩;have hb1:Below w.heap.size w W1:=by rw[hW1];exact((zsY _ _).alloc (zsG _) _).alloc (by simp) _
 have hs1:W1.heap.size=w.heap.size+2:=by rw[hW1];simp
 have hx1:W1.heap[w.heap.size+1]? = some (.cells #[.slice sa sts.length sc,.slice na nxs.length nc] 45 (0,0)):=by
  have:=zsH (w.alloc (.cells #[.slice ka G.kinds.length kc,.slice pa G.precs.length pc,.slice ra G.rules.length rc,.slice qa G.prods.length qc,.int .i64 G.start] 26)) (.cells #[.slice sa sts.length sc,.slice na nxs.length nc] 45);rw[<- hW1] at this;simpa using this
 have HN:=zaa (zem G ka pa ra qa kc pc rc qc none 0 [] (by simp) W1 (zbY hin hb1) hsm (.inl rfl));have HB:=zaa (And.intro hb1 (And.intro hs1 hx1));have Hs:=zaa hs;have Hn:=zaa hn;have Htab:=zaa htab;have Hw1:=zaa hW1;unfold gV at HN ⊢;clear hin htab hs hn hb1 hx1 hW1;go_enter Tryz.func27,Tryz.ntmps27;go_wp2_with fail;rw[<- uh Hw1];refine(uh HN).mono ?_;rintro e w2 ⟨hb2,h⟩;obtain⟨hb1,-,hx1⟩:=uh HB;have hbw2:Below w.heap.size w w2:=hb1.trans (zab hb2 hb1.size);have hs2:=hb2.size;have hx2:=(hb2.block (w.heap.size+1) (by omega)).trans hx1;obtain⟨gb,rfl,h5⟩:∃ gb,e=.returned (.tuple #[.pointer (some ⟨gb,0,none⟩),.int .i64 0])/\GmB w2.heap.size w2 gb G:=by
  rcases h with ⟨h2,-⟩ | ⟨-,h2,-⟩ | ⟨-,-,gb,h3,-,h5⟩
  ·rw[h1] at h2;cases h2
  ·cases h2
  ·exact⟨gb,h3,h5⟩
 have hG:=zbi h1;have Hbw2:=zaa hbw2;have HS:Hid (∀ W:World,Below w2.heap.size w2 W->W.cell? ⟨w.heap.size+1,0,none⟩=some (.slice sa sts.length sc)/\W.cell? ⟨w.heap.size+1,1,none⟩=some (.slice na nxs.length nc)):=zaa (λW hb=>⟨(hb.cell (p:=⟨w.heap.size+1,0,none⟩) (by show w.heap.size+1<_;omega)).trans (zac hx2 0 rfl),(hb.cell (p:=⟨w.heap.size+1,1,none⟩) (by show w.heap.size+1<_;omega)).trans (zac hx2 1 rfl)⟩);have hup:=λ(W:World) (hb:Below w2.heap.size w2 W)=>hbw2.trans (zab hb hbw2.size);have HNc:=zaa (λ(W:World) (hb:Below w2.heap.size w2 W)=>zcu hLY w2.heap.size gb G h1 W hb.size (za7 hb h5))
 have HLd:Hid (∀ (W4:World) (cb tb:Nat) (W3:World),Below w2.heap.size w2 W3->Below W3.heap.size W3 W4->W3.heap.size<=tb->tb<W4.heap.size->ClB (λk=>k<W4.heap.size/\k≠tb) w2.heap.size W4 cb gb tb G->RsT (λk=>k<W4.heap.size/\k≠tb) W4 G tb->znn G sts nxs->zun G sts nxs->Calls Tryz.prog 58 #[.pointer (some ⟨cb,0,none⟩),.agg #[.slice sa sts.length sc,.slice na nxs.length nc]] W4 λe w'=>e=.returned (.bool true)/\Below w2.heap.size w2 w'):=zaa (λW4 cb tb W3 hb3 hb4 ht1 ht2 hcl hrs hsh hlp=>by
  have hb42:=hb3.trans (zab hb4 hb3.size)
  exact zlA _ w2.heap.size cb gb tb G hG w2 W4 hcl hrs (λk hk=>hk.1) (zcX (uh Htab) (zsG _) (uh Hbw2)) (zsy hb3.size ht1) hb42 sa na sc nc sts nxs hsh hlp (zb1 (za3 (uh Hbw2) (uh Hs)) (uh Hbw2).size) (zbD (uh Hn) (uh Hbw2)))
 have HSh:=zaa (λ(W:World) (hb:Below w2.heap.size w2 W)=>zje w2.heap.size gb G hG sa na sc nc sts nxs hsl hl hl2 W hb.size (za7 hb h5) (zb1 (za3 (hup W hb) (uh Hs)) (hup W hb).size) (zbD (uh Hn) (hup W hb)) d (λh=>(hyes h).1) hno)
 cases d with
 | true =>
   have HLd:=zaa (λW4 cb tb W3 a1 a2 a3 a4 a5 a6=>uh HLd W4 cb tb W3 a1 a2 a3 a4 a5 a6 (hyes rfl).1 (hyes rfl).2);clear hb1 hb2 hx1 hx2 HN HB hup h5 hbw2 hyes hno;go_wp2_with fail;have hS:Below w2.heap.size w2 w2.drew:=(zsY _ _).drew
   go_region_held3 (λW:World=>W.cell? ⟨w.heap.size+1,0,none⟩=some (.slice sa sts.length sc)/\W.cell? ⟨w.heap.size+1,1,none⟩=some (.slice na nxs.length nc))
    (exact uh HS _ hS)
    (first
    | (go_at_call 57;refine(uh HSh _ hS).mono ?_;rintro e W3 ⟨rfl,hb3⟩;have hS:=hS.trans (zab hb3 hS.size);clear hb3)
    | (go_at_call 33;refine(uh HNc _ hS).mono ?_;rintro e W4 ⟨cb,tb,rfl,ht1,ht2,hcl,hrs,hb4⟩;have HL:=zaa (uh HLd W4 cb tb _ hS hb4 ht1 ht2 hcl hrs);have hS:=hS.trans (zab hb4 hS.size);clear hb4 hcl hrs ht1 ht2)
    | (go_at_call 58;refine(uh HL).mono ?_;rintro e W5 ⟨rfl,hb5⟩;have hS:=hb5;clear hb5)
    | fail)
   go_wp2;refine bodyPost_ret (v:=.int .i64 0) ?zz2 rfl ⟨rfl,(uh Hbw2).trans (zab hS (uh Hbw2).size)⟩
   case zz2=>simp[results,Tryz.results27,go_sem]
 | false =>
   clear hb1 hb2 hx1 hx2 HN HB hup h5 hbw2 hyes hno HLd HNc;go_wp2_with fail;have hS:Below w2.heap.size w2 w2.drew:=(zsY _ _).drew;refine wp_region_held_drew (S:=(λW:World=>W.cell? ⟨w.heap.size+1,0,none⟩=some (.slice sa sts.length sc)/\W.cell? ⟨w.heap.size+1,1,none⟩=some (.slice na nxs.length nc))) (by kernel_rfl) (uh HS _ hS) (λhZ=>?_);refine zad 0 15 rfl rfl hZ (λw ⟨k0,k1⟩=>by go_simp;try rfl) ?_;simp only[Act.put,zsA,zsB,zsC];refine zad 1 16 rfl rfl hZ (λw ⟨k0,k1⟩=>by go_simp;try rfl) ?_;simp only[Act.put,zsA,zsB,zsC];refine zah 2 rfl λK hK=>?_;go_simp;refine(uh HSh _ hS).mono ?_;rintro e W3 ⟨rfl,hb3⟩;have hS:=hS.trans (zab hb3 hS.size);clear hb3;go_wp2_with fail;refine hK.out _ _ (uh HS _ hS) (λhZ=>?_);clear hK K;refine zad 3 18 rfl rfl hZ (λw ⟨k0,k1⟩=>by go_simp;try rfl) ?_;simp only[Act.put,zsA,zsB,zsC];refine zad 4 19 rfl rfl hZ (λw ⟨k0,k1⟩=>by go_simp;try rfl) ?_;simp only[Act.put,zsA,zsB,zsC];refine zbH 5 20 rfl rfl hZ ?_;simp only[Act.put,zsA,zsB,zsC];refine zbH 6 21 rfl rfl hZ ?_;simp only[Act.put,zsA,zsB,zsC];refine zbH 7 22 rfl rfl hZ ?_;simp only[Act.put,zsA,zsB,zsC];refine zbH 8 23 rfl rfl hZ ?_;simp only[Act.put,zsA,zsB,zsC];refine zbH 9 24 rfl rfl hZ ?_;simp only[Act.put,zsA,zsB,zsC];refine zad 10 25 rfl rfl hZ (λw ⟨k0,k1⟩=>by go_simp;try rfl) ?_;simp only[Act.put,zsA,zsB,zsC];refine wpAnyH_done (by kernel_rfl) ?_ _;go_wp2;refine bodyPost_ret (v:=.int .i64 141) ?zz4 rfl ⟨rfl,(uh Hbw2).trans (zab hS (uh Hbw2).size)⟩
   case zz4=>simp[results,Tryz.results27,go_sem]
end Go.Proofs.YtieciibnajeibaaGreatDoor
namespace Go.Proofs.YtieciibnajeibaaGreatDoor
open Go.RowKit
theorem zo8(w:World)(ht:Tb w.heap.size w) :
 Calls Tryz.prog 49 #[] w λe w'=>∃ ka kc pa pc ra rc qa qc,e=.returned (gV gSm ka pa ra qa kc pc rc qc)/\GIn w'.heap.size w' gSm ka pa ra qa/\Below w.heap.size w w':=by
 have hmk:∀ w:World,(Instr.makeSlice 23 (.int .i64 3) (.int .i64 3)).run Tryz.prog w=.ok (.slice (some ⟨w.heap.size,0,none⟩) 3 3) (w.alloc (.cells #[.int .i64 0,.int .i64 0,.int .i64 0,.int .i64 0,.int .i64 0,.int .i64 0] 202)):=λw=>by kernel_rfl
 go_enter Tryz.func49,Tryz.ntmps49;go_wp2;have hall:=zxk w (.cells #[.slice (some ⟨w.heap.size+1+1+1+1,0,none⟩) 3 3,.slice (some ⟨w.heap.size+1+1+1+1+1,0,none⟩) 3 3,.slice (some ⟨w.heap.size+1+1+1+1+1+1,0,none⟩) 1 1,.slice (some ⟨w.heap.size+1+1+1,0,none⟩) 2 2,.int .i64 0] 26) (.cells #[.int .i64 3,.int .i64 2] 3) (.cells #[.int .i64 2] 3) (.cells #[.int .i64 0,.slice (some ⟨w.heap.size+1,0,none⟩) 2 2,.int .i64 0,.int .i64 0,.int .i64 0,.string ⟨#[]⟩,.slice none 0 0,.int .i64 0,.slice (some ⟨w.heap.size+1+1,0,none⟩) 1 1,.int .i64 0,.int .i64 0,.int .i64 0,.string ⟨#[]⟩,.slice none 0 0] 116) (.cells #[.string ⟨#[101,110,100]⟩,.string ⟨#[101,114,114,111,114]⟩,.string ⟨#[97]⟩] 9) (.cells #[.int .i64 0,.int .i64 0,.int .i64 0,.int .i64 0,.int .i64 0,.int .i64 0] 202) (.cells #[.string ⟨#[83]⟩] 9);obtain⟨WF,hWF⟩:∃ WF,WF=(((((((w.alloc (.cells #[.slice (some ⟨w.heap.size+1+1+1+1,0,none⟩) 3 3,.slice (some ⟨w.heap.size+1+1+1+1+1,0,none⟩) 3 3,.slice (some ⟨w.heap.size+1+1+1+1+1+1,0,none⟩) 1 1,.slice (some ⟨w.heap.size+1+1+1,0,none⟩) 2 2,.int .i64 0] 26)).alloc (.cells #[.int .i64 3,.int .i64 2] 3)).alloc (.cells #[.int .i64 2] 3)).alloc (.cells #[.int .i64 0,.slice (some ⟨w.heap.size+1,0,none⟩) 2 2,.int .i64 0,.int .i64 0,.int .i64 0,.string ⟨#[]⟩,.slice none 0 0,.int .i64 0,.slice (some ⟨w.heap.size+1+1,0,none⟩) 1 1,.int .i64 0,.int .i64 0,.int .i64 0,.string ⟨#[]⟩,.slice none 0 0] 116)).alloc (.cells #[.string ⟨#[101,110,100]⟩,.string ⟨#[101,114,114,111,114]⟩,.string ⟨#[97]⟩] 9)).alloc (.cells #[.int .i64 0,.int .i64 0,.int .i64 0,.int .i64 0,.int .i64 0,.int .i64 0] 202)).alloc (.cells #[.string ⟨#[83]⟩] 9)):=⟨_,rfl⟩;rw[<- hWF] at hall ⊢;clear hWF hmk;obtain⟨h0,h1,h2,h3,h4,h5,h6,hs,hb⟩:=hall;obtain⟨c0,c1,c2,c3,c4⟩:=zfX h0;refine bodyPost_ret (v:=.agg #[.slice (some ⟨w.heap.size+1+1+1+1,0,none⟩) 3 3,.slice (some ⟨w.heap.size+1+1+1+1+1,0,none⟩) 3 3,.slice (some ⟨w.heap.size+1+1+1+1+1+1,0,none⟩) 1 1,.slice (some ⟨w.heap.size+1+1+1,0,none⟩) 2 2,.int .i64 0]) ?zz9 rfl ⟨_,3,_,3,_,1,_,2,rfl,⟨?_,?_,?_,?_,?_⟩,hb⟩
 case zz9=>simp[results,Tryz.results49,go_sem,c0,c1,c2,c3,c4]
 ·refine .inr ⟨_,_,rfl,by omega,λj hj=>?_⟩;rcases j with _ | _ | _ | j
  ·unfold World.cell?;rw[h4];rfl
  ·unfold World.cell?;rw[h4];rfl
  ·unfold World.cell?;rw[h4];rfl
  ·exact absurd hj (by simp[gSm])
 ·refine .inr ⟨_,_,rfl,by omega,λj hj=>?_⟩;rcases j with _ | _ | _ | j
  ·constructor <;> (unfold World.cell?;rw[h5];rfl)
  ·constructor <;> (unfold World.cell?;rw[h5];rfl)
  ·constructor <;> (unfold World.cell?;rw[h5];rfl)
  ·exact absurd hj (by simp[gSm])
 ·refine .inr ⟨_,_,rfl,by omega,λj hj=>?_⟩;rcases j with _ | j
  ·unfold World.cell?;rw[h6];rfl
  ·exact absurd hj (by simp[gSm])
 ·refine .inr ⟨_,_,rfl,by omega,λj hj=>?_⟩;rcases j with _ | _ | j
  ·refine⟨_,_,_,_,_,_,_,⟨rfl,⟨some ⟨w.heap.size+1,0,none⟩,2,rfl,.inr ⟨_,_,rfl,by omega,λi hi=>?_⟩,by simp[gSm]⟩,rfl,zuX _ _⟩,?_,?_,?_,?_,?_,?_,?_⟩
   ·rcases i with _ | _ | i
    ·unfold World.cell?;rw[h1];rfl
    ·unfold World.cell?;rw[h1];rfl
    ·exact absurd hi (by simp[gSm])
   all_goals (unfold World.cell?;rw[h3];rfl)
  ·refine⟨_,_,_,_,_,_,_,⟨rfl,⟨some ⟨w.heap.size+1+1,0,none⟩,1,rfl,.inr ⟨_,_,rfl,by omega,λi hi=>?_⟩,by simp[gSm]⟩,rfl,zuX _ _⟩,?_,?_,?_,?_,?_,?_,?_⟩
   ·rcases i with _ | i
    ·unfold World.cell?;rw[h2];rfl
    ·exact absurd hi (by simp[gSm])
   all_goals (unfold World.cell?;rw[h3];rfl)
  ·exact absurd hj (by simp[gSm])
 ·exact zcX ht (zsG _) hb
open Go.Maps
theorem zqx:smG gSm:=λp hp=>by
 have h:p.right.length<=2:=by
  unfold gSm at hp;simp only[List.mem_cons,List.not_mem_nil,or_false] at hp;rcases hp with rfl | rfl <;> decide
 omega
theorem zpk:¬ zno []:=λh=>by have:=h.1;simp at this
theorem zlY(hLY:zdF 64)(w:World)(ht:Tb w.heap.size w):Calls Tryz.prog 21 #[] w λe w'=>e=.returned (.bool true)/\Below w.heap.size w w':=by
 have HS:=zaa (zo8 w ht);have Ht:=zaa ht;have HL:=zaa hLY;clear hLY ht;unfold gV at HS;go_enter Tryz.func21,Tryz.ntmps21;go_wp2_with fail;refine(uh HS).mono ?_;rintro e w2 ⟨ka,kc,pa,pc,ra,rc,qa,qc,rfl,hin,hb2⟩;obtain⟨W3,hW3⟩:∃ W3,W3=w2.alloc (.cells #[.slice ka gSm.kinds.length kc,.slice pa gSm.precs.length pc,.slice ra gSm.rules.length rc,.slice qa gSm.prods.length qc,.int .i64 gSm.start] 26):=⟨_,rfl⟩;have hb3:Below w2.heap.size w2 W3:=by rw[hW3];exact(zsY _ _).alloc (zsG _) _
 have hs3:W3.heap.size=w2.heap.size+1:=by rw[hW3];simp
 have hx3:W3.heap[w2.heap.size]? = some (.cells #[.slice ka gSm.kinds.length kc,.slice pa gSm.precs.length pc,.slice ra gSm.rules.length rc,.slice qa gSm.prods.length qc,.int .i64 gSm.start] 26 (0,0)):=by rw[hW3];exact zsH _ _
 have hin3:=zbY hin hb3;have hbw3:=hb2.trans (zab hb3 hb2.size);have ht3:=zcX (uh Ht) (zsG _) hbw3;have HBd:=zaa (zgd (uh HL) gSm ka pa ra qa kc pc rc qc W3 hin3 zqx ht3);have Hin3:=zaa hin3;have Hbw3:=zaa hbw3;have Hx3:=zaa hx3;have Ht3:=zaa ht3;have Hw3:=zaa hW3;unfold gV at HBd;clear hin hb2 hb3 hx3 hin3 hbw3 ht3 HS Ht hW3;go_wp2_with fail;rw[<- uh Hw3];refine(uh HBd).mono ?_;rintro e w4 ⟨hb4,h⟩;rw[if_pos zfs,zne] at h;obtain⟨R',vS,vN,svs,nvs,rfl,hR,hoS,hsS,hoN,hsN⟩:=h
 obtain⟨sa,sc,rfl,hLS⟩:=zp4 hoS hsS hR (λj hj=>by
  have hj:j<4:=hj;have:(smB.sts.getD j []).length<=5:=by
   have:j=0\/j=1\/j=2\/j=3:=by omega
   rcases this with rfl | rfl | rfl | rfl <;> decide
  omega)
 obtain⟨na,nc,rfl,hLN⟩:=zmI hoN hsN hR;have l4:smB.sts.length=4:=rfl;have n4:smN.length=4:=rfl;rw[l4,n4];obtain⟨W5,hW5⟩:∃ W5,W5=w4.alloc (.cells #[.slice sa 4 sc,.slice na 4 nc] 45):=⟨_,rfl⟩;have hb5:Below w4.heap.size w4 W5:=by rw[hW5];exact(zsY _ _).alloc (zsG _) _
 have hs5:W5.heap.size=w4.heap.size+1:=by rw[hW5];simp
 have hx5:W5.heap[w4.heap.size]? = some (.cells #[.slice sa 4 sc,.slice na 4 nc] 45 (0,0)):=by rw[hW5];exact zsH _ _
 have hs4:=hb4.size;have hb35:Below W3.heap.size W3 W5:=hb4.trans (zab hb5 hs4);have hg5:=(hb35.block w2.heap.size (by omega)).trans (uh Hx3)
 have HG:Hid (∀ W:World,Below W5.heap.size W5 W->(W.cell? ⟨w2.heap.size,0,none⟩=some (.slice ka gSm.kinds.length kc)/\W.cell? ⟨w2.heap.size,1,none⟩=some (.slice pa gSm.precs.length pc)/\W.cell? ⟨w2.heap.size,2,none⟩=some (.slice ra gSm.rules.length rc)/\W.cell? ⟨w2.heap.size,3,none⟩=some (.slice qa gSm.prods.length qc)/\W.cell? ⟨w2.heap.size,4,none⟩=some (.int .i64 gSm.start))/\W.cell? ⟨w4.heap.size,0,none⟩=some (.slice sa 4 sc)/\W.cell? ⟨w4.heap.size,1,none⟩=some (.slice na 4 nc)):=zaa (λW hW=>by
  obtain⟨c0,c1,c2,c3,c4⟩:=zfX ((hW.block _ (by omega)).trans hg5);have hx:=(hW.block _ (by omega)).trans hx5
  exact⟨⟨c0,c1,c2,c3,c4⟩,zac hx 0 rfl,zac hx 1 rfl⟩)
 have hin5:=zbY (uh Hin3) hb35;have hbw5:=(uh Hbw3).trans (zab hb35 (uh Hbw3).size)
 have HR1:Hid (Calls Tryz.prog 27 #[gV gSm ka pa ra qa kc pc rc qc,.agg #[.slice sa 4 sc,.slice na 4 nc]] W5 λe w'=>e=.returned (.int .i64 0)/\Below W5.heap.size W5 w'):=zaa (by
  exact zh5 (uh HL) gSm ka pa ra qa kc pc rc qc sa na sc nc smB.sts smN (by decide) (λj hj=>by
   have hj:j<4:=hj;have:(smN.getD j []).length<=5:=by
    have:j=0\/j=1\/j=2\/j=3:=by omega
    rcases this with rfl | rfl | rfl | rfl <;> decide
   omega) (by decide) W5 hin5 zqx (zcX (uh Ht3) (zsG _) hb35) zfs true (λ_=>zhw zfr zne) (λh=>by cases h) (zb1 (za3 hb5 hLS) hb5.size) (zbD hLN hb5))
 have HR2:Hid (∀ W:World,Below W5.heap.size W5 W->Calls Tryz.prog 27 #[gV gSm ka pa ra qa kc pc rc qc,.agg #[.slice none 0 0,.slice none 0 0]] W λe w'=>e=.returned (.int .i64 141)/\Below W.heap.size W w'):=zaa (λW hW=>by
  exact zh5 (uh HL) gSm ka pa ra qa kc pc rc qc none none 0 0 [] [] (by decide) (λj hj=>absurd hj (Nat.not_lt_zero _)) (by decide) W (zbY hin5 hW) zqx (zcX (uh Ht3) (zsG _) (hb35.trans (zab hW hb35.size))) zfs false (λh=>by cases h) (λ_=>zpk) (.inl rfl) (.inl rfl))
 have Hbw5:=zaa hbw5;unfold gV at HR1 HR2;obtain⟨⟨d0,d1,d2,d3,d4⟩,e0,e1⟩:=uh HG W5 (zsY _ _);rw[hW5] at d0 d1 d2 d3 d4 e0 e1;have Hw5:=zaa hW5;clear hb4 hb5 hx5 hb35 hg5 hin5 hbw5 hLS hLN hoS hoN hsS hsN hR Hx3 Hin3 HBd hW5 HL;go_wp2_with fail;rw[<- uh Hw5];clear d0 d1 d2 d3 d4 e0 e1;refine(uh HR1).mono ?_;rintro e w6 ⟨rfl,hb6⟩;obtain⟨⟨d0,d1,d2,d3,d4⟩,e0,e1⟩:=uh HG w6 hb6;have HR3:=zaa (uh HR2 w6 hb6);have hs6:=hb6.size;have Hb6:=zaa ((uh Hbw5).trans (zab hb6 (uh Hbw5).size));clear HR1 HR2 hb6 HG;go_wp2_with fail;refine(uh HR3).mono ?_;rintro e w7 ⟨rfl,hb7⟩;have Hb7:=zaa ((uh Hb6).trans (zab hb7 (uh Hb6).size));clear HR3 hb7 d0 d1 d2 d3 d4 e0 e1;go_wp2;go_ret;exact⟨rfl,uh Hb7⟩
end Go.Proofs.YtieciibnajeibaaGreatDoor
namespace Go.Proofs.YtieciibnajeibaaGreatDoor
open Go.RowKit
variable{G:Gm}{l:List It}{y:Int}
theorem zwL(h:zfw G l=0):za1 G=true/\zck G l=true/\zdC G l=clL G l/\(clL G l).length<=65536:=by
 unfold zfw at h
 split at h
 ·rename_i h1
  split at h
  ·rename_i h2;unfold clV at h
   split at h
   ·rename_i h3;refine⟨h1,h2,?_,h3⟩;unfold zdC clR;rw[if_pos h1,if_pos h2,if_pos h3]
   ·cases h
  ·cases h
 ·cases h
theorem zwM(h1:za1 G=true)(h2:zck G l=true)(h3:(clL G l).length<=65536):zfw G l=0/\zdC G l=clL G l:=by
 unfold zfw zdC clV clR;rw[if_pos h1,if_pos h2,if_pos h3,if_pos h1,if_pos h2,if_pos h3];exact⟨rfl,rfl⟩
open Go.Maps
noncomputable def zjI(G:Gm)(l:List It)(y:Int):List It:=if zbF G l=0 then if 0<y/\y<(G.nk:Int)+G.nr then clR G (zby G (zct l) y.toNat) else[] else[]
noncomputable def zlK(G:Gm)(l:List It)(y:Int):Int:=if zbF G l=0 then if 0<y/\y<(G.nk:Int)+G.nr then clV G (zby G (zct l) y.toNat) else 1 else zbF G l
theorem zmX{v:Int}(h:zbF G l=v)(hv:v≠0):zjI G l y=[]/\zlK G l y=v:=by
 unfold zjI zlK;rw[if_neg (by rw[h];exact hv),if_neg (by rw[h];exact hv)];exact⟨rfl,h⟩
theorem zjf(h:zbF G l=0)(hy:¬ (0<y/\y<(G.nk:Int)+G.nr)):zjI G l y=[]/\zlK G l y=1:=by
 unfold zjI zlK;rw[if_pos h,if_neg hy,if_pos h,if_neg hy];exact⟨rfl,rfl⟩
theorem zqt(h:zbF G l=0)(hy:0<y/\y<(G.nk:Int)+G.nr):zjI G l y=clR G (zby G (zct l) y.toNat)/\zlK G l y=clV G (zby G (zct l) y.toNat):=by
 unfold zjI zlK;rw[if_pos h,if_pos hy,if_pos h,if_pos hy];exact⟨rfl,rfl⟩
theorem zrv(hLY:zdF 64)(G:Gm)(ka pa ra qa:Option Addr)(kc pc rc qc:Nat)(ia:Option Addr)(ic:Nat)(l:List It)(hl:l.length<=5864062014805)(y:Int)(w:World)(hin:GIn w.heap.size w G ka pa ra qa)(hsm:smG G)(htab:Tb w.heap.size w)(hi:zcE w.heap.size w ia l) :
 Calls Tryz.prog 14 #[gV G ka pa ra qa kc pc rc qc,.slice ia l.length ic,.int .i64 y] w λe w'=>zbu (zjI G l y) (zlK G l y) w e w':=by
 have HN:=zaa (zib G ka pa ra qa kc pc rc qc ia ic l hl w hin hsm hi);have Hi:=zaa hi;have Htab:=zaa htab;unfold gV at HN ⊢;clear hin hi htab;go_enter Tryz.func14,Tryz.ntmps14;go_wp2_with fail;refine(uh HN _ rfl).mono ?_;rintro e w' ⟨hb,h | h | h⟩
 ·obtain⟨h1,rfl⟩:=h;have Hf:=zaa (show zbu (zjI G l y) (zlK G l y) w (.returned (.tuple #[.slice none 0 0,.int .i64 130])) w' from by rw[(zmX (ze2 h1) (by decide)).1,(zmX (ze2 h1) (by decide)).2];exact zcz hb);clear hb h1 HN Hi;go_wp2;refine bodyPost_ret (v:=.tuple #[.slice none 0 0,.int .i64 130]) ?zz1 rfl (uh Hf)
  case zz1=>simp[results,Tryz.results14,go_sem]
 ·obtain⟨h1,h4,rfl⟩:=h;have h5:zck G l=false:=by simpa [zdJ] using h4
  have Hf:=zaa (show zbu (zjI G l y) (zlK G l y) w (.returned (.tuple #[.slice none 0 0,.int .i64 140])) w' from by rw[(zmX (ze1 h1 h5) (by decide)).1,(zmX (ze1 h1 h5) (by decide)).2];exact zcz hb);clear hb h1 h4 h5 HN Hi;go_wp2;refine bodyPost_ret (v:=.tuple #[.slice none 0 0,.int .i64 140]) ?zz2 rfl (uh Hf)
  case zz2=>simp[results,Tryz.results14,go_sem]
 · obtain ⟨h1, h4, gb, rfl, h6, h7⟩ := h;have h5:zck G l=true:=by simpa [zdJ] using h4
   have hG:=zbi h1;have Hv:=zaa (zk2 h1 h5);have hs:=hb.size;have HSy:=zaa (zeJ w'.heap.size gb G hG w' h7);have Hb:=zaa hb;have Hg:=zaa h7;have Hit:=zaa (areIt_iff.1 h5);have Hh1:=zaa h1;clear hb h1 h4 h5 h6 h7 HN;by_cases hy0:0<y
   · have hy0':¬ y<=0:=by omega
     go_wp2_with fail;refine(uh HSy).mono ?_;rintro e w3 ⟨rfl,hb3⟩;have hs3:=hb3.size;have hbw3:Below w.heap.size w w3:=(uh Hb).trans (zab hb3 hs);by_cases hy1:y<(G.nk:Int)+G.nr
     · have hy1':¬ (G.nk:Int)+G.nr<=y:=by omega
       obtain⟨yn,rfl⟩:∃ yn:Nat,y=yn:=⟨y.toNat,by omega⟩;have hE:=zqt (uh Hv) ⟨hy0,hy1⟩;rw[zsS] at hE;have hk3:=hG.k3;have hr2:=hG.r2;have HC:=zaa (zcu hLY w3.heap.size gb G (uh Hh1) w3 (zsG _) (zeC (zbQ (uh Hg) (zsG _) hb3) hs3));have Hg3:=zaa (zeC (zbQ (uh Hg) (zsG _) hb3) hs3);have Hbw3:=zaa hbw3;have HE:=zaa hE;clear hb3 hbw3 hE HSy Hb Hg;go_wp2_with fail;refine(uh HC).mono ?_;rintro e w4 ⟨cb,tb,rfl,ht1,ht2,hcl,hrs,hb4⟩;have hs4:=hb4.size;have hbw4:Below w.heap.size w w4:=(uh Hbw3).trans (zab hb4 (by omega));have HI:=zaa (zdy w4.heap.size ia ic l hl w4 (zsG _) (zaD (zaw hbw4 (uh Hi)) hbw4.size));have Hg4:=zaa (zeC (zbQ (uh Hg3) (zsG _) hb4) hs4);have Hcl:=zaa hcl;have Hrs:=zaa hrs;have Hbw4:=zaa hbw4;have Hht:=zaa (And.intro ht1 ht2);clear hcl hrs hb4 hbw4 HC Hg3 Hbw3 ht1 ht2;go_wp2_with fail;refine(uh HI).mono ?_;rintro e w5 ⟨a5,c5,rfl,hown5,hb5⟩;have hs5:=hb5.size;have hbw5:Below w.heap.size w w5:=(uh Hbw4).trans (zab hb5 (by have:=(uh Hbw4).size;omega));have hit5:∀ x,x ∈ zct l->zcv G x=true:=λx hx=>uh Hit x (mem_ordI.1 hx);have HSt:=zaa (zgQ w5.heap.size gb G hG a5 c5 (zct l) (zgv hG (uh Hit)) hit5 w5 (zsG _) (zeC (zbQ (uh Hg4) (zsG _) hb5) hs5) (zaU hown5));have hcl5:=za6 (uh Hcl) (zae hb5);have hrs5:=zbp (uh Hrs) (zae hb5);have Hcl5:=zaa hcl5;have Hrs5:=zaa hrs5;have Hbw5:=zaa hbw5;clear hown5 hb5 HI hcl5 hrs5 hbw5 Hg4;go_wp2_with fail;refine(uh HSt).mono ?_;rintro e w6 ⟨kb,n,A,rfl,hkb,hmp,hn,hst,hb6⟩;have hs6:=hb6.size;have hlk:=zgy hmp yn (by omega);obtain⟨va,vc,hva⟩:=zaf (hst.row yn);have hkrow:=hst.row yn;rw[hva] at hlk hkrow;have hml:=zgz G (zct l) yn;have hol:=zgv hG (uh Hit);obtain⟨hRt,tcs,htbx,-⟩:=zbp (uh Hrs5) (zae hb6)
       have HK:=zaa (zdB (λk=>k<w4.heap.size/\k≠tb) w3.heap.size cb gb tb G hG w6 (za6 (uh Hcl5) (zae hb6)) (zbp (uh Hrs5) (zae hb6)) (λk hk=>by omega) (zcX (uh Htab) (zsG _) ((uh Hbw5).trans (zab hb6 (uh Hbw5).size))) va vc (zby G (zct l) yn) (by omega) (zg5 hit5) (zaU hkrow) (λx hx=>by
         rcases hkrow.2 with ⟨e8,-⟩ | ⟨g,cap,cur,e8,-,hg2,-⟩
         · rw[hx] at e8;cases e8
         · rw[hx] at e8;obtain rfl:x=⟨g,0,none⟩:=by simpa using (Value.slice.inj e8).1
           exact zav hg2 htbx (by decide)))
       obtain⟨ht1,ht2⟩:=uh Hht;have hbw6:Below w.heap.size w w6:=(uh Hbw5).trans (zab hb6 (uh Hbw5).size);have hw3:w.heap.size<=w3.heap.size:=by omega
       have Hfin:Hid (∀ (w7:World) (a:Option Addr) (c:Nat),w7.ownsRow w6.heap.size 57 3 (.slice a (clR G (zby G (zct l) yn)).length c) (clR G (zby G (zct l) yn)).length (zaF (clR G (zby G (zct l) yn)))->Fr (λk=>k=tb) w6 w7->zbu (zjI G l yn) (zlK G l yn) w (.returned (.tuple #[.slice a (clR G (zby G (zct l) yn)).length c,.int .i64 (clV G (zby G (zct l) yn))])) w7):=zaa (λw7 a c h1 h2=>by
         rw[(uh HE).1,(uh HE).2]
         exact⟨a,c,rfl,zaO h1 hbw6.size,hbw6.trans (zau h2 hbw6.size (λk hk=>by omega))⟩)
       clear hmp hst hkrow hb6 hbw6 htbx hRt HSt hva hit5;go_wp2_with fail;refine(uh HK).mono ?_;rintro e w7 ⟨a7,c7,rfl,hown7,hfr7,-⟩;have Hf:=zaa (uh Hfin w7 a7 c7 hown7 hfr7);clear hown7 hfr7 Hfin HK;go_wp2;refine bodyPost_ret (v:=.tuple #[.slice a7 (clR G (zby G (zct l) yn)).length c7,.int .i64 (clV G (zby G (zct l) yn))]) ?zz5 rfl (uh Hf)
       case zz5=>simp[results,Tryz.results14,go_sem]
     · have hy1':(G.nk:Int)+G.nr<=y:=by omega
       have Hf:=zaa (show zbu (zjI G l y) (zlK G l y) w (.returned (.tuple #[.slice none 0 0,.int .i64 1])) w3 from by rw[(zjf (uh Hv) (λh=>hy1 h.2)).1,(zjf (uh Hv) (λh=>hy1 h.2)).2];exact zcz hbw3);clear HSy hb3 hbw3;go_wp2;refine bodyPost_ret (v:=.tuple #[.slice none 0 0,.int .i64 1]) ?zz4 rfl (uh Hf)
       case zz4=>simp[results,Tryz.results14,go_sem]
   · have hy0':y<=0:=by omega
     have Hf:=zaa (show zbu (zjI G l y) (zlK G l y) w (.returned (.tuple #[.slice none 0 0,.int .i64 1])) w' from by rw[(zjf (uh Hv) (λh=>hy0 h.1)).1,(zjf (uh Hv) (λh=>hy0 h.1)).2];exact zcz (uh Hb));clear HSy;go_wp2;refine bodyPost_ret (v:=.tuple #[.slice none 0 0,.int .i64 1]) ?zz3 rfl (uh Hf)
     case zz3=>simp[results,Tryz.results14,go_sem]
end Go.Proofs.YtieciibnajeibaaGreatDoor
namespace Go.Proofs.YtieciibnajeibaaGreatDoor
open Go.RowKit
variable{G:Gm}{j:Nat}{s:BM}
theorem zwV(hG:GOk G):clL G []=[]:=(zt3 hG List.Pairwise.nil (λ_ h=>h) (λ_ h=>.inl h) (λx hx=>absurd hx (by simp))).symm
theorem zgl(hG:za1 G=true)(h:BInv G s)(hj:j<s.sts.length):zbF G (s.sts.getD j [])=0 :=
 zk2 hG (areIt_iff.2 (zf3 (zbi hG) h hj).1)
theorem zwb(hG:za1 G=true)(h:BInv G s)(hj:j<s.sts.length):zeR G (s.sts.getD j [])=s.kers.getD j []:=by
 unfold zeR;rw[zgl hG h hj,if_pos rfl,zln (zf3 (zbi hG) h hj).2,(h.st j hj).1];exact zqh (zbi hG) (h.ker _ (zdg (by rw[h.len];exact hj)))
theorem zjt(hG:za1 G=true)(h:BInv G s)(hj:j<s.sts.length):zfw G (s.kers.getD j [])=0/\zdC G (s.kers.getD j [])=s.sts.getD j []:=by
 have hk:=h.ker _ (zdg (show j<s.kers.length by rw[h.len];exact hj));have:=zwM hG (areIt_iff.2 hk.is) (h.st j hj).2;rw[(h.st j hj).1];exact this
theorem st_pos(hG:za1 G=true)(h:BInv G s)(hj:j<s.sts.length):0<(s.sts.getD j []).length:=by
 have hk:=h.ker _ (zdg (show j<s.kers.length by rw[h.len];exact hj));rw[(h.st j hj).1];obtain⟨z,hz⟩:=List.exists_mem_of_ne_nil _ hk.ne;exact List.length_pos_of_mem (zkK (zbi hG) hz)
theorem go_st(hG:za1 G=true)(h:BInv G s)(hj:j<s.sts.length){x:Nat}(hx0:0<x)(hx:x<G.nk+G.nr){t:Int}(hg:zl3 G s (zby G (s.sts.getD j []) x) t) :
 zlK G (s.sts.getD j []) (x:Int)=0/\((t = -1/\zjI G (s.sts.getD j []) (x:Int)=[])\/∃ n:Nat,n<s.sts.length/\t=(n:Int)/\zjI G (s.sts.getD j []) (x:Int)=s.sts.getD n []/\0<(s.sts.getD n []).length):=by
 have hGo:=zbi hG;obtain⟨e1,e2⟩:=zqt (l:=s.sts.getD j []) (y:=(x:Int)) (zgl hG h hj) ⟨by omega,by omega⟩;rw[zsS,zln (zf3 hGo h hj).2] at e1 e2;rw[e1,e2];rcases hg with ⟨rfl,hm⟩ | ⟨n,hn,rfl,hk,hne⟩
 ·rw[hm];unfold clV clR;rw[zwV hGo];exact⟨rfl,.inl ⟨rfl,rfl⟩⟩
 ·rw[h.len] at hn;have hc:=zjt hG h hn;rw[hk] at hc;obtain⟨-,-,h3,h4⟩:=zwL hc.1;have hR:clR G (zby G (s.sts.getD j []) x)=s.sts.getD n []:=by
   unfold clR;rw[if_pos h4,<- h3];exact hc.2
  have hV:clV G (zby G (s.sts.getD j []) x)=0:=by unfold clV;rw[if_pos h4]
  exact⟨hV,.inr ⟨n,hn,rfl,hR,st_pos hG h hn⟩⟩
open Go.Maps
theorem zjX(a b:Option Addr)(ca cb:Nat)(l:List It)(hl:l.length<=281474976710656)(w:World)(h1:zcE w.heap.size w a l)(h2:zcE w.heap.size w b l) :
 Calls Tryz.prog 11 #[.slice a l.length ca,.slice b l.length cb] w λe w'=>e=.returned (.bool true)/\Below w.heap.size w w' :=
 (zpe a b ca cb l l hl w h1 h2).mono (by
  rintro e w' ⟨rfl,q,rfl⟩
  exact⟨by rw[decide_eq_true rfl],zaq (zsY _ _) q⟩)
theorem zkr(hLY:zdF 64)(G:Gm)(ka pa ra qa:Option Addr)(kc pc rc qc:Nat)(w:World)(hin:GIn w.heap.size w G ka pa ra qa)(hsm:smG G)(htab:Tb w.heap.size w) :
 Calls Tryz.prog 8 #[gV G ka pa ra qa kc pc rc qc] w λe w'=>e=.returned (.bool true)/\Below w.heap.size w w':=by
 obtain⟨W1,hW1⟩:∃ W1,W1=w.alloc (.cells #[.slice ka G.kinds.length kc,.slice pa G.precs.length pc,.slice ra G.rules.length rc,.slice qa G.prods.length qc,.int .i64 G.start] 26):=⟨_,rfl⟩;have hb1:Below w.heap.size w W1:=by rw[hW1];exact(zsY _ _).alloc (zsG _) _
 have hs1:W1.heap.size=w.heap.size+1:=by rw[hW1];simp
 have hx1:W1.heap[w.heap.size]? = some (.cells #[.slice ka G.kinds.length kc,.slice pa G.precs.length pc,.slice ra G.rules.length rc,.slice qa G.prods.length qc,.int .i64 G.start] 26 (0,0)):=by rw[hW1];exact zsH _ _
 have HUp:Hid (∀ W:World,Below W1.heap.size W1 W->Below w.heap.size w W):=zaa (λW hW=>hb1.trans (zab hW (by omega)));have HBd:=zaa (show Calls Tryz.prog 22 #[.agg #[.slice ka G.kinds.length kc,.slice pa G.precs.length pc,.slice ra G.rules.length rc,.slice qa G.prods.length qc,.int .i64 G.start]] W1 (λe w'=>zcl G W1 e w') from zgd hLY G ka pa ra qa kc pc rc qc W1 (zbY hin hb1) hsm (zcX htab (zsG _) hb1));have HKn:Hid (∀ W:World,Below W1.heap.size W1 W->∀ (ja:Option Addr) (jc:Nat) (m:List It),m.length<=5864062014805->zcE W.heap.size W ja m->Calls Tryz.prog 16 #[.agg #[.slice ka G.kinds.length kc,.slice pa G.precs.length pc,.slice ra G.rules.length rc,.slice qa G.prods.length qc,.int .i64 G.start],.slice ja m.length jc] W λe w'=>zbu (zeR G m) (zbF G m) W e w'):=zaa (λW hW ja jc m hm hj=>zjz G ka pa ra qa kc pc rc qc ja jc m hm W (zbY hin (uh HUp W hW)) hsm hj);have HCl:Hid (∀ W:World,Below W1.heap.size W1 W->∀ (ja:Option Addr) (jc:Nat) (m:List It),m.length<=5864062014805->zcE W.heap.size W ja m->Calls Tryz.prog 9 #[.agg #[.slice ka G.kinds.length kc,.slice pa G.precs.length pc,.slice ra G.rules.length rc,.slice qa G.prods.length qc,.int .i64 G.start],.slice ja m.length jc] W λe w'=>zdG G m W e w'):=zaa (λW hW ja jc m hm hj=>ztZ hLY G ka pa ra qa kc pc rc qc ja jc m hm W (zbY hin (uh HUp W hW)) hsm (zcX htab (zsG _) (uh HUp W hW)) hj);have HGg:Hid (∀ W:World,Below W1.heap.size W1 W->∀ (ja:Option Addr) (jc:Nat) (m:List It) (y:Int),m.length<=5864062014805->zcE W.heap.size W ja m->Calls Tryz.prog 14 #[.agg #[.slice ka G.kinds.length kc,.slice pa G.precs.length pc,.slice ra G.rules.length rc,.slice qa G.prods.length qc,.int .i64 G.start],.slice ja m.length jc,.int .i64 y] W λe w'=>zbu (zjI G m y) (zlK G m y) W e w'):=zaa (λW hW ja jc m y hm hj=>zrv hLY G ka pa ra qa kc pc rc qc ja jc m hm y W (zbY hin (uh HUp W hW)) hsm (zcX htab (zsG _) (uh HUp W hW)) hj);have HAw:Hid (∀ W:World,Below W1.heap.size W1 W->Calls Tryz.prog 21 #[] W λe w'=>e=.returned (.bool true)/\Below W.heap.size W w'):=zaa (λW hW=>zlY hLY W (zcX htab (zsG _) (uh HUp W hW)));have HG:Hid (∀ W:World,Below W1.heap.size W1 W->W.cell? ⟨w.heap.size,0,none⟩=some (.slice ka G.kinds.length kc)/\W.cell? ⟨w.heap.size,1,none⟩=some (.slice pa G.precs.length pc)/\W.cell? ⟨w.heap.size,2,none⟩=some (.slice ra G.rules.length rc)/\W.cell? ⟨w.heap.size,3,none⟩=some (.slice qa G.prods.length qc)/\W.cell? ⟨w.heap.size,4,none⟩=some (.int .i64 G.start)):=zaa (λW hW=>zfX ((hW.block _ (by omega)).trans hx1));have Hw1:=zaa hW1;obtain⟨d0,d1,d2,d3,d4⟩:=uh HG W1 (zsY _ _);rw[hW1] at d0 d1 d2 d3 d4;clear hin htab hb1 hx1 hW1 hLY;unfold gV;go_enter Tryz.func8,Tryz.ntmps8;go_wp2_with fail;rw[<- uh Hw1];clear d0 d1 d2 d3 d4;refine(uh HBd).mono ?_;rintro e w2 ⟨hb2,h⟩;clear HBd;have hs2:=hb2.size;have hbad:∀ v:Int,v≠0->e=.returned (.tuple #[.agg #[.slice none 0 0,.slice none 0 0],.int .i64 v])->∃ v:Int,(v != 0)=true/\e=.returned (.tuple #[.agg #[.slice none 0 0,.slice none 0 0],.int .i64 v]):=λv hv he=>⟨v,by simpa using hv,he⟩;have hcase:(∃ v:Int,(v != 0)=true/\e=.returned (.tuple #[.agg #[.slice none 0 0,.slice none 0 0],.int .i64 v]))\/∃ (s:BM) (nxs:List (List Int)) (R':Nat->Prop) (vS vN:Value) (svs nvs:List Value),za1 G=true/\zbZ G=.ok (s,nxs)/\e=.returned (.tuple #[.agg #[vS,vN],.int .i64 0])/\(∀ k,R' k->k<w2.heap.size)/\w2.ownsRow W1.heap.size 27 1 vS s.sts.length svs/\zgj R' w2 svs s.sts/\w2.ownsRow W1.heap.size 50 1 vN nxs.length nvs/\zgk R' w2 nvs nxs:=by
  by_cases hc:za1 G=true
  ·rw[if_pos hc] at h
   cases hbm:zbZ G with
   | error v =>
     rw[hbm] at h;exact .inl (hbad v (ziv hbm) h)
   | ok r =>
     obtain⟨s,nxs⟩:=r;rw[hbm] at h;obtain⟨R',vS,vN,svs,nvs,a1,a2,a3,a4,a5,a6⟩:=h;exact .inr ⟨s,nxs,R',vS,vN,svs,nvs,hc,rfl,a1,a2,a3,a4,a5,a6⟩
  ·rw[if_neg hc] at h;exact .inl (hbad 130 (by decide) h)
 clear h hbad;rcases hcase with ⟨v,hv,rfl⟩ | ⟨s,nxs,R',vS,vN,svs,nvs,hc,hbm,rfl,hR,hoS,hsS,hoN,hsN⟩
 ·have hb3:=hb2.trans (zab ((zsY w2.heap.size w2).alloc (zsG _) (.cells #[.slice none 0 0,.slice none 0 0] 45)) hs2);have HA:=zaa (uh HAw _ hb3);have Hb3:=zaa (uh HUp _ hb3);clear hb2 hb3 HUp HKn HCl HGg HAw HG;go_wp2_with fail;refine(uh HA).mono ?_;rintro e w4 ⟨rfl,hb4⟩;have Hb4:=zaa ((uh Hb3).trans (zab hb4 (uh Hb3).size));clear hb4 HA;go_wp2;go_ret;exact⟨rfl,uh Hb4⟩
 have hG:=zbi hc;obtain⟨hiB,hnB,hnl,-,-⟩:=zkM hG hbm;have hRt:=zhw hG hbm;have hsl4:s.sts.length<=4096:=hiB.n1;have hk3:=hG.k3;have hr2:=hG.r2;have hstl:∀ j,j<s.sts.length->(s.sts.getD j []).length<=65536:=λj hj=>by rw[(hiB.st j hj).1];exact(hiB.st j hj).2
 have hnxl:∀ j,j<nxs.length->(nxs.getD j []).length=G.nk+G.nr:=λj hj=>(hnB.2 j hj).1;obtain⟨sa,sc,rfl,hLS⟩:=zp4 hoS hsS hR (λj hj=>by have:=hstl j hj;omega);obtain⟨na,nc,rfl,hLN⟩:=zmI hoN hsN hR;have hpos:0<s.sts.length:=hRt.1.1.1.1;obtain⟨sb,soff,rfl⟩:∃ sb soff,sa=some ⟨sb,soff,none⟩:=by
  obtain⟨b,off,-,-,h9,-⟩:=zb6 hLS hpos;exact⟨b,off,h9⟩
 obtain⟨W3,hW3⟩:∃ W3,W3=w2.alloc (.cells #[.slice (some ⟨sb,soff,none⟩) s.sts.length sc,.slice na nxs.length nc] 45):=⟨_,rfl⟩;have hb3:Below w2.heap.size w2 W3:=by rw[hW3];exact(zsY _ _).alloc (zsG _) _
 have hs3:W3.heap.size=w2.heap.size+1:=by rw[hW3];simp
 have hx3:W3.heap[w2.heap.size]? = some (.cells #[.slice (some ⟨sb,soff,none⟩) s.sts.length sc,.slice na nxs.length nc] 45 (0,0)):=by rw[hW3];exact zsH _ _
 have hb13:Below W1.heap.size W1 W3:=hb2.trans (zab hb3 hs2);have HU1:Hid (∀ W:World,Below W3.heap.size W3 W->Below W1.heap.size W1 W):=zaa (λW hW=>hb13.trans (zab hW hb13.size))
 have HL:Hid (∀ W:World,Below W3.heap.size W3 W->zez W.heap.size W (some ⟨sb,soff,none⟩) s.sts/\zeb W na nxs/\W.cell? ⟨w2.heap.size,0,none⟩=some (.slice (some ⟨sb,soff,none⟩) s.sts.length sc)/\W.cell? ⟨w2.heap.size,1,none⟩=some (.slice na nxs.length nc)):=zaa (λW hW=>by
  have h8:=hb3.trans (zab hW hb3.size);have h7:=(hW.block _ (by omega)).trans hx3
  exact⟨zb1 (za3 h8 hLS) h8.size,zbD hLN h8,zac h7 0 rfl,zac h7 1 rfl⟩)
 have HSh:=zaa (znE (some ⟨sb,soff,none⟩) na s.sts.length sc nc nxs hRt.1.2.1 (by omega) (λj hj=>by have:=hnxl j hj;omega) W3 (uh HL _ (zsY _ _)).2.1)
 have HPk:Hid (∀ j,j<s.sts.length->zeR G (s.sts.getD j [])=s.kers.getD j []/\zbF G (s.sts.getD j [])=0/\zfw G (s.kers.getD j [])=0/\zdC G (s.kers.getD j [])=s.sts.getD j []/\(s.kers.getD j []).length<=65536):=zaa (λj hj=>by
  have h8:=zwb hc hiB hj;refine⟨h8,zgl hc hiB hj,(zjt hc hiB hj).1,(zjt hc hiB hj).2,?_⟩;rw[<- h8];unfold zeR;rw[zgl hc hiB hj,if_pos rfl,zln (zf3 hG hiB hj).2];have h9:=List.length_filter_le (zhM G) (s.sts.getD j []);have:=hstl j hj;unfold zfn
  omega)
 have HPg:Hid (∀ j,j<s.sts.length->∀ x:Nat,0<x->x<G.nk+G.nr->zlK G (s.sts.getD j []) (x:Int)=0/\(((nxs.getD j []).getD x 0 = -1/\zjI G (s.sts.getD j []) (x:Int)=[])\/∃ n:Nat,n<s.sts.length/\(nxs.getD j []).getD x 0=(n:Int)/\zjI G (s.sts.getD j []) (x:Int)=s.sts.getD n []/\0<(s.sts.getD n []).length)):=zaa (λj hj x hx0 hx=>go_st hc hiB hj hx0 hx ((hnB.2 j (by omega)).2 x hx));have Hstl:=zaa hstl;have Hnxl:=zaa hnxl;have Hnl:=zaa hnl;have Hbw:=zaa (uh HUp W3 hb13);obtain⟨⟨g0,g1,g2,g3,g4⟩,-,-,x0,x1⟩:=And.intro (uh HG W3 hb13) (uh HL W3 (zsY _ _));rw[hW3] at x0 x1 g0 g1 g2 g3 g4;have Hw3:=zaa hW3;clear hiB hnB hRt hbm hc hR hoS hsS hoN hsN hLS hLN hb2 hb3 hx3 hb13 hstl hnxl hW3 hnl;go_wp2_with fail;rw[<- uh Hw3];clear x0 x1 g0 g1 g2 g3 g4;refine(uh HSh).mono ?_;rintro e w4 ⟨rfl,hb4⟩;have Hb4:=zaa hb4;clear hb4 HSh;go_wp2_with fail
 go_loopw [5] (λx wr=>∃ j:Nat,x=.int .i64 (j:Int)/\j<=s.sts.length/\Below W3.heap.size W3 wr) (λx _=>s.sts.length - (intOf x).toNat)
 case atStart=>exact⟨0,rfl,zsK _,uh Hb4⟩
 case round =>
  obtain⟨j,rfl,hj,hb5⟩:=hrel;obtain⟨w5,hw5⟩:∃ w5,w5=wr:=⟨_,rfl⟩;subst hw5;have Hb5:=zaa hb5;have hs5:=hb5.size;by_cases hjl:j<s.sts.length
  ·have hjI:(j:Int)<(s.sts.length:Int):=by omega
   have hjn:j<nxs.length:=by have:=uh Hnl;omega
   have hjnI:(j:Int)<(nxs.length:Int):=by omega
   obtain⟨hLS5,hLN5,x0,x1⟩:=uh HL w5 hb5;obtain⟨b,off,ia,ic,e1,hbl,p0,hrow,-⟩:=zb6 hLS5 hjl;obtain⟨rfl,rfl⟩:sb=b/\soff=off:=by simpa using e1
   obtain⟨hk1,hk2,hk3',hk4,hk5⟩:=uh HPk j hjl;have hst:=uh Hstl j hjl
   have HK:Hid (∀ W:World,Below w5.heap.size w5 W->Calls Tryz.prog 16 #[.agg #[.slice ka G.kinds.length kc,.slice pa G.precs.length pc,.slice ra G.rules.length rc,.slice qa G.prods.length qc,.int .i64 G.start],.slice ia (s.sts.getD j []).length ic] W λe w'=>∃ a c,e=.returned (.tuple #[.slice a (s.kers.getD j []).length c,.int .i64 0])/\w'.ownsRow W.heap.size 57 3 (.slice a (s.kers.getD j []).length c) (s.kers.getD j []).length (zaF (s.kers.getD j []))/\Below W.heap.size W w'):=zaa (λW hW=>by
    have h8:=uh HKn W (uh HU1 W (hb5.trans (zab hW hs5))) ia ic (s.sts.getD j []) (by omega) (zaD (zaw hW hrow) hW.size);unfold zbu at h8;rw[hk1,hk2] at h8
    exact h8)
   have HC:Hid (∀ (W:World) (ja:Option Addr) (jc:Nat),Below w5.heap.size w5 W->zcE W.heap.size W ja (s.kers.getD j [])->Calls Tryz.prog 9 #[.agg #[.slice ka G.kinds.length kc,.slice pa G.precs.length pc,.slice ra G.rules.length rc,.slice qa G.prods.length qc,.int .i64 G.start],.slice ja (s.kers.getD j []).length jc] W λe w'=>∃ a c,e=.returned (.tuple #[.slice a (s.sts.getD j []).length c,.int .i64 0])/\w'.ownsRow W.heap.size 57 3 (.slice a (s.sts.getD j []).length c) (s.sts.getD j []).length (zaF (s.sts.getD j []))/\Below W.heap.size W w'):=zaa (λW ja jc hW hi=>by
    have h8:=uh HCl W (uh HU1 W (hb5.trans (zab hW hs5))) ja jc (s.kers.getD j []) (by omega) hi;unfold zdG at h8;rw[hk3',hk4] at h8
    exact h8)
   have HS:Hid (∀ W:World,Below w5.heap.size w5 W->W.cell? ⟨w.heap.size,0,none⟩=some (.slice ka G.kinds.length kc)/\W.cell? ⟨w.heap.size,1,none⟩=some (.slice pa G.precs.length pc)/\W.cell? ⟨w.heap.size,2,none⟩=some (.slice ra G.rules.length rc)/\W.cell? ⟨w.heap.size,3,none⟩=some (.slice qa G.prods.length qc)/\W.cell? ⟨w.heap.size,4,none⟩=some (.int .i64 G.start)/\W.cell? ⟨w2.heap.size,0,none⟩=some (.slice (some ⟨sb,soff,none⟩) s.sts.length sc)/\W.cell? ⟨sb,soff+j,none⟩=some (.slice ia (s.sts.getD j []).length ic)):=zaa (λW hW=>by
    have h8:=hb5.trans (zab hW hs5);obtain⟨g0,g1,g2,g3,g4⟩:=uh HG W (uh HU1 W h8)
    exact⟨g0,g1,g2,g3,g4,(uh HL W h8).2.2.1,(hW.cell (p:=⟨sb,soff+j,none⟩) hbl).trans p0⟩)
   have HR5:Hid (∀ W:World,Below w5.heap.size w5 W->zcE W.heap.size W ia (s.sts.getD j [])):=zaa (λW hW=>zaD (zaw hW hrow) hW.size)
   have HGj:Hid (∀ (q:Nat),0<q->q<G.nk+G.nr->∀ W:World,Below w5.heap.size w5 W->Calls Tryz.prog 14 #[.agg #[.slice ka G.kinds.length kc,.slice pa G.precs.length pc,.slice ra G.rules.length rc,.slice qa G.prods.length qc,.int .i64 G.start],.slice ia (s.sts.getD j []).length ic,.int .i64 (q:Int)] W λe w'=>zbu (zjI G (s.sts.getD j []) (q:Int)) 0 W e w'):=zaa (λq hq0 hq W hW=>by
    have h8:=uh HGg W (uh HU1 W (hb5.trans (zab hW hs5))) ia ic (s.sts.getD j []) (q:Int) (by omega) (zaD (zaw hW hrow) hW.size);rw[(uh HPg j hjl q hq0 hq).1] at h8
    exact h8)
   have HPj:=zaa (uh HPg j hjl);have hrl:=uh Hnxl j hjn;have HN5:=zaa hLN5;clear hb5 hLS5 hLN5 x1 p0 hrow hk1 hk2 hk3' hk4 e1;obtain⟨stn,hstn⟩:∃ stn,stn=(s.sts.getD j []).length:=⟨_,rfl⟩;have Hkj:=zaa hk5;clear hk5;generalize s.kers.getD j []=K at *;generalize s.sts.getD j []=st at *;go_wp2_with fail;have hS:Below w5.heap.size w5 w5.drew:=(zsY _ _).drew
   go_region_held3 (λW:World=>W.cell? ⟨w.heap.size,0,none⟩=some (.slice ka G.kinds.length kc)/\W.cell? ⟨w.heap.size,1,none⟩=some (.slice pa G.precs.length pc)/\W.cell? ⟨w.heap.size,2,none⟩=some (.slice ra G.rules.length rc)/\W.cell? ⟨w.heap.size,3,none⟩=some (.slice qa G.prods.length qc)/\W.cell? ⟨w.heap.size,4,none⟩=some (.int .i64 G.start)/\W.cell? ⟨w2.heap.size,0,none⟩=some (.slice (some ⟨sb,soff,none⟩) s.sts.length sc)/\W.cell? ⟨sb,soff+j,none⟩=some (.slice ia st.length ic))
    (exact uh HS _ hS)
    (first | (go_at_call 16;refine(uh HK _ hS).mono ?_;rintro e W4 ⟨ka4,kc4,rfl,hown4,hb4⟩;have hS:=hS.trans (zab hb4 hS.size)) | fail)
   have hirk:=zaU hown4;have HC4:=zaa (uh HC W4 ka4 kc4 hS hirk);obtain⟨g0,g1,g2,g3,g4,x0,p0⟩:=uh HS W4 hS;have Hb4w:=zaa hS;clear hown4 hb4 hirk HK HC hS;go_wp2_with fail;clear g0 g1 g2 g3 g4;refine(uh HC4).mono ?_;rintro e w6 ⟨ca,cc,rfl,hown6,hb6⟩;have hb56:=(uh Hb4w).trans (zab hb6 (uh Hb4w).size);have HSm:=zaa (zjX ca ia cc ic st (by omega) w6 (zaU hown6) (uh HR5 w6 hb56));obtain⟨g0,g1,g2,g3,g4,x0,p0⟩:=uh HS w6 hb56;have Hb56:=zaa hb56;clear hown6 hb6 hb56 HC4;go_wp2_with fail;clear g0 g1 g2 g3 g4 x0 p0;refine(uh HSm).mono ?_;rintro e w7 ⟨rfl,hb7⟩;have Hb57:=zaa ((uh Hb56).trans (zab hb7 (uh Hb56).size));clear hb7 HSm;go_wp2_with fail
   go_loopw [10] (λx wr=>∃ q:Nat,x=.int .i64 (q:Int)/\1<=q/\q<=G.nk+G.nr/\Below w5.heap.size w5 wr) (λx _=>G.nk+G.nr - (intOf x).toNat)
   case atStart=>exact⟨1,rfl,zsG _,by have:=hG.r1;omega,uh Hb57⟩
   case round =>
    obtain⟨q,rfl,hq1,hq,hb8⟩:=hrel;obtain⟨w8,hw8⟩:∃ w8,w8=wr:=⟨_,rfl⟩;subst hw8;have Hb8:=zaa hb8;have hs8:=hb8.size;have hb38:=(uh Hb5).trans (zab hb8 hs5);obtain⟨-,hLN8,x0,x1⟩:=uh HL w8 hb38;obtain⟨nb,noff,rfl,hnb,ra',rc',p1,hnr⟩:=zdd hLN8 hjn;rw[hrl] at p1;have HLN8:=zaa hLN8;clear hLN8 hb38;by_cases hql:q<G.nk+G.nr
    ·have hqI:(q:Int)<((G.nk+G.nr:Nat):Int):=by omega
     have hq0:0<q:=by omega
     have HGo5:=uh HGj q hq0 hql;have HS8:Hid (∀ W:World,Below w8.heap.size w8 W->W.cell? ⟨w.heap.size,0,none⟩=some (.slice ka G.kinds.length kc)/\W.cell? ⟨w.heap.size,1,none⟩=some (.slice pa G.precs.length pc)/\W.cell? ⟨w.heap.size,2,none⟩=some (.slice ra G.rules.length rc)/\W.cell? ⟨w.heap.size,3,none⟩=some (.slice qa G.prods.length qc)/\W.cell? ⟨w.heap.size,4,none⟩=some (.int .i64 G.start)/\W.cell? ⟨w2.heap.size,0,none⟩=some (.slice (some ⟨sb,soff,none⟩) s.sts.length sc)/\W.cell? ⟨sb,soff+j,none⟩=some (.slice ia st.length ic)):=zaa (λW hW=>uh HS W (hb8.trans (zab hW hs8)));obtain⟨rb,roff,e2,hrb,r0⟩:=zmG hnr (k:=q) (by rw[hrl];exact hql);subst e2;have hp:=(uh HPj q hq0 hql).2;generalize (nxs.getD j []).getD q 0=t at *;have HLr:Hid (∀ W:World,Below w8.heap.size w8 W->W.cell? ⟨w2.heap.size,1,none⟩=some (.slice (some ⟨nb,noff,none⟩) nxs.length nc)/\W.cell? ⟨nb,noff+j,none⟩=some (.slice (some ⟨rb,roff,none⟩) (G.nk+G.nr) rc')/\W.cell? ⟨rb,roff+q,none⟩=some (.int .i64 t)):=zaa (λW hW=>⟨(hW.cell (p:=⟨w2.heap.size,1,none⟩) (zsQ w8 _ x1)).trans x1,(hW.cell (p:=⟨nb,noff+j,none⟩) (zsQ w8 _ p1)).trans p1,(hW.cell (p:=⟨rb,roff+q,none⟩) (zsQ w8 _ r0)).trans r0⟩);have Hup8:Hid (∀ W:World,Below w8.heap.size w8 W->Below w5.heap.size w5 W):=zaa (λW hW=>hb8.trans (zab hW hs8));clear hb8 hnr r0;rcases hp with ⟨rfl,hgo⟩ | ⟨n,hn,rfl,hgo,hnp⟩
     ·have HGo:Hid (∀ W:World,Below w8.heap.size w8 W->Calls Tryz.prog 14 #[.agg #[.slice ka G.kinds.length kc,.slice pa G.precs.length pc,.slice ra G.rules.length rc,.slice qa G.prods.length qc,.int .i64 G.start],.slice ia st.length ic,.int .i64 (q:Int)] W λe w'=>∃ a c,e=.returned (.tuple #[.slice a 0 c,.int .i64 0])/\w'.ownsRow W.heap.size 57 3 (.slice a 0 c) 0 []/\Below W.heap.size W w'):=zaa (λW hW=>by
       have h8:=HGo5 W (uh Hup8 W hW);unfold zbu at h8;rw[hgo] at h8
       exact h8)
      clear HGo5 hgo;go_wp2_with fail;have hS:Below w8.heap.size w8 w8.drew:=(zsY _ _).drew
      go_region_held3 (λW:World=>W.cell? ⟨w.heap.size,0,none⟩=some (.slice ka G.kinds.length kc)/\W.cell? ⟨w.heap.size,1,none⟩=some (.slice pa G.precs.length pc)/\W.cell? ⟨w.heap.size,2,none⟩=some (.slice ra G.rules.length rc)/\W.cell? ⟨w.heap.size,3,none⟩=some (.slice qa G.prods.length qc)/\W.cell? ⟨w.heap.size,4,none⟩=some (.int .i64 G.start)/\W.cell? ⟨w2.heap.size,0,none⟩=some (.slice (some ⟨sb,soff,none⟩) s.sts.length sc)/\W.cell? ⟨sb,soff+j,none⟩=some (.slice ia st.length ic))
       (exact uh HS8 _ hS)
       (first | (go_at_call 14;refine(uh HGo _ hS).mono ?_;rintro e W6 ⟨ta,tc,rfl,hown6,hb6⟩;have hS:=hS.trans (zab hb6 hS.size)) | fail)
      have Hf:=zaa (uh Hup8 W6 hS);obtain⟨x1',p1',r1'⟩:=uh HLr W6 hS;clear hown6 hb6 HGo hS x0 x1 p1;go_wp2_with fail;go_roundw
      case rel=>exact⟨q+1,by go_num,by omega,by omega,uh Hf⟩
      case measure=>simp[intOf];omega
     ·have HGo:Hid (∀ W:World,Below w8.heap.size w8 W->Calls Tryz.prog 14 #[.agg #[.slice ka G.kinds.length kc,.slice pa G.precs.length pc,.slice ra G.rules.length rc,.slice qa G.prods.length qc,.int .i64 G.start],.slice ia st.length ic,.int .i64 (q:Int)] W λe w'=>∃ a c,e=.returned (.tuple #[.slice a (s.sts.getD n []).length c,.int .i64 0])/\w'.ownsRow W.heap.size 57 3 (.slice a (s.sts.getD n []).length c) (s.sts.getD n []).length (zaF (s.sts.getD n []))/\Below W.heap.size W w'):=zaa (λW hW=>by
       have h8:=HGo5 W (uh Hup8 W hW);unfold zbu at h8;rw[hgo] at h8
       exact h8)
      have hnI:(n:Int)<(s.sts.length:Int):=by omega
      have hstn2:=uh Hstl n hn;obtain⟨b',off',na',nc',e3,hnb',z0,hnrow,-⟩:=zb6 (uh HL w8 (by exact(uh Hb5).trans (zab (uh Hb8) hs5))).1 hn;obtain⟨rfl,rfl⟩:sb=b'/\soff=off':=by simpa using e3
      have HNn:Hid (∀ W:World,Below w8.heap.size w8 W->W.cell? ⟨sb,soff+n,none⟩=some (.slice na' (s.sts.getD n []).length nc')/\zcE W.heap.size W na' (s.sts.getD n [])):=zaa (λW hW=>⟨(hW.cell (p:=⟨sb,soff+n,none⟩) (zsQ w8 _ z0)).trans z0,zaD (zaw hW hnrow) hW.size⟩);clear HGo5 hgo hnrow z0 e3;generalize s.sts.getD n []=tn at *;have htnI:(0:Int)<(tn.length:Int):=by omega
      go_wp2_with fail;have hS:Below w8.heap.size w8 w8.drew:=(zsY _ _).drew
      go_region_held3 (λW:World=>W.cell? ⟨w.heap.size,0,none⟩=some (.slice ka G.kinds.length kc)/\W.cell? ⟨w.heap.size,1,none⟩=some (.slice pa G.precs.length pc)/\W.cell? ⟨w.heap.size,2,none⟩=some (.slice ra G.rules.length rc)/\W.cell? ⟨w.heap.size,3,none⟩=some (.slice qa G.prods.length qc)/\W.cell? ⟨w.heap.size,4,none⟩=some (.int .i64 G.start)/\W.cell? ⟨w2.heap.size,0,none⟩=some (.slice (some ⟨sb,soff,none⟩) s.sts.length sc)/\W.cell? ⟨sb,soff+j,none⟩=some (.slice ia st.length ic))
       (exact uh HS8 _ hS)
       (first | (go_at_call 14;refine(uh HGo _ hS).mono ?_;rintro e W6 ⟨ta,tc,rfl,hown6,hb6⟩;have hS:=hS.trans (zab hb6 hS.size)) | fail)
      have Hf:=zaa (uh Hup8 W6 hS);obtain⟨x1',p1',r1'⟩:=uh HLr W6 hS;obtain⟨-,-,-,-,-,x0',-⟩:=uh HS8 W6 hS;obtain⟨z0',zr⟩:=uh HNn W6 hS;have hs6:=hS.size;have HSm2:=zaa (zjX ta na' tc nc' tn (by omega) W6 (zaU hown6) zr);clear hown6 hb6 HGo hS x0 x1 p1 zr;go_wp2_with fail;refine(uh HSm2).mono ?_;rintro e w9 ⟨rfl,hb9⟩;have Hf9:=zaa ((uh Hf).trans (zab hb9 (uh Hf).size));clear hb9 HSm2 x1' p1' r1' x0' z0';go_wp2_with fail;go_roundw
      case rel=>exact⟨q+1,by go_num,by omega,by omega,uh Hf9⟩
      case measure=>simp[intOf];omega
    ·have hqI:¬ (q:Int)<((G.nk+G.nr:Nat):Int):=by omega
     have Hbf:=zaa ((uh Hb5).trans (zab hb8 hs5));clear hb8 hnr;go_wp2;go_roundw
     case rel=>exact⟨j+1,by go_num,by omega,uh Hbf⟩
     case measure=>simp[intOf];omega
  ·have hjI:¬ (j:Int)<(s.sts.length:Int):=by omega
   obtain⟨-,-,x0,x1⟩:=uh HL w5 hb5;have HA:=zaa (uh HAw w5 (uh HU1 w5 hb5));have Hbf:=zaa (uh HUp w5 (uh HU1 w5 hb5));clear hb5;go_wp2_with fail;refine(uh HA).mono ?_;rintro e w6 ⟨rfl,hb6⟩;have Hb6:=zaa ((uh Hbf).trans (zab hb6 (uh Hbf).size));clear hb6 HA;go_wp2;go_ret;exact⟨rfl,uh Hb6⟩
end Go.Proofs.YtieciibnajeibaaGreatDoor

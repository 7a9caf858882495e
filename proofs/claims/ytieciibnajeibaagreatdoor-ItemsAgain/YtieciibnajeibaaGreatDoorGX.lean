import Derived.Test.YtieciibnajeibaaGreatDoorGV
import Derived.Test.YtieciibnajeibaaGreatDoorGW
set_option maxHeartbeats 8000000
set_option maxRecDepth 100000
namespace Go.Proofs.YtieciibnajeibaaGreatDoor
open Go.RowKit
abbrev rhs(G:Gm)(q:Nat):List Int:=(G.prods.getD q pd0).right
abbrev lhs(G:Gm)(q:Nat):Nat:=(G.prods.getD q pd0).left.toNat
def WayP(G:Gm)(q i r y:Nat):Prop:=q<G.prods.length/\lhs G q=r/\i<(rhs G q).length/\zar G.nk (zat G) ((rhs G q).take i)=true/\(G.nk:Int)<=(rhs G q).getD i 0/\((rhs G q).getD i 0 - G.nk).toNat=y
def KndP(G:Gm)(q i r:Nat)(m:Int):Prop:=q<G.prods.length/\lhs G q=r/\i<(rhs G q).length/\zar G.nk (zat G) ((rhs G q).take i)=true/\(rhs G q).getD i 0<(G.nk:Int)/\(rhs G q).getD i 0=m
def zrz(k j q i:Nat):Prop:=q<k\/q=k/\i<j
def upW(W:Nat->List Nat)(r y:Nat):Nat->List Nat:=λs=>if s=r then W r ++ [y] else W s
theorem zoG(W:Nat->List Nat)(r y s z:Nat):z ∈ upW W r y s↔z ∈ W s\/s=r/\z=y:=by
 unfold upW;by_cases e:s=r
 ·subst e;simp
 ·simp[e]
theorem zit(W:Nat->List Nat)(r y s:Nat):(upW W r y s).length<=(W s).length+1:=by
 unfold upW;by_cases e:s=r
 ·subst e;simp
 ·simp[e]
structure FbI (G:Gm) (k j:Nat) (C:Nat->Int->Bool) (W:Nat->List Nat):Prop where
 c:∀ r m,C r m=true↔∃ q i,zrz k j q i/\KndP G q i r m
 w:∀ r y,y ∈ W r↔∃ q i,zrz k j q i/\WayP G q i r y
 l:∀ r,(W r).length<=64 * k+j
variable{B a b i j k n np q r:Nat}{C:Nat->Int->Bool}{G:Gm}{W rl:Nat->List Nat}{el ok:Nat->Bool}{f m0:Nat->Int}{fs:List Nat}{okP:Pd->Bool}{row:List Int}{y:Int}
theorem upto_succ:zrz k (j+1) q i↔zrz k j q i\/q=k/\i=j:=by unfold zrz;omega
theorem ztJ(G:Gm):FbI G 0 0 (λ_ _=>false) (λ_=>[]) :=
 ⟨λr m=>⟨λh=>(by cases h),fun⟨q,i,h,_⟩=>(by unfold zrz at h;omega)⟩,λr y=>⟨λh=>(by cases h),fun⟨q,i,h,_⟩=>(by unfold zrz at h;omega)⟩,λr=>by simp⟩
theorem zwC(h:FbI G k j C W)(hk:k<G.prods.length)(hj:j<(rhs G k).length)(he:zar G.nk (zat G) ((rhs G k).take j)=true)(hx:(rhs G k).getD j 0<(G.nk:Int)):FbI G k (j+1) (upC C (lhs G k) (zkS (C (lhs G k)) ((rhs G k).getD j 0))) W:=by
 refine⟨λr m=>?_,λr y=>?_,λr=>by have:=h.l r;omega⟩
 ·have key:upC C (lhs G k) (zkS (C (lhs G k)) ((rhs G k).getD j 0)) r m=true↔C r m=true\/KndP G k j r m:=by
   by_cases e:r=lhs G k
   ·subst e;rw[zbc];unfold zkS;by_cases e2:m=(rhs G k).getD j 0
    ·rw[if_pos e2];exact⟨λ_=>.inr ⟨hk,rfl,hj,he,hx,e2.symm⟩,λ_=>rfl⟩
    ·rw[if_neg e2];exact⟨.inl,λh1=>h1.elim id (λh2=>absurd h2.2.2.2.2.2.symm e2)⟩
   ·rw[zcm e];exact⟨.inl,λh1=>h1.elim id (λh2=>absurd h2.2.1.symm e)⟩
  rw[key,h.c r m];constructor
  ·rintro(⟨q,i,h1,h2⟩ | h2)
   ·exact⟨q,i,upto_succ.2 (.inl h1),h2⟩
   ·exact⟨k,j,upto_succ.2 (.inr ⟨rfl,rfl⟩),h2⟩
  ·rintro⟨q,i,h1,h2⟩;rcases upto_succ.1 h1 with h1 | ⟨rfl,rfl⟩
   ·exact .inl ⟨q,i,h1,h2⟩
   ·exact .inr h2
 ·rw[h.w r y];constructor
  ·rintro⟨q,i,h1,h2⟩;exact⟨q,i,upto_succ.2 (.inl h1),h2⟩
  ·rintro⟨q,i,h1,h2⟩;rcases upto_succ.1 h1 with h1 | ⟨rfl,rfl⟩
   ·exact⟨q,i,h1,h2⟩
   ·have:=h2.2.2.2.2.1;omega
theorem zwB(h:FbI G k j C W)(hk:k<G.prods.length)(hj:j<(rhs G k).length)(he:zar G.nk (zat G) ((rhs G k).take j)=true)(hx:(G.nk:Int)<=(rhs G k).getD j 0):FbI G k (j+1) C (upW W (lhs G k) ((rhs G k).getD j 0 - G.nk).toNat):=by
 refine⟨λr m=>?_,λr y=>?_,λr=>by have:=h.l r;have:=zit W (lhs G k) ((rhs G k).getD j 0 - G.nk).toNat r;omega⟩
 ·rw[h.c r m];constructor
  ·rintro⟨q,i,h1,h2⟩;exact⟨q,i,upto_succ.2 (.inl h1),h2⟩
  ·rintro⟨q,i,h1,h2⟩;rcases upto_succ.1 h1 with h1 | ⟨rfl,rfl⟩
   ·exact⟨q,i,h1,h2⟩
   ·have:=h2.2.2.2.2.1;omega
 ·rw[zoG,h.w r y];constructor
  ·rintro(⟨q,i,h1,h2⟩ | ⟨rfl,rfl⟩)
   ·exact⟨q,i,upto_succ.2 (.inl h1),h2⟩
   ·exact⟨k,j,upto_succ.2 (.inr ⟨rfl,rfl⟩),hk,rfl,hj,he,hx,rfl⟩
  ·rintro⟨q,i,h1,h2⟩;rcases upto_succ.1 h1 with h1 | ⟨rfl,rfl⟩
   ·exact .inl ⟨q,i,h1,h2⟩
   ·exact .inr ⟨h2.2.1.symm,h2.2.2.2.2.2.symm⟩
theorem zwA(h:FbI G k j C W)(hj:j<=64)(hs:∀ i,j<=i->i<(rhs G k).length->zar G.nk (zat G) ((rhs G k).take i)=false):FbI G (k+1) 0 C W:=by
 have key:∀ q i,(zar G.nk (zat G) ((rhs G q).take i)=true/\i<(rhs G q).length)->(zrz (k+1) 0 q i↔zrz k j q i):=λq i ⟨he,hi⟩=>by
  unfold zrz;constructor
  ·rintro(h1 | h1)
   ·by_cases e:q=k
    ·subst e;by_cases hij:i<j
     ·exact .inr ⟨rfl,hij⟩
     ·have:=hs i (by omega) hi;rw[he] at this;cases this
    ·exact .inl (by omega)
   ·omega
  ·omega
 refine⟨λr m=>?_,λr y=>?_,λr=>by have:=h.l r;omega⟩
 ·rw[h.c r m];constructor
  ·rintro⟨q,i,h1,h2⟩;exact⟨q,i,(key q i ⟨h2.2.2.2.1,h2.2.2.1⟩).2 h1,h2⟩
  ·rintro⟨q,i,h1,h2⟩;exact⟨q,i,(key q i ⟨h2.2.2.2.1,h2.2.2.1⟩).1 h1,h2⟩
 ·rw[h.w r y];constructor
  ·rintro⟨q,i,h1,h2⟩;exact⟨q,i,(key q i ⟨h2.2.2.2.1,h2.2.2.1⟩).2 h1,h2⟩
  ·rintro⟨q,i,h1,h2⟩;exact⟨q,i,(key q i ⟨h2.2.2.2.1,h2.2.2.1⟩).1 h1,h2⟩
theorem zic(hj:j<row.length)(hi:j<i)(hx:row.getD j 0<(G.nk:Int)\/zat G (row.getD j 0 - G.nk).toNat=false):zar G.nk (zat G) (row.take i)=false:=by
 cases h:zar G.nk (zat G) (row.take i) with
 | false=>rfl
 | true =>
   have hm:row.getD j 0 ∈ row.take i:=by
    rw[zsE,zsF hj];show row[j] ∈ _;exact List.mem_take_iff_getElem.2 ⟨j,by omega,rfl⟩
   obtain⟨h1,h2⟩:=emptyB_iff.1 h _ hm;rcases hx with hx | hx
   ·omega
   ·rw[hx] at h2;cases h2
theorem zoc(hj:j<row.length)(he:zar G.nk (zat G) (row.take j)=true)(hx:(G.nk:Int)<=row.getD j 0)(hn:zat G (row.getD j 0 - G.nk).toNat=true):zar G.nk (zat G) (row.take (j+1))=true:=by
 refine emptyB_iff.2 λx hxm=>?_;rw[zcB row j 0 hj] at hxm;rcases List.mem_append.1 hxm with h1 | h1
 ·exact emptyB_iff.1 he x h1
 ·simp only[List.mem_singleton] at h1;rw[h1];exact⟨hx,hn⟩
theorem fb_end(hG:GOk G)(h:FbI G G.prods.length 0 C W)(r:Nat)(m:Int):Uw W C r m↔0<=m/\Fst G r m.toNat:=by
 have up:∀ q i,q<G.prods.length->zrz G.prods.length 0 q i:=λq i hq=>.inl hq;constructor
 ·rintro⟨y,h1,h2⟩
  induction h1 with
  | refl x =>
    obtain⟨q,i,-,hq,rfl,hi,he,hx,rfl⟩:=(h.c _ _).1 h2;have h3:(1:Int)<=(rhs G q).getD i 0:=(hG.py _ (zan hq) _ (zbg hi)).1;exact⟨by omega,.kind _ (zan hq) i hi he hx⟩
  | step x y z hy _ ih =>
    obtain⟨q,i,-,hq,rfl,hi,he,hx,rfl⟩:=(h.w _ _).1 hy;obtain⟨h3,h4⟩:=ih h2;exact⟨h3,.rule _ (zan hq) i hi he hx _ h4⟩
 ·rintro⟨h0,h1⟩;obtain⟨k,rfl⟩:=Int.eq_ofNat_of_zero_le h0;rw[zsS] at h1;clear h0
  induction h1 with
  | kind p hp i hi he hx =>
    obtain⟨q,hq,rfl⟩:=List.getElem_of_mem hp;have e:G.prods[q]=G.prods.getD q pd0:=by rw[zsE,zsF hq];rfl
    rw[e] at hi he hx ⊢;have h3:(1:Int)<=(rhs G q).getD i 0:=(hG.py _ (zan hq) _ (zbg hi)).1;exact⟨_,.refl _,(h.c _ _).2 ⟨q,i,up q i hq,hq,rfl,hi,he,hx,by show (rhs G q).getD i 0=(((rhs G q).getD i 0).toNat:Int);omega⟩⟩
  | rule p hp i hi he hx k _ ih =>
    obtain⟨q,hq,rfl⟩:=List.getElem_of_mem hp;have e:G.prods[q]=G.prods.getD q pd0:=by rw[zsE,zsF hq];rfl
    rw[e] at hi he hx ih ⊢;obtain⟨y,h3,h4⟩:=ih;exact⟨y,.step _ _ _ ((h.w _ _).2 ⟨q,i,up q i hq,hq,rfl,hi,he,hx,rfl⟩) h3,h4⟩
theorem rlN_mem:r ∈ rlN G q↔∃ x,x ∈ (G.prods.getD q pd0).right/\(G.nk:Int)<=x/\(x - G.nk).toNat=r:=by
 unfold rlN zaA;simp only[List.mem_map,List.mem_flatMap];constructor
 ·rintro⟨y,⟨x,hx,hy⟩,rfl⟩
  split at hy
  ·rename_i h;simp at hy;subst hy;exact⟨x,hx,h,rfl⟩
  ·simp at hy
 ·rintro⟨x,hx,h,rfl⟩;exact⟨x - G.nk,⟨x,hx,by rw[if_pos h];simp⟩,rfl⟩
theorem zhR{nk:Nat}:∀ {row:List Int},(zaA nk row).length=row.length↔∀ x,x ∈ row->(nk:Int)<=x
 | []=>by simp[zaA]
 | y::row=>by
   have ih:=zhR (nk:=nk) (row:=row);have hl:=za2 (nk:=nk) row;have e:zaA nk (y::row)=(if (nk:Int)<=y then[y - nk] else[]) ++ zaA nk row:=rfl;rw[e,zsI,List.length_cons];by_cases h:(nk:Int)<=y
   ·rw[if_pos h];constructor
    ·intro h1 x hx;rcases List.mem_cons.1 hx with rfl | hx
     ·exact h
     ·exact ih.1 (by simp at h1;omega) x hx
    ·intro h1;have:=ih.2 (λx hx=>h1 x (by simp[hx]));simp;omega
   ·rw[if_neg h];constructor
    ·intro h1;simp at h1;omega
    ·intro h1;exact absurd (h1 y (by simp)) h
theorem zoZ{lf:Nat->Nat}{c:Nat->Int}(h:0<=stT lf rl el np c r):0<=c r\/∃ q,q<np/\lf q=r/\el q=true/\∀ x,x ∈ rl q->0<=c x:=by
 by_cases h0:0<=c r
 ·exact .inl h0
 ·right;have h1:=(zhl lf _ c r (by omega)).1 h;obtain⟨-,k,hk,e⟩:=zdT lf _ c r h1;rw[List.mem_filter] at hk;have h2:=hk.2;unfold okR at h2;simp only[Bool.and_eq_true] at h2;exact⟨k,List.mem_range.1 hk.1,e,h2.1,λx hx=>by have:=List.all_eq_true.1 h2.2 x hx;unfold fd at this;simpa using this⟩
theorem zl6{lf:Nat->Nat}{c:Nat->Int}(h:stT lf rl el np c=c)(hq:q<np)(he:el q=true)(ha:∀ x,x ∈ rl q->0<=c x):0<=c (lf q):=by
 have h1:=zlO lf ((List.range np).filter (okR rl el c)) c q (by
  rw[List.mem_filter];refine⟨List.mem_range.2 hq,?_⟩;unfold okR;rw[he,Bool.true_and]
  exact List.all_eq_true.2 λx hx=>by unfold fd;simpa using ha x hx)
 have h2:stT lf rl el np c (lf q)=c (lf q):=by rw[h]
 have h3:0<=stT lf rl el np c (lf q):=h1;rw[h2] at h3;exact h3
theorem zo1{lf:Nat->Nat}{rl:Nat->List Nat}{el:Nat->Bool}{np:Nat}:∀ n r,-1<=stN lf rl el np n r
 | 0,r=>by simp[stN]
 | n+1,r=>zm4 _ _ (zo1 n) r
theorem zlj{c:Nat->Int}(hm:∀ q,q<G.prods.length->m0 q=((G.prods.getD q pd0).right.length:Int))
 (hc:c=stN (lfN G) (rlN G) (λq=>decide (m0 q=(rlN G q).length)) G.prods.length n) (hs:stT (lfN G) (rlN G) (λq=>decide (m0 q=(rlN G q).length)) G.prods.length c=c):(λr=>decide (0<=c r))=zat G:=by
 have hel:∀ q,q<G.prods.length->(m0 q=(rlN G q).length↔∀ x,x ∈ (G.prods.getD q pd0).right->(G.nk:Int)<=x):=λq hq=>by
  rw[hm q hq,<- zhR];unfold rlN;rw[List.length_map];omega
 refine zpH ?_ ?_
 ·have key:∀ k r,0<=stN (lfN G) (rlN G) (λq=>decide (m0 q=(rlN G q).length)) G.prods.length k r->Null G r:=by
   intro k
   induction k with
   | zero=>intro r h;simp[stN] at h
   | succ k ih =>
     intro r h;rcases zoZ h with h | ⟨q,hq,rfl,he,ha⟩
     ·exact ih r h
     ·have he:=(hel q hq).1 (of_decide_eq_true he);exact Null.mk _ (zan hq) he (λx hx=>ih _ (ha _ (rlN_mem.2 ⟨x,hx,he x hx,rfl⟩)))
  intro r h;exact key n r (by rw[<- hc];simpa using h)
 ·intro q hq;unfold ziK
  cases hb:zar G.nk (λr=>decide (0<=c r)) (G.prods.getD q pd0).right
  ·simp
  ·have h1:=emptyB_iff.1 hb
   have h2:=zl6 hs hq (decide_eq_true ((hel q hq).2 (λx hx=>(h1 x hx).1))) (λr hr=>by
    obtain⟨x,hx,hx2,rfl⟩:=rlN_mem.1 hr
    simpa using (h1 x hx).2)
   have h3:decide (0<=c (G.prods.getD q pd0).left.toNat)=true:=decide_eq_true h2;show (!decide (0<=c (G.prods.getD q pd0).left.toNat) && true)=false;rw[h3];rfl
theorem znB{c:Nat->Int}(hm:∀ q,q<G.prods.length->m0 q=((rlN G q).length:Int))
 (hc:c=stN (lfN G) (rlN G) (λq=>decide (m0 q=(rlN G q).length)) G.prods.length n) (hs:stT (lfN G) (rlN G) (λq=>decide (m0 q=(rlN G q).length)) G.prods.length c=c):(λr=>decide (0<=c r))=zsl G:=by
 refine zsk ?_ ?_
 ·have key:∀ k r,0<=stN (lfN G) (rlN G) (λq=>decide (m0 q=(rlN G q).length)) G.prods.length k r->Prdv G r:=by
   intro k
   induction k with
   | zero=>intro r h;simp[stN] at h
   | succ k ih =>
     intro r h;rcases zoZ h with h | ⟨q,hq,rfl,he,ha⟩
     ·exact ih r h
     ·exact Prdv.mk _ (zan hq) (λx hx hk=>ih _ (ha _ (rlN_mem.2 ⟨x,hx,hk,rfl⟩)))
  intro r h;exact key n r (by rw[<- hc];simpa using h)
 ·intro q hq;unfold zlc
  cases hb:zjy G.nk (λr=>decide (0<=c r)) (G.prods.getD q pd0).right
  ·simp
  ·have h1:=wholeB_iff.1 hb
   have h2:=zl6 hs hq (decide_eq_true (hm q hq)) (λr hr=>by
    obtain⟨x,hx,hx2,rfl⟩:=rlN_mem.1 hr
    simpa using h1 x hx hx2)
   have h3:decide (0<=c (G.prods.getD q pd0).left.toNat)=true:=decide_eq_true h2;show (!decide (0<=c (G.prods.getD q pd0).left.toNat) && true)=false;rw[h3];rfl
theorem zvl{w:World}(h:w.rowIs b 3 n (λi=>.int .i64 (f i)))(hB:B<=b)(hn:n<=1048576):w.ownsRow B 3 1 (.slice (some ⟨b,0,none⟩) n n) ((List.range n).map f).length (zao ((List.range n).map f)):=by
 obtain⟨cs,h1,h2,h3⟩:=h;have hl:((List.range n).map f).length=n:=by simp
 rw[hl];refine⟨by rw[zbh,hl];omega,.inr ⟨b,n,cs,rfl,hB,h1,zsG _,by unfold maxLen;omega,by omega,?_⟩⟩;refine List.ext_getElem? λj=>?_;by_cases hj:j<n
 ·rw[List.getElem?_take_of_lt (by omega),Array.getElem?_toList,h3 j hj];unfold zao;simp[hj]
 ·rw[List.getElem?_eq_none (by simp;omega),List.getElem?_eq_none (by rw[zbh];simp;omega)]
theorem zjU{w:World}(h:w.rowIs b 3 n (λi=>.int .i64 (f i))):NRow w.heap.size w (some ⟨b,0,none⟩) ((List.range n).map f):=by
 by_cases h0:n=0
 ·subst h0;exact .inl rfl
 ·refine .inr ⟨b,0,rfl,h.lt,λj hj=>?_⟩;have hj':j<n:=by simpa using hj
  rw[Nat.zero_add,h.cell hj'];simp[List.getD_eq_getElem?_getD,hj']
theorem zof(hG:GOk G)(hq:q<G.prods.length):((List.range G.rules.length).flatMap (zeW G)).count q=(rlN G q).length:=by
 rw[zdt];have h1:(List.range G.rules.length).map (λr=>(zeW G r).count q)=(List.range G.rules.length).map (λr=>(rlN G q).count r):=List.map_congr_left λr _=>zhJ hq;rw[h1,zeR _ _ List.nodup_range,List.countP_eq_length.2];intro r hr;obtain⟨x,hx,hk,rfl⟩:=rlN_mem.1 hr;have h:=hG.py _ (zan hq) x hx;have hk':(G.kinds.length:Int)<=x:=hk;have h':x<((G.kinds.length+G.rules.length:Nat):Int):=h.2;refine decide_eq_true (List.mem_range.2 ?_);show (x - (G.kinds.length:Int)).toNat<G.rules.length;omega
theorem zhz(G:Gm)(hG:GOk G)(ka pa ra qa:Option Addr)(kc pc rc qc gb ob ub:Nat)(M:Nat)(w:World)(hM:M<=w.heap.size)(hg:GrAt M w G ka kc pa pc ra rc qa qc gb ob ub) :
 Calls Tryz.prog 158 #[.pointer (some ⟨gb,0,none⟩)] w λe w'=>∃ (b:Nat) (ml:List Int),e=.returned (.slice (some ⟨b,0,none⟩) G.prods.length G.prods.length)/\ml.length=G.prods.length/\(∀ q,q<G.prods.length->atZ ml q=((rlN G q).length:Int))/\w'.ownsRow w.heap.size 3 1 (.slice (some ⟨b,0,none⟩) G.prods.length G.prods.length) ml.length (zao ml)/\Below w.heap.size w w':=by
 have hps:=hG.ps;have hmk:=λw=>run_make_row' (P:=Tryz.prog) 50 3 (.int .i64 0) 8 Tryz.underlying50 zdB rfl .i64 .i64 G.prods.length (by omega) (by omega) w;have c3:w.cell? ⟨gb,3,none⟩=some (.slice qa G.prods.length qc):=by unfold World.cell?;rw[hg.box];rfl
 have c6:w.cell? ⟨gb,6,none⟩=some (.slice (some ⟨ub,0,none⟩) G.rules.length G.rules.length):=by unfold World.cell?;rw[hg.box];rfl
 have hgl:gb<w.heap.size:=by have:=hg.lt;omega
 have Hg:=zaa hg;clear hg;go_enter Tryz.func158,Tryz.ntmps158;have Hz:=zaa (World.rowIs_made w (.int .i64 0) G.prods.length 3);have hr2:=hG.r2;unfold Gm.nr at hr2;go_wp2
 go_loopw [20] (λx W=>∃ i:Nat,x=.int .i64 i/\i<=G.rules.length/\W.rowIs w.heap.size 3 G.prods.length (λq=>.int .i64 (((List.range i).flatMap (zeW G)).count q:Nat))/\Below w.heap.size w W) (λx _=>G.rules.length - (intOf x).toNat)
 case atStart=>exact⟨0,rfl,zsK _,(uh Hz).congr (λq _=>by simp),(zsY _ _).alloc (zsG _) _⟩
 case round =>
  clear Hz c3 c6;obtain⟨i,rfl,hi,hrow,hb⟩:=hrel;have hs:=hb.size;by_cases hlt:i<G.rules.length
  ·have hlt':(i:Int)<G.rules.length:=by omega
   have hgr:=za1 (uh Hg) (zab hb hM);obtain⟨Ou,htu,-⟩:=hgr.uses;obtain⟨xa,xc,tcu,hxn⟩:=zoU htu hlt;rw[zeB] at tcu hxn;rw[zam] at tcu;have hul:=zir hG i
   have Hxn:Hid (∀ W,Below w.heap.size w W->Below w.heap.size wr W->NRow W.heap.size W xa (zag (zeW G i))):=zaa (λW hb1 hb2=>by
    obtain⟨Ou2,⟨V,hV⟩,hOu⟩:=hgr.uses;obtain⟨a1,c1,e1,e2,-,e3⟩:=za6 hV hlt;have hV2:=ze2 hV (O':=λk=>w.heap.size<=k) ⟨hb2.size,λk _ hk=>hb2.block k (by omega),hb2.os,hb2.tape,hb2.output⟩ (λk hk hk2=>by have:=hOu k hk;omega);obtain⟨a2,c2,e4,e5,-,e6⟩:=za6 hV2 hlt;rw[e1] at e4;cases e4;rw[zeB,zam] at e2;rw[zeB] at e6;rw[tcu] at e2;cases e2
    exact e6)
   have hPl:((List.range i).flatMap (zeW G)).length<=i * 262144:=by
    have h:=zhi hG (List.range G.rules.length) i (by simp;omega);have e:(List.range G.rules.length).take i=List.range i:=by rw[List.take_range];congr 1;omega
    unfold zbX at h;rw[e] at h;exact h
   have hPs:(List.range (i+1)).flatMap (zeW G)=(List.range i).flatMap (zeW G) ++ zeW G i:=by rw[List.range_succ,List.flatMap_append];simp
   have hux:∀ q,q ∈ zeW G i->q<G.prods.length:=λq hq=>zgC hq;have HPs:=zaa hPs;have Hux:=zaa hux;have Hb:=zaa hb;have Hrow:=zaa hrow;generalize (List.range i).flatMap (zeW G)=P at *;generalize zeW G i=L at *;clear hgr htu hxn hPs hux hrow hb;go_wp2
   go_loopw [26] (λx W=>∃ j:Nat,x=.int .i64 j/\j<=L.length/\W.rowIs w.heap.size 3 G.prods.length (λq=>.int .i64 ((P ++ L.take j).count q:Nat))/\Below w.heap.size w W/\Below w.heap.size wr W) (λx _=>L.length - (intOf x).toNat)
   case atStart=>exact⟨0,rfl,zsK _,by simpa using uh Hrow,uh Hb,zsY _ _⟩
   case round =>
    clear tcu;obtain⟨j,rfl,hj,hrow,hb,hb2⟩:=hrel;have hnx:=uh Hxn wr hb hb2;by_cases hjl:j<L.length
    ·have hjl':(j:Int)<L.length:=by omega
     obtain⟨xb,xo,rfl,hxb,hcx⟩:=zbf hnx (k:=j) (by rw[zam];exact hjl);rw[zbV hjl] at hcx;have hq:=uh Hux _ (zfl hjl);have HTs:=zaa (zd7 L j hjl);generalize L.getD j 0=q at *;have hq':(q:Int)<G.prods.length:=by omega
     have hcell:=hrow.cell hq;have hfz:=hrow.frozen q;have hcl:(P ++ L.take j).count q<=2048 * 262144+262144:=by
      have h1:(P ++ L.take j).count q<=(P ++ L.take j).length:=List.count_le_length;rw[zsI,zsV] at h1;omega
     have Hr2:=zaa (show (wr.setCell ⟨w.heap.size,q,none⟩ (.int .i64 (((P ++ L.take j).count q:Nat)+1))).rowIs w.heap.size 3 G.prods.length (λq=>.int .i64 ((P ++ L.take (j+1)).count q:Nat)) from(hrow.set q _).congr (λr _=>by
      rw[uh HTs,<- List.append_assoc,List.count_append (l₁:=P ++ L.take j)];by_cases e:r=q
      ·subst e;rw[if_pos rfl];simp
      ·rw[if_neg e];have:List.count r [q]=0:=by rw[List.count_eq_zero];simp;omega
       rw[this];rfl))
     have Hb3:=zaa (And.intro (hb.setCell (p:=⟨w.heap.size,q,none⟩) (zsG _) (.int .i64 (((P ++ L.take j).count q:Nat)+1))) (hb2.setCell (p:=⟨w.heap.size,q,none⟩) (zsG _) (.int .i64 (((P ++ L.take j).count q:Nat)+1))));generalize (P ++ L.take j).count q=K at *;have hwk:IntKind.i64.wrap ((K:Int)+1)=K+1:=by rw[IntKind.wrap_i64];omega
     clear hrow hb hb2 hnx;go_wp2;go_roundw
     case rel=>exact⟨j+1,by go_num,by omega,uh Hr2,(uh Hb3).1,(uh Hb3).2⟩
     case measure=>simp[intOf];omega
    ·obtain rfl:j=L.length:=by omega
     have Hr2:=zaa (show wr.rowIs w.heap.size 3 G.prods.length (λq=>.int .i64 (((List.range (i+1)).flatMap (zeW G)).count q:Nat)) by rw[uh HPs];rw[zsN] at hrow;exact hrow);have Hb3:=zaa hb;clear hrow hb hb2 hnx;go_wp2;go_roundw
     case rel=>exact⟨i+1,by go_num,by omega,uh Hr2,uh Hb3⟩
     case measure=>simp[intOf];omega
  ·obtain rfl:i=G.rules.length:=by omega
   have hfin:=zvl (B:=w.heap.size) hrow (zsG _) (by omega);have Hfin:=zaa hfin;have Hb:=zaa hb;clear hrow hb hfin;go_wp2;go_ret;refine⟨w.heap.size,_,rfl,by simp,λq hq=>?_,uh Hfin,uh Hb⟩;unfold atZ;rw[zsE,List.getElem?_map,List.getElem?_range hq];show ((((List.range G.rules.length).flatMap (zeW G)).count q:Nat):Int)=_;rw[zof hG hq]
theorem zeL(G:Gm)(hG:GOk G)(ka pa ra qa:Option Addr)(kc pc rc qc gb ob ub:Nat)(M:Nat)(w:World)(hM:M<=w.heap.size)(hg:GrAt M w G ka kc pa pc ra rc qa qc gb ob ub) :
 Calls Tryz.prog 109 #[.pointer (some ⟨gb,0,none⟩)] w λe w'=>∃ b:Nat,e=.returned (.slice (some ⟨b,0,none⟩) G.rules.length G.rules.length)/\w'.rowIs b 4 G.rules.length (λr=>.bool (zsl G r))/\w.heap.size<=b/\Below w.heap.size w w':=by
 have HR:=zaa (zhz G hG ka pa ra qa kc pc rc qc gb ob ub M w hM hg);have hr2:=hG.r2;unfold Gm.nr at hr2;go_enter Tryz.func109,Tryz.ntmps109;go_wp2_with fail;refine(uh HR).mono ?_;rintro e w2 ⟨mb,ml,rfl,hml,hmv,hown,hb2⟩;have hs2:=hb2.size;have hrl:∀ q,q<G.prods.length->(rlN G q).length<=64:=λq hq=>by
  unfold rlN;rw[List.length_map];have h4:=za2 (nk:=G.nk) (G.prods.getD q pd0).right;have h5:=hG.pr _ (zan hq);omega
 have HRo:=zaa (zhT G hG ka pa ra qa kc pc rc qc gb ob ub M (.slice (some ⟨mb,0,none⟩) G.prods.length G.prods.length) ml hml (λq hq=>.inl (hmv q hq)) (λq=>by
  by_cases hq:q<G.prods.length
  ·rw[hmv q hq];have:=hrl q hq;omega
  ·have:atZ ml q=0:=by unfold atZ;rw[zsE,List.getElem?_eq_none (by omega)];rfl
   omega) w2 (by omega) (za1 hg (zab hb2 hM)) (zaR hown hM))
 have Hmv:=zaa hmv;have hmb:w.heap.size<=mb:=(hown.lt mb rfl).1;have Hb2:=zaa hb2;clear hmv hown hg hb2 hml hrl HR;go_wp2_with fail;refine(uh HRo).mono ?_;rintro e w3 ⟨b3,n,c,rfl,hrow3,hc,hs,hbl,hfr3⟩;have hb3:Below w.heap.size w w3:=(uh Hb2).trans (zau hfr3 hs2 (λk hk=>by simp[Value.ownBlock] at hk;omega));have hs3:=hb3.size;have hll:((List.range G.rules.length).map c).length=G.rules.length:=by simp
 have HF:=zaa (zga (some ⟨b3,0,none⟩) G.rules.length ((List.range G.rules.length).map c) (by rw[hll];omega) w3 (zjU hrow3));rw[hll] at HF;have Hpr:=zaa (znB (uh Hmv) hc hs);have hcl:∀ r,-1<=c r:=λr=>by rw[hc];exact zo1 n r
 have Hcl:=zaa hcl;have Hb3:=zaa hb3;clear hrow3 hc hs hfr3 hb3 hcl HRo;go_wp2_with fail;refine(uh HF).mono ?_;rintro e w4 ⟨b4,rfl,hrow4,hbl4,hb4⟩;have Hb4:=zaa ((uh Hb3).trans (zab hb4 hs3));have Hrow4:=zaa hrow4;clear hrow4 hb4;go_wp2;go_ret;refine⟨b4,rfl,(uh Hrow4).congr (λr hr=>?_),by omega,uh Hb4⟩;rw[<- uh Hpr];unfold fdM;have e1:((List.range G.rules.length).map c).getD r 0=c r:=by rw[zsE,List.getElem?_map,List.getElem?_range hr];rfl
 rw[e1]
 congr 1
 rw[decide_eq_decide];have:=uh Hcl r;omega
def zcd(G:Gm)(k:Nat):List Int:=(List.range k).map λq=>((G.prods.getD q pd0).right.length:Int)
theorem zlr(G:Gm)(k:Nat):zcd G (k+1)=zcd G k ++ [((G.prods.getD k pd0).right.length:Int)]:=by unfold zcd;rw[List.range_succ,List.map_append];rfl
theorem zfN(G:Gm)(k:Nat):(zcd G k).length=k:=by simp[zcd]
theorem zfH(G:Gm)(hG:GOk G)(ka pa ra qa:Option Addr)(kc pc rc qc gb ob ub:Nat)(M:Nat)(w:World)(hM:M<=w.heap.size)(hg:GrAt M w G ka kc pa pc ra rc qa qc gb ob ub) :
 Calls Tryz.prog 147 #[.pointer (some ⟨gb,0,none⟩)] w λe w'=>∃ b:Nat,e=.returned (.slice (some ⟨b,0,none⟩) G.rules.length G.rules.length)/\w'.rowIs b 4 G.rules.length (λr=>.bool (zat G r))/\w.heap.size<=b/\Below w.heap.size w w':=by
 obtain⟨i3,hi3,hz30,hz31,hz32⟩:=zah zdB;have hr2:=hG.r2;unfold Gm.nr at hr2;have hps:=hG.ps;have c3:w.cell? ⟨gb,3,none⟩=some (.slice qa G.prods.length qc):=by unfold World.cell?;rw[hg.box];rfl
 have hgl:gb<w.heap.size:=by have:=hg.lt;omega
 have Hg:=zaa hg;clear hg;go_enter Tryz.func147,Tryz.ntmps147;go_wp2
 go_loopw [3,12] (λu x W=>∃ k:Nat,x=.int .i64 k/\k<=G.prods.length/\W.ownsRow w.heap.size 3 1 u (zcd G k).length (zao (zcd G k))/\Below w.heap.size w W) (λ_ x _=>G.prods.length - (intOf x).toNat)
 case atStart=>exact⟨0,rfl,zsK _,World.ownsRow_nil _ _ _ _,zsY _ _⟩
 case round =>
  clear c3;obtain⟨k,rfl,hk,hown,hb⟩:=hrel;obtain⟨ua,uc,rfl⟩:=zaf hown;have hsz:=hb.size;have hll:=zfN G k;have hgr:=za1 (uh Hg) (zab hb hM);have Hown:=zaa hown;have Hb:=zaa hb;clear hown hb;by_cases hlt:k<G.prods.length
  ·have hlt':(k:Int)<G.prods.length:=by omega
   obtain⟨b,off,rfl,hbB,rr,rrc,x3,x4,x5,x6,n6,c6,-,-,q0,q1,q2,q3,q4,q5,q6⟩:=zdm hgr.gin.prods hlt;have Hs:=zaa (zlr G k);have Hll:=zaa hll;generalize G.prods.getD k pd0=p at *;obtain⟨pl,prt,plv,pac⟩:=p;simp only at q0 q1 q2 Hs;have hacc:(zcd G k).length<=4096:=by omega
   generalize zcd G k=acc at *;clear hgr hll;go_wp2_with (at_builtin;refine wpList_append_own _ rfl _ _ 50 rfl w.heap.size 3 i3 (.int .i64 0) 1 8 Tryz.underlying50 hi3 hz30 hz31 hz32 rfl (by decide) _ _ _ rfl (((uh Hown).alloc _).alloc _) ⟨wr.heap.size+1,0,none⟩ 1 1 [.int .i64 (prt.length:Int)] rfl rfl ?zc1 ?zc2 ?zc3 ?zc4 ?zc5 ?_)
   case zc1=>intro j u hu;have h:=zpR (wr.alloc (.cells #[.int .i64 pl,.slice rr prt.length rrc,.int .i64 plv,.int .i64 x3,.int .i64 x4,.string x5,.slice x6 n6 c6] 116)) (.int .i64 (prt.length:Int)) 3 j u hu;simpa using h
   case zc2=>intro u hu;simp at hu;rcases hu with rfl;rfl
   case zc3=>unfold maxLen;omega
   case zc4=>omega
   case zc5=>simp;omega
   intro v' W3 hown' hgrow _;have Hb4:=zaa ((((uh Hb).alloc hsz _).alloc (by simp;omega) _).grown hgrow (by simp;omega) (λj hj=>((uh Hown).lt j hj).1));have Ho4:=zaa (show W3.ownsRow w.heap.size 3 1 v' (zcd G (k+1)).length (zao (zcd G (k+1))) by rw[uh Hs,<- zaY,zsI];exact hown');clear hown' hgrow;go_wp2;go_roundw
   case rel=>exact⟨k+1,by go_num,by omega,uh Ho4,uh Hb4⟩
   case measure=>simp[intOf];omega
  ·obtain rfl:k=G.prods.length:=by omega
   have hmv:∀ q,q<G.prods.length->atZ (zcd G G.prods.length) q=((G.prods.getD q pd0).right.length:Int):=λq hq=>by
    unfold atZ zcd;rw[zsE,List.getElem?_map,List.getElem?_range hq];rfl
   have HRo:=zaa (zhT G hG ka pa ra qa kc pc rc qc gb ob ub M (.slice ua (zcd G G.prods.length).length uc) (zcd G G.prods.length) (zfN G _) (λq hq=>by
    rw[hmv q hq];have h4:=za2 (nk:=G.nk) (G.prods.getD q pd0).right;have h5:(rlN G q).length=(zaA G.nk (G.prods.getD q pd0).right).length:=by unfold rlN;rw[List.length_map]
    omega) (λq=>by
    by_cases hq:q<G.prods.length
    ·rw[hmv q hq];have:=hG.pr _ (zan hq);omega
    ·have:atZ (zcd G G.prods.length) q=0:=by unfold atZ;rw[zsE,List.getElem?_eq_none (by rw[zfN];omega)];rfl
     omega) wr (by omega) hgr (zaR (uh Hown) hM))
   have Hmv:=zaa hmv;have hmb:∀ j,(Value.slice ua (zcd G G.prods.length).length uc).ownBlock=some j->w.heap.size<=j:=λj hj=>((uh Hown).lt j hj).1;rw[hll] at HRo hmb ⊢;clear hmv hgr;go_wp2_with fail;refine(uh HRo).mono ?_;rintro e w3 ⟨b3,n,c,rfl,hrow3,hc,hs,hbl,hfr3⟩;have hb3:Below w.heap.size w w3:=(uh Hb).trans (zau hfr3 hsz hmb);have hs3:=hb3.size;have hll3:((List.range G.rules.length).map c).length=G.rules.length:=by simp
   have HF:=zaa (zga (some ⟨b3,0,none⟩) G.rules.length ((List.range G.rules.length).map c) (by rw[hll3];omega) w3 (zjU hrow3));rw[hll3] at HF;have Hpr:=zaa (zlj (uh Hmv) hc hs);have hcl:∀ r,-1<=c r:=λr=>by rw[hc];exact zo1 n r
   have Hcl:=zaa hcl;have Hb3:=zaa hb3;clear hrow3 hc hs hfr3 hb3 hcl HRo;go_wp2_with fail;refine(uh HF).mono ?_;rintro e w4 ⟨b4,rfl,hrow4,hbl4,hb4⟩;have Hb4:=zaa ((uh Hb3).trans (zab hb4 hs3));have Hrow4:=zaa hrow4;clear hrow4 hb4;go_wp2;go_ret;refine⟨b4,rfl,(uh Hrow4).congr (λr hr=>?_),by omega,uh Hb4⟩;rw[<- uh Hpr];unfold fdM;have e1:((List.range G.rules.length).map c).getD r 0=c r:=by rw[zsE,List.getElem?_map,List.getElem?_range hr];rfl
   rw[e1]
   congr 1
   rw[decide_eq_decide];have:=uh Hcl r;omega
def zfa(G:Gm)(ok:Nat->Bool)(l:List Nat):List Int:=l.flatMap λq=>if ok q then zaA G.nk (G.prods.getD q pd0).right else[]
def zdx(G:Gm)(r:Nat):List Nat:=(List.range G.prods.length).filter λi=>decide ((G.prods.getD i pd0).left.toNat=r)
theorem zvI(G:Gm)(r:Nat):zbF G G.prods.length r=zag (zdx G r):=rfl
theorem zpD(G:Gm)(ok:Nat->Bool)(l:List Nat)(k:Nat)(h:k<l.length):zfa G ok (l.take (k+1))=zfa G ok (l.take k) ++ (if ok (l.getD k 0) then zaA G.nk (G.prods.getD (l.getD k 0) pd0).right else[]):=by
 unfold zfa;have e:l.take (k+1)=l.take k ++ [l.getD k 0]:=by rw[zsU,zsE,zsF h];rfl
 rw[e,List.flatMap_append];simp
theorem zmx(G:Gm)(hG:GOk G)(ok:Nat->Bool)(l:List Nat)(hl:∀ q,q ∈ l->q<G.prods.length):(zfa G ok l).length<=64 * l.length:=by
 induction l with
 | nil=>simp[zfa]
 | cons q l ih =>
   have h1:=ih (λx hx=>hl x (List.mem_cons_of_mem _ hx));have h2:=hG.pr _ (zan (hl q List.mem_cons_self));have h3:=za2 (nk:=G.nk) (G.prods.getD q pd0).right;have e:zfa G ok (q::l)=(if ok q then zaA G.nk (G.prods.getD q pd0).right else[]) ++ zfa G ok l:=by simp[zfa]
   rw[e,zsI,List.length_cons];by_cases hq:ok q=true
   ·rw[if_pos hq];omega
   ·rw[if_neg hq];simp;omega
theorem ziG(h:q ∈ zdx G r):q<G.prods.length:=by unfold zdx at h;simp at h;exact h.1
theorem zms(G:Gm)(r:Nat):(zdx G r).length<=G.prods.length:=by unfold zdx;have:=List.length_filter_le (λi=>decide ((G.prods.getD i pd0).left.toNat=r)) (List.range G.prods.length);simpa using this
theorem zs4(G:Gm)(hG:GOk G)(ka pa ra qa:Option Addr)(kc pc rc qc gb ob ub:Nat)(M:Nat)(F:Nat)(cap:Array Value)(ok:Nat->Bool)(hcf:∀ args W,Sem.run Tryz.prog (callFunc F args) W=.ok (.enter F args) W)(r:Nat)(hr:r<G.rules.length)(w:World)(hM:M<=w.heap.size)(hg:GrAt M w G ka kc pa pc ra rc qa qc gb ob ub)
 (hF:∀ W q,q<G.prods.length->Below w.heap.size w W->Calls Tryz.prog F (#[.int .i64 (q:Nat)] ++ cap) W λe W'=>e=.returned (.bool (ok q))/\Below W.heap.size W W') :
 Calls Tryz.prog 155 #[.pointer (some ⟨gb,0,none⟩),.int .i64 (r:Int),.func (.func F) #[] cap] w λe w'=>∃ v,e=.returned v/\w'.ownsRow w.heap.size 3 1 v (zfa G ok (zdx G r)).length (zao (zfa G ok (zdx G r)))/\Below w.heap.size w w':=by
 obtain⟨i3,hi3,hz30,hz31,hz32⟩:=zah zdB;have hps:=hG.ps;have hr2:=hG.r2;unfold Gm.nr at hr2;have c5:w.cell? ⟨gb,5,none⟩=some (.slice (some ⟨ob,0,none⟩) G.rules.length G.rules.length):=by unfold World.cell?;rw[hg.box];rfl
 obtain⟨Oo,hto,-⟩:=hg.own;obtain⟨xa,xc,tco,hxn⟩:=zoU hto hr;rw[zvI] at tco hxn;rw[zam] at tco;have hr':(r:Int)<G.rules.length:=by omega
 have Hg:=zaa hg;have HF:=zaa hF;clear hg hF;go_enter Tryz.func155,Tryz.ntmps155;go_wp2
 go_loopw [7,18] (λu x W=>∃ k:Nat,x=.int .i64 k/\k<=(zdx G r).length/\W.ownsRow w.heap.size 3 1 u (zfa G ok ((zdx G r).take k)).length (zao (zfa G ok ((zdx G r).take k)))/\Below w.heap.size w W) (λ_ x _=>(zdx G r).length - (intOf x).toNat)
 case atStart=>exact⟨0,rfl,zsK _,World.ownsRow_nil _ _ _ _,zsY _ _⟩
 case round =>
  obtain⟨k,rfl,hk,hown,hb⟩:=hrel;obtain⟨ua,uc,rfl⟩:=zaf hown;have hsz:=hb.size;have hgr:=za1 (uh Hg) (zab hb hM);have hlen:=zmx G hG ok ((zdx G r).take k) (λq hq=>ziG (List.mem_of_mem_take hq));have hon:=zms G r;rw[zsV] at hlen;by_cases hlt:k<(zdx G r).length
  ·have hlt':(k:Int)<(zdx G r).length:=by omega
   have hq:=ziG (G:=G) (r:=r) (show (zdx G r).getD k 0 ∈ zdx G r by rw[zsE,zsF hlt];exact List.getElem_mem hlt);have hxr:=zfJ hxn hb;obtain⟨xb,xo,rfl,hxb,hxe⟩:=zbf hxr (k:=k) (by rw[zam];exact hlt);rw[zbV hlt] at hxe;have Hs:=zaa (zpD G ok (zdx G r) k hlt);have HC:=zaa ((uh HF) wr ((zdx G r).getD k 0) hq hb);have hacc:(zfa G ok ((zdx G r).take k)).length<=262144:=by omega
   have Hown:=zaa hown;have Hb:=zaa hb;have Hgr:=zaa hgr;generalize (zdx G r).getD k 0=q at *;generalize zfa G ok ((zdx G r).take k)=acc at *;clear hxr hxn tco hto hown hb hgr hlen;go_wp2_with fail;refine(uh HC).mono ?_;rintro e w2 ⟨rfl,hb2⟩;have hs2:=hb2.size;have hown2:=zaW (uh Hown) hb2;have hbb:=(uh Hb).trans (zab hb2 hsz);by_cases hk2:ok q=true
   · rw [hk2];have hgr2:=za1 (uh Hgr) (zab hb2 (by omega));obtain⟨pb,off,rfl,hbB,rr,rrc,x3,x4,x5,x6,n6,c6,hrr,-,q0,q1,q2,q3,q4,q5,q6⟩:=zdm hgr2.gin.prods hq;have hgb:gb<w2.heap.size:=by have:=hgr2.lt;omega
     have c0:w2.cell? ⟨gb,0,none⟩=some (.slice ka G.kinds.length kc):=by unfold World.cell?;rw[hgr2.box];rfl
     have c3:w2.cell? ⟨gb,3,none⟩=some (.slice (some ⟨pb,off,none⟩) G.prods.length qc):=by unfold World.cell?;rw[hgr2.box];rfl
     have hq':(q:Int)<G.prods.length:=by omega
     have hpr:=hG.pr _ (zan hq);have hpy:=hG.py _ (zan hq);have hrl:=za2 (nk:=G.nk) (G.prods.getD q pd0).right;rw[hk2,if_pos rfl] at Hs;generalize G.prods.getD q pd0=p at *;obtain⟨pl,prt,plv,pac⟩:=p;simp only at q0 q1 q2 Hs hpr hpy hrl hrr;have Hown2:=zaa hown2;have Hbb:=zaa hbb;have hb0:pb<w2.heap.size:=by omega
     have Hrl:=zaa (zdk gb G.kinds.length ka kc hG.k3 rr rrc prt (by omega) (λx hx=>by have:=hpy x hx;have:=hG.k3;have:=hG.r2;unfold Gm.nk Gm.nr at *;omega) w2 c0 hgb (zeg (by omega) hrr));clear hgr2 hrr hown2 hbb hpy;go_wp2_with fail;refine(uh Hrl).mono ?_;rintro e w5 ⟨v5,rfl,how5,hb5⟩;have hs5:=hb5.size;have ho5:=zaW (uh Hown2) hb5;have hbb5:=(uh Hbb).trans (zab hb5 (by omega));obtain⟨va,vc,rfl⟩:=zaf how5;obtain⟨_,_,he5,hn5⟩:=zb4 how5
     cases he5
     have Ho5:=zaa ho5;have Hbb5:=zaa hbb5;have hrl':(zaA G.kinds.length prt).length<=64:=by unfold Gm.nk at hrl;omega
     rcases hn5 with h | ⟨b5,o5,rfl,h2,h3⟩
     · have Ho3:=zaa (show w5.ownsRow w.heap.size 3 1 (.slice ua acc.length uc) (zfa G ok ((zdx G r).take (k+1))).length (zao (zfa G ok ((zdx G r).take (k+1)))) by rw[uh Hs,show zaA G.nk prt=[] from h];simpa using ho5);rw[h] at how5 ⊢;clear ho5 hbb5;rcases how5.2 with ⟨h1,-⟩ | ⟨g5,cap5,x5',h1,h2⟩
       · cases h1
         go_wp2_with (at_builtin;refine wpList_append_own_none rfl _ _ 50 rfl w.heap.size 3 i3 1 Tryz.underlying50 hi3 _ _ _ rfl (uh Ho3) rfl ?_);go_wp2;go_roundw
         case rel=>exact⟨k+1,by go_num,by omega,uh Ho3,uh Hbb5⟩
         case measure=>simp[intOf];omega
       · cases h1
         go_wp2_with (at_builtin;refine wpList_append_own _ rfl _ _ 50 rfl w.heap.size 3 i3 (.int .i64 0) 1 8 Tryz.underlying50 hi3 hz30 hz31 hz32 rfl (by decide) _ _ _ rfl (uh Ho5) ⟨g5,0,none⟩ 0 _ [] rfl rfl (by simp) (by simp) (by unfold maxLen;omega) (by omega) (by omega) ?_);intro v' W3 hown' hgrow _;have Hb3:=zaa ((uh Hbb5).grown hgrow (by omega) (λj hj=>((uh Ho5).lt j hj).1));have Ho3':=zaa (show W3.ownsRow w.heap.size 3 1 v' (zfa G ok ((zdx G r).take (k+1))).length (zao (zfa G ok ((zdx G r).take (k+1)))) by rw[uh Hs,show zaA G.nk prt=[] from h];simpa using hown');clear hown' hgrow;go_wp2;go_roundw
         case rel=>exact⟨k+1,by go_num,by omega,uh Ho3',uh Hb3⟩
         case measure=>simp[intOf];omega
     · have Hnw:=zaa (show ∀ j u,(zao (zaA G.kinds.length prt))[j]? = some u->w5.cell? (Addr.add ⟨b5,o5,none⟩ j)=some u by
         intro j u hu;unfold zao at hu;rw[List.getElem?_map] at hu;obtain⟨x,hx,rfl⟩:=Option.map_eq_some_iff.1 hu;have hj:=(zsP.1 hx).1;rw[show Addr.add ⟨b5,o5,none⟩ j=⟨b5,o5+j,none⟩ by cases j <;> simp[Addr.add],h3 j hj,zsE,hx]
         rfl)
       clear h3 how5 ho5 hbb5;generalize zaA G.kinds.length prt=rl at *;go_wp2_with (at_builtin;refine wpList_append_own _ rfl _ _ 50 rfl w.heap.size 3 i3 (.int .i64 0) 1 8 Tryz.underlying50 hi3 hz30 hz31 hz32 rfl (by decide) _ _ _ rfl (uh Ho5) ⟨b5,o5,none⟩ rl.length vc (zao rl) rfl (by rw[zbh,Nat.mul_one]) (uh Hnw) (zjz _) (by unfold maxLen;omega) (by omega) (by omega) ?_);intro v' W3 hown' hgrow _;have Hb3:=zaa ((uh Hbb5).grown hgrow (by omega) (λj hj=>((uh Ho5).lt j hj).1));have Ho3:=zaa (show W3.ownsRow w.heap.size 3 1 v' (zfa G ok ((zdx G r).take (k+1))).length (zao (zfa G ok ((zdx G r).take (k+1)))) by rw[uh Hs,zsI,zjA];exact hown');clear hown' hgrow;go_wp2;go_roundw
       case rel=>exact⟨k+1,by go_num,by omega,uh Ho3,uh Hb3⟩
       case measure=>simp[intOf];omega
   · have hk3:ok q=false:=by simpa using hk2
     rw[hk3];rw[hk3] at Hs;have Ho3:=zaa (show w2.ownsRow w.heap.size 3 1 (.slice ua acc.length uc) (zfa G ok ((zdx G r).take (k+1))).length (zao (zfa G ok ((zdx G r).take (k+1)))) by rw[uh Hs];simpa using hown2);have Hb3:=zaa hbb;clear hown2 hbb;go_wp2;go_roundw
     case rel=>exact⟨k+1,by go_num,by omega,uh Ho3,uh Hb3⟩
     case measure=>simp[intOf];omega
  ·obtain rfl:k=(zdx G r).length:=by omega
   rw[List.take_of_length_le (zsG _)] at hown ⊢;have Hown:=zaa hown;have Hb:=zaa hb;clear hown hb hgr hxn tco;go_wp2;go_ret;exact⟨_,rfl,uh Hown,uh Hb⟩
theorem rulesL_mem{nk:Nat}:y ∈ zaA nk row↔∃ x,x ∈ row/\(nk:Int)<=x/\y=x - nk:=by
 unfold zaA;rw[List.mem_flatMap];constructor
 ·rintro⟨x,h1,h2⟩
  split at h2
  ·rename_i h;simp at h2;exact⟨x,h1,by first | omega | (simp at h;omega),h2⟩
  ·simp at h2
 ·rintro⟨x,h1,h2,rfl⟩;exact⟨x,h1,by rw[if_pos (by first | omega | (simp;omega))];simp⟩
theorem nxtL_mem:y ∈ zfa G ok (zdx G r)↔∃ q,q<G.prods.length/\(G.prods.getD q pd0).left.toNat=r/\ok q=true/\y ∈ zaA G.nk (G.prods.getD q pd0).right:=by
 unfold zfa zdx;rw[List.mem_flatMap];constructor
 ·rintro⟨q,h1,h2⟩;simp only[List.mem_filter,List.mem_range,decide_eq_true_eq] at h1
  split at h2
  ·rename_i h;exact⟨q,h1.1,h1.2,h,h2⟩
  ·simp at h2
 ·rintro⟨q,h1,h2,h3,h4⟩;exact⟨q,by simp only[List.mem_filter,List.mem_range,decide_eq_true_eq];exact⟨h1,h2⟩,by rw[if_pos h3];exact h4⟩
structure RcI (G:Gm) (ok:Nat->Bool) (okP:Pd->Bool) (fs:List Nat) (a:Nat):Prop where
 nd:fs.Nodup
 lt:∀ x,x ∈ fs->x<G.rules.length
 st:G.start.toNat ∈ fs
 snd:∀ x,x ∈ fs->Rchd G okP x
 le:a<=fs.length
 shut:∀ j,j<a->∀ y,y ∈ zfa G ok (zdx G (fs.getD j 0))->y.toNat ∈ fs
theorem ztC{l:List Nat}{y:Nat}(h:j<l.length):(l ++ [y]).getD j 0=l.getD j 0:=by
 rw[zsE,List.getElem?_append_left h,<- zsE]
theorem zsc(hG:GOk G)(ok:Nat->Bool)(okP:Pd->Bool):RcI G ok okP [G.start.toNat] 0:=by
 have h0:=hG.s0;have h1:=hG.s1;unfold Gm.nr at h1;exact⟨by simp,λx hx=>by simp at hx;subst hx;omega,by simp,λx hx=>by simp at hx;subst hx;exact .start,zsK _,λj hj=>by omega⟩
theorem zvo{y:Nat}(h:RcI G ok okP fs a)(hy:y<G.rules.length)(hr:Rchd G okP y)(hn:y ∉ fs):RcI G ok okP (fs ++ [y]) a:=by
 refine⟨?_,λx hx=>?_,List.mem_append_left _ h.st,λx hx=>?_,by have:=h.le;simp;omega,λj hj z hz=>?_⟩
 ·rw[List.nodup_append];exact⟨h.nd,by simp,λx hx z hz=>by simp at hz;subst hz;intro e;subst e;exact hn hx⟩
 ·rcases List.mem_append.1 hx with h1 | h1
  ·exact h.lt x h1
  ·simp at h1;subst h1;exact hy
 ·rcases List.mem_append.1 hx with h1 | h1
  ·exact h.snd x h1
  ·simp at h1;subst h1;exact hr
 ·rw[ztC (by have:=h.le;omega)] at hz;exact List.mem_append_left _ (h.shut j hj z hz)
theorem zvp(h:RcI G ok okP fs a)(ha:a<fs.length)(hs:∀ y,y ∈ zfa G ok (zdx G (fs.getD a 0))->y.toNat ∈ fs):RcI G ok okP fs (a+1) :=
 ⟨h.nd,h.lt,h.st,h.snd,ha,λj hj y hy=>by
  by_cases e:j=a
  ·subst e;exact hs y hy
  ·exact h.shut j (by omega) y hy⟩
theorem zsd(hok:∀ q,q<G.prods.length->ok q=okP (G.prods.getD q pd0))(hG:GOk G)(hr:Rchd G okP r)(hy:y ∈ zfa G ok (zdx G r)):Rchd G okP y.toNat/\0<=y/\y.toNat<G.rules.length:=by
 obtain⟨q,h1,h2,h3,h4⟩:=nxtL_mem.1 hy;obtain⟨x,h5,h6,rfl⟩:=rulesL_mem.1 h4;have h7:=hG.py _ (zan h1) x h5;unfold Gm.nr at h7;refine⟨.step (G.prods.getD q pd0) (zan h1) (by rw[<- hok q h1];exact h3) (by rw[h2];exact hr) x h5 h6,by omega,by omega⟩
theorem zuv(h:RcI G ok okP fs a):fs.length<=G.rules.length:=by
 have:=Wk.nodup_bound G.rules.length (zag fs) (by
  unfold zag
  refine List.Pairwise.map (R:=(·≠·)) _ (λa b hab e=>hab (by omega)) h.nd) (λx hx=>by
  obtain⟨y,hy,rfl⟩:=castL_mem.1 hx;have:=h.lt y hy
  omega)
 rwa [zam] at this
theorem rc_end(hok:∀ q,q<G.prods.length->ok q=okP (G.prods.getD q pd0))(h:RcI G ok okP fs fs.length):(λr=>decide (r ∈ fs))=zxB G okP:=by
 refine zsb ⟨by simpa using h.st,λr hr=>h.snd r (by simpa using hr)⟩ (λi hi hl ho x hx hk=>?_);simp only[decide_eq_true_eq] at hl ⊢;obtain⟨j,hj,e⟩:=List.getElem_of_mem hl;have:=h.shut j hj (x - G.nk) (nxtL_mem.2 ⟨i,hi,by rw[show fs.getD j 0=fs[j] by rw[zsE,zsF hj];rfl];exact e.symm,by rw[hok i hi];exact ho,rulesL_mem.2 ⟨x,hx,hk,rfl⟩⟩);exact this
structure RhI (G:Gm) (ok:Nat->Bool) (okP:Pd->Bool) (w:World) (bb lb base:Nat) (fs:List Nat) (a m g cap:Nat) (W:World):Prop where
 mrk:W.rowIs bb 4 G.rules.length (λr=>.bool (decide (r ∈ fs.take m)))
 lf:zez W lb G.rules.length (λi=>decide (i<G.rules.length) && !decide (i ∈ fs))
 fd:W.ownsRow base 3 1 (.slice (some ⟨g,0,none⟩) (zag fs).length cap) (zag fs).length (zao (zag fs))
 rc:RcI G ok okP fs a
 bl:Below w.heap.size w W
 le:base<=W.heap.size
theorem zlb(G:Gm)(hG:GOk G)(ka pa ra qa:Option Addr)(kc pc rc qc gb ob ub:Nat)(M:Nat)(F:Nat)(cap:Array Value)(ok:Nat->Bool)(okP:Pd->Bool)(hok:∀ q,q<G.prods.length->ok q=okP (G.prods.getD q pd0))(hcf:∀ args W,Sem.run Tryz.prog (callFunc F args) W=.ok (.enter F args) W)(w:World)(hM:M<=w.heap.size)(hg:GrAt M w G ka kc pa pc ra rc qa qc gb ob ub)
 (hF:∀ W q,q<G.prods.length->Below w.heap.size w W->Calls Tryz.prog F (#[.int .i64 (q:Nat)] ++ cap) W λe W'=>e=.returned (.bool (ok q))/\Below W.heap.size W W') :
 Calls Tryz.prog 107 #[.pointer (some ⟨gb,0,none⟩),.func (.func F) #[] cap] w λe w'=>∃ b:Nat,e=.returned (.slice (some ⟨b,0,none⟩) G.rules.length G.rules.length)/\w'.rowIs b 4 G.rules.length (λr=>.bool (zxB G okP r))/\w.heap.size<=b/\Below w.heap.size w w':=by
 obtain⟨i3,hi3,hz30,hz31,hz32⟩:=zah zdB;have hr2:=hG.r2;unfold Gm.nr at hr2;have hs0:=hG.s0;have hs1:=hG.s1;unfold Gm.nr at hs1;obtain⟨st,hst⟩:∃ st:Nat,G.start=st:=⟨G.start.toNat,by omega⟩;have c2:w.cell? ⟨gb,2,none⟩=some (.slice ra G.rules.length rc):=by unfold World.cell?;rw[hg.box];rfl
 have c4:w.cell? ⟨gb,4,none⟩=some (.int .i64 (st:Int)):=by unfold World.cell?;rw[hg.box,<- hst];rfl
 have hgl:gb<w.heap.size:=by have:=hg.lt;omega
 have hmk:=λw=>run_make_row' (P:=Tryz.prog) 69 4 (.bool false) 1 Tryz.underlying69 zts rfl .i64 .i64 G.rules.length (by omega) (by omega) w;have hrs:=zsc hG ok okP;have est:G.start.toNat=st:=by omega
 rw[est] at hrs;have Hg:=zaa hg;have HF:=zaa hF;have Hrs:=zaa hrs;have Hok:=zaa hok;clear hg hF hrs hok;go_enter Tryz.func107,Tryz.ntmps107;go_wp2_with fail;have hz1:=World.rowIs_made w (.bool false) G.rules.length 4;have hb1:Below w.heap.size w (w.alloc (Obj.cells (madeCells #[Value.bool false] G.rules.length) 4)):=(zsY _ _).alloc (zsG _) _;generalize hw1:w.alloc (Obj.cells (madeCells #[Value.bool false] G.rules.length) 4)=w1 at *;have hsz1:w1.heap.size=w.heap.size+1:=by rw[<- hw1];simp
 clear hw1;refine(zho gb G.rules.length ra rc hr2 w1 (by omega) ((hb1.cell (by simpa using hgl)).trans c2)).mono ?_;rintro e w2 ⟨lb,rfl,hlf2,hlb1,hlb2,hb2⟩;have hs2:=hb2.size;have hb12:=hb1.trans (zab hb2 (by omega));have hz2:=hz1.of_block (hb2.block w.heap.size (by omega));have c4':=(hb12.cell (p:=⟨gb,4,none⟩) (by simpa using hgl)).trans c4;have HT:=zaa (ziv lb G.rules.length st _ (by omega) w2 hlf2);clear hlf2 hz1 c2 c4;have Hb12:=zaa hb12;have Hz2:=zaa hz2;clear hb12 hz2 hb1 hb2;go_wp2_with fail;refine(uh HT).mono ?_;rintro e w3 ⟨rfl,hlf3,hf3⟩;have hs3:w2.heap.size<=w3.heap.size:=hf3.1;have hb3:Below w.heap.size w w3:=(uh Hb12).trans (zau hf3 (by omega) (λk hk=>by omega));have hz3:=(uh Hz2).of_block (hf3.2.1 w.heap.size (by omega) (by omega));have c4'':=(hb3.cell (p:=⟨gb,4,none⟩) (by simpa using hgl)).trans ((uh Hb12).cell (p:=⟨gb,4,none⟩) (by simpa using hgl)▸c4')
 have HR0:Hid (RhI G ok okP w w.heap.size lb w3.heap.size [st] 0 0 w3.heap.size 1 (w3.alloc (.cells #[.int .i64 (st:Int)] 3))):=zaa (by
  refine⟨?_,?_,?_,uh Hrs,hb3.alloc hb3.size _,by simp⟩
  ·refine((hz3.of_block (w':=w3.alloc _) ?_)).congr (λr _=>by simp);exact((zsY w3.heap.size w3).alloc (zsG _) _).block _ (by omega)
  ·refine zcP (W:=w3) ?_ (((zsY w3.heap.size w3).alloc (zsG _) _).block _ (by omega));obtain⟨D,h1,h2⟩:=hlf3;exact⟨D,h1,λi=>by rw[h2 i];by_cases e:i=st <;> simp[e]⟩
  ·have:=World.ownsRow_lit (base:=w3.heap.size) (e:=3) (size:=1) w3 #[.int .i64 (st:Int)] 1 (zsG _) (by unfold maxLen;omega) rfl
   simpa [zag,zao] using this)
 clear hlf3 hf3 hz3 hb3 HT Hb12 Hz2;have hlb3:lb<w3.heap.size:=by omega
 go_wp2
 go_loopw [7,8] (λu x W=>∃ (fs:List Nat) (a g cp:Nat),u=.slice (some ⟨g,0,none⟩) (zag fs).length cp/\x=.int .i64 a/\RhI G ok okP w w.heap.size lb w3.heap.size fs a a g cp W) (λ_ x _=>G.rules.length - (intOf x).toNat)
 case atStart=>exact⟨[st],0,w3.heap.size,1,rfl,rfl,uh HR0⟩
 case round =>
  clear HR0 c4'' c4';obtain⟨fs,a,g,cp,rfl,rfl,hR⟩:=hrel;have hlen:=zuv hR.rc;have hcl:=zam fs;by_cases hlt:a<fs.length
  ·have hlt':(a:Int)<(zag fs).length:=by omega
   obtain⟨_,_,he,hgl2,hca,hcf2⟩:=zmr hR.fd (i:=a) (by omega)
   cases he
   rw[zbV hlt] at hca;have hrm:fs.getD a 0 ∈ fs:=by rw[zsE,zsF hlt];exact List.getElem_mem hlt
   have hrl:=hR.rc.lt _ hrm;have hrl':((fs.getD a 0:Nat):Int)<G.rules.length:=by omega
   have hmc:=hR.mrk.cell hrl;have hmf:=hR.mrk.frozen (fs.getD a 0);have hset:Fr (· = w.heap.size) wr (wr.setCell ⟨w.heap.size,fs.getD a 0,none⟩ (.bool true)):=zaD (zax _ _) (by rfl) _;have hR1:RhI G ok okP w w.heap.size lb w3.heap.size fs a (a+1) g cp (wr.setCell ⟨w.heap.size,fs.getD a 0,none⟩ (.bool true)):=by
    have hg3:=(hR.fd.lt g rfl).1;have hle:=hR.le;refine⟨(hR.mrk.set (fs.getD a 0) _).congr (λr _=>?_),zcP hR.lf (hset.2.1 lb (by omega) (by omega)),zcW hR.fd (λk hk=>hset.2.1 k (hR.fd.lt k hk).2 (by have:=(hR.fd.lt k hk).1;omega)),hR.rc,hR.bl.trans (zau hset hR.bl.size (λk hk=>by omega)),by have:=hset.1;omega⟩;have e:fs.take (a+1)=fs.take a ++ [fs.getD a 0]:=by rw[zsU,zsE,zsF hlt];rfl
    rw[e];by_cases e2:r=fs.getD a 0
    ·subst e2;simp
    ·rw[if_neg e2];congr 1;rw[decide_eq_decide];simp only[List.mem_append,List.mem_singleton];exact⟨Or.inl,λh=>h.resolve_right e2⟩
   have HN:Hid _:=zaa (zs4 G hG ka pa ra qa kc pc rc qc gb ob ub M F cap ok hcf (fs.getD a 0) hrl (wr.setCell ⟨w.heap.size,fs.getD a 0,none⟩ (.bool true)) (by have:=hR1.bl.size;omega) (za1 (uh Hg) (zab hR1.bl hM)) (λW q hq hb=>uh HF W q hq (hR1.bl.trans (zab hb hR1.bl.size))));have hrch:=hR1.rc.snd _ hrm;have Hnx:=zaa (λy hy=>zsd (uh Hok) hG hrch (y:=y) hy);have hgl3:g<(wr.setCell ⟨w.heap.size,fs.getD a 0,none⟩ (.bool true)).heap.size:=(hR1.fd.lt g rfl).2;have HR1:=zaa hR1;have hgb3:w3.heap.size<=g:=(hR.fd.lt g rfl).1;have hrd:=zaa (show (wr.setCell ⟨w.heap.size,fs.getD a 0,none⟩ (.bool true)).cell? ⟨g,a,none⟩=some (.int .i64 (fs.getD a 0:Nat)) from(zsL (hset.2.1 g hgl2 (by omega))).trans hca);clear hR hR1 hset hrch;generalize hrr:fs.getD a 0=rr at *;go_wp2_with fail;generalize wr.setCell ⟨w.heap.size,rr,none⟩ (.bool true)=W1 at *;refine(uh HN).mono ?_;rintro e W5 ⟨v5,rfl,how5,hb5⟩;obtain⟨va,vc,rfl⟩:=zaf how5;have hs5:=hb5.size;have hR1:=uh HR1;have hs1w:=hR1.le;have hl1:=ziY hR1.lf;have hm1:=hR1.mrk.lt;have hR5:RhI G ok okP w w.heap.size lb w3.heap.size fs a (a+1) g cp W5:=⟨hR1.mrk.of_block (hb5.block _ hm1),zcP hR1.lf (hb5.block _ hl1),zcW hR1.fd (λk hk=>hb5.block k (hR1.fd.lt k hk).2),hR1.rc,hR1.bl.trans (zab hb5 hR1.bl.size),by omega⟩;have hln:(zfa G ok (zdx G rr)).length<=262144:=by
    have h1:=zmx G hG ok (zdx G rr) (λq hq=>ziG hq);have h2:=zms G rr;have h3:=hG.ps;omega
   have HR5:=zaa hR5;have How5:=zaa how5;clear hR5 hR1 how5 hb5 HR1 HN hca hcf2 hmc hmf hrd;generalize hL:zfa G ok (zdx G rr)=L at *;go_wp2
   go_loopw [7,53] (λu x W=>∃ (fs':List Nat) (j g' cp':Nat),u=.slice (some ⟨g',0,none⟩) (zag fs').length cp'/\x=.int .i64 j/\j<=L.length/\RhI G ok okP w w.heap.size lb w3.heap.size fs' a (a+1) g' cp' W/\(∃ t,fs'=fs ++ t)/\(∀ i,i<j->(L.getD i 0).toNat ∈ fs')/\W.ownsRow W1.heap.size 3 1 (.slice va L.length vc) L.length (zao L)/\(Value.slice va L.length vc).ownBlock≠some g') (λ_ x _=>L.length - (intOf x).toNat)
   case atStart=>exact⟨fs,0,g,cp,by rw[hcl],rfl,zsK _,uh HR5,⟨[],by simp⟩,λi hi=>by omega,uh How5,λe=>by have:=((uh How5).lt g e).1;omega⟩
   case round =>
    clear HR5 How5;obtain⟨fs',j,g',cp',rfl,rfl,hj,hR,hpre,hin,hown,hne⟩:=hrel;by_cases hjl:j<L.length
    ·have hjl':(j:Int)<L.length:=by omega
     obtain⟨_,_,he,hglL,hcL,-⟩:=zmr hown hjl
     cases he
     have hym:L.getD j 0 ∈ L:=by rw[zsE,zsF hjl];exact List.getElem_mem hjl
     obtain⟨hyr,hy0,hyl⟩:=uh Hnx _ hym;obtain⟨y,hy⟩:∃ y:Nat,L.getD j 0=y:=⟨(L.getD j 0).toNat,by omega⟩;have hin':∀ F:List Nat,(∃ t,F=fs' ++ t)->y ∈ F->∀ i,i<j+1->(L.getD i 0).toNat ∈ F:=λF ⟨t,ht⟩ hyF i hi=>by
      by_cases e:i=j
      ·subst e;rw[hy];simpa using hyF
      ·rw[ht];exact List.mem_append_left _ (hin i (by omega))
     rw[hy] at hcL hyr hyl;simp only[zsS] at hyr hyl;have HT:=zaa (ziv lb G.rules.length y _ (by omega) wr hR.lf);have hfl:=zuv hR.rc;have hcl':=zaa (zam fs');have HR:=zaa hR;have Hpre:=zaa hpre;have Hin:=zaa hin';have Hown:=zaa hown;clear hR hpre hin hin' hown;go_wp2_with fail;refine(uh HT).mono ?_;rintro e w6 ⟨rfl,hlf6,hf6⟩;have hR:=uh HR;have hgg:=hR.fd.lt g' rfl;have hmm:=hR.mrk.lt;have hs6:wr.heap.size<=w6.heap.size:=hf6.1;have hmk6:=hR.mrk.of_block (hf6.2.1 _ hmm (by omega));have hfd6:=zcW hR.fd (λk hk=>hf6.2.1 k (hR.fd.lt k hk).2 (by have:=(hR.fd.lt k hk).1;omega));have hb6:=hR.bl.trans (zau hf6 hR.bl.size (λk hk=>by omega));have ho6:=zcW (uh Hown) (λk hk=>hf6.2.1 k ((uh Hown).lt k hk).2 (by have:=((uh Hown).lt k hk).1;omega));have hle:=hR.le;by_cases hyf:y ∈ fs'
     ·have e1:(decide (y<G.rules.length) && !decide (y ∈ fs'))=false:=by simp[hyf]
      rw[e1]
      have HR6:Hid (RhI G ok okP w w.heap.size lb w3.heap.size fs' a (a+1) g' cp' w6):=zaa (by
       refine⟨hmk6,?_,hfd6,hR.rc,hb6,by omega⟩;obtain⟨D,h1,h2⟩:=hlf6
       exact⟨D,h1,λi=>by rw[h2 i];by_cases e:i=y <;> simp[e,hyf]⟩)
      have Ho6:=zaa ho6;clear hlf6 hf6 hR hmk6 hfd6 hb6 ho6 HR;go_wp2;go_roundw
      case rel=>exact⟨fs',j+1,g',cp',by rw[uh hcl'],by go_num,by omega,uh HR6,uh Hpre,uh Hin fs' ⟨[],by simp⟩ hyf,uh Ho6,hne⟩
      case measure=>simp[intOf];omega
     ·have e1:(decide (y<G.rules.length) && !decide (y ∈ fs'))=true:=by simp[hyf,hyl]
      rw[e1];have HA:=zaa (And.intro hmk6 (And.intro hlf6 (And.intro hb6 (And.intro ho6 hR.rc))));have Hfd6:=zaa hfd6;clear hlf6 hf6 hR hmk6 hfd6 hb6 ho6 HR;have hcl2:=uh hcl';rw[hcl2] at Hfd6;go_wp2_with (at_builtin;refine wpList_append_lies _ rfl _ _ 50 rfl w3.heap.size 3 i3 (.int .i64 0) 1 8 Tryz.underlying50 hi3 hz30 hz31 hz32 rfl (by decide) _ _ _ rfl ((uh Hfd6).alloc _) ⟨w6.heap.size,0,none⟩ 1 1 [.int .i64 (y:Int)] rfl rfl (zpR _ _ _) ?zc2 (by decide) ?zc3 ?zc4 ?zc5 (w6.heap.size+1) (by simp) ?_)
      case zc2=>intro u hu;simp at hu;rcases hu with rfl;rfl
      case zc3=>unfold maxLen;omega
      case zc4=>omega
      case zc5=>simp;omega
      intro g7 cap7 W7 hown7 hgrow hg7 hl7;obtain⟨hmk6,hlf6,hb6,ho6,hrc⟩:=uh HA;have hal:Below w6.heap.size w6 (w6.alloc (.cells #[.int .i64 (y:Int)] 3)):=(zsY _ _).alloc (zsG _) _;have hkp:∀ k,k<w6.heap.size->k≠g'->W7.heap[k]? = w6.heap[k]?:=λk hk hne'=>(hgrow.block k (by have:=hal.size;omega) (λe=>hne' (by simpa [Value.ownBlock,eq_comm] using e))).trans (hal.block k hk);have hs7:w6.heap.size<=W7.heap.size:=zsy hal.size hgrow.size
      have HR7:Hid (RhI G ok okP w w.heap.size lb w3.heap.size (fs' ++ [y]) a (a+1) g7 cap7 W7):=zaa (by
       refine⟨(hmk6.of_block (hkp _ (by omega) (by omega))).congr (λr _=>?_),?_,?_,zvo hrc hyl hyr hyf,?_,by omega⟩
       ·have hpl:a+1<=fs'.length:=by obtain⟨t,ht⟩:=uh Hpre;rw[ht,zsI];omega
        rw[List.take_append_of_le_length hpl]
       ·refine zcP (W:=w6) ?_ (hkp _ (by omega) (by omega));obtain⟨D,h1,h2⟩:=hlf6;exact⟨D,h1,λi=>by rw[h2 i];by_cases e:i=y <;> simp[e,hyl]⟩
       ·have e2:zag (fs' ++ [y])=zag fs' ++ [(y:Int)]:=by simp[zag]
        rw[zam,zsI,e2,<- zaY];exact hown7
       ·have hga:∀ k,(Value.slice (some ⟨g',0,none⟩) fs'.length cp').ownBlock=some k->w.heap.size<=k:=λk hk=>by
         have e3:g'=k:=by simpa [Value.ownBlock] using hk
         omega
        exact(hb6.alloc hb6.size _).grown hgrow (zsy hb6.size hal.size) hga)
      have Ho7:=zaa (zcW ho6 (λk hk=>hkp k (ho6.lt k hk).2 (λe=>hne (by rw[<- e];exact hk))))
      have Hne7:Hid (∀ k,some k=some g7->(Value.slice (some ⟨_,0,none⟩) L.length _).ownBlock≠some k):=zaa (λk hk e=>by
       cases hk
       rcases hg7 with h | h
       ·exact hne (e.trans h.symm)
       ·have:=(ho6.lt g7 e).2
        omega)
      clear hown7 hgrow hmk6 hlf6 hb6 ho6 hrc HA hkp;go_wp2;go_roundw
      case rel=>exact⟨fs' ++ [y],j+1,g7,cap7,by rw[zam,zsI];rfl,by go_num,by omega,uh HR7,(uh Hpre).elim λt ht=>⟨t ++ [y],by rw[ht,List.append_assoc]⟩,uh Hin _ ⟨[y],rfl⟩ (by simp),uh Ho7,uh Hne7 _ rfl⟩
      case measure=>simp[intOf];omega
    ·obtain rfl:j=L.length:=by omega
     have HR:=zaa hR;have Hpre:=zaa hpre;have Hin:=zaa hin;clear hR hpre hin hown;go_wp2;go_roundw
     case rel =>
      obtain⟨t,ht⟩:=uh Hpre;have hR:=uh HR;refine⟨fs',a+1,g',cp',rfl,by go_num,hR.mrk,hR.lf,hR.fd,zvp hR.rc (by rw[ht,zsI];omega) (λy hy=>?_),hR.bl,hR.le⟩;have e1:fs'.getD a 0=rr:=by rw[ht,zsE,List.getElem?_append_left hlt,<- zsE];exact hrr
      rw[e1,hL] at hy;obtain⟨i,hi,e2⟩:=List.getElem_of_mem hy;have:=uh Hin i hi;rw[zsE,zsF hi] at this;simpa [e2] using this
     case measure=>simp[intOf];omega
  ·obtain rfl:a=fs.length:=by have:=hR.rc.le;omega
   have Hend:=zaa (rc_end (uh Hok) hR.rc);have HR:=zaa hR;clear hR;go_wp2;go_ret;refine⟨w.heap.size,rfl,(uh HR).mrk.congr (λr _=>?_),zsG _,(uh HR).bl⟩;rw[List.take_of_length_le (zsG _),<- uh Hend]
open Classical in
noncomputable def zdj(W:Nat->List Nat):Nat->Bool:=λr=>decide (∃ y,y ∈ W r/\Rh W y r)
theorem zsa{made:List (List Nat)}(hR:Rings W n made){x:Nat}{a:List Nat}(ha:made[i]? = some a)(hx:x ∈ a):zdj W x=(decide (1<a.length) || decide (x ∈ W x)):=by
 have h:=zpk hR ha hx;have h1:zdj W x=true↔∃ y,y ∈ W x/\Rh W y x:=by unfold zdj;simp
 rw[Bool.eq_iff_iff,h1,h];simp
theorem zu4{B':Nat}{w:World}{tb:Nat}(h:zjs B w tb n W)(hB:B<=B'):zjs B' w tb n W:=by
 refine⟨by have:=h.1;omega,λr hr=>?_⟩;obtain⟨a,c,h1,h2⟩:=h.2 r hr;refine⟨a,c,h1,?_⟩;rcases h2 with h2 | ⟨b,off,h3,h4,h5⟩
 ·exact .inl h2
 ·exact .inr ⟨b,off,h3,by omega,h5⟩
theorem zkw(a:Option Addr)(c:Nat)(l:List Nat)(x:Nat)(hl:l.length<=1048576)(B:Nat)(w:World)(h:NRow B w a (zag l)):Calls Tryz.prog 199 #[.slice a l.length c,.int .i64 (x:Nat)] w λe w'=>e=.returned (.bool (decide (x ∈ l)))/\w'=w:=by
 have e1:(zag l).length=l.length:=zam l;rcases h with h | ⟨b,off,rfl,h1,h2⟩
 ·have:l=[]:=by
   cases l with
   | nil=>rfl
   | cons y l=>simp[zag] at h
  subst this;exact Tryz.slices_Contains_int_empty a c x w
 ·have h3:=Tryz.slices_Contains_int b off l.length c (zag l) x w (by omega) (by omega) h2;rw[List.take_of_length_le (by omega)] at h3;have e2:(zag l).contains (x:Int)=decide (x ∈ l):=by
   rw[Bool.eq_iff_iff,decide_eq_true_eq,List.contains_iff_mem];unfold zag;rw[List.mem_map]
   exact ⟨fun ⟨y, h4, h5⟩ => by have : y = x := by omega
                                exact this▸h4,λh4=>⟨x,h4,rfl⟩⟩
  rw[e2] at h3;exact h3
theorem zgb(W:Nat->List Nat)(n wb wcp:Nat)(hn:n<=2048)(hW:∀ r,r<n->∀ y,y ∈ W r->y<n)(hWl:∀ r,(W r).length<=1048576)(w:World)(hWay:zjs w.heap.size w wb n W) :
 Calls Tryz.prog 160 #[.slice (some ⟨wb,0,none⟩) n wcp] w λe w'=>∃ b:Nat,e=.returned (.slice (some ⟨b,0,none⟩) n n)/\w'.rowIs b 4 n (λr=>.bool (zdj W r))/\w.heap.size<=b/\Below w.heap.size w w':=by
 have hmb:=λw=>run_make_row' (P:=Tryz.prog) 69 4 (.bool false) 1 Tryz.underlying69 zts rfl .i64 .i64 n (by omega) (by omega) w;have hal:Below w.heap.size w (w.alloc (.cells (madeCells #[.bool false] n) 4)):=(zsY _ _).alloc (zsG _) _;have HR:=zaa (zjO W n wb wcp hn hW hWl _ (zu4 (zeY hWay hal) hal.size));have Hrow:=zaa (World.rowIs_made w (.bool false) n 4);have HW:=zaa hWay;have Hal:=zaa hal;have hszA:(w.alloc (.cells (madeCells #[.bool false] n) 4)).heap.size=w.heap.size+1:=by simp
 clear hWay hal;go_enter Tryz.func160,Tryz.ntmps160;go_wp2_with fail;generalize w.alloc (.cells (madeCells #[.bool false] n) 4)=w0 at *;refine(uh HR).mono ?_;rintro e w1 ⟨v1,made,rfl,hRi,hml,hRa,hb1⟩;obtain⟨ra,rc,rfl⟩:=(show ∃ a c,v1=.slice a made.length c by obtain⟨vs,h1,-⟩:=hRa.form;exact zaf h1);have hrow1:=(uh Hrow).of_block (hb1.block _ (uh Hrow).lt);have Hrow1:=zaa hrow1;have Hb1:=zaa ((uh Hal).trans (zab hb1 (by omega)));have HRi:=zaa hRi;have HRa:=zaa hRa;have hs1:=hb1.size;clear hb1 hRi hRa HR hrow1;go_wp2
 go_loopw [14] (λx V=>∃ (i:Nat) (f:Nat->Bool),x=.int .i64 i/\i<=made.length/\V.rowIs w.heap.size 4 n (λr=>.bool (f r))/\(∀ (j:Nat) (a:List Nat) (x:Nat),j<i->made[j]? = some a->x ∈ a->f x=zdj W x)/\Fr (· = w.heap.size) w1 V) (λx _=>made.length - (intOf x).toNat)
 case atStart=>exact⟨0,λ_=>false,rfl,zsK _,uh Hrow1,λj a x h=>by omega,zax _ _⟩
 case round =>
  obtain⟨i,f,rfl,hi,hrow,hf,hF⟩:=hrel;have hkeep:∀ V,Fr (· = w.heap.size) w1 V->RingsAt w0.heap.size V (.slice ra made.length rc) made:=λV hV=>zgM (uh HRa) (λq cs t hq _ hge=>hV.2.1 q (zsO.1 hq).1 (λe=>by have e:q=w.heap.size:=e;omega));by_cases hlt:i<made.length
  ·have hlt':(i:Int)<made.length:=by omega
   obtain⟨a,ha⟩:∃ a,made[i]? = some a:=⟨made[i],zsF hlt⟩;obtain⟨va,vc,g,c,hv,hc1,hc2⟩:=ziB (hkeep _ hF) ha
   cases hv
   have hal:a.length<=2048:=by
    have:=zmA ((uh HRi).nd i _ ha) (λx hx=>(uh HRi).lt i _ x ha hx);omega
   have Hc2:Hid (∀ V',Fr (· = w.heap.size) w1 V'->∀ j x:Nat,a[j]? = some x->V'.cell? ⟨g,j,none⟩=some (.int .i64 (x:Nat))):=zaa (λV' hV' j x hx=>by
    obtain⟨va',vc',g',c',hv',d1,d2⟩:=ziB (hkeep V' hV') ha
    cases hv'
    have e1:V'.cell? ⟨va,i,none⟩=wr.cell? ⟨va,i,none⟩:=by
     obtain⟨vs,q1,-⟩:=(uh HRa).form;obtain⟨cs,q2⟩:=zcC q1 rfl;have hge:=(q1.lt va rfl).1;have hl:=(q1.lt va rfl).2;exact zsL ((hV'.2.1 va hl (λe=>by have e:va=w.heap.size:=e;omega)).trans (hF.2.1 va hl (λe=>by have e:va=w.heap.size:=e;omega)).symm)
    rw[d1,hc1] at e1
    cases e1
    exact d2 j x hx)
   have Hsf:=zaa (λx (hx:x ∈ a)=>zsa (uh HRi) ha hx);have Hrow:=zaa hrow;have Hf:=zaa hf;have HF:=zaa hF;have Hha:=zaa ha;clear hrow hf hF ha hc2 hkeep;go_wp2
   go_loopw [20] (λx V=>∃ (p:Nat) (f:Nat->Bool),x=.int .i64 p/\p<=a.length/\V.rowIs w.heap.size 4 n (λr=>.bool (f r))/\(∀ (j:Nat) (b:List Nat) (x:Nat),j<i->made[j]? = some b->x ∈ b->f x=zdj W x)/\(∀ x,x ∈ a.take p->f x=zdj W x)/\Fr (· = w.heap.size) w1 V) (λx _=>a.length - (intOf x).toNat)
   case atStart=>exact⟨0,f,rfl,zsK _,uh Hrow,uh Hf,λx hx=>by simp at hx,uh HF⟩
   case round =>
    clear Hrow Hf HF;obtain⟨p,f,rfl,hp,hrow,hf,hfa,hF⟩:=hrel;by_cases hpl:p<a.length
    ·have hpl':(p:Int)<a.length:=by omega
     have hxa:a[p]? = some (a.getD p 0):=by rw[zsE,zsF hpl];rfl
     have hxm:=List.mem_of_getElem? hxa;have hxn:=(uh HRi).lt i _ _ (uh Hha) hxm;have hcx:=uh Hc2 wr hF p _ hxa;have hsx:=uh Hsf _ hxm;have hbV:Below w.heap.size w wr:=(uh Hb1).trans (zau hF (by omega) (λk hk=>by have hk:k=w.heap.size:=hk;omega));obtain⟨xa,xc,hwc,hwr⟩:=(zeY (uh HW) hbV).2 _ hxn;have HC:=zaa (zkw xa xc (W (a.getD p 0)) (a.getD p 0) (hWl _) _ wr hwr);have mc:=hrow.cell hxn;have mf:=hrow.frozen (a.getD p 0);have Hrs:Hid ((wr.setCell ⟨w.heap.size,a.getD p 0,none⟩ (.bool (zdj W (a.getD p 0)))).rowIs w.heap.size 4 n (λr=>.bool (upB f (a.getD p 0) (zdj W (a.getD p 0)) r))):=zaa ((hrow.set _ _).congr (λq _=>by unfold upB;split <;> rfl))
     have Hf2:=zaa (show ∀ (j:Nat) (b:List Nat) (x:Nat),j<i->made[j]? = some b->x ∈ b->upB f (a.getD p 0) (zdj W (a.getD p 0)) x=zdj W x from λj b x h1 h2 h3=>by
      by_cases e:x=a.getD p 0
      ·rw[e,zd6]
      ·rw[zew e];exact hf j b x h1 h2 h3)
     have Hfa2:=zaa (show ∀ x,x ∈ a.take (p+1)->upB f (a.getD p 0) (zdj W (a.getD p 0)) x=zdj W x from λx hx=>by
      by_cases e:x=a.getD p 0
      ·rw[e,zd6]
      ·rw[zew e];exact hfa x (((zbv hpl x).1 hx).resolve_right e))
     have HFs:=zaa (show Fr (· = w.heap.size) w1 (wr.setCell ⟨w.heap.size,a.getD p 0,none⟩ (.bool (zdj W (a.getD p 0)))) from zaD hF (by rfl) _);generalize hxe:a.getD p 0=x at *;have hxn':(x:Int)<n:=by omega
     have hwl:=hWl x;clear hrow hf hfa hF hxa hxm hbV hwr;by_cases h1:1<a.length
     ·have h1':(1:Int)<a.length:=by omega
      rw[decide_eq_true h1,Bool.true_or] at hsx;rw[hsx] at Hrs HFs Hf2 Hfa2;go_wp2;go_roundw
      case rel=>exact⟨p+1,_,by go_num,by omega,uh Hrs,uh Hf2,uh Hfa2,uh HFs⟩
      case measure=>simp[intOf];omega
     ·have h1':¬ (1:Int)<a.length:=by omega
      rw[decide_eq_false h1,Bool.false_or] at hsx;rw[hsx] at Hrs HFs Hf2 Hfa2;generalize decide (x ∈ W x)=bx at *;go_wp2_with fail;refine(uh HC).mono ?_;rintro e w9 ⟨rfl,rfl⟩;go_wp2;go_roundw
      case rel=>exact⟨p+1,_,by go_num,by omega,uh Hrs,uh Hf2,uh Hfa2,uh HFs⟩
      case measure=>simp[intOf];omega
    ·obtain rfl:p=a.length:=by omega
     rw[zsN] at hfa
     have Hf3:=zaa (show ∀ (j:Nat) (b:List Nat) (x:Nat),j<i+1->made[j]? = some b->x ∈ b->f x=zdj W x from λj b x h1 h2 h3=>by
      by_cases e:j=i
      ·subst e;rw[uh Hha] at h2;cases h2;exact hfa x h3
      ·exact hf j b x (by omega) h2 h3)
     have Hrow:=zaa hrow;have HF:=zaa hF;clear hrow hf hfa hF;go_wp2;go_roundw
     case rel=>exact⟨i+1,f,by go_num,by omega,uh Hrow,uh Hf3,uh HF⟩
     case measure=>simp[intOf];omega
  ·obtain rfl:i=made.length:=by omega
   have Hrw:Hid (wr.rowIs w.heap.size 4 n (λr=>.bool (zdj W r))):=zaa (hrow.congr (λr hr=>by
    obtain⟨j,a,h1,h2⟩:=(uh HRi).cov r hr
    rw[hf j a r (zsP.1 h1).1 h1 h2]))
   have HbV:=zaa ((uh Hb1).trans (zau hF (by omega) (λk hk=>by have hk:k=w.heap.size:=hk;omega)));clear hrow hf hF hkeep;go_wp2;go_ret;exact⟨w.heap.size,rfl,uh Hrw,zsG _,uh HbV⟩
end Go.Proofs.YtieciibnajeibaaGreatDoor

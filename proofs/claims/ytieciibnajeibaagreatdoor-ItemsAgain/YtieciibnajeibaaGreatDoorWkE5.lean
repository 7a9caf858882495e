import Derived.Test.YtieciibnajeibaaGreatDoorWkS9
import Derived.Deep.RegionHeld3
set_option maxHeartbeats 8000000
set_option maxRecDepth 100000
namespace Go.Proofs.YtieciibnajeibaaGreatDoor.Wk
open Go.RowKit Go.Maps
def Tab(w:World):Prop:=∀ j,j<64->w.cell? ⟨0,j,none⟩=some (.int .u8 (tzTab.getD j 0:Nat))
theorem zvN(X:Nat)(h0:X≠0)(h:X<2 ^ 64):IntKind.u64.wrap (-(X:Int))=((2 ^ 64 - X:Nat):Int):=by
 rw[IntKind.wrap_u64];omega
theorem ztb(P:Nat):IntKind.u64.wrap ((P:Int) * 285870213051353865)=((P * 285870213051353865 % 18446744073709551616:Nat):Int):=by rw[IntKind.wrap_u64];omega
theorem zut(k q:Nat)(h:2 ^ k * (2 * q+1)<2 ^ 64)(w:World)(ht:Tab w) :
 Calls Tryz.prog 169 #[.int .u64 ((2 ^ k * (2 * q+1):Nat):Int)] w λe w'=>e=.returned (.int .i64 k)/\w'=w:=by
 have hk:=zmG h;have hne:2 ^ k * (2 * q+1)≠0:=Nat.ne_of_gt (Nat.mul_pos (Nat.two_pow_pos k) (by omega));have q1:=zvN _ hne h;have q2:bits .and .u64 ((2 ^ k * (2 * q+1):Nat):Int) ((2 ^ 64 - 2 ^ k * (2 * q+1):Nat):Int)=((2 ^ k:Nat):Int):=by
  rw[zdZ _ _ h (by omega),zv2 h]
 have q3:IntKind.u64.wrap (((2 ^ k:Nat):Int) * 285870213051353865)=((2 ^ k * 285870213051353865 % 18446744073709551616:Nat):Int):=by
  exact ztb _
 have hx0:((((2 ^ k * (2 * q+1):Nat):Int)) == 0)=false:=by rw[beq_eq_false_iff_ne];omega
 have c0:=ht ((2 ^ k * 285870213051353865 % 18446744073709551616) / 288230376151711744) (tz_lt _);have hj:=tz_lt (2 ^ k * 285870213051353865);rw[tz_at ⟨k,hk⟩] at c0;clear ht h hne;generalize (2 ^ k * (2 * q+1):Nat)=X at *;generalize (2 ^ 64 - X:Nat)=NX at *;generalize (2 ^ k * 285870213051353865 % 18446744073709551616:Nat)=Y at *;generalize (2 ^ k:Nat)=P2 at *;go_enter Tryz.func169,Tryz.ntmps169;go_wp2;go_ret;exact⟨rfl,rfl⟩
variable{bl l:List Blk}{w:World}
theorem zdH{P:Program}{ops:Array Oper}{o:Oper}{a:Act}{K:Act->World->Prop}{Q:Exit->Act->World->Prop}{E:Prop}(hgd:o.guard=none)(s x:Operand)(t:TypeId)
 (ho:o.op=.call { callee:=.builtin .append,args:=#[s,x],argTypes:=#[t,t] })
 (base:Nat) (e:TypeId) (i:TypeInfo) (z:Value) (size bytes:Nat) (ht:P.underlying t=some (.slice e)) (hi:P.info? e=some i) (hz:i.zero=some z)
 (hsize:i.size=size) (hby:i.bytes=bytes) (hzs:z.cells.size=size) (hsz:0<size)
 (v:Value) (n:Nat) (xs:List Value) (hs:a.eval s=v) (hown:w.ownsRow base e size v n xs)
 (ad:Addr) (m c:Nat) (news:List Value) (hx:a.eval x=.slice (some ad) m c) (hl:news.length=m * size) (hnews:∀ j u,news[j]? = some u->w.cell? (ad.add j)=some u) (h1:∀ u ∈ news,u.oneCell'=true)
 (h63:n+m<=maxLen) (hbytes:(n+m) * bytes<=140737488355328) (hbase:base<=w.heap.size)
 (h:∀ v' w',w'.ownsRow base e size v' (n+m) (xs ++ news)->w.grownBy w' v.ownBlock->(v'=.slice none 0 0↔v=.slice none 0 0/\m=0)->K (a.put o.dst v') w') :
 if Region.wanted o (yielded ops a.tmps)=true then Oper.wp P o a w K Q else E:=by
 have hw:Region.wanted o (yielded ops a.tmps)=true:=by simp[Region.wanted,hgd]
 rw[if_pos hw];exact wp_append_own w s x t ho base e i z size bytes ht hi hz hsize hby hzs hsz v n xs hs hown ad m c news hx hl hnews h1 h63 hbytes hbase h
def zs0(b:Blk):List Int:=(zeT b.2.toNat).map λi:Nat=>b.1 * 64+(i:Int)
def allL(bl:List Blk):List Int:=bl.flatMap zs0
def zuG(l:List Int):List Value:=l.map λm=>.int .i64 m
theorem zlz(a b:List Int):zuG (a ++ b)=zuG a ++ zuG b:=List.map_append
theorem zkD(X:Nat):(zeT X).length<=64:=by
 have:=List.length_filter_le (λi=>X.testBit i) (List.range 64);simpa [zeT] using this
theorem zuh(bl:List Blk):(allL bl).length<=64 * bl.length:=by
 induction bl with
 | nil=>simp[allL]
 | cons b l ih =>
   have:=zkD b.2.toNat;simp only[allL,List.flatMap_cons,List.length_append,List.length_cons] at ih ⊢;have h2:(zs0 b).length=(zeT b.2.toNat).length:=by simp[zs0]
   omega
theorem zrv(bl:List Blk)(k:Nat)(hk:k<bl.length):allL (bl.take (k+1))=allL (bl.take k) ++ zs0 (bl.getD k (0,0)):=by
 unfold allL;rw[List.take_add_one,List.getElem?_eq_getElem hk,List.flatMap_append,za8 _ _ hk];simp
theorem all_any(B:Nat)(O:Nat->Prop)(bl:List Blk)(sz:Int)(hsz:0<=sz/\sz<=1048576)(w:World)(h:SetOk w B O bl sz)(ht:Tab w)(h0:0<w.heap.size) :
 Calls Tryz.prog 121 #[.pointer (some ⟨B,0,none⟩)] w λe w'=>∃ v,e=.returned v/\w'.ownsRow w.heap.size 3 1 v (allL bl).length (zuG (allL bl))/\Below w.heap.size w w':=by
 obtain⟨i0,hi,hz0,hz1,hz2⟩:=zah hint;obtain⟨sv,hB,hr,hs⟩:=h.is.lies;obtain⟨va,vc,rfl⟩:=zaf hr;have hrow:=zeq hr;have hlen:=zdd h.is.up h.fit;have hfit:=h.fit;have c0:=cell_block hB 0 _ rfl;have c1:=cell_block hB 1 _ rfl;have hlt:=lt_of_some hB;obtain⟨S,rfl⟩:=Int.eq_ofNat_of_zero_le hsz.1;have hS:(S:Int)<=1048576:=hsz.2;have hS0:(0:Int)<=S:=by omega
 have Hrow:=zaa hrow;have Hfit:=zaa hfit;have Ht:=zaa ht;clear hB hr hs h hrow hfit ht hsz;go_enter Tryz.func121,Tryz.ntmps121;go_wp2_with (at_make;refine wpList_make_own _ rfl _ _ 50 rfl w.heap.size 3 i0 (.int .i64 0) 1 Tryz.underlying50 hi hz0 hz1 .i64 .i64 _ S rfl rfl rfl (by rw[hz2];omega) (by unfold maxLen;omega) (Nat.le_refl _) ?_;intro w3 hown3 hgrow3;have hb3:Below w.heap.size w w3:=(Below.refl _ w).grown hgrow3 (Nat.le_refl _) (λk hk=>by cases hk);have c3:w3.cell? ⟨B,0,none⟩=some (.slice va bl.length vc):=(hb3.cell (p:=⟨B,0,none⟩) hlt).trans c0;have Hb3:=zaa hb3;have Hown3:=zaa hown3;clear hown3 hgrow3 hb3)
 go_loopw [19,3] (λx v wr=>∃ k:Nat,x=.int .i64 k/\k<=bl.length/\Below w.heap.size w wr/\wr.ownsRow w.heap.size 3 1 v (allL (bl.take k)).length (zuG (allL (bl.take k)))) (λx _ _=>bl.length - (intOf x).toNat)
 case atStart=>exact⟨0,rfl,Nat.zero_le _,uh Hb3,uh Hown3⟩
 case round =>
  obtain⟨wo,hwo⟩:∃ wo,wo=wr:=⟨_,rfl⟩;subst hwo;obtain⟨k,rfl,hk,hbel,hown⟩:=hrel;clear Hb3 Hown3 c3;by_cases hkl:k<bl.length
  ·have hkl':(k:Int)<bl.length:=by omega
   rcases uh Hrow with h | ⟨g,rfl,hgl,hcells⟩
   ·subst h;simp at hkl
   obtain⟨d0,d1⟩:=hcells k hkl;have e0:=(hbel.cell (p:=⟨g,k * 2,none⟩) hgl).trans d0;have e1:=(hbel.cell (p:=⟨g,k * 2+1,none⟩) hgl).trans d1;have hmem:bl.getD k (0,0) ∈ bl:=by rw[za8 _ _ hkl];exact List.getElem_mem _
   obtain⟨hf1,hf2⟩:=uh Hfit _ hmem;have HAs:=zaa (zrv bl k hkl);have hal:=zuh (bl.take k);rw[List.length_take,Nat.min_eq_left (by omega)] at hal;obtain⟨va',vc',rfl⟩:=zaf hown;have Hown:=zaa hown;have Hbel:=zaa hbel;have hbs:=hbel.size;clear d0 d1 hcells hmem hown hbel;generalize bl.getD k (0,0)=b at *;obtain⟨t,y⟩:=b;simp only at e0 e1 hf1 hf2;obtain⟨Y,rfl⟩:=Int.eq_ofNat_of_zero_le hf1.1;have hY:Y<2 ^ 64:=by have:=hf1.2;omega
   have HY:=zaa hY;have Hf2:=zaa hf2;have hAll:zs0 (t,(Y:Int))=(zeT Y).map λi:Nat=>t * 64+(i:Int):=by unfold zs0;rw[Int.toNat_natCast]
   have HAll:=zaa hAll;clear hf1 hY hAll hf2;generalize allL (bl.take k)=L0 at *;go_wp2
   go_loopw [6,3] (λr v W=>∃ (X:Nat) (dn:List Nat),r=.int .u64 (X:Int)/\X<2 ^ 64/\zeT Y=dn ++ zeT X/\Below w.heap.size w W/\W.heap[wo.heap.size]? = some (.cells #[.int .i64 t,.int .u64 (Y:Int)] 244 (0,0))/\W.ownsRow w.heap.size 3 1 v (L0.length+dn.length) (zuG (L0 ++ dn.map λi:Nat=>t * 64+(i:Int)))) (λr _ _=>(intOf r).toNat)
   case atStart=>exact⟨Y,[],rfl,uh HY,rfl,(uh Hbel).alloc hbs _,(MapKept.heap_alloc wo _).1,by simpa using (uh Hown).alloc _⟩
   case round =>
    obtain⟨X,dn,rfl,hX,hbits,hbW,htb,hownW⟩:=hrel;by_cases hX0:X=0
    ·subst hX0;rw[zom,List.append_nil] at hbits;subst hbits;obtain⟨va3,vc3,rfl⟩:=zaf hownW;have hfin:wr.ownsRow w.heap.size 3 1 (.slice va3 (L0.length+(zeT Y).length) vc3) (allL (bl.take (k+1))).length (zuG (allL (bl.take (k+1)))):=by
      rw[uh HAs,uh HAll,List.length_append,List.length_map];exact hownW
     have Hfin:=zaa hfin;have HbW:=zaa hbW;clear hfin hbW hownW htb Hown;go_wp2;go_roundw
     case rel=>exact⟨k+1,by go_num,by omega,uh HbW,uh Hfin⟩
     case measure=>simp[intOf];omega
    ·obtain⟨kk,q,rfl⟩:=low_of X hX0;have hx0:((((2 ^ kk * (2 * q+1):Nat):Int)) == 0)=false:=by rw[beq_eq_false_iff_ne];omega
     have htW:Tab wr:=λj hj=>(hbW.cell (p:=⟨0,j,none⟩) h0).trans (uh Ht j hj);have HT:=zaa (λq'=>zut kk q hX (wr.drewN q') htW);have HT0:=zaa (zut kk q hX wr.drew htW);have HS:=zaa (zon hX);have z0:=cell_block htb 0 _ rfl;obtain⟨va2,vc2,rfl⟩:=zaf hownW;have q5:IntKind.u64.wrap (((2 ^ kk * (2 * q+1):Nat):Int) - 1)=((2 ^ kk * (2 * q+1) - 1:Nat):Int):=by rw[IntKind.wrap_u64];omega
     have q6:=zdZ (2 ^ kk * (2 * q+1)) (2 ^ kk * (2 * q+1) - 1) hX (by omega);have hk64:=zmG hX;have hdn:dn.length<=64:=by have:=zkD Y;rw[hbits,List.length_append] at this;omega
     have ht64:=uh Hf2;have hsh:IntKind.i64.wrap (t * 64)=t * 64:=by rw[IntKind.wrap_i64];omega
     have had:IntKind.i64.wrap (t * 64+(kk:Int))=t * 64+(kk:Int):=by rw[IntKind.wrap_i64];omega
     have hand:2 ^ kk * (2 * q+1) &&& (2 ^ kk * (2 * q+1) - 1)<=2 ^ kk * (2 * q+1) - 1:=Nat.and_le_right;have hXp:0<2 ^ kk * (2 * q+1):=by omega
     have n1:=zbd htb hownW (by decide);have Hn1:=zaa n1;have Hst:=zaa (And.intro hX (And.intro hbits (And.intro hbW (And.intro htb hownW))));clear hbits hbW htb hownW htW hX Hown n1 ht64;generalize (2 ^ kk * (2 * q+1):Nat)=X at *;generalize hX2:X &&& (X - 1)=X2 at *
     have Hc1:Hid (∀ j u,[Value.int .i64 (t * 64+(kk:Int))][j]? = some u->(wr.alloc (.cells #[.int .i64 (t * 64+(kk:Int))] 3)).drew.cell? ((⟨wr.heap.size,0,none⟩:Addr).add j)=some u):=zaa (by
      have h:=World.news_of_block (MapKept.heap_alloc wr (.cells #[.int .i64 (t * 64+(kk:Int))] 3)).1
      simpa using h)
     have Hbs:Hid (w.heap.size<=(wr.alloc (.cells #[.int .i64 (t * 64+(kk:Int))] 3)).drew.heap.size):=zaa (by have:=(uh Hst).2.2.1.size;show _<=(wr.alloc _).heap.size;rw[World.size_alloc];omega)
     have HK:Hid (∀ W2,(wr.alloc (.cells #[.int .i64 (t * 64+(kk:Int))] 3)).drew.grownBy W2 (Value.slice va2 (L0.length+dn.length) vc2).ownBlock->W2.heap[wo.heap.size]? = some (.cells #[.int .i64 t,.int .u64 (Y:Int)] 244 (0,0))/\Below w.heap.size w W2):=zaa (λW2 hg=>by
      obtain⟨-,-,hbW,htb,hownW⟩:=uh Hst;have h1:(wr.alloc (.cells #[.int .i64 (t * 64+(kk:Int))] 3)).drew.heap[wo.heap.size]? = _:=(Below.heap_alloc wr _ _ (lt_of_some htb)).trans htb
      exact⟨(hg.block _ (lt_of_some h1) (λe=>(uh Hn1) e.symm)).trans h1,((hbW.alloc hbW.size _).drew).grown hg (uh Hbs) (λj hj=>(hownW.lt j hj).1)⟩)
     go_wp2
     go_region_held3 (λw':World=>w'.cell? ⟨wo.heap.size,0,none⟩=some (.int .i64 t))
      (first | exact z2 | exact z0 | go_keep)
      ((first | (go_at_call 169;refine(uh HT0).mono ?_;rintro e w1 ⟨rfl,hw⟩;obtain rfl:=hw.symm) | (refine zdH rfl (.tmp 31) (.tmp 38) 50 rfl w.heap.size 3 i0 (.int .i64 0) 1 8 Tryz.underlying50 hi hz0 hz1 hz2 rfl (by decide) (.slice va2 (L0.length+dn.length) vc2) (L0.length+dn.length) (zuG (L0 ++ dn.map λi:Nat=>t * 64+(i:Int))) (by simp[Act.eval]) ((uh Hst).2.2.2.2.alloc _) ⟨wr.heap.size,0,none⟩ 1 1 [.int .i64 (t * 64+(kk:Int))] (by simp[Act.eval]) rfl (uh Hc1) (by simp[Value.oneCell']) (by unfold maxLen;omega) (by omega) (uh Hbs) ?_;intro v2 W2 hown2 hg2 hv2;obtain⟨htb2,hb2⟩:=uh HK W2 hg2;have z2:=cell_block htb2 0 _ rfl;have Hown2:=zaa hown2;have Htb2:=zaa htb2;have Hb2:=zaa hb2;clear hown2 hg2 hv2 htb2 hb2)))
     obtain⟨va3,vc3,rfl⟩:=zaf (uh Hown2);go_wp2;go_roundw
     case rel =>
      obtain⟨hX,hbits,-⟩:=uh Hst;refine⟨X2,dn ++ [kk],rfl,by omega,?_,uh Hb2,uh Htb2,?_⟩
      ·rw[hbits,uh HS,List.append_assoc];rfl
      ·have h:=uh Hown2;rw[List.length_append,List.map_append,<- List.append_assoc,zlz];exact h
     case measure=>simp[intOf];omega
  ·obtain rfl:k=bl.length:=by omega
   have hkl':¬ ((bl.length:Int)<bl.length):=by omega
   rw[List.take_length] at hown;obtain⟨va3,vc3,rfl⟩:=zaf hown;have Hown:=zaa hown;have Hbel:=zaa hbel;clear hown hbel;go_wp2;go_ret;exact⟨_,rfl,uh Hown,uh Hbel⟩
def Up(l:List Int):Prop:=l.Pairwise (· < ·)
theorem up_ext:∀ {a b:List Int},Up a->Up b->(∀ m,m ∈ a↔m ∈ b)->a=b:=by
 intro a
 induction a with
 | nil =>
   intro b _ _ h
   cases b with
   | nil=>rfl
   | cons y b=>exact absurd ((h y).2 (by simp)) (by simp)
 | cons x a ih =>
   intro b ha hb h
   cases b with
   | nil=>exact absurd ((h x).1 (by simp)) (by simp)
   | cons y b =>
     have ha':=List.pairwise_cons.1 ha;have hb':=List.pairwise_cons.1 hb;have e:x=y:=by
      have h1:=(h x).1 (by simp);have h2:=(h y).2 (by simp);rcases List.mem_cons.1 h1 with h1 | h1
      ·exact h1
      ·rcases List.mem_cons.1 h2 with h2 | h2
       ·exact h2.symm
       ·have:=hb'.1 x h1;have:=ha'.1 y h2;omega
     subst e
     congr 1
     refine ih ha'.2 hb'.2 λm=>?_;constructor
     ·intro hm;rcases List.mem_cons.1 ((h m).1 (List.mem_cons_of_mem _ hm)) with e | hm'
      ·have:=ha'.1 m hm;omega
      ·exact hm'
     ·intro hm;rcases List.mem_cons.1 ((h m).2 (List.mem_cons_of_mem _ hm)) with e | hm'
      ·have:=hb'.1 m hm;omega
      ·exact hm'
theorem ziU(b:Blk)(m:Int):m ∈ zs0 b↔m / 64=b.1/\b.2.toNat.testBit (m % 64).toNat=true:=by
 unfold zs0 zeT;rw[List.mem_map];have h1:=Int.emod_nonneg m (show (64:Int)≠0 by decide);have h2:=Int.emod_lt_of_pos m (show (0:Int)<64 by decide);constructor
 ·rintro⟨i,hi,rfl⟩;rw[List.mem_filter,List.mem_range] at hi;have e1:(b.1 * 64+(i:Int)) / 64=b.1:=by omega
  have e2:((b.1 * 64+(i:Int)) % 64).toNat=i:=by omega
  rw[e1,e2];exact⟨rfl,hi.2⟩
 ·rintro⟨h3,h4⟩;refine⟨(m % 64).toNat,?_,by omega⟩;rw[List.mem_filter,List.mem_range];exact⟨by omega,h4⟩
theorem zvX(hr:zcl bl)(hf:zhH bl)(m:Int):m ∈ allL bl↔hasB bl m=true:=by
 rw[zcX hf];unfold allL;rw[List.mem_flatMap];constructor
 ·rintro⟨⟨t,y⟩,hb,hm⟩;rw[ziU] at hm;simp only at hm;rw[hm.1,zbt hr hb];exact hm.2
 ·intro h;by_cases hx:∃ y,(m / 64,y) ∈ bl
  ·obtain⟨y,hy⟩:=hx;rw[zbt hr hy] at h;exact⟨(m / 64,y),hy,(ziU _ _).2 ⟨rfl,h⟩⟩
  ·rw[zft (λy hy=>hx ⟨y,hy⟩)] at h;simp at h
theorem up_all(hr:zcl bl):Up (allL bl):=by
 unfold Up allL;rw[List.pairwise_flatMap];refine⟨λb _=>?_,hr.imp fun {a b} hab x hx y hy=>?_⟩
 ·unfold zs0 zeT;rw[List.pairwise_map];have:(List.range 64).Pairwise (· < ·):=List.pairwise_lt_range;exact(this.filter _).imp λh=>by omega
 ·have h1:=((ziU a x).1 hx).1;have h2:=((ziU b y).1 hy).1;show x<y;omega
theorem all_is(hr:zcl bl)(hf:zhH bl){l:List Int}(hl:Up l)(h:∀ m,m ∈ l↔hasB bl m=true):l=allL bl :=
 up_ext hl (up_all hr) λm=>(h m).trans (zvX hr hf m).symm
theorem blk_of(hr:zcl bl)(hf:zhH bl){m:Int}(h:hasB bl m=true):∃ (t:Int) (Y i:Nat),(t,(Y:Int)) ∈ bl/\i<64/\m=64 * t+i/\Y.testBit i=true:=by
 have hm1:=Int.emod_nonneg m (show (64:Int)≠0 by decide);have hm2:=Int.emod_lt_of_pos m (show (0:Int)<64 by decide);have h':=h;rw[zcX hf] at h';by_cases hx:∃ y,(m / 64,y) ∈ bl
 ·obtain⟨y,hy⟩:=hx;obtain⟨Y,rfl⟩:=Int.eq_ofNat_of_zero_le (hf _ hy).1.1;rw[zbt hr hy,Int.toNat_natCast] at h';exact⟨m / 64,Y,(m % 64).toNat,hy,by omega,by omega,h'⟩
 ·rw[zft (λy hy=>hx ⟨y,hy⟩)] at h';simp at h'
theorem zqE(f g:Nat->Bool)(l:List Nat):(l.filter λi=>f i || g i).length=(l.filter f).length+(l.filter λi=>g i && !f i).length:=by
 induction l with
 | nil=>rfl
 | cons a l ih =>
   simp only[List.filter_cons]
   cases f a <;> cases g a <;> simp[ih] <;> omega
def zuS(h:Int->Bool)(t:Int):Nat:=((List.range 64).filter λi:Nat=>h (64 * t+i)).length
theorem zqT(T:Nat)(h:Int->Bool):cnt (64 * (T+1)) h=cnt (64 * T) h+zuS h T:=by
 unfold cnt zuS;rw[show 64 * (T+1)=64 * T+64 by omega,List.range_add,List.filter_append,List.length_append,List.filter_map,List.length_map]
 congr 2
theorem zw9(h:Int->Bool)(t:Int)(X:Nat):(zuS (λm=>h m || (decide (m / 64=t) && X.testBit (m % 64).toNat)) t:Int)=zuS h t+zmB h t X:=by
 unfold zuS zmB;rw[<- Int.natCast_add,<- zqE]
 congr 2
 apply List.filter_congr;intro i hi;have hi:=List.mem_range.1 hi;show (h (64 * t+(i:Int)) || (decide ((64 * t+(i:Int)) / 64=t) && X.testBit ((64 * t+(i:Int)) % 64).toNat))=_;rw[show (64 * t+(i:Int)) / 64=t by omega,show ((64 * t+(i:Int)) % 64).toNat=i by omega];simp
theorem zt8(h:Int->Bool)(t s:Int)(X:Nat)(hs:s≠t):zuS (λm=>h m || (decide (m / 64=t) && X.testBit (m % 64).toNat)) s=zuS h s:=by
 unfold zuS
 congr 1
 apply List.filter_congr;intro i hi;have hi:=List.mem_range.1 hi;show (h (64 * s+(i:Int)) || (decide ((64 * s+(i:Int)) / 64=t) && X.testBit ((64 * s+(i:Int)) % 64).toNat))=_;rw[show (64 * s+(i:Int)) / 64=s by omega];simp[hs]
theorem cnt_or(h:Int->Bool)(t:Int)(X:Nat)(ht:0<=t):∀ T:Nat,(cnt (64 * T) (λm=>h m || (decide (m / 64=t) && X.testBit (m % 64).toNat)):Int)=cnt (64 * T) h+if t<T then zmB h t X else 0:=by
 intro T
 induction T with
 | zero =>
   rw[if_neg (by omega)];show ((cnt 0 _:Nat):Int)=(cnt 0 h:Nat)+0;rfl
 | succ T ih =>
   rw[zqT,zqT];by_cases e:(T:Int)=t
   ·subst e;rw[if_neg (by omega)] at ih;rw[if_pos (by omega)];have:=zw9 h T X;omega
   ·rw[zt8 h t T X e];by_cases e2:t<(T:Int)
    ·rw[if_pos e2] at ih;rw[if_pos (by omega)];omega
    ·rw[if_neg e2] at ih;rw[if_neg (by omega)];omega
theorem zqc(h:Int->Bool)(l:List Blk)(hf:zhH l):∀ k,k<=l.length->(joinS h (l.take k)).2=(cnt 1048576 (joinS h (l.take k)).1:Int) - cnt 1048576 h:=by
 intro k
 induction k with
 | zero=>intro _;show (0:Int)=_;simp[joinS]
 | succ k ih =>
   intro hk;rw[zek h l k (by omega)];have:=ih (by omega);have hm:=hf _ (show l.getD k (0,0) ∈ l by rw[za8 _ _ (by omega)];exact List.getElem_mem _);have h2:=cnt_or (joinS h (l.take k)).1 (l.getD k (0,0)).1 (l.getD k (0,0)).2.toNat hm.2.1 16384;rw[if_pos (by omega)] at h2;rw[show (64 * 16384:Nat)=1048576 by decide] at h2;show (joinS h (l.take k)).2+zmB (joinS h (l.take k)).1 (l.getD k (0,0)).1 (l.getD k (0,0)).2.toNat=(cnt 1048576 (λm=>(joinS h (l.take k)).1 m || (decide (m / 64=(l.getD k (0,0)).1) && (l.getD k (0,0)).2.toNat.testBit (m % 64).toNat)):Int) - cnt 1048576 h;rw[h2];omega
def zxi(l:List Blk)(m:Int):Bool:=l.any λb=>decide (m / 64=b.1) && b.2.toNat.testBit (m % 64).toNat
theorem zqd(h:Int->Bool)(l:List Blk)(m:Int):∀ k,k<=l.length->(joinS h (l.take k)).1 m=(h m || zxi (l.take k) m):=by
 intro k
 induction k with
 | zero=>intro _;simp[joinS,zxi]
 | succ k ih =>
   intro hk;rw[zek h l k (by omega)];have:=ih (by omega);show ((joinS h (l.take k)).1 m || _)=_;rw[this];unfold zxi;rw[List.take_add_one,List.getElem?_eq_getElem (by omega),List.any_append,List.getD_eq_getElem?_getD,List.getElem?_eq_getElem (by omega)];simp[Bool.or_assoc]
theorem zug(hr:zcl l)(hf:zhH l)(m:Int):zxi l m=hasB l m:=by
 cases h:hasB l m
 ·cases h2:zxi l m
  ·rfl
  ·unfold zxi at h2;obtain⟨⟨t,y⟩,hb,he⟩:=List.any_eq_true.1 h2;simp only[Bool.and_eq_true,decide_eq_true_eq] at he;rw[zcX hf,he.1,zbt hr hb,he.2] at h
   cases h
 ·obtain⟨t,Y,i,hb,hi,rfl,hbit⟩:=blk_of hr hf h;unfold zxi;refine List.any_eq_true.2 ⟨_,hb,?_⟩;rw[show (64 * t+(i:Int)) / 64=t by omega,show ((64 * t+(i:Int)) % 64).toNat=i by omega,Int.toNat_natCast,hbit];simp
theorem join_has(h:Int->Bool)(hr:zcl l)(hf:zhH l)(m:Int):(joinS h l).1 m=(h m || hasB l m):=by
 have:=zqd h l m l.length (Nat.le_refl _);rw[List.take_length,zug hr hf] at this;exact this
theorem join_cnt(h:Int->Bool)(hf:zhH l):(joinS h l).2=(cnt 1048576 (joinS h l).1:Int) - cnt 1048576 h:=by
 have:=zqc h l hf l.length (Nat.le_refl _);rw[List.take_length] at this;exact this
theorem cnt_same(N:Nat)(h h':Int->Bool)(he:∀ m:Int,h m=h' m):cnt N h=cnt N h':=by rw[show h=h' from funext he]
theorem set_same{p:Addr}{v:Value}(h:w.cell? p=some v):w.setCell p v=w:=by
 unfold World.cell? at h;have e : (w.setCell p v).heap = w.heap := by
   apply Array.ext_getElem?;intro k;unfold World.setCell;simp only;rw[Array.getElem?_modify];by_cases hk:p.block=k
   · subst hk;rw[if_pos rfl]
     cases ho:w.heap[p.block]? with
     | none=>rfl
     | some o =>
       rw[ho] at h
       cases o with
       | cells c elem frozen =>
         simp only at h
         split at h
         · cases h
         · rename_i hsp;simp only[Option.map_some,hsp,Bool.false_eq_true,if_false,Option.some.injEq,Obj.cells.injEq,and_true];apply Array.ext_getElem?;intro q;rw[Array.getElem?_setIfInBounds]
           split
           · rename_i hq;subst hq
             split
             · exact h.symm
             · rename_i hn;rw[Array.getElem?_eq_none (by omega)] at h
               cases h
           · rfl
       | _=>rfl
   · rw[if_neg hk]
 have key:∀ h':Array Obj,h'=w.heap->({ w with heap:=h' }:World)=w:=λh' e=>by subst e;rfl
 exact key _ e
theorem zvA(Y:Nat)(hY:Y<2 ^ 64):pop 64 (zuz Y Y)=0:=by
 unfold pop;rw[List.length_eq_zero_iff,List.filter_eq_nil_iff];intro i hi;rw[ziM _ _ _ hY];simp
theorem ztm(B:Nat)(O:Nat->Prop)(bl:List Blk)(n t:Int)(Y:Nat)(hmem:(t,(Y:Int)) ∈ bl)(hY:Y<2 ^ 64)(hn:0<=n/\n<=1099511627776)(w:World)(h:SetIs w B O bl n) :
 Calls Tryz.prog 163 #[.pointer (some ⟨B,0,none⟩),.agg #[.int .i64 t,.int .u64 (Y:Int)]] w λe w'=>e=.returned (.int .i64 0)/\Below w.heap.size w w':=by
 have hat:zg7 bl t=true:=by unfold zg7;rw[List.any_eq_true];exact⟨_,hmem,by simp⟩
 have hl:=zp2 hat;have hby:zbA bl t=(Y:Int):=zbt h.up hmem;have hgy:(bl.getD (loc bl t) (0,0)).2=(Y:Int):=by rw[<- hby];unfold zbA;rw[hat];rfl
 have hor:bits .or .u64 (Y:Int) (Y:Int)=(Y:Int):=by rw[zjX Y Y hY hY,Nat.or_self]
 have hones:∀ w,Calls Tryz.prog 204 #[.int .u64 (bits .andNot .u64 (Y:Int) (Y:Int))] w λe w'=>e=.returned (.int .i64 0)/\w'=w:=λw=>by
  have h1:=ziH bl t Y Y hby w;rw[show znQ bl t Y=0 by unfold znQ;rw[hby,Int.toNat_natCast,zvA Y hY];rfl] at h1;exact h1
 have hb0:Below w.heap.size w (w.alloc (.cells #[.int .i64 t,.int .u64 (Y:Int)] 244)):=(Below.refl _ _).alloc (Nat.le_refl _) _;have HF:=zaa (zi6 B O bl n t _ (zb9 h hb0));rw[hat] at HF
 have HC:Hid (∀ w',Below w.heap.size w w'->∃ g c,w'.heap[B]? = some (.cells #[.slice (some ⟨g,0,none⟩) bl.length c,.int .i64 n] 233 (0,0))/\w'.ownsRow 0 244 2 (.slice (some ⟨g,0,none⟩) bl.length c) bl.length (zaF bl)/\O g/\g≠B/\g<w.heap.size/\w'.cell? ⟨g,loc bl t * 2+1,none⟩=some (.int .u64 (bl.getD (loc bl t) (0,0)).2)):=zaa (λw' hb=>by
  obtain⟨sv,hB,hr,hs⟩:=(zb9 h hb).lies;obtain⟨a,c,rfl⟩:=zaf hr;have n1:=zbd hB hr (by decide);rcases zeq hr with h0 | ⟨g,rfl,hgl,hc⟩
  ·subst h0;simp at hl
  ·exact⟨g,c,hB,hr,hs g rfl,λe=>n1 (by rw[e];rfl),h.lt g (hs g rfl),(hc _ hl).2⟩)
 have hl':(loc bl t:Int)<bl.length:=by omega
 have HO:=zaa hones;have Hor:=zaa hor;have hbl:=h.short;rw[hgy] at HC;clear h hat hones hb0 hor;generalize loc bl t=i at *;go_enter Tryz.func163,Tryz.ntmps163;go_wp2_with (go_at_call 202;refine(uh HF).mono ?_;rintro e w1 ⟨rfl,hb⟩);have hbw:Below w.heap.size w w1:=((Below.refl _ _).alloc (Nat.le_refl _) _).trans (hb.mono (by simp));have cx:w1.cell? ⟨w.heap.size,1,none⟩=some (.int .u64 (Y:Int)):=(hb.cell (p:=⟨w.heap.size,1,none⟩) (by simp)).trans (World.cell?_alloc_mark w #[.int .i64 t,.int .u64 (Y:Int)] 244 (0,0) 1);obtain⟨g,c,hB1,hr1,hOg,hgB,hgl,cg⟩:=uh HC w1 hbw;have c0:=cell_block hB1 0 _ rfl;have c1:=cell_block hB1 1 _ rfl;have f1:=frozen_block hB1 1;have fg:w1.frozen? ⟨g,i * 2+1,none⟩=false:=hr1.frozenAt _;have Hbw:=zaa hbw;have Hcg:=zaa cg;have Hc1:=zaa c1;clear hB1 hr1 hb hbw HC;go_quiet ((go_at_call 204;exact Calls.quiet_of_same (uh HO _)));go_wp2
 go_region
 go_wp2;go_ret;refine⟨rfl,?_⟩;rw[uh Hor];have e1:(w1.drewN (nq+1)).setCell ⟨g,i * 2+1,none⟩ (.int .u64 (Y:Int))=w1.drewN (nq+1):=set_same (uh Hcg);rw[e1];have e2:(w1.drewN (nq+1)).setCell ⟨B,1,none⟩ (.int .i64 n)=w1.drewN (nq+1):=set_same (uh Hc1);rw[e2];have hb:=uh Hbw;exact⟨hb.os,hb.tape,hb.output,hb.size,hb.block⟩
theorem join_self(B:Nat)(O:Nat->Prop)(bl:List Blk)(sz:Int)(hsz:0<=sz/\sz<=1099510579200)(w:World)(h:SetOk w B O bl sz) :
 Calls Tryz.prog 117 #[.pointer (some ⟨B,0,none⟩),.pointer (some ⟨B,0,none⟩)] w λe w'=>e=.returned (.int .i64 0)/\Below w.heap.size w w':=by
 obtain⟨sv,hB,hr,hs⟩:=h.is.lies;obtain⟨va,vc,rfl⟩:=zaf hr;have hrow:=zeq hr;have hlen:=zdd h.is.up h.fit;have c0:=cell_block hB 0 _ rfl;have hltC:=lt_of_some hB;have Hrow:=zaa hrow;have Hh:=zaa h;clear h hB hr hs hrow;go_enter Tryz.func117,Tryz.ntmps117;go_wp2
 go_loopw [19,5] (λx s wr=>∃ k:Nat,x=.int .i64 k/\k<=bl.length/\s=.int .i64 0/\Below w.heap.size w wr) (λx _ _=>bl.length - (intOf x).toNat)
 case atStart=>exact⟨0,rfl,Nat.zero_le _,rfl,Below.refl _ _⟩
 case round =>
  obtain⟨k,rfl,hk,rfl,hb⟩:=hrel;by_cases hlt:k<bl.length
  ·have hlt':(k:Int)<bl.length:=by omega
   rcases uh Hrow with h | ⟨g,rfl,hgl,hcells⟩
   ·subst h;simp at hlt
   obtain⟨d0,d1⟩:=hcells k hlt;have e0:=(hb.cell (p:=⟨g,k * 2,none⟩) hgl).trans d0;have e1:=(hb.cell (p:=⟨g,k * 2+1,none⟩) hgl).trans d1;have hmem:bl.getD k (0,0) ∈ bl:=by rw[za8 _ _ hlt];exact List.getElem_mem _
   obtain⟨hf1,hf2⟩:=(uh Hh).fit _ hmem;clear d0 d1 hcells;generalize bl.getD k (0,0)=b at *;obtain⟨t,y⟩:=b;simp only at e0 e1 hf1 hf2;obtain⟨Y,rfl⟩:=Int.eq_ofNat_of_zero_le hf1.1;have hY:Y<2 ^ 64:=by have:=hf1.2;omega
   have HL:=zaa (λw' (hb':Below w.heap.size w w')=>ztm B O bl sz t Y hmem hY (by omega) w' (zb9 (uh Hh).is hb'));have hwl:=hb.size;have Hb:=zaa hb;clear hb hmem hf1 hf2 hY;go_wp2_with (go_at_call 163;refine(uh HL _ ((uh Hb).alloc hwl _)).mono ?_;rintro e w2 ⟨rfl,ho⟩;have Ho:=zaa ho;clear ho);go_roundw
   case rel=>exact⟨k+1,by go_num,by omega,by simp,((uh Hb).alloc hwl _).trans ((uh Ho).mono (by simp;omega))⟩
   case measure=>simp[intOf];omega
  ·obtain rfl:k=bl.length:=by omega
   have Hb:=zaa hb;clear hb;go_wp2;go_ret;exact⟨rfl,uh Hb⟩
end Go.Proofs.YtieciibnajeibaaGreatDoor.Wk

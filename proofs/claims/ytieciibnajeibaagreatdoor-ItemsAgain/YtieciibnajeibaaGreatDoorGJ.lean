import Derived.Test.YtieciibnajeibaaGreatDoorGI
set_option maxHeartbeats 8000000
set_option maxRecDepth 100000
namespace Go.Proofs.YtieciibnajeibaaGreatDoor
open Go.RowKit
def zdK(l:List Int)(x:Int):Nat->List Int
 | 0=>[]
 | k+1=>zdK l x k ++ if l.getD k 0=x then[(k:Int)] else[]
theorem zgO(l:List Int)(x:Int):∀ k,(zdK l x k).length<=k
 | 0=>by simp[zdK]
 | k+1=>by unfold zdK;rw[zsI];have:=zgO l x k;split <;> simp <;> omega
theorem zmo(l:List Int)(x:Int):∀ k,zdK l x k=((List.range k).filter λq=>decide (l.getD q 0=x)).map λ(q:Nat)=>(q:Int)
 | 0=>rfl
 | k+1=>by
   unfold zdK;rw[zmo l x k,List.range_succ,List.filter_append,List.map_append]
   congr 1
   by_cases h:l.getD k 0=x
   ·rw[if_pos h,List.filter_cons_of_pos (by simpa using h)];rfl
   ·rw[if_neg h,List.filter_cons_of_neg (by simpa using h)];rfl
theorem znC(a:Option Addr)(cap:Nat)(l:List Int)(x:Int)(hn:l.length<=1048576)(w:World)(hrow:NRow w.heap.size w a l) :
 Calls Tryz.prog 197 #[.slice a l.length cap,.int .i64 x] w λe w'=>∃ v,e=.returned v/\w'.ownsRow w.heap.size 3 1 v (zdK l x l.length).length (zao (zdK l x l.length))/\Below w.heap.size w w':=by
 obtain⟨i0,hi,hz0,hz1,hz2⟩:=zah zdB;have Hrow:=zaa hrow;clear hrow;go_enter Tryz.func197,Tryz.ntmps197;go_wp2
 go_loopw [5,10] (λu y wr=>∃ k:Nat,y=.int .i64 k/\k<=l.length/\wr.ownsRow w.heap.size 3 1 u (zdK l x k).length (zao (zdK l x k))/\Below w.heap.size w wr) (λ_ y _=>l.length - (intOf y).toNat)
 case atStart=>exact⟨0,rfl,zsK _,World.ownsRow_nil _ _ _ _,zsY _ _⟩
 case round =>
  obtain⟨k,rfl,hk,hown,hb⟩:=hrel;obtain⟨ua,uc,rfl⟩:=zaf hown;have hsz:=hb.size;have hle:=zgO l x k;have Hown:=zaa hown;have Hb:=zaa hb;clear hown hb;by_cases hlt:k<l.length
  ·have hlt':(k:Int)<l.length:=by omega
   obtain⟨b,off,rfl,hbl,hc⟩:=zbf (zaS (uh Hb) (uh Hrow)) hlt;have Hs:Hid (zdK l x (k+1)=zdK l x k ++ if l.getD k 0=x then[(k:Int)] else[]):=zaa rfl;generalize l.getD k 0=y at *;by_cases hy:y=x
   ·subst hy;have hyy:(y == y)=true:=by simp
    rw[if_pos rfl] at Hs;generalize zdK l y k=acc at *;go_wp2_with (at_builtin;refine wpList_append_own _ rfl _ _ 50 rfl w.heap.size 3 i0 (.int .i64 0) 1 8 Tryz.underlying50 hi hz0 hz1 hz2 rfl (by decide) _ _ _ rfl ((uh Hown).alloc _) ⟨wr.heap.size,0,none⟩ 1 1 [.int .i64 (k:Int)] rfl rfl ?zc1 ?zc2 ?zc3 ?zc4 ?zc5 ?_)
    case zc1=>exact zpR _ _ _
    case zc2=>intro u hu;simp at hu;rcases hu with rfl;rfl
    case zc3=>unfold maxLen;omega
    case zc4=>omega
    case zc5=>simp;omega
    intro v' W3 hown' hgrow _;have Hb4:=zaa (((uh Hb).alloc hsz _).grown hgrow (by simp;omega) (λj hj=>((uh Hown).lt j hj).1));have Ho4:=zaa (show W3.ownsRow w.heap.size 3 1 v' (zdK l y (k+1)).length (zao (zdK l y (k+1))) by rw[uh Hs,<- zaY,zsI];exact hown');clear hown' hgrow;go_wp2;go_roundw
    case rel=>exact⟨k+1,by go_num,by omega,uh Ho4,uh Hb4⟩
    case measure=>simp[intOf];omega
   ·have hyy:(y == x)=false:=by simpa using hy
    rw[if_neg hy,List.append_nil] at Hs;go_wp2;go_roundw
    case rel=>exact⟨k+1,by go_num,by omega,by rw[uh Hs];exact uh Hown,uh Hb⟩
    case measure=>simp[intOf];omega
  ·obtain rfl:k=l.length:=by omega
   go_wp2;go_ret;exact⟨_,rfl,uh Hown,uh Hb⟩
def fdM(l:List Int):Nat->Bool:=λr=>decide (l.getD r 0 ≠ -1)
theorem zga(a:Option Addr)(cap:Nat)(l:List Int)(hn:l.length<=1048576)(w:World)(hrow:NRow w.heap.size w a l) :
 Calls Tryz.prog 156 #[.slice a l.length cap] w λe w'=>∃ b,e=.returned (.slice (some ⟨b,0,none⟩) l.length l.length)/\w'.rowIs b 4 l.length (λr=>.bool (fdM l r))/\w.heap.size<=b/\Below w.heap.size w w':=by
 have hmk:=λw=>run_make_row' (P:=Tryz.prog) 69 4 (.bool false) 1 Tryz.underlying69 zts rfl .i64 .i64 l.length (by omega) (by omega) w;have Hrow:=zaa hrow;clear hrow;have hnot:=zbl;go_enter Tryz.func156,Tryz.ntmps156;go_wp2;have Hz:=zaa (World.rowIs_made w (.bool false) l.length 4)
 go_loopw [11] (λy wr=>∃ k:Nat,y=.int .i64 k/\k<=l.length/\wr.rowIs w.heap.size 4 l.length (λr=>.bool (decide (r<k) && fdM l r))/\Below w.heap.size w wr) (λy _=>l.length - (intOf y).toNat)
 case atStart=>exact⟨0,rfl,zsK _,(uh Hz).congr (λi _=>by simp),(zsY _ _).alloc (zsG _) _⟩
 case round =>
  obtain⟨k,rfl,hk,hr,hb⟩:=hrel;have hsz:=hb.size;have hlb:=hr.lt;have Hb:=zaa hb;clear hb Hz;by_cases hlt:k<l.length
  ·have hlt':(k:Int)<l.length:=by omega
   obtain⟨b,off,rfl,hbl,hc⟩:=zbf (zaS (uh Hb) (uh Hrow)) hlt;have hfz:=hr.frozen k;have hcl:=hr.cell hlt
   have Hr2:=zaa (show (wr.setCell ⟨w.heap.size,k,none⟩ (.bool (l.getD k 0 != -1))).rowIs w.heap.size 4 l.length (λr=>.bool (decide (r<k+1) && fdM l r)) from(hr.set k _).congr (λi _=>by
    by_cases e:i=k
    ·subst e;rw[if_pos rfl];unfold fdM;simp;rw[Bool.eq_iff_iff];simp
    ·rw[if_neg e];have h1:decide (i<k)=decide (i<k+1):=by rw[decide_eq_decide];omega
     rw[h1]))
   have Hb2:=zaa ((uh Hb).setCell (p:=⟨w.heap.size,k,none⟩) (zsG _) (.bool (l.getD k 0 != -1)));generalize l.getD k 0=y at *;clear hr;go_wp2;go_roundw
   case rel=>exact⟨k+1,by go_num,by omega,uh Hr2,uh Hb2⟩
   case measure=>simp[intOf];omega
  ·obtain rfl:k=l.length:=by omega
   have Hr2:=zaa (hr.congr (g:=λr=>.bool (fdM l r)) (λi hi=>by simp[hi]));clear hr;go_wp2;go_ret;exact⟨w.heap.size,rfl,uh Hr2,zsG _,uh Hb⟩
theorem zpv{W:World}{B g n c:Nat}{l:List Int}(h:W.ownsRow B 3 1 (.slice (some ⟨g,0,none⟩) n c) n (zao l))(i:Nat)(x:Int):(W.setCell ⟨g,i,none⟩ (.int .i64 x)).ownsRow B 3 1 (.slice (some ⟨g,0,none⟩) n c) n (zao (l.set i x)):=by
 obtain⟨h1,h2⟩:=h;rcases h2 with ⟨hv,_⟩ | ⟨g',cap,cur,hv,hb,hh,hn,hm,hs,ht⟩
 ·cases hv
 ·cases hv
  refine⟨by rw[zbh,List.length_set];rw[zbh] at h1;exact h1,.inr ⟨g,c,cur.setIfInBounds i (.int .i64 x),rfl,hb,Wk.block_set hh _,hn,hm,by simpa using hs,?_⟩⟩;rw[Array.toList_setIfInBounds,List.take_set,ht];unfold zao;rw[List.map_set]
theorem zmr{W:World}{B:Nat}{v:Value}{l:List Int}(h:W.ownsRow B 3 1 v l.length (zao l)){i:Nat}(hi:i<l.length):∃ g c,v=.slice (some ⟨g,0,none⟩) l.length c/\g<W.heap.size/\W.cell? ⟨g,i,none⟩=some (.int .i64 (l.getD i 0))/\W.frozen? ⟨g,i,none⟩=false:=by
 obtain⟨g,c,hv,-,hlt,-⟩:=Wk.own_pos h (by omega);subst hv;refine⟨g,c,rfl,hlt,?_,?_⟩
 ·rw[Wk.own_cell h rfl i (by rw[zbh];exact hi)];unfold zao;simp[List.getD_eq_getElem?_getD,hi]
 ·exact h.frozenAt i
def atZ(l:List Int):Nat->Int:=λq=>l.getD q 0
theorem zxg{l:List Int}{i:Nat}{x:Int}(hi:i<l.length):atZ (l.set i x)=upZ (atZ l) i x:=by
 funext j;unfold atZ upZ;by_cases e:j=i
 ·subst e;simp[List.getD_eq_getElem?_getD,hi]
 ·rw[if_neg e];simp[List.getD_eq_getElem?_getD,Ne.symm e]
def zeW(G:Gm)(r:Nat):List Nat:=(List.range G.prods.length).flatMap λi=>List.replicate ((zaA G.nk (G.prods.getD i pd0).right).count (r:Int)) i
def zag(l:List Nat):List Int:=l.map λ(r:Nat)=>(r:Int)
theorem zam(l:List Nat):(zag l).length=l.length:=by simp[zag]
theorem zbV{l:List Nat}{i:Nat}(h:i<l.length):(zag l).getD i 0=((l.getD i 0:Nat):Int):=by
 unfold zag;rw[zsE,List.getElem?_map,zsE,zsF h];rfl
theorem zeB(G:Gm)(r:Nat):zeZ G G.prods.length r=zag (zeW G r):=by
 unfold zeZ zeW zag;rw[List.map_flatMap]
 congr 1
 funext i;simp
theorem zgC{G:Gm}{r q:Nat}(h:q ∈ zeW G r):q<G.prods.length:=by
 unfold zeW at h;obtain⟨i,hi,hq⟩:=List.mem_flatMap.1 h;have:=(List.mem_replicate.1 hq).2;have:=List.mem_range.1 hi;omega
theorem zir{G:Gm}(hG:GOk G)(r:Nat):(zeW G r).length<=262144:=by
 have h1:=zgB hG r G.prods.length (zsG _);rw[zeB,zam] at h1;have:=hG.ps;omega
theorem zd7(l:List Nat)(i:Nat)(h:i<l.length):l.take (i+1)=l.take i ++ [l.getD i 0]:=zcB l i 0 h
theorem zfl{l:List Nat}{i:Nat}(h:i<l.length):l.getD i 0 ∈ l:=by
 rw[zsE,zsF h];exact List.getElem_mem h
def zbX(G:Gm)(found:List Nat)(i:Nat):List Nat:=(found.take i).flatMap (zeW G)
theorem zie{G:Gm}{found:List Nat}{i:Nat}(h:i<found.length):zbX G found (i+1)=zbX G found i ++ zeW G (found.getD i 0):=by
 unfold zbX;rw[zd7 _ _ h,List.flatMap_append];simp
theorem zhi{G:Gm}(hG:GOk G)(found:List Nat):∀ i,i<=found.length->(zbX G found i).length<=i * 262144
 | 0,_=>by simp[zbX]
 | i+1,h=>by
   rw[zie (by omega),zsI];have:=zhi hG found i (by omega);have:=zir hG (found.getD i 0);omega
theorem dcR_lt{P:List Nat}{m:Nat->Int}{q:Nat}(h:q ∈ dcR P m):q ∈ P:=by
 have:=(zfY P m q).1 h;exact List.count_pos_iff.1 (by omega)
theorem zwD{n:Nat}(P:List Nat)(m:Nat->Int)(h:∀ q,q ∈ P->q<n):(dcR P m).length<=n:=by
 have hnd:=zfq P m;have:=List.Nodup.length_le_of_subset hnd (l₂:=List.range n) (λq hq=>List.mem_range.2 (h q (dcR_lt hq)));simpa using this
theorem ztN(P:List Nat)(m:Nat->Int)(q:Nat):dcM (P ++ [q]) m=upZ (dcM P m) q (dcM P m q - 1):=by rw[zig];rfl
theorem ztM(P:List Nat)(m:Nat->Int)(q:Nat):dcR (P ++ [q]) m=dcR P m ++ if dcM P m q - 1=0 then[q] else[]:=by rw[zif];simp[dcR]
structure RdI (M:Nat) (w:World) (mv:Value) (ml:List Int) (P:List Nat) (u:Value) (W:World):Prop where
 rd:W.ownsRow w.heap.size 3 1 u (zag (dcR P (atZ ml))).length (zao (zag (dcR P (atZ ml))))
 ms:∃ ml',ml'.length=ml.length/\atZ ml'=dcM P (atZ ml)/\W.ownsRow M 3 1 mv ml'.length (zao ml')
 fr:Fr (λk=>mv.ownBlock=some k) w W
theorem zla(G:Gm)(hG:GOk G)(ka pa ra qa:Option Addr)(kc pc rc qc gb ob ub:Nat)(M:Nat)(fa:Option Addr)(fc:Nat)(found:List Nat)(hfl:found.length<=2048)(hfr:∀ r,r ∈ found->r<G.rules.length)(mv:Value)(ml:List Int)(hml:ml.length=G.prods.length)(hmb:∀ q,-1048576<=atZ ml q/\atZ ml q<=1048576)
 (w:World) (hM:M<=w.heap.size) (hg:GrAt M w G ka kc pa pc ra rc qa qc gb ob ub) (hf:NRow w.heap.size w fa (zag found)) (hm:w.ownsRow M 3 1 mv ml.length (zao ml)) (hfm:∀ x,fa=some x->mv.ownBlock≠some x.block) :
 Calls Tryz.prog 198 #[.pointer (some ⟨gb,0,none⟩),.slice fa found.length fc,mv] w λe w'=>∃ v,e=.returned v/\RdI M w mv ml (found.flatMap (zeW G)) v w':=by
 obtain⟨i3,hi3,hz30,hz31,hz32⟩:=zah zdB;obtain⟨ma,mc,hmv⟩:=zaf hm;have hps:=hG.ps;have hMO:∀ k,mv.ownBlock=some k->M<=k:=λk hk=>(hm.lt k hk).1;have hMw:∀ k,mv.ownBlock=some k->k<w.heap.size:=λk hk=>(hm.lt k hk).2
 have HK:Hid (∀ W,Fr (λk=>mv.ownBlock=some k) w W->GrAt M W G ka kc pa pc ra rc qa qc gb ob ub/\NRow W.heap.size W fa (zag found)):=zaa (λW hF=>by
  have hb:Below M w W:=zau hF hM hMO;refine⟨za1 hg hb,?_⟩;rcases hf with h | ⟨b,o,h1,h2,h3⟩
  ·exact .inl h
  ·exact .inr ⟨b,o,h1,by have:=hF.1;omega,λj hj=>(zsL (hF.2.1 b h2 (hfm _ h1))).trans (h3 j hj)⟩)
 have Hstart:Hid (RdI M w mv ml (zbX G found 0) (.slice none 0 0) w):=zaa ⟨World.ownsRow_nil _ _ _ _,⟨ml,rfl,rfl,hm⟩,zax _ _⟩;have Hmb:=zaa hmb;have Hfr:=zaa hfr;have Hml:=zaa hml;have hml4:ml.length<=4096:=by omega
 clear hg hf hfm hmb hfr hm hml;subst hmv;go_enter Tryz.func198,Tryz.ntmps198;go_wp2
 go_loopw [7,14] (λu x W=>∃ i:Nat,x=.int .i64 i/\i<=found.length/\RdI M w (.slice ma ml.length mc) ml (zbX G found i) u W) (λ_ x _=>found.length - (intOf x).toNat)
 case atStart=>exact⟨0,rfl,zsK _,uh Hstart⟩
 case round =>
  clear Hstart;obtain⟨i,rfl,hi,hR⟩:=hrel;obtain⟨hgr,hfn⟩:=uh HK wr hR.fr;obtain⟨ua,uc,rfl⟩:=zaf hR.rd;have HR:=zaa hR;by_cases hlt:i<found.length
  ·have hlt':(i:Int)<found.length:=by omega
   obtain⟨fb,fo,rfl,hfb,hcf⟩:=zbf hfn (k:=i) (by rw[zam];exact hlt);rw[zbV hlt] at hcf;have hrl:=uh Hfr _ (zfl hlt);have HPs:=zaa (zie (G:=G) hlt);have hPl:=zhi hG found i hi;generalize found.getD i 0=r at *;have c6:wr.cell? ⟨gb,6,none⟩=some (.slice (some ⟨ub,0,none⟩) G.rules.length G.rules.length):=by unfold World.cell?;rw[hgr.box];rfl
   obtain⟨Ou,htu,-⟩:=hgr.uses;obtain⟨xa,xc,tcu,hxn⟩:=zoU htu hrl;rw[zeB] at tcu hxn;rw[zam] at tcu;have hul:=zir hG r;have hux:∀ q,q ∈ zeW G r->q<ml.length:=λq hq=>by rw[uh Hml];exact zgC hq
   have hPx:∀ q,q ∈ zbX G found i->q<ml.length:=λq hq=>by
    rw[uh Hml];unfold zbX at hq;obtain⟨s,-,hs⟩:=List.mem_flatMap.1 hq;exact zgC hs
   have HX:=zaa (And.intro hux hPx)
   -- the rule's row stays
   have HY:Hid (∀ W,Below M wr W->NRow W.heap.size W xa (zag (zeW G r))):=zaa (λW hbW=>by
    have hF:Fr (λk=>M<=k) wr W:=⟨hbW.size,λk _ hk=>hbW.block k (by omega),hbW.os,hbW.tape,hbW.output⟩;obtain⟨Ou2,⟨V,hV⟩,hOu⟩:=hgr.uses;obtain⟨a1,c1,e1,e2,-,e3⟩:=za6 hV hrl;have hV2:=ze2 hV hF (λk hk hk2=>by have:=hOu k hk;omega);obtain⟨a2,c2,e4,e5,-,e6⟩:=za6 hV2 hrl;rw[e1] at e4;cases e4;rw[zeB,zam] at e2;rw[zeB] at e6;rw[tcu] at e2;cases e2
    exact e6)
   generalize zeW G r=L at *;clear hgr hfn htu hux hPx;go_wp2
   go_loopw [7,26] (λu x W=>∃ j:Nat,x=.int .i64 j/\j<=L.length/\RdI M w (.slice ma ml.length mc) ml (zbX G found i ++ L.take j) u W/\Below M wr W) (λ_ x _=>L.length - (intOf x).toNat)
   case atStart=>exact⟨0,rfl,zsK _,by simpa using uh HR,zsY _ _⟩
   case round =>
    clear tcu c6 hcf HR;obtain⟨j,rfl,hj,hR,hFo⟩:=hrel;obtain⟨hrd,⟨ml',hl',hd',hms⟩,hFr⟩:=hR;obtain⟨va,vc,rfl⟩:=zaf hrd;have hxn2:=uh HY wr hFo;have hsz:=hFr.1;by_cases hjl:j<L.length
    ·have hjl':(j:Int)<L.length:=by omega
     obtain⟨xb,xo,rfl,hxb,hcx⟩:=zbf hxn2 (k:=j) (by rw[zam];exact hjl);rw[zbV hjl] at hcx;have hqm:=(uh HX).1 _ (zfl hjl);have HTs:=zaa (zd7 L j hjl);have hPm:∀ q,q ∈ zbX G found i ++ L.take j->q<ml.length:=λq hq=>(List.mem_append.1 hq).elim ((uh HX).2 q) (λh=>(uh HX).1 q (List.mem_of_mem_take h));have hrl2:=zwD (zbX G found i ++ L.take j) (atZ ml) hPm;have hPc:∀ q,(((zbX G found i ++ L.take j).count q:Nat):Int)<=2048 * 262144+262144:=λq=>by
      have h1:(zbX G found i ++ L.take j).count q<=(zbX G found i ++ L.take j).length:=List.count_le_length;rw[zsI,zsV] at h1;omega
     generalize hq:L.getD j 0=q at *;have hqv:ml'.getD q 0=atZ ml q - (((zbX G found i ++ L.take j).count q:Nat):Int):=by
      have h1:atZ ml' q=dcM (zbX G found i ++ L.take j) (atZ ml) q:=by rw[hd']
      rw[zmV] at h1;exact h1
     have hqb:=uh Hmb q;have hqc:=hPc q;have Hdm:=zaa (ztN (zbX G found i ++ L.take j) (atZ ml) q);have Hdr:=zaa (ztM (zbX G found i ++ L.take j) (atZ ml) q);have Hdq:Hid (dcM (zbX G found i ++ L.take j) (atZ ml) q=ml'.getD q 0):=zaa (by rw[<- hd'];rfl);have HPj:Hid (zbX G found i ++ L.take (j+1)=(zbX G found i ++ L.take j) ++ [q]):=zaa (by rw[uh HTs,List.append_assoc]);generalize zbX G found i ++ L.take j=P at *;obtain⟨mg,mc',hmv,hmgl,hcm,hfz⟩:=zmr hms (i:=q) (by omega);simp only[Value.slice.injEq] at hmv;obtain⟨rfl,-,rfl⟩:=hmv;rw[hl'] at hms;have hq0:q<ml'.length:=by omega
     have Hat:=zaa (λx=>zxg (l:=ml') (i:=q) (x:=x) hq0);generalize hx:ml'.getD q 0=x at *;have hwx:IntKind.i64.wrap (x - 1)=x - 1:=by rw[IntKind.wrap_i64];omega
     have hms1:=zpv hms q (x - 1);have hset:Fr (· = mg) wr (wr.setCell ⟨mg,q,none⟩ (.int .i64 (x - 1))):=zaD (zax _ _) (by rfl) _;have hmgw:mg<w.heap.size:=hMw mg rfl;have hrd1:=zvF hrd hset hmgw;have hF1:Fr (λk=>(Value.slice (some ⟨mg,0,none⟩) ml.length mc).ownBlock=some k) w (wr.setCell ⟨mg,q,none⟩ (.int .i64 (x - 1))):=zaD hFr (by rfl) _;have hmgM:M<=mg:=hMO mg rfl;have hF2:=hFo.setCell (p:=⟨mg,q,none⟩) hmgM (.int .i64 (x - 1));have hlset:(ml'.set q (x - 1)).length=ml.length:=by rw[List.length_set,hl']
     have c1:(wr.setCell ⟨mg,q,none⟩ (.int .i64 (x - 1))).cell? ⟨mg,q,none⟩=some (.int .i64 (x - 1)):=by
      have h2:=hms1;rw[<- hlset] at h2;obtain⟨mg2,mc2,e1,-,e2,-⟩:=zmr h2 (i:=q) (by omega);simp only[Value.slice.injEq,Option.some.injEq,Addr.mk.injEq] at e1;obtain⟨⟨rfl,-⟩,-,rfl⟩:=e1;rw[e2];simp[List.getD_eq_getElem?_getD,hq0]
     have hmlq:(q:Int)<ml.length:=by omega
     have Hnext:Hid (∀ (W':World) (u':Value),W'.ownsRow w.heap.size 3 1 u' (zag (dcR (P ++ [q]) (atZ ml))).length (zao (zag (dcR (P ++ [q]) (atZ ml))))->Below w.heap.size (wr.setCell ⟨mg,q,none⟩ (.int .i64 (x - 1))) W'->RdI M w (.slice (some ⟨mg,0,none⟩) ml.length mc) ml (P ++ [q]) u' W'/\Below M _ W'):=zaa (λW' u' ho hb=>by
      refine⟨⟨ho,⟨ml'.set q (x - 1),hlset,?_,?_⟩,?_⟩,?_⟩
      ·rw[uh Hat,uh Hdm,hd',uh Hdq]
      ·rw[hlset];obtain⟨e1,e2⟩:=hms1;refine⟨by rw[e1],?_⟩;rcases e2 with e2 | ⟨g',cap',cur',e3,e4,e5,rest⟩
       ·exact .inl e2
       ·have:g'=mg:=by cases e3;rfl
        subst this;exact .inr ⟨g',cap',cur',e3,e4,(hb.block g' hmgw).trans e5,rest⟩
      ·exact⟨zsy hF1.1 hb.size,λk hk ho=>(hb.block k hk).trans (hF1.2.1 k hk ho),hb.os.trans hF1.2.2.1,hb.tape.trans hF1.2.2.2.1,hb.output.trans hF1.2.2.2.2⟩
      ·exact hF2.trans (zab hb hM))
     have HT2:=zaa (And.intro hrd1 hF1);have hle1:=hF1.1;clear hms hms1 hrd hrd1 hF1 hF2 hFr hFo hset hxn2 hd' Hat Hdm HX HTs hPm hqv hqb hqc hPc hx;by_cases hz:x - 1=0
     ·have hzz:(x - 1 == 0)=true:=by simpa using hz
      have Hdr2:Hid (dcR (P ++ [q]) (atZ ml)=dcR P (atZ ml) ++ [q]):=zaa (by rw[uh Hdr,uh Hdq,if_pos hz]);clear hz;generalize hA:zag (dcR P (atZ ml))=A at *;have hAl:A.length<=ml.length:=by rw[<- hA,zam];exact hrl2
      go_wp2_with (at_builtin;refine wpList_append_own _ rfl _ _ 50 rfl w.heap.size 3 i3 (.int .i64 0) 1 8 Tryz.underlying50 hi3 hz30 hz31 hz32 rfl (by decide) _ _ _ rfl ((uh HT2).1.alloc _) ⟨wr.heap.size,0,none⟩ 1 1 [.int .i64 (q:Int)] rfl rfl ?zc1 ?zc2 ?zc3 ?zc4 ?zc5 ?_)
      case zc1=>intro j u hu;have h:=zpR (wr.setCell ⟨mg,q,none⟩ (.int .i64 (x - 1))) (.int .i64 (q:Int)) 3 j u hu;simpa using h
      case zc2=>intro u hu;simp at hu;rcases hu with rfl;rfl
      case zc3=>unfold maxLen;omega
      case zc4=>omega
      case zc5=>simp;omega
      intro v' W3 hown' hgrow _;have hb3:Below w.heap.size (wr.setCell ⟨mg,q,none⟩ (.int .i64 (x - 1))) W3:=((zsY _ _).alloc (by simp;omega) _).grown hgrow (by simp;omega) (λk hk=>((uh HT2).1.lt k hk).1)
      have HN:=zaa (uh Hnext W3 v' (by
       have e1:zag (dcR (P ++ [q]) (atZ ml))=A ++ [(q:Int)]:=by rw[uh Hdr2,<- hA];unfold zag;rw[List.map_append];rfl
       rw[e1,<- zaY,zsI];exact hown') hb3)
      clear hown' hgrow hb3;go_wp2;go_roundw
      case rel=>exact⟨j+1,by go_num,by omega,by rw[uh HPj];exact(uh HN).1,(uh HN).2⟩
      case measure=>simp[intOf];omega
     ·have hzz:(x - 1 == 0)=false:=by simpa using hz
      have Hdr2:Hid (dcR (P ++ [q]) (atZ ml)=dcR P (atZ ml)):=zaa (by rw[uh Hdr,uh Hdq,if_neg hz,List.append_nil]);clear hz;have HN:=zaa (uh Hnext _ _ (by rw[uh Hdr2];exact(uh HT2).1) (zsY _ _));go_wp2;go_roundw
      case rel=>exact⟨j+1,by go_num,by omega,by rw[uh HPj];exact(uh HN).1,(uh HN).2⟩
      case measure=>simp[intOf];omega
    ·obtain rfl:j=L.length:=by omega
     have e1:L.take L.length=L:=zsN;have hRx:RdI M w (.slice ma ml.length mc) ml (zbX G found (i+1)) (.slice va (zag (dcR (zbX G found i ++ L.take L.length) (atZ ml))).length vc) wr:=by
      rw[uh HPs];rw[e1] at hrd hd' ⊢;exact⟨hrd,⟨ml',hl',hd',hms⟩,hFr⟩
     have HRx:=zaa hRx;clear hrd hd' hms hFr hFo hxn2 hRx;go_wp2;go_roundw
     case rel=>exact⟨i+1,by go_num,by omega,uh HRx⟩
     case measure=>simp[intOf];omega
  ·obtain rfl:i=found.length:=by omega
   have hall:zbX G found found.length=found.flatMap (zeW G):=by unfold zbX;rw[zsN]
   rw[hall] at HR hR ⊢;clear hgr hfn;go_wp2;go_ret;exact⟨_,rfl,uh HR⟩
structure TsV (B:Nat) (w:World) (vb:Nat) (wv:Value) (n mb lb ib:Nat) (ov mv:Value) (vs:List Value) (s:Ts):Prop where
 box:w.heap[vb]? = some (.cells #[wv,.int .i64 (s.count:Nat),.slice (some ⟨mb,0,none⟩) n n,.slice (some ⟨lb,0,none⟩) n n,ov,.slice (some ⟨ib,0,none⟩) n n,mv] 316 (0,0))
 met:w.rowIs mb 3 n (λr=>.int .i64 (s.met r:Nat))
 low:w.rowIs lb 3 n (λr=>.int .i64 (s.low r:Nat))
 isO:w.rowIs ib 4 n (λr=>.bool (s.isO r))
 opn:w.ownsRow B 3 1 ov s.opn.length (zao (zag s.opn))
 made:w.ownsRow B 50 1 mv s.made.length vs
 ring:∀ (i:Nat) (a:List Nat),s.made[i]? = some a->∃ (g c:Nat) (cs:Array Value),vs[i]? = some (.slice (some ⟨g,0,none⟩) a.length c)/\B<=g/\g≠mb/\g≠lb/\ov.ownBlock≠some g/\w.heap[g]? = some (.cells cs 3 (0,0))/\∀ j x:Nat,a[j]? = some x->cs[j]? = some (Value.int .i64 (x:Nat))
 ml:mb≠lb
 om:ov.ownBlock≠some mb
 ol:ov.ownBlock≠some lb
 b1:B<=vb
 b2:B<=mb
 b3:B<=lb
 b4:B<=ib
theorem zav{w:World}{a b t u:Nat}{cs ds:Array Value}{f g:Nat × Nat}(h:w.heap[a]? = some (.cells cs t f))(k:w.heap[b]? = some (.cells ds u g))(hn:t≠u):a≠b:=λe=>by
 subst e;rw[h] at k;simp only[Option.some.injEq,Obj.cells.injEq] at k;exact hn k.2.1
theorem zcC{w:World}{B e size n:Nat}{v:Value}{xs:List Value}(h:w.ownsRow B e size v n xs){k:Nat}(hk:v.ownBlock=some k):∃ cs,w.heap[k]? = some (.cells cs e (0,0)):=by
 rcases h.2 with ⟨rfl,_⟩ | ⟨g,cap,cur,rfl,_,hh,_⟩
 ·simp[Value.ownBlock] at hk
 ·simp only[Value.ownBlock,Option.some.injEq] at hk;subst hk;exact⟨_,hh⟩
theorem zaB{w:World}{b t n:Nat}{f:Nat->Value}(h:w.rowIs b t n f):∃ cs,w.heap[b]? = some (.cells cs t (0,0)):=by obtain⟨cs,h1,_⟩:=h;exact⟨cs,h1⟩
theorem zal(w:World){b o k:Nat}{v:Value}(h:k≠b):(w.setCell ⟨b,o,none⟩ v).heap[k]? = w.heap[k]?:=Below.heap_setCell w ⟨b,o,none⟩ v k h
theorem zgn{w w':World}{B e s n:Nat}{v:Value}{xs:List Value}(h:w.ownsRow B e s v n xs)(hb:Below w.heap.size w w'):w'.ownsRow B e s v n xs:=by
 refine⟨h.1,?_⟩;rcases h.2 with h1 | ⟨g,cap,cur,hv,hg,hh,rest⟩
 ·exact .inl h1
 ·exact .inr ⟨g,cap,cur,hv,hg,(hb.block g (zsO.1 hh).1).trans hh,rest⟩
section
variable {B:Nat} {w w':World} {vb:Nat} {wv:Value} {n mb lb ib:Nat} {ov mv:Value} {vs:List Value} {s:Ts}
theorem zaV(h:TsV B w vb wv n mb lb ib ov mv vs s)(hb:Below w.heap.size w w'):TsV B w' vb wv n mb lb ib ov mv vs s:=by
 have hl:∀ {k:Nat} {o:Obj},w.heap[k]? = some o->w'.heap[k]? = some o:=fun {k o} hk=>(hb.block k (zsO.1 hk).1).trans hk;refine⟨hl h.box,h.met.of_block (hb.block _ h.met.lt),h.low.of_block (hb.block _ h.low.lt),h.isO.of_block (hb.block _ h.isO.lt),zgn h.opn hb,zgn h.made hb,λi a ha=>?_,h.ml,h.om,h.ol,h.b1,h.b2,h.b3,h.b4⟩;obtain⟨g,c,cs,h1,h2,h3,h4,h5,h6,h7⟩:=h.ring i a ha;exact⟨g,c,cs,h1,h2,h3,h4,h5,hl h6,h7⟩
theorem ze6(h:TsV B w vb wv n mb lb ib ov mv vs s){b o:Nat}{v:Value}(hn:∀ g cs,w.heap[g]? = some (.cells cs 3 (0,0))->g≠mb->g≠lb->ov.ownBlock≠some g->g≠b)(i:Nat)(a:List Nat)(ha:s.made[i]? = some a):∃ (g c:Nat) (cs:Array Value),vs[i]? = some (.slice (some ⟨g,0,none⟩) a.length c)/\B<=g/\g≠mb/\g≠lb/\ov.ownBlock≠some g/\(w.setCell ⟨b,o,none⟩ v).heap[g]? = some (.cells cs 3 (0,0))/\∀ j x:Nat,a[j]? = some x->cs[j]? = some (Value.int .i64 (x:Nat)):=by
 obtain⟨g,c,cs,h1,h2,h3,h4,h5,h6,h7⟩:=h.ring i a ha;exact⟨g,c,cs,h1,h2,h3,h4,h5,(zal w (hn g cs h6 h3 h4 h5)).trans h6,h7⟩
theorem zbQ{w:World}{B e s n:Nat}{v:Value}{xs:List Value}(h:w.ownsRow B e s v n xs){b o:Nat}{u:Value}(hn:v.ownBlock≠some b):(w.setCell ⟨b,o,none⟩ u).ownsRow B e s v n xs:=by
 refine⟨h.1,?_⟩;rcases h.2 with h1 | ⟨g,cap,cur,hv,hg,hh,rest⟩
 ·exact .inl h1
 ·exact .inr ⟨g,cap,cur,hv,hg,(zal w (λe=>hn (by rw[hv,<- e];rfl))).trans hh,rest⟩
theorem za0{w:World}{B e s n b t:Nat}{v:Value}{xs:List Value}{cs:Array Value}{f:Nat × Nat}(h:w.ownsRow B e s v n xs)(hb:w.heap[b]? = some (.cells cs t f))(hn:e≠t):v.ownBlock≠some b:=λhk=>by
 obtain⟨ds,hd⟩:=zcC h hk;exact zav hd hb hn rfl
theorem zvd(h:TsV B w vb wv n mb lb ib ov mv vs s){i c:Nat}{u:Value}{s':Ts}(hc:i=1/\u=.int .i64 (c:Nat)/\s'={ s with count:=c }):TsV B (w.setCell ⟨vb,i,none⟩ u) vb wv n mb lb ib ov mv vs s':=by
 obtain⟨rfl,rfl,rfl⟩:=hc;obtain⟨m1,hm⟩:=zaB h.met;obtain⟨l1,hl⟩:=zaB h.low;obtain⟨i1,hi⟩:=zaB h.isO;refine⟨?_,h.met.of_block (zal w (zav hm h.box (by decide))),h.low.of_block (zal w (zav hl h.box (by decide))),h.isO.of_block (zal w (zav hi h.box (by decide))),zbQ h.opn (za0 h.opn h.box (by decide)),zbQ h.made (za0 h.made h.box (by decide)),ze6 h (λg cs hg _ _ _=>zav hg h.box (by decide)),h.ml,h.om,h.ol,h.b1,h.b2,h.b3,h.b4⟩;have:=Wk.block_set (i:=1) h.box (.int .i64 (c:Nat));simpa using this
theorem zvb(h:TsV B w vb wv n mb lb ib ov mv vs s)(r v:Nat):TsV B (w.setCell ⟨mb,r,none⟩ (.int .i64 (v:Nat))) vb wv n mb lb ib ov mv vs { s with met:=upN s.met r v }:=by
 obtain⟨m1,hm⟩:=zaB h.met;obtain⟨l1,hl⟩:=zaB h.low;obtain⟨i1,hi⟩:=zaB h.isO;refine⟨(zal w (zav h.box hm (by decide))).trans h.box,(h.met.set r _).congr (λi _=>?_),h.low.of_block (zal w (λe=>h.ml e.symm)),h.isO.of_block (zal w (zav hi hm (by decide))),zbQ h.opn h.om,zbQ h.made (za0 h.made hm (by decide)),ze6 h (λg cs hg h1 _ _=>h1),h.ml,h.om,h.ol,h.b1,h.b2,h.b3,h.b4⟩;show (if i=r then _ else _)=Value.int .i64 ((upN s.met r v i:Nat):Int);unfold upN
 split <;> rfl
theorem zoN(h:TsV B w vb wv n mb lb ib ov mv vs s)(r v:Nat):TsV B (w.setCell ⟨lb,r,none⟩ (.int .i64 (v:Nat))) vb wv n mb lb ib ov mv vs { s with low:=upN s.low r v }:=by
 obtain⟨m1,hm⟩:=zaB h.met;obtain⟨l1,hl⟩:=zaB h.low;obtain⟨i1,hi⟩:=zaB h.isO;refine⟨(zal w (zav h.box hl (by decide))).trans h.box,h.met.of_block (zal w h.ml),(h.low.set r _).congr (λi _=>?_),h.isO.of_block (zal w (zav hi hl (by decide))),zbQ h.opn h.ol,zbQ h.made (za0 h.made hl (by decide)),ze6 h (λg cs hg _ h1 _=>h1),h.ml,h.om,h.ol,h.b1,h.b2,h.b3,h.b4⟩;show (if i=r then _ else _)=Value.int .i64 ((upN s.low r v i:Nat):Int);unfold upN
 split <;> rfl
theorem zoO(h:TsV B w vb wv n mb lb ib ov mv vs s)(r:Nat)(v:Bool):TsV B (w.setCell ⟨ib,r,none⟩ (.bool v)) vb wv n mb lb ib ov mv vs { s with isO:=upB s.isO r v }:=by
 obtain⟨m1,hm⟩:=zaB h.met;obtain⟨l1,hl⟩:=zaB h.low;obtain⟨i1,hi⟩:=zaB h.isO;refine⟨(zal w (zav h.box hi (by decide))).trans h.box,h.met.of_block (zal w (zav hm hi (by decide))),h.low.of_block (zal w (zav hl hi (by decide))),(h.isO.set r _).congr (λi _=>?_),zbQ h.opn (za0 h.opn hi (by decide)),zbQ h.made (za0 h.made hi (by decide)),ze6 h (λg cs hg _ _ _=>zav hg hi (by decide)),h.ml,h.om,h.ol,h.b1,h.b2,h.b3,h.b4⟩;show (if i=r then _ else _)=Value.bool (upB s.isO r v i);unfold upB
 split <;> rfl
theorem zrV(h:TsV B w vb wv n mb lb ib ov mv vs s){w1 w2:World}(hb:Below w.heap.size w w1){r g cap:Nat}(hg:w1.grownBy w2 ov.ownBlock)(ho:w2.ownsRow B 3 1 (.slice (some ⟨g,0,none⟩) (s.opn.length+1) cap) (s.opn.length+1) (zao (zag s.opn) ++ [.int .i64 (r:Nat)]))(hw:ov.ownBlock=some g\/w1.heap.size<=g) :
 TsV B (w2.setCell ⟨vb,4,none⟩ (.slice (some ⟨g,0,none⟩) (s.opn.length+1) cap)) vb wv n mb lb ib (.slice (some ⟨g,0,none⟩) (s.opn.length+1) cap) mv vs { s with opn:=s.opn ++ [r] }:=by
 have h1:=zaV h hb;have hk:∀ k,k<w1.heap.size->ov.ownBlock≠some k->w2.heap[k]? = w1.heap[k]?:=λk hk hne=>hg.block k hk (λe=>hne e.symm);have hl:∀ {k:Nat} {o:Obj},w1.heap[k]? = some o->ov.ownBlock≠some k->w2.heap[k]? = some o:=fun {k o} hk' hne=>(hk k (zsO.1 hk').1 hne).trans hk';obtain⟨m1,hm⟩:=zaB h1.met;obtain⟨l1,hlw⟩:=zaB h1.low;obtain⟨i1,hi⟩:=zaB h1.isO;have nb:=za0 h1.opn h1.box (by decide);have ni:=za0 h1.opn hi (by decide);have hbox:=hl h1.box nb;have hm2:=hl hm h1.om;have hl2:=hl hlw h1.ol;have hi2:=hl hi ni;have hgn:∀ k,k<w1.heap.size->ov.ownBlock≠some k->g≠k:=λk hk' hne e=>by
  subst e;rcases hw with hw | hw
  ·exact hne hw
  ·omega
 have lt1:∀ {k:Nat} {o:Obj},w1.heap[k]? = some o->k<w1.heap.size:=λhk'=>(zsO.1 hk').1;refine⟨?_,(h1.met.of_block (hk _ (lt1 hm) h1.om)).of_block (zal w2 (zav hm2 hbox (by decide))),(h1.low.of_block (hk _ (lt1 hlw) h1.ol)).of_block (zal w2 (zav hl2 hbox (by decide))),(h1.isO.of_block (hk _ (lt1 hi) ni)).of_block (zal w2 (zav hi2 hbox (by decide))),?_,?_,λi a ha=>?_,h.ml,?_,?_,h.b1,h.b2,h.b3,h.b4⟩
 ·have:=Wk.block_set (i:=4) hbox (.slice (some ⟨g,0,none⟩) (s.opn.length+1) cap);simpa using this
 ·have e1:(s.opn ++ [r]).length=s.opn.length+1:=by simp
  have e2:zao (zag (s.opn ++ [r]))=zao (zag s.opn) ++ [.int .i64 (r:Nat)]:=by simp[zao,zag]
  show (w2.setCell _ _).ownsRow B 3 1 _ (s.opn ++ [r]).length (zao (zag (s.opn ++ [r])));rw[e1,e2];refine zbQ ho ?_;obtain⟨cs,hcs⟩:=zcC ho rfl;intro e;simp only[Value.ownBlock,Option.some.injEq] at e;exact zav hcs hbox (by decide) e
 ·have hmd:mv.ownBlock≠ov.ownBlock\/mv.ownBlock=none:=by
   cases hmv:mv.ownBlock with
   | none=>exact .inr rfl
   | some k =>
     left;intro e;obtain⟨c1,d1⟩:=zcC h1.made hmv;obtain⟨c2,d2⟩:=zcC h1.opn e.symm;exact zav d1 d2 (by decide) rfl
  have hm3:w2.ownsRow B 50 1 mv s.made.length vs:=h1.made.kept hg (hmd.elim .inr .inl);exact zbQ hm3 (za0 hm3 hbox (by decide))
 ·obtain⟨q,c,cs,h3,h4,h5,h6,h7,h8,h9⟩:=h1.ring i a ha;have h10:=hl h8 h7;exact⟨q,c,cs,h3,h4,h5,h6,λe=>hgn q (lt1 h8) h7 (by simpa [Value.ownBlock] using e),(zal w2 (zav h10 hbox (by decide))).trans h10,h9⟩
 ·intro e;exact hgn mb (lt1 hm) h1.om (by simpa [Value.ownBlock] using e)
 ·intro e;exact hgn lb (lt1 hlw) h1.ol (by simpa [Value.ownBlock] using e)
theorem zvc(h:TsV B w vb wv n mb lb ib ov mv vs s){g c p:Nat}(hv:ov=.slice (some ⟨g,0,none⟩) s.opn.length c)(hp:p<=s.opn.length):TsV B (w.setCell ⟨vb,4,none⟩ (.slice (some ⟨g,0,none⟩) p c)) vb wv n mb lb ib (.slice (some ⟨g,0,none⟩) p c) mv vs { s with opn:=s.opn.take p }:=by
 subst hv;obtain⟨m1,hm⟩:=zaB h.met;obtain⟨l1,hl⟩:=zaB h.low;obtain⟨i1,hi⟩:=zaB h.isO;have hob:=za0 h.opn h.box (by decide);refine⟨?_,h.met.of_block (zal w (zav hm h.box (by decide))),h.low.of_block (zal w (zav hl h.box (by decide))),h.isO.of_block (zal w (zav hi h.box (by decide))),?_,zbQ h.made (za0 h.made h.box (by decide)),ze6 h (λg cs hg _ _ _=>zav hg h.box (by decide)),h.ml,h.om,h.ol,h.b1,h.b2,h.b3,h.b4⟩
 ·have:=Wk.block_set (i:=4) h.box (.slice (some ⟨g,0,none⟩) p c);simpa using this
 ·have e1:(s.opn.take p).length=p:=by rw[zsV];omega
  show (w.setCell _ _).ownsRow B 3 1 _ (s.opn.take p).length (zao (zag (s.opn.take p)));rw[e1];refine zbQ (v:=.slice (some ⟨g,0,none⟩) p c) ⟨?_,.inr ?_⟩ hob
  ·rw[zbh,zam,e1];omega
  ·rcases h.opn.2 with ⟨h1,-⟩ | ⟨g',cap',cur,hv',hb',hh,h2,h3,h4,h5⟩
   ·cases h1
   ·cases hv'
    refine⟨g,c,cur,rfl,hb',hh,by omega,h3,h4,?_⟩;have:zao (zag (s.opn.take p))=(zao (zag s.opn)).take p:=by simp[zao,zag,List.map_take]
    rw[this,<- h5,List.take_take]
    congr 1
    omega
theorem zrW(h:TsV B w vb wv n mb lb ib ov mv vs s){q qc:Nat}{cs:Array Value}{a:List Nat}(hq:w.heap[q]? = some (.cells cs 3 (0,0)))(hqb:B<=q)(q1:q≠mb)(q2:q≠lb)(q3:ov.ownBlock≠some q)(hc:∀ j x:Nat,a[j]? = some x->cs[j]? = some (Value.int .i64 (x:Nat)))
 {w1 w2:World} (hb:Below w.heap.size w w1) {mv':Value} (hg:w1.grownBy w2 mv.ownBlock) (ho:w2.ownsRow B 50 1 mv' (s.made.length+1) (vs ++ [.slice (some ⟨q,0,none⟩) a.length qc])) :
 TsV B (w2.setCell ⟨vb,6,none⟩ mv') vb wv n mb lb ib ov mv' (vs ++ [.slice (some ⟨q,0,none⟩) a.length qc]) { s with made:=s.made ++ [a] }:=by
 have h1:=zaV h hb;have hvl:vs.length=s.made.length:=by have:=h.made.1;omega
 have hl:∀ {k t:Nat} {c:Array Value},w1.heap[k]? = some (.cells c t (0,0))->t≠50->w2.heap[k]? = some (.cells c t (0,0)):=fun {k t c} hk' hne=>(hg.block k (zsO.1 hk').1 (λe=>by
  obtain⟨c1,d1⟩:=zcC h1.made e.symm
  exact zav hk' d1 hne rfl)).trans hk'
 have hq1:w1.heap[q]? = some (.cells cs 3 (0,0)):=(hb.block q (zsO.1 hq).1).trans hq;obtain⟨m1,hm⟩:=zaB h1.met;obtain⟨l1,hlw⟩:=zaB h1.low;obtain⟨i1,hi⟩:=zaB h1.isO;have hbox:=hl h1.box (by decide);have hm2:=hl hm (by decide);have hl2:=hl hlw (by decide);have hi2:=hl hi (by decide);have hop:w2.ownsRow B 3 1 ov s.opn.length (zao (zag s.opn)):=by
  refine h1.opn.kept hg ?_
  cases hov:ov.ownBlock with
  | none=>exact .inl rfl
  | some k =>
    right;intro e;obtain⟨c1,d1⟩:=zcC h1.opn hov;obtain⟨c2,d2⟩:=zcC h1.made e.symm;exact zav d1 d2 (by decide) rfl
 refine⟨?_,(h1.met.of_block (hm2.trans hm.symm)).of_block (zal w2 (zav hm2 hbox (by decide))),(h1.low.of_block (hl2.trans hlw.symm)).of_block (zal w2 (zav hl2 hbox (by decide))),(h1.isO.of_block (hi2.trans hi.symm)).of_block (zal w2 (zav hi2 hbox (by decide))),zbQ hop (za0 hop hbox (by decide)),?_,λi b hib=>?_,h.ml,h.om,h.ol,h.b1,h.b2,h.b3,h.b4⟩
 ·have:=Wk.block_set (i:=6) hbox mv';simpa using this
 ·have e1:(s.made ++ [a]).length=s.made.length+1:=by simp
  show (w2.setCell _ _).ownsRow B 50 1 _ (s.made ++ [a]).length _;rw[e1];exact zbQ ho (za0 ho hbox (by decide))
 ·have hib:(s.made ++ [a])[i]? = some b:=hib;by_cases hlt:i<s.made.length
  ·rw[List.getElem?_append_left hlt] at hib;obtain⟨g,c,ds,h3,h4,h5,h6,h7,h8,h9⟩:=h1.ring i b hib;have h10:=hl h8 (by decide);exact⟨g,c,ds,by rw[List.getElem?_append_left (by omega)];exact h3,h4,h5,h6,h7,(zal w2 (zav h10 hbox (by decide))).trans h10,h9⟩
  ·have hi3:i=s.made.length:=by
    have:=(zsP.1 hib).1;simp at this;omega
   subst hi3;simp at hib;subst hib;have h10:=hl hq1 (by decide);exact⟨q,qc,cs,by rw[<- hvl];simp,hqb,q1,q2,q3,(zal w2 (zav h10 hbox (by decide))).trans h10,hc⟩
end
open Go.Maps
theorem zke:Keyed Tryz.prog 3:=int_keyed Tryz.underlying3
abbrev ki(i:Nat):Lit:=.int .i64 i
def zez(w:World)(b n:Nat)(S:Nat->Bool):Prop:=∃ D:DataW Unit,w.ownsMap Tryz.prog 3 unitElem b n D/\∀ i:Nat,Maps.has D (ki i)=S i
theorem zu0(w:World):(zeroValue 280).run Tryz.prog w=.ok (.agg #[]) w:=by kernel_rfl
theorem zho(gb nr:Nat)(ra:Option Addr)(rc:Nat)(hnr:nr<=2048)(w:World)(hgb:gb<w.heap.size)(c2:w.cell? ⟨gb,2,none⟩=some (.slice ra nr rc)) :
 Calls Tryz.prog 153 #[.pointer (some ⟨gb,0,none⟩)] w λe w'=>∃ b,e=.returned (.map (some b))/\zez w' b nr (λi=>decide (i<nr))/\w.heap.size<=b/\b<w'.heap.size/\Below w.heap.size w w':=by
 have hmm:=@run_makeMap Tryz.prog;go_enter Tryz.func153,Tryz.ntmps153;go_wp2
 go_loopw [12] (λx W=>∃ (k:Nat) (D:DataW Unit),x=.int .i64 k/\k<=nr/\W.ownsMap Tryz.prog 3 unitElem w.heap.size k D/\(∀ i:Nat,Maps.has D (ki i)=decide (i<k))/\Below w.heap.size w W) (λx _=>nr - (intOf x).toNat)
 case atStart=>exact⟨0,.map [],rfl,zsK _,World.ownsMap_made _ _ _ _,λi=>(by simp[Maps.has]),(zsY _ _).alloc (zsG _) _⟩
 case round =>
  obtain⟨k,D,rfl,hk,hown,hkt,hb⟩:=hrel;by_cases hlt:k<nr
  ·have hlt':(k:Int)<nr:=by omega
   have hwf:(Lit.int .i64 (k:Int)).wf=true:=WalkArith.wf_i64 (by omega)
   have Hkt:Hid (∀ i:Nat,Maps.has (D.put (ki k) (.agg [])) (ki i)=decide (i<k+1)):=zaa (λi=>by
    by_cases e:i=k
    ·subst e;rw[has_put_same hown.isMap (show WideAt.IsKeyLit (ki i) from trivial)];simp
    ·rw[has_put_other (λe'=>by simp at e';omega),hkt i,decide_eq_decide];omega)
   clear hkt;go_wp2_with (first | (at_mapUpdate;refine wpList_mapUpdate_own _ rfl _ _ _ 226 rfl 3 280 zke Tryz.underlying226 _ w.heap.size k D rfl hown (by unfold maxLen;omega) _ _ (ki k) rfl rfl (keyOf_int_mk Tryz.underlying3 hwf) _ [] unitElem_mk ?_;intro w1 hown1 hgrow1;go_frame) | go_in);go_roundw
   case rel=>exact⟨k+1,_,by go_num,by omega,hown1,uh Hkt,hb.grown hgrow1 hb.size (λj hj=>by cases hj;exact zsG _)⟩
   case measure=>simp[intOf];omega
  ·obtain rfl:k=nr:=by omega
   have hlt2:=hown.lt;go_wp2;go_ret;exact⟨w.heap.size,rfl,⟨D,hown,hkt⟩,zsG _,hlt2,hb⟩
theorem ziv(b n r:Nat)(S:Nat->Bool)(hr:r<=1048576)(w:World)(h:zez w b n S) :
 Calls Tryz.prog 154 #[.map (some b),.int .i64 (r:Int)] w λe w'=>e=.returned (.bool (S r))/\zez w' b n (λi=>if i=r then false else S i)/\Fr (· = b) w w':=by
 obtain⟨D,hown,hS⟩:=h;have hwf:(Lit.int .i64 (r:Int)).wf=true:=WalkArith.wf_i64 (by omega);have hkey:=keyOf_int_mk Tryz.underlying3 hwf;have hS2:∀ i:Nat,Maps.has (D.del (ki r)) (ki i)=if i=r then false else S i:=λi=>by
  by_cases e:i=r
  ·subst e;rw[has_del_same,if_pos rfl]
  ·rw[has_del_other (λe'=>by simp at e';omega),if_neg e,hS i]
 have hSr:=hS r;have HS2:=zaa hS2;generalize S r=R at *;clear hS hS2;have hbl:=hown.lt
 have HOwn:Hid (∀ W,Below w.heap.size w W->W.ownsMap Tryz.prog 3 unitElem b n D):=zaa (λW hb=>by
  obtain⟨es,c,hh,rr⟩:=hown
  exact⟨es,c,(hb.block b hbl).trans hh,rr⟩)
 clear hown;go_enter Tryz.func154,Tryz.ntmps154;go_wp2_with (first | (at_lookup;refine wpList_lookup_own_unit _ rfl _ _ 226 rfl 3 280 zke Tryz.underlying226 (zu0 _) b n D rfl (uh HOwn _ (by first | exact zsY _ _ | exact(zsY _ _).alloc (zsG _) _)) _ _ rfl hkey ?_) | (at_delete;refine wpList_delete_own _ rfl _ _ 226 3 rfl 280 zke Tryz.underlying226 _ b n D rfl (uh HOwn _ (by first | exact zsY _ _ | exact(zsY _ _).alloc (zsG _) _)) _ _ rfl hkey ?_;intro w1 hown1 hturn1;go_frame) | go_in);go_ret;have hg:=hturn1.grown;refine⟨rfl,⟨_,hown1,uh HS2⟩,?_⟩;have hb1:Below w.heap.size w (w.alloc (.cells #[] 280)):=(zsY _ _).alloc (zsG _) _;exact⟨by have:=hg.size;have:=hb1.size;omega,λk hk ho=>(hg.block k (by have:=hb1.size;omega) (λe=>ho (by cases e;rfl))).trans (hb1.block k hk),hg.os.trans hb1.os,hg.tape.trans hb1.tape,hg.output.trans hb1.output⟩
end Go.Proofs.YtieciibnajeibaaGreatDoor
namespace Go.Proofs.YtieciibnajeibaaGreatDoor
open Go.RowKit
variable{B B' k:Nat}{G:Gm}{a:Option Addr}{ls:List (List It)}{w:World}
theorem zfI{l:List Int}(h:NRow B w a l)(hB:B<=B'):NRow B' w a l:=by
 rcases h with h | ⟨b,off,h1,h2,h3⟩
 ·exact .inl h
 ·exact .inr ⟨b,off,h1,by omega,h3⟩
theorem zkp{gb:Nat}(h:GmB B w gb G)(hB:B<=w.heap.size):GmB w.heap.size w gb G:=by
 obtain⟨ka,kc,pa,pc,ra,rc,qa,qc,wa,wc,hlt,hbox,hin,hw,hwc⟩:=h;exact⟨ka,kc,pa,pc,ra,rc,qa,qc,wa,wc,by omega,hbox,zlE hin hB,zfI hw hB,hwc⟩
def zev(B:Nat)(w:World)(a:Option Addr)(ls:List (List It)):Prop :=
 ls=[]\/∃ b off,a=some ⟨b,off,none⟩/\b<B/\∀ j,j<ls.length->∃ ia ic,w.cell? ⟨b,off+j,none⟩=some (.slice ia (ls.getD j []).length ic)/\zcy B w ia (ls.getD j [])/\(ls.getD j []).length<=281474976710656
theorem zaU{w':World}(hb:Below B w w')(h:zev B w a ls):zev B w' a ls:=by
 rcases h with rfl | ⟨b,off,rfl,hlt,hc⟩
 ·exact .inl rfl
 ·refine .inr ⟨b,off,rfl,hlt,λj hj=>?_⟩;obtain⟨ia,ic,h1,h2,h3⟩:=hc j hj;exact⟨ia,ic,(hb.cell hlt).trans h1,zaw hb h2,h3⟩
theorem zaI{l:List It}(h:zcy B w a l)(hB:B<=B'):zcy B' w a l:=by
 rcases h with h | ⟨b,off,h1,h2,h3⟩
 ·exact .inl h
 ·exact .inr ⟨b,off,h1,by omega,h3⟩
theorem zbx(h:zev B w a ls)(hB:B<=B'):zev B' w a ls:=by
 rcases h with rfl | ⟨b,off,rfl,hlt,hc⟩
 ·exact .inl rfl
 ·refine .inr ⟨b,off,rfl,by omega,λj hj=>?_⟩;obtain⟨ia,ic,h1,h2,h3⟩:=hc j hj;exact⟨ia,ic,h1,zaI h2 hB,h3⟩
theorem zdp(h:zev B w a ls)(hk:k<ls.length):∃ b off ia ic,a=some ⟨b,off,none⟩/\b<B/\w.cell? ⟨b,off+k,none⟩=some (.slice ia (ls.getD k []).length ic)/\zcy B w ia (ls.getD k [])/\(ls.getD k []).length<=281474976710656:=by
 rcases h with rfl | ⟨b,off,h1,h2,h3⟩
 ·simp at hk
 ·obtain⟨ia,ic,g1,g2,g3⟩:=h3 k hk;exact⟨b,off,ia,ic,h1,h2,g1,g2,g3⟩
def zf9(G:Gm)(ls:List (List It)):Bool:=ls.all (zdv G)
theorem areItL_iff:zf9 G ls=true↔∀ l,l ∈ ls->zdv G l=true:=List.all_eq_true
theorem zpW{l:List (List It)}{i:Nat}(h:i<l.length):l.getD i [] ∈ l:=by
 rw[zsE,zsF h];exact List.getElem_mem h
def zlY(G:Gm)(ls:List (List It))(w:World)(e:Ending)(w':World):Prop :=
 Below w.heap.size w w'/\((zbK G=false/\e=.returned (.tuple #[.pointer none,.int .i64 130]))\/(zbK G=true/\zf9 G ls=false/\e=.returned (.tuple #[.pointer none,.int .i64 140])) \/
  (zbK G=true/\zf9 G ls=true/\∃ gb,e=.returned (.tuple #[.pointer (some ⟨gb,0,none⟩),.int .i64 0])/\w.heap.size<=gb/\GmB w'.heap.size w' gb G))
theorem zfK(G:Gm)(ka pa ra qa:Option Addr)(kc pc rc qc:Nat)(la:Option Addr)(lc:Nat)(ls:List (List It))(hl:ls.length<=281474976710656)(w:World)(hin:GIn w.heap.size w G ka pa ra qa)(hsm:smG G)(hi:zev w.heap.size w la ls) :
 Calls Tryz.prog 32 #[gV G ka pa ra qa kc pc rc qc,.slice la ls.length lc] w λe w'=>zlY G ls w e w':=by
 have hb1:Below w.heap.size w (w.alloc (.cells #[.slice ka G.kinds.length kc,.slice pa G.precs.length pc,.slice ra G.rules.length rc,.slice qa G.prods.length qc,.int .i64 G.start] 26)):=(zsY _ _).alloc (zsG _) _;have hst:=zeO (kc:=kc) (pc:=pc) (rc:=rc) (qc:=qc) (zsG _) hin 26;have hs1:(w.alloc (.cells #[.slice ka G.kinds.length kc,.slice pa G.precs.length pc,.slice ra G.rules.length rc,.slice qa G.prods.length qc,.int .i64 G.start] 26)).heap.size=w.heap.size+1:=by simp
 have HC:=zaa (zwV G ka pa ra qa kc pc rc qc _ (zcQ hin hb1) hsm);have Hin:=zaa (zcQ hin hb1);have Hi0:=zaa hi;have Hb1:=zaa hb1;have Hst:=zaa hst;unfold zq8 at HC;clear hb1 hst hin hi;unfold gV at HC ⊢
 cases hc:zbK G with
 | false =>
   rw[hc] at HC;simp only[Bool.false_eq_true,if_false] at HC;have Hc:=zaa hc;clear hc;go_enter Tryz.func32,Tryz.ntmps32;go_wp2_with fail;refine(uh HC).mono ?_;rintro e w2 ⟨rfl,hb2⟩;have Hb2:=zaa ((uh Hb1).trans (zab hb2 (uh Hb1).size));clear hb2;go_wp2;refine bodyPost_ret (v:=.tuple #[.pointer none,.int .i64 130]) ?zz9 rfl ⟨uh Hb2,.inl ⟨uh Hc,rfl⟩⟩
   case zz9=>simp[results,Tryz.results32,go_sem]
 | true =>
   have hG:=zb8 hc;have hk3:=hG.k3;have hr2:=hG.r2;have hs0:=hG.s0;have hs1':=hG.s1;unfold Gm.nk at hk3;unfold Gm.nr at hr2 hs1';have hwrap:IntKind.i64.wrap ((G.kinds.length:Int)+G.start)=(G.kinds.length:Int)+G.start:=by rw[IntKind.wrap_i64];omega
   rw[hc] at HC;simp only[if_true] at HC;have Hc:=zaa hc;obtain⟨R,hR⟩:∃ R,R=zf9 G ls:=⟨_,rfl⟩;have HR:=zaa hR;clear hc hR;go_enter Tryz.func32,Tryz.ntmps32;go_wp2_with fail;refine(uh HC).mono ?_;rintro e w2 ⟨rfl,hb2⟩;have hst2:=zb6 (zab hb2 (by rw[hs1];exact zsG _)) (zsG _) (uh Hst);have g0:=hst2.c0;have g1:=hst2.c1;have g2:=hst2.c2;have g3:=hst2.c3;have g4:=hst2.c4;clear hst2;have Hin2:=zaa (zcQ (uh Hin) hb2);have Hb2:=zaa ((uh Hb1).trans (zab hb2 (uh Hb1).size));clear hb2 HC
   have Hg3:Hid (∀ W3,W3=(w2.alloc (.cells #[.int .i64 ((G.kinds.length:Int)+G.start)] 3)).alloc (.cells #[.slice ka G.kinds.length kc,.slice pa G.precs.length pc,.slice ra G.rules.length rc,.slice qa G.prods.length qc,.int .i64 G.start,.slice (some ⟨w2.heap.size,0,none⟩) 1 1] 101)->GmB W3.heap.size W3 (w2.heap.size+1) G/\Below w2.heap.size w2 W3/\W3.heap.size=w2.heap.size+2):=zaa (λW3 hW=>by
    have e0:=zsH w2 (.cells #[.int .i64 ((G.kinds.length:Int)+G.start)] 3);have e1:=zsH (w2.alloc (.cells #[.int .i64 ((G.kinds.length:Int)+G.start)] 3)) (.cells #[.slice ka G.kinds.length kc,.slice pa G.precs.length pc,.slice ra G.rules.length rc,.slice qa G.prods.length qc,.int .i64 G.start,.slice (some ⟨w2.heap.size,0,none⟩) 1 1] 101);have hb:Below w2.heap.size w2 W3:=by rw[hW];exact((zsY _ _).alloc (zsG _) _).alloc (by simp) _
    have hs:W3.heap.size=w2.heap.size+2:=by rw[hW];simp
    have h1:(w2.alloc (.cells #[.int .i64 ((G.kinds.length:Int)+G.start)] 3)).heap.size=w2.heap.size+1:=by simp
    rw[h1] at e1;refine⟨⟨ka,kc,pa,pc,ra,rc,qa,qc,some ⟨w2.heap.size,0,none⟩,1,by omega,by rw[hW];exact e1,zcQ (uh Hin2) hb,.inr ⟨w2.heap.size,0,rfl,by omega,λj hj=>?_⟩,zsG _⟩,hb,hs⟩;have hj0:j=0:=by simp at hj;omega
    subst hj0;have e2:W3.heap[w2.heap.size]? = some (.cells #[.int .i64 ((G.kinds.length:Int)+G.start)] 3 (0,0)):=by
     rw[hW];exact(zsZ _ _ _ (by simp)).trans e0
    exact zac e2 0 rfl)
   go_wp2_with fail;obtain⟨W3,hW3⟩:∃ W3,W3=(w2.alloc (.cells #[.int .i64 ((G.kinds.length:Int)+G.start)] 3)).alloc (.cells #[.slice ka G.kinds.length kc,.slice pa G.precs.length pc,.slice ra G.rules.length rc,.slice qa G.prods.length qc,.int .i64 G.start,.slice (some ⟨w2.heap.size,0,none⟩) 1 1] 101):=⟨_,rfl⟩;rw[<- hW3];obtain⟨hgm,hbw,hsz3⟩:=uh Hg3 W3 hW3;have Hb3:=zaa ((uh Hb2).trans (zab hbw (uh Hb2).size));have Hi3:Hid (zev W3.heap.size W3 la ls):=zaa (zbx (zaU (uh Hb3) (uh Hi0)) (uh Hb3).size);have Hgm:=zaa hgm;clear hgm hbw hW3 Hg3
   go_loopw [27] (λx wr=>∃ k:Nat,x=.int .i64 k/\k<=ls.length/\(∀ j,j<k->zdv G (ls.getD j [])=true)/\Below W3.heap.size W3 wr) (λx _=>ls.length - (intOf x).toNat)
   case atStart=>exact⟨0,rfl,zsK _,λj hj=>absurd hj (Nat.not_lt_zero _),zsY _ _⟩
   case round =>
    obtain⟨k,rfl,hk,hall,hb⟩:=hrel;have hsz:=hb.size;have Hall:=zaa hall;have Hb:=zaa hb;clear hall hb;by_cases hlt:k<ls.length
    ·have hlt':(k:Int)<ls.length:=by omega
     obtain⟨b,off,ia,ic,rfl,hbl,q0,hrow,hlen⟩:=zdp (zaU (uh Hb) (uh Hi3)) hlt;have HI:=zaa (zfi wr.heap.size (w2.heap.size+1) G hG ia ic (ls.getD k []) hlen wr (zsG _) (zkp (zfj (uh Hgm) (zsG _) (uh Hb)) hsz) (zaI hrow hsz));clear hrow
     cases hx:zdv G (ls.getD k []) with
     | false =>
       have hv:zf9 G ls=false:=by
        rw[Bool.eq_false_iff];intro h;rw[areItL_iff.1 h _ (zpW hlt)] at hx
        cases hx
       obtain rfl:R=false:=(uh HR).trans hv;rw[hx] at HI;clear hv hx;generalize ls.getD k []=x at *;go_wp2_with fail;refine(uh HI).mono ?_;rintro e w4 ⟨rfl,hb4⟩;have Hb4:=zaa ((uh Hb3).trans (zab ((uh Hb).trans (zab hb4 hsz)) (uh Hb3).size));clear hb4;go_wp2;refine bodyPost_ret (v:=.tuple #[.pointer none,.int .i64 140]) ?zz9 rfl ⟨uh Hb4,.inr (.inl ⟨uh Hc,(uh HR).symm,rfl⟩)⟩
       case zz9=>simp[results,Tryz.results32,go_sem]
     | true =>
       have Ha2:Hid (∀ j,j<k+1->zdv G (ls.getD j [])=true):=zaa (λj hj=>by
        by_cases e:j=k
        ·rw[e];exact hx
        ·exact uh Hall j (by omega))
       rw[hx] at HI;clear hx;generalize ls.getD k []=x at *;go_wp2_with fail;refine(uh HI).mono ?_;rintro e w4 ⟨rfl,hb4⟩;have Hb4:=zaa ((uh Hb).trans (zab hb4 hsz));clear hb4;go_wp2;go_roundw
       case rel=>exact⟨k+1,by go_num,by omega,uh Ha2,uh Hb4⟩
       case measure=>simp[intOf];omega
    ·have hlt':¬ (k:Int)<ls.length:=by omega
     have hv:zf9 G ls=true:=areItL_iff.2 (λx hx=>by
      obtain⟨j,hj,rfl⟩:=zsT.1 hx;have:=uh Hall j (by omega);rw[zsE,zsF hj] at this
      exact this)
     obtain rfl:R=true:=(uh HR).trans hv;clear hv;have Hgm4:Hid (GmB wr.heap.size wr (w2.heap.size+1) G):=zaa (zkp (zfj (uh Hgm) (zsG _) (uh Hb)) hsz);have Hb4:=zaa ((uh Hb3).trans (zab (uh Hb) (uh Hb3).size));have hz2:=(uh Hb2).size;go_wp2;refine bodyPost_ret (v:=.tuple #[.pointer (some ⟨w2.heap.size+1,0,none⟩),.int .i64 0]) ?zz8 rfl ⟨uh Hb4,.inr (.inr ⟨uh Hc,(uh HR).symm,_,rfl,by omega,uh Hgm4⟩)⟩
     case zz8=>simp[results,Tryz.results32,go_sem]
open Go.Lib
def zkM(n:Nat)(nxs:List (List Int)):Prop:=0<n/\nxs.length=n/\∀ j,j<nxs.length->(nxs.getD j []).length=(nxs.getD 0 []).length/\∀ x,x ∈ nxs.getD j []->-1<=x/\x<n
theorem ztx(F:Nat)(cap:Array Value)(f:Int->Bool)(hcf:∀ args W,Sem.run Tryz.prog (callFunc F args) W=.ok (.enter F args) W)(a:Option Addr)(c:Nat)(l:List Int)(hl:l.length<=281474976710656)(w:World)(hrow:NRow w.heap.size w a l)
 (hF:∀ x,x ∈ l->Calls Tryz.prog F (#[.int .i64 x] ++ cap) w λe W'=>e=.returned (.bool (f x))/\W'=w) :
 Calls Tryz.prog 137 #[.slice a l.length c,.func (.func F) #[] cap] w λe w'=>∃ i:Int,e=.returned (.int .i64 i)/\(0<=i↔∃ x,x ∈ l/\f x=true)/\w'=w:=by
 have Hrow:=zaa hrow;have HF:=zaa hF;clear hrow hF;go_enter Tryz.func137,Tryz.ntmps137;go_wp2
 go_loopw [8] (λx W=>∃ k:Nat,x=.int .i64 k/\k<=l.length/\(∀ y,y ∈ l.take k->f y=false)/\W=w) (λx _=>l.length - (intOf x).toNat)
 case atStart=>exact⟨0,rfl,zsK _,by simp,rfl⟩
 case round =>
  obtain⟨k,rfl,hk,hno,rfl⟩:=hrel;by_cases hlt:k<l.length
  ·have hlt':(k:Int)<l.length:=by omega
   obtain⟨b,off,rfl,hbl,hc⟩:=zbf (uh Hrow) hlt;have hm:l.getD k 0 ∈ l:=by rw[zsE,zsF hlt];exact List.getElem_mem hlt
   have HC:=zaa (uh HF _ hm);have e1:l.take (k+1)=l.take k ++ [l.getD k 0]:=by rw[zsU,zsE,zsF hlt];rfl
   generalize l.getD k 0=y at *;have Hno:=zaa hno;clear hno;go_wp2_with fail;refine(uh HC).mono ?_;rintro e w2 ⟨rfl,rfl⟩
   cases hf:f y with
   | true =>
     go_wp2;go_ret;exact⟨k,rfl,⟨λ_=>⟨y,hm,hf⟩,λ_=>by omega⟩,rfl⟩
   | false =>
     go_wp2;go_roundw
     case rel=>exact⟨k+1,by go_num,by omega,λz hz=>by
      rw[e1] at hz;rcases List.mem_append.1 hz with h | h
      ·exact uh Hno z h
      ·simp at h;subst h;exact hf,trivial⟩
     case measure=>simp[intOf];omega
  ·obtain rfl:k=l.length:=by omega
   rw[List.take_of_length_le (zsG _)] at hno;have Hno:=zaa hno;clear hno;go_wp2;go_ret;exact⟨-1,rfl,⟨λh=>by omega,fun⟨x,h1,h2⟩=>by rw[uh Hno x h1] at h2;cases h2⟩,rfl⟩
theorem ztS(F:Nat)(cap:Array Value)(f:Int->Bool)(hcf:∀ args W,Sem.run Tryz.prog (callFunc F args) W=.ok (.enter F args) W)(a:Option Addr)(c:Nat)(l:List Int)(hl:l.length<=281474976710656)(w:World)(hrow:NRow w.heap.size w a l)
 (hF:∀ x,x ∈ l->Calls Tryz.prog F (#[.int .i64 x] ++ cap) w λe W'=>e=.returned (.bool (f x))/\W'=w) :
 Calls Tryz.prog 90 #[.slice a l.length c,.func (.func F) #[] cap] w λe w'=>e=.returned (.bool (l.any f))/\w'=w:=by
 have HI:=zaa (ztx F cap f hcf a c l hl w hrow hF);clear hF hrow;go_enter Tryz.func90,Tryz.ntmps90;go_wp2_with fail;refine(uh HI).mono ?_;rintro e w2 ⟨i,rfl,hi,rfl⟩;have e1:(decide (0<=i))=l.any f:=by rw[Bool.eq_iff_iff,decide_eq_true_eq,hi,List.any_eq_true]
 have E1:=zaa e1;clear hi e1;go_wp2;go_ret;exact⟨by rw[<- uh E1];rfl,rfl⟩
theorem zfb{ll:List (List Int)}(h:zeu w a ll)(hk:k<ll.length):∃ b off,a=some ⟨b,off,none⟩/\b<w.heap.size/\∃ ra rc,w.cell? ⟨b,off+k,none⟩=some (.slice ra (ll.getD k []).length rc)/\NRow w.heap.size w ra (ll.getD k []):=by
 rcases h with rfl | ⟨b,off,h1,h2,h3⟩
 ·simp at hk
 ·exact⟨b,off,h1,h2,h3 k hk⟩
theorem zw3:∀ args W,Sem.run Tryz.prog (callFunc 91 args) W=.ok (.enter 91 args) W:=λ_ _=>by simp[callFunc,Tryz.func91,Tryz.f91,go_sem,Result.andThen]
theorem zq6(ab n sc m nc:Nat)(sa na:Option Addr)(w:World)(hx:w.heap[ab]? = some (.cells #[.slice sa n sc,.slice na m nc] 45 (0,0)))(t:Int) :
 Calls Tryz.prog 91 (#[.int .i64 t] ++ #[.pointer (some ⟨ab,0,none⟩)]) w λe w'=>e=.returned (.bool (decide (t < -1\/(n:Int)<=t)))/\w'=w:=by
 have c0:=zac hx 0 rfl;show Calls Tryz.prog 91 #[.int .i64 t,.pointer (some ⟨ab,0,none⟩)] w _;by_cases h1:t < -1
 ·have hd:decide (t < -1\/(n:Int)<=t)=true:=decide_eq_true (.inl h1);rw[hd];go_enter Tryz.func91,Tryz.ntmps91;go_wp2;go_ret;exact⟨rfl,rfl⟩
 ·by_cases h2:(n:Int)<=t
  ·have hd:decide (t < -1\/(n:Int)<=t)=true:=decide_eq_true (.inr h2);rw[hd];go_enter Tryz.func91,Tryz.ntmps91;go_wp2;go_ret;exact⟨rfl,rfl⟩
  ·have hd:decide (t < -1\/(n:Int)<=t)=false:=decide_eq_false (by omega);rw[hd];go_enter Tryz.func91,Tryz.ntmps91;go_wp2;go_ret;exact⟨rfl,rfl⟩
def RowP(n len0:Nat)(r:List Int):Prop:=r.length=len0/\∀ x,x ∈ r->-1<=x/\x<n
theorem zxh{n:Nat}{r:List Int}:(r.any λt=>decide (t < -1\/(n:Int)<=t))=false↔∀ x,x ∈ r->-1<=x/\x<n:=by
 rw[List.any_eq_false];constructor
 ·intro h x hx;have:=h x hx;rw[decide_eq_true_eq] at this;omega
 ·intro h x hx;have:=h x hx;rw[decide_eq_true_eq];omega
theorem zey(sa na:Option Addr)(n sc nc:Nat)(nxs:List (List Int))(hn:n<=281474976710656)(hl:∀ j,j<nxs.length->(nxs.getD j []).length<=281474976710656)(hl2:nxs.length<=281474976710656)(w:World)(h:zeu w na nxs) :
 Calls Tryz.prog 54 #[.agg #[.slice sa n sc,.slice na nxs.length nc]] w λe w'=>(∃ r:Bool,e=.returned (.bool r)/\(r=true↔zkM n nxs))/\Below w.heap.size w w':=by
 have H:=zaa h;clear h;by_cases h0:n=0
 ·subst h0;have Hf:=zaa (show ¬ zkM 0 nxs from λh=>by have:=h.1;omega);go_enter Tryz.func54,Tryz.ntmps54;go_wp2_with fail;refine bodyPost_ret (v:=.bool false) ?zz1 rfl ⟨⟨false,rfl,⟨(λh=>absurd h (by decide)),λh=>absurd h (uh Hf)⟩⟩,(zsY _ _).alloc (zsG _) _⟩
  case zz1=>simp[results,Tryz.results54,go_sem]
 ·have h0I:(((n:Nat):Int) == 0)=false:=by simpa using h0
  by_cases h1:nxs.length=n
  ·subst h1;have h1I:(((nxs.length:Nat):Int) != (nxs.length:Int))=false:=by simp
   go_enter Tryz.func54,Tryz.ntmps54;go_wp2_with fail;obtain⟨W1,hW1⟩:∃ W1,W1=w.alloc (.cells #[.slice sa nxs.length sc,.slice na nxs.length nc] 45):=⟨_,rfl⟩;have hb1:Below w.heap.size w W1:=by rw[hW1];exact(zsY _ _).alloc (zsG _) _
   have hx1:W1.heap[w.heap.size]? = some (.cells #[.slice sa nxs.length sc,.slice na nxs.length nc] 45 (0,0)):=by rw[hW1];exact zsH _ _
   have hs1:=hb1.size;have hlt1:=(zsO.1 hx1).1;rw[<- hW1];have H1:=zaa (zbE (uh H) hb1);have Hb1:=zaa hb1;have Hx1:=zaa hx1;have H0:=zaa h0;clear hW1 hb1 hx1 h0
   go_loopw [21] (λx wr=>∃ k:Nat,x=.int .i64 (k:Int)/\k<=nxs.length/\(∀ j,j<k->RowP nxs.length (nxs.getD 0 []).length (nxs.getD j []))/\Below W1.heap.size W1 wr) (λx _=>nxs.length - (intOf x).toNat)
   case atStart=>exact⟨0,rfl,zsK _,λj hj=>absurd hj (Nat.not_lt_zero _),zsY _ _⟩
   case round =>
    obtain⟨k,rfl,hk,hok,hb⟩:=hrel;have hsz:=hb.size;have Hok:=zaa hok;have Hb:=zaa hb;clear hok hb;by_cases hlt:k<nxs.length
    ·have hlt':(k:Int)<(nxs.length:Int):=by omega
     have h00:(0:Int)<(nxs.length:Int):=by omega
     have hrow:=zbE (uh H1) (uh Hb);obtain⟨b,off,rfl,hbl,ra,rc,q0,hr0⟩:=zfb hrow hlt;obtain⟨b2,off2,e2,-,ra2,rc2,q1,-⟩:=zfb hrow (k:=0) (by omega);obtain⟨rfl,rfl⟩:b=b2/\off=off2:=by simpa using e2
     have hxw:=(uh Hb).block _ hlt1 |>.trans (uh Hx1)
     have y0:=zac hxw 0 rfl;have y1:=zac hxw 1 rfl
     have Hnx:Hid (RowP nxs.length (nxs.getD 0 []).length (nxs.getD k [])->∀ j,j<k+1->RowP nxs.length (nxs.getD 0 []).length (nxs.getD j [])):=zaa (λh9 j hj=>by
      by_cases e:j=k
      ·rw[e];exact h9
      ·exact uh Hok j (by omega))
     have Hno:Hid (¬ RowP nxs.length (nxs.getD 0 []).length (nxs.getD k [])->¬ zkM nxs.length nxs):=zaa (λh9 hr=>h9 (hr.2.2 k hlt));have hlk:=hl k hlt;have HCF:Hid (∀ W:World,Below wr.heap.size wr W->Calls Tryz.prog 90 #[.slice ra (nxs.getD k []).length rc,.func (.func 91) #[] #[.pointer (some ⟨w.heap.size,0,none⟩)]] W λe w'=>e=.returned (.bool ((nxs.getD k []).any λt=>decide (t < -1\/(nxs.length:Int)<=t)))/\w'=W):=zaa (λW hW=>ztS 91 #[.pointer (some ⟨w.heap.size,0,none⟩)] _ zw3 ra rc (nxs.getD k []) hlk W (zfJ hr0 hW) (λx hx=>zq6 w.heap.size nxs.length sc nxs.length nc sa _ W ((hW.block _ (by omega)).trans hxw) x));have HRow:=zaa hrow;have Hr0:=zaa hr0;have Hxw:=zaa hxw;clear hrow hr0 hxw H Hok;unfold RowP at Hnx Hno;generalize nxs.getD k []=r at *;generalize (nxs.getD 0 []).length=m at *;by_cases hm:r.length=m
     ·subst hm;have hmI:(((r.length:Nat):Int) != (r.length:Int))=false:=by simp
      have Hany:=zaa (@zxh nxs.length r);generalize hv:(r.any λt=>decide (t < -1\/(nxs.length:Int)<=t))=v at *;clear hv;have q1':wr.cell? ⟨b,off,none⟩=some (.slice ra2 r.length rc2):=q1;have HC1:=zaa (uh HCF _ (zsY _ _))
      cases v with
      | false =>
        have Hf:=zaa (uh Hnx ⟨rfl,(uh Hany).1 rfl⟩);clear Hnx Hno Hany HCF;go_wp2_with fail;refine(uh HC1).mono ?_;rintro e W2 ⟨rfl,rfl⟩;go_wp2;go_roundw
        case rel=>exact⟨k+1,by go_num,by omega,uh Hf,uh Hb⟩
        case measure=>simp[intOf];omega
      | true =>
        have Hf:=zaa (uh Hno (λh=>by have:=(uh Hany).2 h.2;cases this));have Hbw:=zaa ((uh Hb1).trans (zab (uh Hb) hs1));clear Hnx Hno Hany HCF;go_wp2_with fail;refine(uh HC1).mono ?_;rintro e W2 ⟨rfl,rfl⟩;go_wp2;refine bodyPost_ret (v:=.bool false) ?zz6 rfl ⟨⟨false,rfl,⟨(λh=>absurd h (by decide)),λh=>absurd h (uh Hf)⟩⟩,uh Hbw⟩
        case zz6=>simp[results,Tryz.results54,go_sem]
     ·have hmI:(((r.length:Nat):Int) != (m:Int))=true:=by simp;omega
      have Hf:=zaa (uh Hno (λh=>hm h.1));have q1':wr.cell? ⟨b,off,none⟩=some (.slice ra2 m rc2):=q1;have Hbw:=zaa ((uh Hb1).trans (zab (uh Hb) hs1));clear Hnx Hno HCF;go_wp2_with fail;refine bodyPost_ret (v:=.bool false) ?zz5 rfl ⟨.inl ⟨rfl,uh Hf⟩,uh Hbw⟩
      case zz5=>simp[results,Tryz.results54,go_sem]
    ·have hlt':¬ (k:Int)<(nxs.length:Int):=by omega
     obtain rfl:k=nxs.length:=by omega
     have Hf:Hid (zkM nxs.length nxs):=zaa ⟨by have:=uh H0;omega,rfl,λj hj=>uh Hok j hj⟩;have Hbw:=zaa ((uh Hb1).trans (zab (uh Hb) hs1));go_wp2;refine bodyPost_ret (v:=.bool true) ?zz2 rfl ⟨.inr ⟨rfl,uh Hf⟩,uh Hbw⟩
     case zz2=>simp[results,Tryz.results54,go_sem]
  ·have h1I:(((nxs.length:Nat):Int) != (n:Int))=true:=by simp;omega
   have Hf:=zaa (show ¬ zkM n nxs from λh=>h1 h.2.1);go_enter Tryz.func54,Tryz.ntmps54;go_wp2_with fail;refine bodyPost_ret (v:=.bool false) ?zz1 rfl ⟨⟨false,rfl,⟨(λh=>absurd h (by decide)),λh=>absurd h (uh Hf)⟩⟩,(zsY _ _).alloc (zsG _) _⟩
   case zz1=>simp[results,Tryz.results54,go_sem]
end Go.Proofs.YtieciibnajeibaaGreatDoor

/- The code's places, areFound. -/
import Derived.Test.YtagohbpbgjelaaaGreatDoorGI
import Derived.Test.YtagohbpbgjelaaaGreatDoorRO
import Derived.Test.YtagohbpbgjelaaaGreatDoorRG
import Derived.Maps.OwnSet
namespace Go.Proofs.YtagohbpbgjelaaaGreatDoor
open Go.RowKit

def zdE (l:List Int) (x:Int):Nat→List Int
 | 0=>[]
 | k+1=>zdE l x k ++ if l.getD k 0=x then[(k:Int)] else[]
theorem zf9 (l:List Int) (x:Int):∀ k,(zdE l x k).length≤k
 | 0=>by simp[zdE]
 | k+1=>by unfold zdE;rw[List.length_append];have:=zf9 l x k;split <;> simp <;> omega
theorem zkj (l:List Int) (x:Int):∀ k,zdE l x k=((List.range k).filter fun q=>decide (l.getD q 0=x)).map fun(q:Nat)=>(q:Int)
 | 0=>rfl
 | k+1=>by
   unfold zdE
   rw[zkj l x k,List.range_succ,List.filter_append,List.map_append]
   congr 1
   by_cases h:l.getD k 0=x
   ·rw[if_pos h,List.filter_cons_of_pos (by simpa using h)];rfl
   ·rw[if_neg h,List.filter_cons_of_neg (by simpa using h)];rfl
set_option maxHeartbeats 1000000 in
set_option maxRecDepth 100000 in
theorem zlh (a:Option Addr) (cap:Nat) (l:List Int) (x:Int) (hn:l.length≤1048576) (w:World) (hrow:NRow w.heap.size w a l) :
 Calls Tryz.prog 124 #[.slice a l.length cap,.int .i64 x] w fun e w'=>∃ v,e=.returned v∧w'.ownsRow w.heap.size 3 1 v (zdE l x l.length).length (zal (zdE l x l.length))∧Below w.heap.size w w':=by
 obtain⟨i0,hi,hz0,hz1,hz2⟩:=zao zc0
 have Hrow:=zaa hrow
 clear hrow
 go_enter Tryz.func124,Tryz.ntmps124
 go_wp2
 go_loopw [5,10] (fun u y wr=>∃ k:Nat,y=.int .i64 k∧k≤l.length∧wr.ownsRow w.heap.size 3 1 u (zdE l x k).length (zal (zdE l x k))∧Below w.heap.size w wr) (fun _ y _=>l.length - (intOf y).toNat)
 case atStart=>exact⟨0,rfl,Nat.zero_le _,World.ownsRow_nil _ _ _ _,Below.refl _ _⟩
 case round =>
  obtain⟨k,rfl,hk,hown,hb⟩:=hrel
  obtain⟨ua,uc,rfl⟩:=zad hown
  have hsz:=hb.size
  have hle:=zf9 l x k
  have Hown:=zaa hown;have Hb:=zaa hb
  clear hown hb
  by_cases hlt:k<l.length
  ·have hlt':(k:Int)<l.length:=by omega
   obtain⟨b,off,rfl,hbl,hc⟩:=za3 (zau (uh Hb) (uh Hrow)) hlt
   have Hs:Hid (zdE l x (k+1)=zdE l x k ++ if l.getD k 0=x then[(k:Int)] else[]):=zaa rfl
   generalize l.getD k 0=y at *
   by_cases hy:y=x
   ·subst hy
    have hyy:(y == y)=true:=by simp
    rw[if_pos rfl] at Hs
    generalize zdE l y k=acc at *
    go_wp2_with (at_builtin;refine wpList_append_own _ rfl _ _ 27 rfl w.heap.size 3 i0 (.int .i64 0) 1 8 Tryz.underlying27 hi hz0 hz1 hz2 rfl (by decide) _ _ _ rfl ((uh Hown).alloc _) ⟨wr.heap.size,0,none⟩ 1 1 [.int .i64 (k:Int)] rfl rfl ?zc1 ?zc2 ?zc3 ?zc4 ?zc5 ?_)
    case zc1=>exact ziC _ _ _
    case zc2=>intro u hu;simp at hu;rcases hu with rfl;rfl
    case zc3=>unfold maxLen;omega
    case zc4=>omega
    case zc5=>simp;omega
    intro v' W3 hown' hgrow _
    have Hb4:=zaa (((uh Hb).alloc hsz _).grown hgrow (by simp;omega) (fun j hj=>((uh Hown).lt j hj).1))
    have Ho4:=zaa (show W3.ownsRow w.heap.size 3 1 v' (zdE l y (k+1)).length (zal (zdE l y (k+1))) by rw[uh Hs,← zaN,List.length_append];exact hown')
    clear hown' hgrow
    go_wp2
    go_roundw
    case rel=>exact⟨k+1,by go_num,by omega,uh Ho4,uh Hb4⟩
    case measure=>simp[intOf];omega
   ·have hyy:(y == x)=false:=by simpa using hy
    rw[if_neg hy,List.append_nil] at Hs
    go_wp2
    go_roundw
    case rel=>exact⟨k+1,by go_num,by omega,by rw[uh Hs];exact uh Hown,uh Hb⟩
    case measure=>simp[intOf];omega
  ·obtain rfl:k=l.length:=by omega
   go_wp2
   go_ret
   exact⟨_,rfl,uh Hown,uh Hb⟩
def fdM (l:List Int):Nat→Bool:=fun r=>decide (l.getD r 0 ≠ -1)
set_option maxHeartbeats 1000000 in
set_option maxRecDepth 100000 in
theorem zft (a:Option Addr) (cap:Nat) (l:List Int) (hn:l.length≤1048576) (w:World) (hrow:NRow w.heap.size w a l) :
 Calls Tryz.prog 85 #[.slice a l.length cap] w fun e w'=>∃ b,e=.returned (.slice (some ⟨b,0,none⟩) l.length l.length)∧w'.rowIs b 4 l.length (fun r=>.bool (fdM l r))∧w.heap.size≤b∧Below w.heap.size w w':=by
 have hmk:=fun w=>run_make_row' (P:=Tryz.prog) 28 4 (.bool false) 1 Tryz.underlying28 zlx rfl .i64 .i64 l.length (by omega) (by omega) w
 have Hrow:=zaa hrow
 clear hrow
 have hnot:=zaG
 go_enter Tryz.func85,Tryz.ntmps85
 go_wp2
 have Hz:=zaa (World.rowIs_made w (.bool false) l.length 4)
 go_loopw [11] (fun y wr=>∃ k:Nat,y=.int .i64 k∧k≤l.length∧wr.rowIs w.heap.size 4 l.length (fun r=>.bool (decide (r<k) && fdM l r))∧Below w.heap.size w wr) (fun y _=>l.length - (intOf y).toNat)
 case atStart=>exact⟨0,rfl,Nat.zero_le _,(uh Hz).congr (fun i _=>by simp),(Below.refl _ _).alloc (Nat.le_refl _) _⟩
 case round =>
  obtain⟨k,rfl,hk,hr,hb⟩:=hrel
  have hsz:=hb.size
  have hlb:=hr.lt
  have Hb:=zaa hb
  clear hb Hz
  by_cases hlt:k<l.length
  ·have hlt':(k:Int)<l.length:=by omega
   obtain⟨b,off,rfl,hbl,hc⟩:=za3 (zau (uh Hb) (uh Hrow)) hlt
   have hfz:=hr.frozen k
   have hcl:=hr.cell hlt
   have Hr2:=zaa (show (wr.setCell ⟨w.heap.size,k,none⟩ (.bool (l.getD k 0 != -1))).rowIs w.heap.size 4 l.length (fun r=>.bool (decide (r<k+1) && fdM l r)) from(hr.set k _).congr (fun i _=>by
    by_cases e:i=k
    ·subst e;rw[if_pos rfl];unfold fdM;simp;rw[Bool.eq_iff_iff];simp
    ·rw[if_neg e]
     have h1:decide (i<k)=decide (i<k+1):=by rw[decide_eq_decide];omega
     rw[h1]))
   have Hb2:=zaa ((uh Hb).setCell (p:=⟨w.heap.size,k,none⟩) (Nat.le_refl _) (.bool (l.getD k 0 != -1)))
   generalize l.getD k 0=y at *
   clear hr
   go_wp2
   go_roundw
   case rel=>exact⟨k+1,by go_num,by omega,uh Hr2,uh Hb2⟩
   case measure=>simp[intOf];omega
  ·obtain rfl:k=l.length:=by omega
   have Hr2:=zaa (hr.congr (g:=fun r=>.bool (fdM l r)) (fun i hi=>by simp[hi]))
   clear hr
   go_wp2
   go_ret
   exact⟨w.heap.size,rfl,uh Hr2,Nat.le_refl _,uh Hb⟩
end Go.Proofs.YtagohbpbgjelaaaGreatDoor

namespace Go.Proofs.YtagohbpbgjelaaaGreatDoor
open Go.RowKit

theorem zmM {W:World} {B g n c:Nat} {l:List Int} (h:W.ownsRow B 3 1 (.slice (some ⟨g,0,none⟩) n c) n (zal l)) (i:Nat) (x:Int):(W.setCell ⟨g,i,none⟩ (.int .i64 x)).ownsRow B 3 1 (.slice (some ⟨g,0,none⟩) n c) n (zal (l.set i x)):=by
 obtain⟨h1,h2⟩:=h
 rcases h2 with ⟨hv,_⟩ | ⟨g',cap,cur,hv,hb,hh,hn,hm,hs,ht⟩
 ·cases hv
 ·cases hv
  refine⟨by rw[zbl,List.length_set];rw[zbl] at h1;exact h1,.inr ⟨g,c,cur.setIfInBounds i (.int .i64 x),rfl,hb,Wk.block_set hh _,hn,hm,by simpa using hs,?_⟩⟩
  rw[Array.toList_setIfInBounds,List.take_set,ht]
  unfold zal
  rw[List.map_set]
theorem zko {W:World} {B:Nat} {v:Value} {l:List Int} (h:W.ownsRow B 3 1 v l.length (zal l)) {i:Nat} (hi:i<l.length):∃ g c,v=.slice (some ⟨g,0,none⟩) l.length c∧g<W.heap.size∧W.cell? ⟨g,i,none⟩=some (.int .i64 (l.getD i 0))∧W.frozen? ⟨g,i,none⟩=false:=by
 obtain⟨g,c,hv,-,hlt,-⟩:=Wk.own_pos h (by omega)
 subst hv
 refine⟨g,c,rfl,hlt,?_,?_⟩
 ·rw[Wk.own_cell h rfl i (by rw[zbl];exact hi)]
  unfold zal
  simp[List.getD_eq_getElem?_getD,hi]
 ·exact h.frozenAt i
def atZ (l:List Int):Nat→Int:=fun q=>l.getD q 0
theorem zrI {l:List Int} {i:Nat} {x:Int} (hi:i<l.length):atZ (l.set i x)=upZ (atZ l) i x:=by
 funext j
 unfold atZ upZ
 by_cases e:j=i
 ·subst e;simp[List.getD_eq_getElem?_getD,hi]
 ·rw[if_neg e];simp[List.getD_eq_getElem?_getD,Ne.symm e]
def zbm (G:Gm) (r:Nat):List Nat:=(List.range G.prods.length).flatMap fun i=>List.replicate ((zar G.nk (G.prods.getD i pd0).right).count (r:Int)) i
def zai (l:List Nat):List Int:=l.map fun(r:Nat)=>(r:Int)
theorem zak (l:List Nat):(zai l).length=l.length:=by simp[zai]
theorem zbF {l:List Nat} {i:Nat} (h:i<l.length):(zai l).getD i 0=((l.getD i 0:Nat):Int):=by
 unfold zai;rw[List.getD_eq_getElem?_getD,List.getElem?_map,List.getD_eq_getElem?_getD,List.getElem?_eq_getElem h];rfl
theorem zdA (G:Gm) (r:Nat):zeD G G.prods.length r=zai (zbm G r):=by
 unfold zeD zbm zai
 rw[List.map_flatMap]
 congr 1
 funext i
 simp
theorem zdz {G:Gm} {r q:Nat} (h:q ∈ zbm G r):q<G.prods.length:=by
 unfold zbm at h
 obtain⟨i,hi,hq⟩:=List.mem_flatMap.1 h
 have:=(List.mem_replicate.1 hq).2
 have:=List.mem_range.1 hi
 omega
theorem zfA {G:Gm} (hG:GOk G) (r:Nat):(zbm G r).length≤262144:=by
 have h1:=zfN hG r G.prods.length (Nat.le_refl _)
 rw[zdA,zak] at h1
 have:=hG.ps
 omega
theorem zdX (l:List Nat) (i:Nat) (h:i<l.length):l.take (i+1)=l.take i ++ [l.getD i 0]:=zbf l i 0 h
theorem zeQ {l:List Nat} {i:Nat} (h:i<l.length):l.getD i 0 ∈ l:=by
 rw[List.getD_eq_getElem?_getD,List.getElem?_eq_getElem h];exact List.getElem_mem h
def zb6 (G:Gm) (found:List Nat) (i:Nat):List Nat:=(found.take i).flatMap (zbm G)
theorem zhb {G:Gm} {found:List Nat} {i:Nat} (h:i<found.length):zb6 G found (i+1)=zb6 G found i ++ zbm G (found.getD i 0):=by
 unfold zb6;rw[zdX _ _ h,List.flatMap_append];simp
theorem zgs {G:Gm} (hG:GOk G) (found:List Nat):∀ i,i≤found.length→(zb6 G found i).length≤i * 262144
 | 0,_=>by simp[zb6]
 | i+1,h=>by
   rw[zhb (by omega),List.length_append]
   have:=zgs hG found i (by omega)
   have:=zfA hG (found.getD i 0)
   omega
theorem dcR_lt {P:List Nat} {m:Nat→Int} {q:Nat} (h:q ∈ dcR P m):q ∈ P:=by
 have:=(zdR P m q).1 h
 exact List.count_pos_iff.1 (by omega)
theorem znQ {n:Nat} (P:List Nat) (m:Nat→Int) (h:∀ q,q ∈ P→q<n):(dcR P m).length≤n:=by
 have hnd:=zeT P m
 have:=List.Nodup.length_le_of_subset hnd (l₂:=List.range n) (fun q hq=>List.mem_range.2 (h q (dcR_lt hq)))
 simpa using this
theorem zpH (P:List Nat) (m:Nat→Int) (q:Nat):dcM (P ++ [q]) m=upZ (dcM P m) q (dcM P m q - 1):=by rw[zhe];rfl
theorem zpG (P:List Nat) (m:Nat→Int) (q:Nat):dcR (P ++ [q]) m=dcR P m ++ if dcM P m q - 1=0 then[q] else[]:=by rw[zhd];simp[dcR]
structure RdI (M:Nat) (w:World) (mv:Value) (ml:List Int) (P:List Nat) (u:Value) (W:World):Prop where
 rd:W.ownsRow w.heap.size 3 1 u (zai (dcR P (atZ ml))).length (zal (zai (dcR P (atZ ml))))
 ms:∃ ml',ml'.length=ml.length∧atZ ml'=dcM P (atZ ml)∧W.ownsRow M 3 1 mv ml'.length (zal ml')
 fr:Fr (fun k=>mv.ownBlock=some k) w W
set_option maxHeartbeats 2000000 in
set_option maxRecDepth 100000 in
theorem zf5 (G:Gm) (hG:GOk G) (ka pa ra qa:Option Addr) (kc pc rc qc gb ob ub:Nat) (M:Nat) (fa:Option Addr) (fc:Nat) (found:List Nat) (hfl:found.length≤2048) (hfr:∀ r,r ∈ found→r<G.rules.length) (mv:Value) (ml:List Int) (hml:ml.length=G.prods.length) (hmb:∀ q,-1048576≤atZ ml q∧atZ ml q≤1048576)
 (w:World) (hM:M≤w.heap.size) (hg:GrAt M w G ka kc pa pc ra rc qa qc gb ob ub) (hf:NRow w.heap.size w fa (zai found)) (hm:w.ownsRow M 3 1 mv ml.length (zal ml)) (hfm:∀ x,fa=some x→mv.ownBlock≠some x.block) :
 Calls Tryz.prog 109 #[.pointer (some ⟨gb,0,none⟩),.slice fa found.length fc,mv] w fun e w'=>∃ v,e=.returned v∧RdI M w mv ml (found.flatMap (zbm G)) v w':=by
 obtain⟨i3,hi3,hz30,hz31,hz32⟩:=zao zc0
 obtain⟨ma,mc,hmv⟩:=zad hm
 have hps:=hG.ps
 have hMO:∀ k,mv.ownBlock=some k→M≤k:=fun k hk=>(hm.lt k hk).1
 have hMw:∀ k,mv.ownBlock=some k→k<w.heap.size:=fun k hk=>(hm.lt k hk).2
 have HK:Hid (∀ W,Fr (fun k=>mv.ownBlock=some k) w W→GrAt M W G ka kc pa pc ra rc qa qc gb ob ub∧NRow W.heap.size W fa (zai found)):=zaa (fun W hF=>by
  have hb:Below M w W:=zah hF hM hMO
  refine⟨zaJ hg hb,?_⟩
  rcases hf with h | ⟨b,o,h1,h2,h3⟩
  ·exact .inl h
  ·exact .inr ⟨b,o,h1,by have:=hF.1;omega,fun j hj=>(World.cell?_of_block (hF.2.1 b h2 (hfm _ h1))).trans (h3 j hj)⟩)
 have Hstart:Hid (RdI M w mv ml (zb6 G found 0) (.slice none 0 0) w):=zaa ⟨World.ownsRow_nil _ _ _ _,⟨ml,rfl,rfl,hm⟩,zav _ _⟩
 have Hmb:=zaa hmb;have Hfr:=zaa hfr;have Hml:=zaa hml
 have hml4:ml.length≤4096:=by omega
 clear hg hf hfm hmb hfr hm hml
 subst hmv
 go_enter Tryz.func109,Tryz.ntmps109
 go_wp2
 go_loopw [7,14] (fun u x W=>∃ i:Nat,x=.int .i64 i∧i≤found.length∧RdI M w (.slice ma ml.length mc) ml (zb6 G found i) u W) (fun _ x _=>found.length - (intOf x).toNat)
 case atStart=>exact⟨0,rfl,Nat.zero_le _,uh Hstart⟩
 case round =>
  clear Hstart
  obtain⟨i,rfl,hi,hR⟩:=hrel
  obtain⟨hgr,hfn⟩:=uh HK wr hR.fr
  obtain⟨ua,uc,rfl⟩:=zad hR.rd
  have HR:=zaa hR
  by_cases hlt:i<found.length
  ·have hlt':(i:Int)<found.length:=by omega
   obtain⟨fb,fo,rfl,hfb,hcf⟩:=za3 hfn (k:=i) (by rw[zak];exact hlt)
   rw[zbF hlt] at hcf
   have hrl:=uh Hfr _ (zeQ hlt)
   have HPs:=zaa (zhb (G:=G) hlt)
   have hPl:=zgs hG found i hi
   generalize found.getD i 0=r at *
   have c6:wr.cell? ⟨gb,6,none⟩=some (.slice (some ⟨ub,0,none⟩) G.rules.length G.rules.length):=by unfold World.cell?;rw[hgr.box];rfl
   obtain⟨Ou,htu,-⟩:=hgr.uses
   obtain⟨xa,xc,tcu,hxn⟩:=zj0 htu hrl
   rw[zdA] at tcu hxn
   rw[zak] at tcu
   have hul:=zfA hG r
   have hux:∀ q,q ∈ zbm G r→q<ml.length:=fun q hq=>by rw[uh Hml];exact zdz hq
   have hPx:∀ q,q ∈ zb6 G found i→q<ml.length:=fun q hq=>by
    rw[uh Hml]
    unfold zb6 at hq
    obtain⟨s,-,hs⟩:=List.mem_flatMap.1 hq
    exact zdz hs
   have HX:=zaa (And.intro hux hPx)
   -- the rule's row stays
   have HY:Hid (∀ W,Below M wr W→NRow W.heap.size W xa (zai (zbm G r))):=zaa (fun W hbW=>by
    have hF:Fr (fun k=>M≤k) wr W:=⟨hbW.size,fun k _ hk=>hbW.block k (by omega),hbW.os,hbW.tape,hbW.output⟩
    obtain⟨Ou2,⟨V,hV⟩,hOu⟩:=hgr.uses
    obtain⟨a1,c1,e1,e2,-,e3⟩:=zbC hV hrl
    have hV2:=zdY hV hF (fun k hk hk2=>by have:=hOu k hk;omega)
    obtain⟨a2,c2,e4,e5,-,e6⟩:=zbC hV2 hrl
    rw[e1] at e4;cases e4
    rw[zdA,zak] at e2
    rw[zdA] at e6
    rw[tcu] at e2;cases e2
    exact e6)
   generalize zbm G r=L at *
   clear hgr hfn htu hux hPx
   go_wp2
   go_loopw [7,26] (fun u x W=>∃ j:Nat,x=.int .i64 j∧j≤L.length∧RdI M w (.slice ma ml.length mc) ml (zb6 G found i ++ L.take j) u W∧Below M wr W) (fun _ x _=>L.length - (intOf x).toNat)
   case atStart=>exact⟨0,rfl,Nat.zero_le _,by simpa using uh HR,Below.refl _ _⟩
   case round =>
    clear tcu c6 hcf HR
    obtain⟨j,rfl,hj,hR,hFo⟩:=hrel
    obtain⟨hrd,⟨ml',hl',hd',hms⟩,hFr⟩:=hR
    obtain⟨va,vc,rfl⟩:=zad hrd
    have hxn2:=uh HY wr hFo
    have hsz:=hFr.1
    by_cases hjl:j<L.length
    ·have hjl':(j:Int)<L.length:=by omega
     obtain⟨xb,xo,rfl,hxb,hcx⟩:=za3 hxn2 (k:=j) (by rw[zak];exact hjl)
     rw[zbF hjl] at hcx
     have hqm:=(uh HX).1 _ (zeQ hjl)
     have HTs:=zaa (zdX L j hjl)
     have hPm:∀ q,q ∈ zb6 G found i ++ L.take j→q<ml.length:=fun q hq=>(List.mem_append.1 hq).elim ((uh HX).2 q) (fun h=>(uh HX).1 q (List.mem_of_mem_take h))
     have hrl2:=znQ (zb6 G found i ++ L.take j) (atZ ml) hPm
     have hPc:∀ q,(((zb6 G found i ++ L.take j).count q:Nat):Int)≤2048 * 262144+262144:=fun q=>by
      have h1:(zb6 G found i ++ L.take j).count q≤(zb6 G found i ++ L.take j).length:=List.count_le_length
      rw[List.length_append,List.length_take] at h1
      omega
     generalize hq:L.getD j 0=q at *
     have hqv:ml'.getD q 0=atZ ml q - (((zb6 G found i ++ L.take j).count q:Nat):Int):=by
      have h1:atZ ml' q=dcM (zb6 G found i ++ L.take j) (atZ ml) q:=by rw[hd']
      rw[ziS] at h1
      exact h1
     have hqb:=uh Hmb q
     have hqc:=hPc q
     have Hdm:=zaa (zpH (zb6 G found i ++ L.take j) (atZ ml) q)
     have Hdr:=zaa (zpG (zb6 G found i ++ L.take j) (atZ ml) q)
     have Hdq:Hid (dcM (zb6 G found i ++ L.take j) (atZ ml) q=ml'.getD q 0):=zaa (by rw[← hd'];rfl)
     have HPj:Hid (zb6 G found i ++ L.take (j+1)=(zb6 G found i ++ L.take j) ++ [q]):=zaa (by rw[uh HTs,List.append_assoc])
     generalize zb6 G found i ++ L.take j=P at *
     obtain⟨mg,mc',hmv,hmgl,hcm,hfz⟩:=zko hms (i:=q) (by omega)
     simp only[Value.slice.injEq] at hmv
     obtain⟨rfl,-,rfl⟩:=hmv
     rw[hl'] at hms
     have hq0:q<ml'.length:=by omega
     have Hat:=zaa (fun x=>zrI (l:=ml') (i:=q) (x:=x) hq0)
     generalize hx:ml'.getD q 0=x at *
     have hwx:IntKind.i64.wrap (x - 1)=x - 1:=by rw[IntKind.wrap_i64];omega
     have hms1:=zmM hms q (x - 1)
     have hset:Fr (· = mg) wr (wr.setCell ⟨mg,q,none⟩ (.int .i64 (x - 1))):=zaz (zav _ _) (by rfl) _
     have hmgw:mg<w.heap.size:=hMw mg rfl
     have hrd1:=zbA hrd hset hmgw
     have hF1:Fr (fun k=>(Value.slice (some ⟨mg,0,none⟩) ml.length mc).ownBlock=some k) w (wr.setCell ⟨mg,q,none⟩ (.int .i64 (x - 1))):=zaz hFr (by rfl) _
     have hmgM:M≤mg:=hMO mg rfl
     have hF2:=hFo.setCell (p:=⟨mg,q,none⟩) hmgM (.int .i64 (x - 1))
     have hlset:(ml'.set q (x - 1)).length=ml.length:=by rw[List.length_set,hl']
     have c1:(wr.setCell ⟨mg,q,none⟩ (.int .i64 (x - 1))).cell? ⟨mg,q,none⟩=some (.int .i64 (x - 1)):=by
      have h2:=hms1
      rw[← hlset] at h2
      obtain⟨mg2,mc2,e1,-,e2,-⟩:=zko h2 (i:=q) (by omega)
      simp only[Value.slice.injEq,Option.some.injEq,Addr.mk.injEq] at e1
      obtain⟨⟨rfl,-⟩,-,rfl⟩:=e1
      rw[e2]
      simp[List.getD_eq_getElem?_getD,hq0]
     have hmlq:(q:Int)<ml.length:=by omega
     have Hnext:Hid (∀ (W':World) (u':Value),W'.ownsRow w.heap.size 3 1 u' (zai (dcR (P ++ [q]) (atZ ml))).length (zal (zai (dcR (P ++ [q]) (atZ ml))))→Below w.heap.size (wr.setCell ⟨mg,q,none⟩ (.int .i64 (x - 1))) W'→RdI M w (.slice (some ⟨mg,0,none⟩) ml.length mc) ml (P ++ [q]) u' W'∧Below M _ W'):=zaa (fun W' u' ho hb=>by
      refine⟨⟨ho,⟨ml'.set q (x - 1),hlset,?_,?_⟩,?_⟩,?_⟩
      ·rw[uh Hat,uh Hdm,hd',uh Hdq]
      ·rw[hlset]
       obtain⟨e1,e2⟩:=hms1
       refine⟨by rw[e1],?_⟩
       rcases e2 with e2 | ⟨g',cap',cur',e3,e4,e5,rest⟩
       ·exact .inl e2
       ·have:g'=mg:=by cases e3;rfl
        subst this
        exact .inr ⟨g',cap',cur',e3,e4,(hb.block g' hmgw).trans e5,rest⟩
      ·exact⟨Nat.le_trans hF1.1 hb.size,fun k hk ho=>(hb.block k hk).trans (hF1.2.1 k hk ho),hb.os.trans hF1.2.2.1,hb.tape.trans hF1.2.2.2.1,hb.output.trans hF1.2.2.2.2⟩
      ·exact hF2.trans (zab hb hM))
     have HT2:=zaa (And.intro hrd1 hF1)
     have hle1:=hF1.1
     clear hms hms1 hrd hrd1 hF1 hF2 hFr hFo hset hxn2 hd' Hat Hdm HX HTs hPm hqv hqb hqc hPc hx
     by_cases hz:x - 1=0
     ·have hzz:(x - 1 == 0)=true:=by simpa using hz
      have Hdr2:Hid (dcR (P ++ [q]) (atZ ml)=dcR P (atZ ml) ++ [q]):=zaa (by rw[uh Hdr,uh Hdq,if_pos hz])
      clear hz
      generalize hA:zai (dcR P (atZ ml))=A at *
      have hAl:A.length≤ml.length:=by rw[← hA,zak];exact hrl2
      go_wp2_with (at_builtin;refine wpList_append_own _ rfl _ _ 27 rfl w.heap.size 3 i3 (.int .i64 0) 1 8 Tryz.underlying27 hi3 hz30 hz31 hz32 rfl (by decide) _ _ _ rfl ((uh HT2).1.alloc _) ⟨wr.heap.size,0,none⟩ 1 1 [.int .i64 (q:Int)] rfl rfl ?zc1 ?zc2 ?zc3 ?zc4 ?zc5 ?_)
      case zc1=>intro j u hu;have h:=ziC (wr.setCell ⟨mg,q,none⟩ (.int .i64 (x - 1))) (.int .i64 (q:Int)) 3 j u hu;simpa using h
      case zc2=>intro u hu;simp at hu;rcases hu with rfl;rfl
      case zc3=>unfold maxLen;omega
      case zc4=>omega
      case zc5=>simp;omega
      intro v' W3 hown' hgrow _
      have hb3:Below w.heap.size (wr.setCell ⟨mg,q,none⟩ (.int .i64 (x - 1))) W3:=((Below.refl _ _).alloc (by simp;omega) _).grown hgrow (by simp;omega) (fun k hk=>((uh HT2).1.lt k hk).1)
      have HN:=zaa (uh Hnext W3 v' (by
       have e1:zai (dcR (P ++ [q]) (atZ ml))=A ++ [(q:Int)]:=by rw[uh Hdr2,← hA];unfold zai;rw[List.map_append];rfl
       rw[e1,← zaN,List.length_append];exact hown') hb3)
      clear hown' hgrow hb3
      go_wp2
      go_roundw
      case rel=>exact⟨j+1,by go_num,by omega,by rw[uh HPj];exact(uh HN).1,(uh HN).2⟩
      case measure=>simp[intOf];omega
     ·have hzz:(x - 1 == 0)=false:=by simpa using hz
      have Hdr2:Hid (dcR (P ++ [q]) (atZ ml)=dcR P (atZ ml)):=zaa (by rw[uh Hdr,uh Hdq,if_neg hz,List.append_nil])
      clear hz
      have HN:=zaa (uh Hnext _ _ (by rw[uh Hdr2];exact(uh HT2).1) (Below.refl _ _))
      go_wp2
      go_roundw
      case rel=>exact⟨j+1,by go_num,by omega,by rw[uh HPj];exact(uh HN).1,(uh HN).2⟩
      case measure=>simp[intOf];omega
    ·obtain rfl:j=L.length:=by omega
     have e1:L.take L.length=L:=List.take_length
     have hRx:RdI M w (.slice ma ml.length mc) ml (zb6 G found (i+1)) (.slice va (zai (dcR (zb6 G found i ++ L.take L.length) (atZ ml))).length vc) wr:=by
      rw[uh HPs]
      rw[e1] at hrd hd' ⊢
      exact⟨hrd,⟨ml',hl',hd',hms⟩,hFr⟩
     have HRx:=zaa hRx
     clear hrd hd' hms hFr hFo hxn2 hRx
     go_wp2
     go_roundw
     case rel=>exact⟨i+1,by go_num,by omega,uh HRx⟩
     case measure=>simp[intOf];omega
  ·obtain rfl:i=found.length:=by omega
   have hall:zb6 G found found.length=found.flatMap (zbm G):=by unfold zb6;rw[List.take_length]
   rw[hall] at HR hR ⊢
   clear hgr hfn
   go_wp2
   go_ret
   exact⟨_,rfl,uh HR⟩
end Go.Proofs.YtagohbpbgjelaaaGreatDoor

namespace Go.Proofs.YtagohbpbgjelaaaGreatDoor
open Go.RowKit

structure TsV (B:Nat) (w:World) (vb:Nat) (wv:Value) (n mb lb ib:Nat) (ov mv:Value) (vs:List Value) (s:Ts):Prop where
 box:w.heap[vb]? = some (.cells #[wv,.int .i64 (s.count:Nat),.slice (some ⟨mb,0,none⟩) n n,.slice (some ⟨lb,0,none⟩) n n,ov,.slice (some ⟨ib,0,none⟩) n n,mv] 212 (0,0))
 met:w.rowIs mb 3 n (fun r=>.int .i64 (s.met r:Nat))
 low:w.rowIs lb 3 n (fun r=>.int .i64 (s.low r:Nat))
 isO:w.rowIs ib 4 n (fun r=>.bool (s.isO r))
 opn:w.ownsRow B 3 1 ov s.opn.length (zal (zai s.opn))
 made:w.ownsRow B 27 1 mv s.made.length vs
 ring:∀ (i:Nat) (a:List Nat),s.made[i]? = some a→∃ (g c:Nat) (cs:Array Value),vs[i]? = some (.slice (some ⟨g,0,none⟩) a.length c)∧B≤g∧g≠mb∧g≠lb∧ov.ownBlock≠some g∧w.heap[g]? = some (.cells cs 3 (0,0))∧∀ j x:Nat,a[j]? = some x→cs[j]? = some (Value.int .i64 (x:Nat))
 ml:mb≠lb
 om:ov.ownBlock≠some mb
 ol:ov.ownBlock≠some lb
 b1:B≤vb
 b2:B≤mb
 b3:B≤lb
 b4:B≤ib
theorem zaF {w:World} {a b t u:Nat} {cs ds:Array Value} {f g:Nat × Nat} (h:w.heap[a]? = some (.cells cs t f)) (k:w.heap[b]? = some (.cells ds u g)) (hn:t≠u):a≠b:=fun e=>by
 subst e;rw[h] at k;simp only[Option.some.injEq,Obj.cells.injEq] at k;exact hn k.2.1
theorem zcJ {w:World} {B e size n:Nat} {v:Value} {xs:List Value} (h:w.ownsRow B e size v n xs) {k:Nat} (hk:v.ownBlock=some k):∃ cs,w.heap[k]? = some (.cells cs e (0,0)):=by
 rcases h.2 with ⟨rfl,_⟩ | ⟨g,cap,cur,rfl,_,hh,_⟩
 ·simp[Value.ownBlock] at hk
 ·simp only[Value.ownBlock,Option.some.injEq] at hk
  subst hk;exact⟨_,hh⟩
theorem zax {w:World} {b t n:Nat} {f:Nat→Value} (h:w.rowIs b t n f):∃ cs,w.heap[b]? = some (.cells cs t (0,0)):=by obtain⟨cs,h1,_⟩:=h;exact⟨cs,h1⟩
theorem zaj (w:World) {b o k:Nat} {v:Value} (h:k≠b):(w.setCell ⟨b,o,none⟩ v).heap[k]? = w.heap[k]?:=Below.heap_setCell w ⟨b,o,none⟩ v k h
theorem zd9 {w w':World} {B e s n:Nat} {v:Value} {xs:List Value} (h:w.ownsRow B e s v n xs) (hb:Below w.heap.size w w'):w'.ownsRow B e s v n xs:=by
 refine⟨h.1,?_⟩
 rcases h.2 with h1 | ⟨g,cap,cur,hv,hg,hh,rest⟩
 ·exact .inl h1
 ·exact .inr ⟨g,cap,cur,hv,hg,(hb.block g (Array.getElem?_eq_some_iff.1 hh).1).trans hh,rest⟩
section
variable {B:Nat} {w w':World} {vb:Nat} {wv:Value} {n mb lb ib:Nat} {ov mv:Value} {vs:List Value} {s:Ts}
theorem za8 (h:TsV B w vb wv n mb lb ib ov mv vs s) (hb:Below w.heap.size w w'):TsV B w' vb wv n mb lb ib ov mv vs s:=by
 have hl:∀ {k:Nat} {o:Obj},w.heap[k]? = some o→w'.heap[k]? = some o:=fun {k o} hk=>(hb.block k (Array.getElem?_eq_some_iff.1 hk).1).trans hk
 refine⟨hl h.box,h.met.of_block (hb.block _ h.met.lt),h.low.of_block (hb.block _ h.low.lt),h.isO.of_block (hb.block _ h.isO.lt),zd9 h.opn hb,zd9 h.made hb,fun i a ha=>?_,h.ml,h.om,h.ol,h.b1,h.b2,h.b3,h.b4⟩
 obtain⟨g,c,cs,h1,h2,h3,h4,h5,h6,h7⟩:=h.ring i a ha
 exact⟨g,c,cs,h1,h2,h3,h4,h5,hl h6,h7⟩
theorem zeG (h:TsV B w vb wv n mb lb ib ov mv vs s) {b o:Nat} {v:Value} (hn:∀ g cs,w.heap[g]? = some (.cells cs 3 (0,0))→g≠mb→g≠lb→ov.ownBlock≠some g→g≠b) (i:Nat) (a:List Nat) (ha:s.made[i]? = some a):∃ (g c:Nat) (cs:Array Value),vs[i]? = some (.slice (some ⟨g,0,none⟩) a.length c)∧B≤g∧g≠mb∧g≠lb∧ov.ownBlock≠some g∧(w.setCell ⟨b,o,none⟩ v).heap[g]? = some (.cells cs 3 (0,0))∧∀ j x:Nat,a[j]? = some x→cs[j]? = some (Value.int .i64 (x:Nat)):=by
 obtain⟨g,c,cs,h1,h2,h3,h4,h5,h6,h7⟩:=h.ring i a ha
 exact⟨g,c,cs,h1,h2,h3,h4,h5,(zaj w (hn g cs h6 h3 h4 h5)).trans h6,h7⟩
theorem zbN {w:World} {B e s n:Nat} {v:Value} {xs:List Value} (h:w.ownsRow B e s v n xs) {b o:Nat} {u:Value} (hn:v.ownBlock≠some b):(w.setCell ⟨b,o,none⟩ u).ownsRow B e s v n xs:=by
 refine⟨h.1,?_⟩
 rcases h.2 with h1 | ⟨g,cap,cur,hv,hg,hh,rest⟩
 ·exact .inl h1
 ·exact .inr ⟨g,cap,cur,hv,hg,(zaj w (fun e=>hn (by rw[hv,← e];rfl))).trans hh,rest⟩
theorem zbc {w:World} {B e s n b t:Nat} {v:Value} {xs:List Value} {cs:Array Value} {f:Nat × Nat} (h:w.ownsRow B e s v n xs) (hb:w.heap[b]? = some (.cells cs t f)) (hn:e≠t):v.ownBlock≠some b:=fun hk=>by
 obtain⟨ds,hd⟩:=zcJ h hk
 exact zaF hd hb hn rfl
theorem zqw (h:TsV B w vb wv n mb lb ib ov mv vs s) {i c:Nat} {u:Value} {s':Ts} (hc:i=1∧u=.int .i64 (c:Nat)∧s'={ s with count:=c }):TsV B (w.setCell ⟨vb,i,none⟩ u) vb wv n mb lb ib ov mv vs s':=by
 obtain⟨rfl,rfl,rfl⟩:=hc
 obtain⟨m1,hm⟩:=zax h.met
 obtain⟨l1,hl⟩:=zax h.low
 obtain⟨i1,hi⟩:=zax h.isO
 refine⟨?_,h.met.of_block (zaj w (zaF hm h.box (by decide))),h.low.of_block (zaj w (zaF hl h.box (by decide))),h.isO.of_block (zaj w (zaF hi h.box (by decide))),zbN h.opn (zbc h.opn h.box (by decide)),zbN h.made (zbc h.made h.box (by decide)),zeG h (fun g cs hg _ _ _=>zaF hg h.box (by decide)),h.ml,h.om,h.ol,h.b1,h.b2,h.b3,h.b4⟩
 have:=Wk.block_set (i:=1) h.box (.int .i64 (c:Nat))
 simpa using this
theorem zqu (h:TsV B w vb wv n mb lb ib ov mv vs s) (r v:Nat):TsV B (w.setCell ⟨mb,r,none⟩ (.int .i64 (v:Nat))) vb wv n mb lb ib ov mv vs { s with met:=upN s.met r v }:=by
 obtain⟨m1,hm⟩:=zax h.met
 obtain⟨l1,hl⟩:=zax h.low
 obtain⟨i1,hi⟩:=zax h.isO
 refine⟨(zaj w (zaF h.box hm (by decide))).trans h.box,(h.met.set r _).congr (fun i _=>?_),h.low.of_block (zaj w (fun e=>h.ml e.symm)),h.isO.of_block (zaj w (zaF hi hm (by decide))),zbN h.opn h.om,zbN h.made (zbc h.made hm (by decide)),zeG h (fun g cs hg h1 _ _=>h1),h.ml,h.om,h.ol,h.b1,h.b2,h.b3,h.b4⟩
 show (if i=r then _ else _)=Value.int .i64 ((upN s.met r v i:Nat):Int)
 unfold upN
 split <;> rfl
theorem zma (h:TsV B w vb wv n mb lb ib ov mv vs s) (r v:Nat):TsV B (w.setCell ⟨lb,r,none⟩ (.int .i64 (v:Nat))) vb wv n mb lb ib ov mv vs { s with low:=upN s.low r v }:=by
 obtain⟨m1,hm⟩:=zax h.met
 obtain⟨l1,hl⟩:=zax h.low
 obtain⟨i1,hi⟩:=zax h.isO
 refine⟨(zaj w (zaF h.box hl (by decide))).trans h.box,h.met.of_block (zaj w h.ml),(h.low.set r _).congr (fun i _=>?_),h.isO.of_block (zaj w (zaF hi hl (by decide))),zbN h.opn h.ol,zbN h.made (zbc h.made hl (by decide)),zeG h (fun g cs hg _ h1 _=>h1),h.ml,h.om,h.ol,h.b1,h.b2,h.b3,h.b4⟩
 show (if i=r then _ else _)=Value.int .i64 ((upN s.low r v i:Nat):Int)
 unfold upN
 split <;> rfl
theorem zmb (h:TsV B w vb wv n mb lb ib ov mv vs s) (r:Nat) (v:Bool):TsV B (w.setCell ⟨ib,r,none⟩ (.bool v)) vb wv n mb lb ib ov mv vs { s with isO:=upB s.isO r v }:=by
 obtain⟨m1,hm⟩:=zax h.met
 obtain⟨l1,hl⟩:=zax h.low
 obtain⟨i1,hi⟩:=zax h.isO
 refine⟨(zaj w (zaF h.box hi (by decide))).trans h.box,h.met.of_block (zaj w (zaF hm hi (by decide))),h.low.of_block (zaj w (zaF hl hi (by decide))),(h.isO.set r _).congr (fun i _=>?_),zbN h.opn (zbc h.opn hi (by decide)),zbN h.made (zbc h.made hi (by decide)),zeG h (fun g cs hg _ _ _=>zaF hg hi (by decide)),h.ml,h.om,h.ol,h.b1,h.b2,h.b3,h.b4⟩
 show (if i=r then _ else _)=Value.bool (upB s.isO r v i)
 unfold upB
 split <;> rfl
theorem zoz (h:TsV B w vb wv n mb lb ib ov mv vs s) {w1 w2:World} (hb:Below w.heap.size w w1) {r g cap:Nat} (hg:w1.grownBy w2 ov.ownBlock) (ho:w2.ownsRow B 3 1 (.slice (some ⟨g,0,none⟩) (s.opn.length+1) cap) (s.opn.length+1) (zal (zai s.opn) ++ [.int .i64 (r:Nat)])) (hw:ov.ownBlock=some g∨w1.heap.size≤g) :
 TsV B (w2.setCell ⟨vb,4,none⟩ (.slice (some ⟨g,0,none⟩) (s.opn.length+1) cap)) vb wv n mb lb ib (.slice (some ⟨g,0,none⟩) (s.opn.length+1) cap) mv vs { s with opn:=s.opn ++ [r] }:=by
 have h1:=za8 h hb
 have hk:∀ k,k<w1.heap.size→ov.ownBlock≠some k→w2.heap[k]? = w1.heap[k]?:=fun k hk hne=>hg.block k hk (fun e=>hne e.symm)
 have hl:∀ {k:Nat} {o:Obj},w1.heap[k]? = some o→ov.ownBlock≠some k→w2.heap[k]? = some o:=fun {k o} hk' hne=>(hk k (Array.getElem?_eq_some_iff.1 hk').1 hne).trans hk'
 obtain⟨m1,hm⟩:=zax h1.met
 obtain⟨l1,hlw⟩:=zax h1.low
 obtain⟨i1,hi⟩:=zax h1.isO
 have nb:=zbc h1.opn h1.box (by decide)
 have ni:=zbc h1.opn hi (by decide)
 have hbox:=hl h1.box nb
 have hm2:=hl hm h1.om
 have hl2:=hl hlw h1.ol
 have hi2:=hl hi ni
 have hgn:∀ k,k<w1.heap.size→ov.ownBlock≠some k→g≠k:=fun k hk' hne e=>by
  subst e
  rcases hw with hw | hw
  ·exact hne hw
  ·omega
 have lt1:∀ {k:Nat} {o:Obj},w1.heap[k]? = some o→k<w1.heap.size:=fun hk'=>(Array.getElem?_eq_some_iff.1 hk').1
 refine⟨?_,(h1.met.of_block (hk _ (lt1 hm) h1.om)).of_block (zaj w2 (zaF hm2 hbox (by decide))),(h1.low.of_block (hk _ (lt1 hlw) h1.ol)).of_block (zaj w2 (zaF hl2 hbox (by decide))),(h1.isO.of_block (hk _ (lt1 hi) ni)).of_block (zaj w2 (zaF hi2 hbox (by decide))),?_,?_,fun i a ha=>?_,h.ml,?_,?_,h.b1,h.b2,h.b3,h.b4⟩
 ·have:=Wk.block_set (i:=4) hbox (.slice (some ⟨g,0,none⟩) (s.opn.length+1) cap)
  simpa using this
 ·have e1:(s.opn ++ [r]).length=s.opn.length+1:=by simp
  have e2:zal (zai (s.opn ++ [r]))=zal (zai s.opn) ++ [.int .i64 (r:Nat)]:=by simp[zal,zai]
  show (w2.setCell _ _).ownsRow B 3 1 _ (s.opn ++ [r]).length (zal (zai (s.opn ++ [r])))
  rw[e1,e2]
  refine zbN ho ?_
  obtain⟨cs,hcs⟩:=zcJ ho rfl
  intro e
  simp only[Value.ownBlock,Option.some.injEq] at e
  exact zaF hcs hbox (by decide) e
 ·have hmd:mv.ownBlock≠ov.ownBlock∨mv.ownBlock=none:=by
   cases hmv:mv.ownBlock with
   | none=>exact .inr rfl
   | some k =>
     left
     intro e
     obtain⟨c1,d1⟩:=zcJ h1.made hmv
     obtain⟨c2,d2⟩:=zcJ h1.opn e.symm
     exact zaF d1 d2 (by decide) rfl
  have hm3:w2.ownsRow B 27 1 mv s.made.length vs:=h1.made.kept hg (hmd.elim .inr .inl)
  exact zbN hm3 (zbc hm3 hbox (by decide))
 ·obtain⟨q,c,cs,h3,h4,h5,h6,h7,h8,h9⟩:=h1.ring i a ha
  have h10:=hl h8 h7
  exact⟨q,c,cs,h3,h4,h5,h6,fun e=>hgn q (lt1 h8) h7 (by simpa [Value.ownBlock] using e),(zaj w2 (zaF h10 hbox (by decide))).trans h10,h9⟩
 ·intro e
  exact hgn mb (lt1 hm) h1.om (by simpa [Value.ownBlock] using e)
 ·intro e
  exact hgn lb (lt1 hlw) h1.ol (by simpa [Value.ownBlock] using e)
theorem zqv (h:TsV B w vb wv n mb lb ib ov mv vs s) {g c p:Nat} (hv:ov=.slice (some ⟨g,0,none⟩) s.opn.length c) (hp:p≤s.opn.length):TsV B (w.setCell ⟨vb,4,none⟩ (.slice (some ⟨g,0,none⟩) p c)) vb wv n mb lb ib (.slice (some ⟨g,0,none⟩) p c) mv vs { s with opn:=s.opn.take p }:=by
 subst hv
 obtain⟨m1,hm⟩:=zax h.met
 obtain⟨l1,hl⟩:=zax h.low
 obtain⟨i1,hi⟩:=zax h.isO
 have hob:=zbc h.opn h.box (by decide)
 refine⟨?_,h.met.of_block (zaj w (zaF hm h.box (by decide))),h.low.of_block (zaj w (zaF hl h.box (by decide))),h.isO.of_block (zaj w (zaF hi h.box (by decide))),?_,zbN h.made (zbc h.made h.box (by decide)),zeG h (fun g cs hg _ _ _=>zaF hg h.box (by decide)),h.ml,h.om,h.ol,h.b1,h.b2,h.b3,h.b4⟩
 ·have:=Wk.block_set (i:=4) h.box (.slice (some ⟨g,0,none⟩) p c)
  simpa using this
 ·have e1:(s.opn.take p).length=p:=by rw[List.length_take];omega
  show (w.setCell _ _).ownsRow B 3 1 _ (s.opn.take p).length (zal (zai (s.opn.take p)))
  rw[e1]
  refine zbN (v:=.slice (some ⟨g,0,none⟩) p c) ⟨?_,.inr ?_⟩ hob
  ·rw[zbl,zak,e1];omega
  ·rcases h.opn.2 with ⟨h1,-⟩ | ⟨g',cap',cur,hv',hb',hh,h2,h3,h4,h5⟩
   ·cases h1
   ·cases hv'
    refine⟨g,c,cur,rfl,hb',hh,by omega,h3,h4,?_⟩
    have:zal (zai (s.opn.take p))=(zal (zai s.opn)).take p:=by simp[zal,zai,List.map_take]
    rw[this,← h5,List.take_take]
    congr 1
    omega
theorem zoA (h:TsV B w vb wv n mb lb ib ov mv vs s) {q qc:Nat} {cs:Array Value} {a:List Nat} (hq:w.heap[q]? = some (.cells cs 3 (0,0))) (hqb:B≤q) (q1:q≠mb) (q2:q≠lb) (q3:ov.ownBlock≠some q) (hc:∀ j x:Nat,a[j]? = some x→cs[j]? = some (Value.int .i64 (x:Nat)))
 {w1 w2:World} (hb:Below w.heap.size w w1) {mv':Value} (hg:w1.grownBy w2 mv.ownBlock) (ho:w2.ownsRow B 27 1 mv' (s.made.length+1) (vs ++ [.slice (some ⟨q,0,none⟩) a.length qc])) :
 TsV B (w2.setCell ⟨vb,6,none⟩ mv') vb wv n mb lb ib ov mv' (vs ++ [.slice (some ⟨q,0,none⟩) a.length qc]) { s with made:=s.made ++ [a] }:=by
 have h1:=za8 h hb
 have hvl:vs.length=s.made.length:=by have:=h.made.1;omega
 have hl:∀ {k t:Nat} {c:Array Value},w1.heap[k]? = some (.cells c t (0,0))→t≠27→w2.heap[k]? = some (.cells c t (0,0)):=fun {k t c} hk' hne=>(hg.block k (Array.getElem?_eq_some_iff.1 hk').1 (fun e=>by
  obtain⟨c1,d1⟩:=zcJ h1.made e.symm
  exact zaF hk' d1 hne rfl)).trans hk'
 have hq1:w1.heap[q]? = some (.cells cs 3 (0,0)):=(hb.block q (Array.getElem?_eq_some_iff.1 hq).1).trans hq
 obtain⟨m1,hm⟩:=zax h1.met
 obtain⟨l1,hlw⟩:=zax h1.low
 obtain⟨i1,hi⟩:=zax h1.isO
 have hbox:=hl h1.box (by decide)
 have hm2:=hl hm (by decide)
 have hl2:=hl hlw (by decide)
 have hi2:=hl hi (by decide)
 have hop:w2.ownsRow B 3 1 ov s.opn.length (zal (zai s.opn)):=by
  refine h1.opn.kept hg ?_
  cases hov:ov.ownBlock with
  | none=>exact .inl rfl
  | some k =>
    right
    intro e
    obtain⟨c1,d1⟩:=zcJ h1.opn hov
    obtain⟨c2,d2⟩:=zcJ h1.made e.symm
    exact zaF d1 d2 (by decide) rfl
 refine⟨?_,(h1.met.of_block (hm2.trans hm.symm)).of_block (zaj w2 (zaF hm2 hbox (by decide))),(h1.low.of_block (hl2.trans hlw.symm)).of_block (zaj w2 (zaF hl2 hbox (by decide))),(h1.isO.of_block (hi2.trans hi.symm)).of_block (zaj w2 (zaF hi2 hbox (by decide))),zbN hop (zbc hop hbox (by decide)),?_,fun i b hib=>?_,h.ml,h.om,h.ol,h.b1,h.b2,h.b3,h.b4⟩
 ·have:=Wk.block_set (i:=6) hbox mv'
  simpa using this
 ·have e1:(s.made ++ [a]).length=s.made.length+1:=by simp
  show (w2.setCell _ _).ownsRow B 27 1 _ (s.made ++ [a]).length _
  rw[e1]
  exact zbN ho (zbc ho hbox (by decide))
 ·have hib:(s.made ++ [a])[i]? = some b:=hib
  by_cases hlt:i<s.made.length
  ·rw[List.getElem?_append_left hlt] at hib
   obtain⟨g,c,ds,h3,h4,h5,h6,h7,h8,h9⟩:=h1.ring i b hib
   have h10:=hl h8 (by decide)
   exact⟨g,c,ds,by rw[List.getElem?_append_left (by omega)];exact h3,h4,h5,h6,h7,(zaj w2 (zaF h10 hbox (by decide))).trans h10,h9⟩
  ·have hi3:i=s.made.length:=by
    have:=(List.getElem?_eq_some_iff.1 hib).1
    simp at this
    omega
   subst hi3
   simp at hib
   subst hib
   have h10:=hl hq1 (by decide)
   exact⟨q,qc,cs,by rw[← hvl];simp,hqb,q1,q2,q3,(zaj w2 (zaF h10 hbox (by decide))).trans h10,hc⟩
end
end Go.Proofs.YtagohbpbgjelaaaGreatDoor

namespace Go.Proofs.YtagohbpbgjelaaaGreatDoor
open Go.RowKit Go.Maps

theorem zor:Keyed Tryz.prog 3:=int_keyed Tryz.underlying3
abbrev ki (i:Nat):Lit:=.int .i64 i
def zep (w:World) (b n:Nat) (S:Nat→Bool):Prop:=∃ D:DataW Unit,w.ownsMap Tryz.prog 3 unitElem b n D∧∀ i:Nat,Maps.has D (ki i)=S i
theorem zqn (w:World):(zeroValue 172).run Tryz.prog w=.ok (.agg #[]) w:=by kernel_rfl
set_option maxHeartbeats 1000000 in
set_option maxRecDepth 100000 in
theorem zgB (gb nr:Nat) (ra:Option Addr) (rc:Nat) (hnr:nr≤2048) (w:World) (hgb:gb<w.heap.size) (c2:w.cell? ⟨gb,2,none⟩=some (.slice ra nr rc)) :
 Calls Tryz.prog 82 #[.pointer (some ⟨gb,0,none⟩)] w fun e w'=>∃ b,e=.returned (.map (some b))∧zep w' b nr (fun i=>decide (i<nr))∧w.heap.size≤b∧b<w'.heap.size∧Below w.heap.size w w':=by
 have hmm:=@run_makeMap Tryz.prog
 go_enter Tryz.func82,Tryz.ntmps82
 go_wp2
 go_loopw [12] (fun x W=>∃ (k:Nat) (D:DataW Unit),x=.int .i64 k∧k≤nr∧W.ownsMap Tryz.prog 3 unitElem w.heap.size k D∧(∀ i:Nat,Maps.has D (ki i)=decide (i<k))∧Below w.heap.size w W) (fun x _=>nr - (intOf x).toNat)
 case atStart=>exact⟨0,.map [],rfl,Nat.zero_le _,World.ownsMap_made _ _ _ _,fun i=>(by simp[Maps.has]),(Below.refl _ _).alloc (Nat.le_refl _) _⟩
 case round =>
  obtain⟨k,D,rfl,hk,hown,hkt,hb⟩:=hrel
  by_cases hlt:k<nr
  ·have hlt':(k:Int)<nr:=by omega
   have hwf:(Lit.int .i64 (k:Int)).wf=true:=WalkArith.wf_i64 (by omega)
   have Hkt:Hid (∀ i:Nat,Maps.has (D.put (ki k) (.agg [])) (ki i)=decide (i<k+1)):=zaa (fun i=>by
    by_cases e:i=k
    ·subst e;rw[has_put_same hown.isMap (show WideAt.IsKeyLit (ki i) from trivial)];simp
    ·rw[has_put_other (fun e'=>by simp at e';omega),hkt i,decide_eq_decide];omega)
   clear hkt
   go_wp2_with (first | (at_mapUpdate;refine wpList_mapUpdate_own _ rfl _ _ _ 116 rfl 3 172 zor Tryz.underlying116 _ w.heap.size k D rfl hown (by unfold maxLen;omega) _ _ (ki k) rfl rfl (keyOf_int_mk Tryz.underlying3 hwf) _ [] unitElem_mk ?_;intro w1 hown1 hgrow1;go_frame) | go_in)
   go_roundw
   case rel=>exact⟨k+1,_,by go_num,by omega,hown1,uh Hkt,hb.grown hgrow1 hb.size (fun j hj=>by cases hj;exact Nat.le_refl _)⟩
   case measure=>simp[intOf];omega
  ·obtain rfl:k=nr:=by omega
   have hlt2:=hown.lt
   go_wp2
   go_ret
   exact⟨w.heap.size,rfl,⟨D,hown,hkt⟩,Nat.le_refl _,hlt2,hb⟩
set_option maxHeartbeats 1000000 in
set_option maxRecDepth 100000 in
theorem zhm (b n r:Nat) (S:Nat→Bool) (hr:r≤1048576) (w:World) (h:zep w b n S) :
 Calls Tryz.prog 83 #[.map (some b),.int .i64 (r:Int)] w fun e w'=>e=.returned (.bool (S r))∧zep w' b n (fun i=>if i=r then false else S i)∧Fr (· = b) w w':=by
 obtain⟨D,hown,hS⟩:=h
 have hwf:(Lit.int .i64 (r:Int)).wf=true:=WalkArith.wf_i64 (by omega)
 have hkey:=keyOf_int_mk Tryz.underlying3 hwf
 have hS2:∀ i:Nat,Maps.has (D.del (ki r)) (ki i)=if i=r then false else S i:=fun i=>by
  by_cases e:i=r
  ·subst e;rw[has_del_same,if_pos rfl]
  ·rw[has_del_other (fun e'=>by simp at e';omega),if_neg e,hS i]
 have hSr:=hS r
 have HS2:=zaa hS2
 generalize S r=R at *
 clear hS hS2
 have hbl:=hown.lt
 have HOwn:Hid (∀ W,Below w.heap.size w W→W.ownsMap Tryz.prog 3 unitElem b n D):=zaa (fun W hb=>by
  obtain⟨es,c,hh,rr⟩:=hown
  exact⟨es,c,(hb.block b hbl).trans hh,rr⟩)
 clear hown
 go_enter Tryz.func83,Tryz.ntmps83
 go_wp2_with (first | (at_lookup;refine wpList_lookup_own_unit _ rfl _ _ 116 rfl 3 172 zor Tryz.underlying116 (zqn _) b n D rfl (uh HOwn _ (by first | exact Below.refl _ _ | exact(Below.refl _ _).alloc (Nat.le_refl _) _)) _ _ rfl hkey ?_) | (at_delete;refine wpList_delete_own _ rfl _ _ 116 3 rfl 172 zor Tryz.underlying116 _ b n D rfl (uh HOwn _ (by first | exact Below.refl _ _ | exact(Below.refl _ _).alloc (Nat.le_refl _) _)) _ _ rfl hkey ?_;intro w1 hown1 hturn1;go_frame) | go_in)
 go_ret
 have hg:=hturn1.grown
 refine⟨rfl,⟨_,hown1,uh HS2⟩,?_⟩
 have hb1:Below w.heap.size w (w.alloc (.cells #[] 172)):=(Below.refl _ _).alloc (Nat.le_refl _) _
 exact⟨by have:=hg.size;have:=hb1.size;omega,fun k hk ho=>(hg.block k (by have:=hb1.size;omega) (fun e=>ho (by cases e;rfl))).trans (hb1.block k hk),hg.os.trans hb1.os,hg.tape.trans hb1.tape,hg.output.trans hb1.output⟩
end Go.Proofs.YtagohbpbgjelaaaGreatDoor

/- Lists of work: what they are in memory; the heap's Len, Less. (and what it leads to) -/
import Derived.Test.YtagohbpbgjelaaaGreatDoorWkS4
namespace Go.Proofs.YtagohbpbgjelaaaGreatDoor.Wk
open Go.RowKit Go.Maps

structure Tk where
 at_:Nat
 n:Int
 wt:Int
def tk0:Tk:=⟨0,0,0⟩
def lessT (a b:Tk):Bool:=decide (a.wt<b.wt) || (decide (a.wt=b.wt) && decide (a.n<b.n))
def zcS (t:Tk):Value:=.pointer (some ⟨t.at_,0,none⟩)

def zjt:Value→Option (DataW Unit × List MemPlace)
 | .pointer none=>some (.lit (.int .i64 0),[])
 | .pointer (some ⟨b,0,none⟩)=>some (.lit (.int .i64 ((b:Int)+1)),[])
 | _=>none
set_option maxRecDepth 100000 in
theorem zmH {v:Value} {ps:List MemPlace} (h:zjt v=some (.lit (.int .i64 0),ps)):v=.pointer none:=by
 unfold zjt at h
 split at h
 ·rfl
 ·simp at h;omega
 ·simp at h
set_option maxRecDepth 100000 in
theorem zqD {v:Value} {ps:List MemPlace} {b:Nat} (h:zjt v=some (.lit (.int .i64 ((b:Int)+1)),ps)):v=.pointer (some ⟨b,0,none⟩):=by
 unfold zjt at h
 split at h
 ·simp at h;omega
 ·simp at h
  rename_i b'
  have e:b'=b:=by omega
  rw[e]
 ·simp at h

set_option maxRecDepth 100000 in
theorem zor:Keyed Tryz.prog 3:=int_keyed Tryz.underlying3
set_option maxRecDepth 100000 in
theorem zlS (w:World):(zeroValue 192).run Tryz.prog w=.ok (.pointer none) w:=by kernel_rfl

def zbO (ts:List Tk) (n:Int):Int:=match ts.find? (fun t=>t.n == n) with | some t=>(t.at_:Int)+1 | none=>0
structure LstIs (w:World) (B:Nat) (O:Nat→Prop) (ts:List Tk):Prop where
 own:O B
 lt:∀ k,O k→k<w.heap.size
 nums:∀ t ∈ ts,0≤t.n∧t.n<1048576 ∧ -9223372036854775808≤t.wt∧t.wt≤9223372036854775807
 apart:(ts.map Tk.n).Nodup
 blocks:(ts.map Tk.at_).Nodup
 tasks:∀ i,i<ts.length→O (ts.getD i tk0).at_∧w.heap[(ts.getD i tk0).at_]? = some (.cells #[.int .i64 (ts.getD i tk0).n,.int .i64 (ts.getD i tk0).wt,.int .i64 i] 197 (0,0))
 lies:∃ sv mo,w.heap[B]? = some (.cells #[sv,.map mo] 191 (0,0))∧w.ownsRow 0 192 1 sv ts.length (ts.map zcS)∧(∀ k,sv.ownBlock=some k→O k) ∧
  ((mo=none∧ts=[])∨∃ mb D N,mo=some mb∧O mb∧N≤1048576∧w.ownsMap (H:=Unit) Tryz.prog 3 zjt mb N D∧Tidy D∧Maps.size D=ts.length∧∀ n,Maps.has D (.int .i64 n)=decide (n ∈ ts.map Tk.n)∧D.atKey (.int .i64 n) (.lit (.int .i64 0))=.lit (.int .i64 (zbO ts n)))
set_option maxRecDepth 100000 in
theorem lst_off {w w':World} {B:Nat} {O O':Nat→Prop} {ts:List Tk} (h:LstIs w B O ts) (ho:Off O' w w') (hd:∀ k,O k→¬ O' k):LstIs w' B O ts:=by
 obtain⟨h1,h2,h3,h4,h5,h6,sv,mo,hB,hr,hs,hm⟩:=h
 refine⟨h1,fun k hk=>Nat.lt_of_lt_of_le (h2 k hk) ho.size,h3,h4,h5,fun i hi=>⟨(h6 i hi).1,(ho.block _ (h2 _ (h6 i hi).1) (hd _ (h6 i hi).1)).trans (h6 i hi).2⟩,sv,mo,(ho.block B (h2 B h1) (hd B h1)).trans hB,own_off hr ho (fun k hk=>hd k (hs k hk)),hs,?_⟩
 rcases hm with h0 | ⟨mb,D,N,rfl,hO,hN,hmap,hD⟩
 ·exact .inl h0
 ·exact .inr ⟨mb,D,N,rfl,hO,hN,zhP hmap ho (hd mb hO),hD⟩
set_option maxRecDepth 100000 in
theorem lst_below {w w':World} {B:Nat} {O:Nat→Prop} {ts:List Tk} (h:LstIs w B O ts) (hb:Below w.heap.size w w'):LstIs w' B O ts:=lst_off (O':=fun _=>False) h (zbx hb) (fun _ _ h=>h)
set_option maxRecDepth 100000 in
theorem zkA {w:World} {B:Nat} {O O':Nat→Prop} {ts:List Tk} (h:LstIs w B O ts) (hO:∀ k,O k→O' k) (hl:∀ k,O' k→k<w.heap.size):LstIs w B O' ts:=by
 obtain⟨h1,h2,h3,h4,h5,h6,sv,mo,hB,hr,hs,hm⟩:=h
 refine⟨hO _ h1,hl,h3,h4,h5,fun i hi=>⟨hO _ (h6 i hi).1,(h6 i hi).2⟩,sv,mo,hB,hr,fun k hk=>hO k (hs k hk),?_⟩
 rcases hm with h0 | ⟨mb,D,N,rfl,ho,r⟩
 ·exact .inl h0
 ·exact .inr ⟨mb,D,N,rfl,hO _ ho,r⟩

set_option maxHeartbeats 1000000 in
set_option maxRecDepth 100000 in
theorem zfB (B:Nat) (O:Nat→Prop) (ts:List Tk) (w:World) (h:LstIs w B O ts) :
 Calls Tryz.prog 211 #[.pointer (some ⟨B,0,none⟩)] w fun e w'=>e=.returned (.int .i64 ts.length)∧w'=w:=by
 obtain⟨sv,mo,hB,hr,-⟩:=h.lies
 obtain⟨a,c,rfl⟩:=zad hr
 have c0:=cell_block hB 0 _ rfl
 clear hB hr h
 go_enter Tryz.func211,Tryz.ntmps211
 go_wp2
 go_ret
 exact⟨rfl,rfl⟩

set_option maxRecDepth 100000 in
theorem zdp (w:World) (a b:Nat):∃ q,(w.drewN a).drewN b=w.drewN q:=⟨a+b,by simp[World.drewN,Nat.add_assoc]⟩
set_option maxRecDepth 100000 in
theorem zne {w:World} {B:Nat} {O:Nat→Prop} {ts:List Tk} (h:LstIs w B O ts) (hpos:0<ts.length):∃ g c m,w.heap[B]? = some (.cells #[.slice (some ⟨g,0,none⟩) ts.length c,.map m] 191 (0,0))∧w.ownsRow 0 192 1 (.slice (some ⟨g,0,none⟩) ts.length c) ts.length (ts.map zcS)∧O g∧g<w.heap.size∧g≠B∧ts.length≤c∧c≤maxLen ∧
 ∀ i,i<ts.length→w.cell? ⟨g,i,none⟩=some (zcS (ts.getD i tk0)):=by
 obtain⟨sv,mo,hB,hr,hs,-⟩:=h.lies
 obtain⟨g,c,rfl,-,hg,h1,h2⟩:=own_pos hr hpos
 have n1:=zbr hB hr (by decide)
 refine⟨g,c,mo,hB,hr,hs g rfl,hg,fun e=>n1 (by rw[e];rfl),h1,h2,fun i hi=>?_⟩
 rw[own_cell hr rfl i (by simpa using hi),List.getD_eq_getElem?_getD,List.getD_eq_getElem?_getD,List.getElem?_map,List.getElem?_eq_getElem hi]
 rfl
set_option maxRecDepth 100000 in
theorem zeM {w:World} {B:Nat} {O:Nat→Prop} {ts:List Tk} (h:LstIs w B O ts) (i:Nat) (hi:i<ts.length) :
 w.cell? ⟨(ts.getD i tk0).at_,0,none⟩=some (.int .i64 (ts.getD i tk0).n)∧w.cell? ⟨(ts.getD i tk0).at_,1,none⟩=some (.int .i64 (ts.getD i tk0).wt)∧w.cell? ⟨(ts.getD i tk0).at_,2,none⟩=some (.int .i64 i):=by
 have hb:=(h.tasks i hi).2
 exact⟨cell_block hb 0 _ rfl,cell_block hb 1 _ rfl,cell_block hb 2 _ rfl⟩

set_option maxHeartbeats 4000000 in
set_option maxRecDepth 100000 in
theorem zhT (B:Nat) (O:Nat→Prop) (ts:List Tk) (i j:Nat) (hi:i<ts.length) (hj:j<ts.length) (w:World) (h:LstIs w B O ts) (hlen:ts.length≤1048576) :
 Calls Tryz.prog 212 #[.pointer (some ⟨B,0,none⟩),.int .i64 i,.int .i64 j] w fun e w'=>e=.returned (.bool (lessT (ts.getD i tk0) (ts.getD j tk0)))∧∃ q,w'=w.drewN q:=by
 obtain⟨g,c,m,hB,-,-,-,-,hc1,hc2,hc⟩:=zne h (by omega)
 have c0:=cell_block hB 0 _ rfl
 have ci:=hc i hi
 have cj:=hc j hj
 obtain⟨a0,a1,-⟩:=zeM h i hi
 obtain⟨b0,b1,-⟩:=zeM h j hj
 unfold zcS at ci cj
 have hi':(i:Int)<ts.length:=by omega
 have hj':(j:Int)<ts.length:=by omega
 clear hB hc h
 generalize ts.getD i tk0=x at *
 generalize ts.getD j tk0=y at *
 obtain⟨xa,xn,xw⟩:=x
 obtain⟨ya,yn,yw⟩:=y
 simp only at *
 by_cases h1:xw<yw
 ·have g1:decide (xw<yw)=true:=by simpa using h1
  rw[show lessT ⟨xa,xn,xw⟩ ⟨ya,yn,yw⟩=true by simp[lessT,h1]]
  go_enter Tryz.func212,Tryz.ntmps212
  go_wp2
  go_quiet (fail)
  go_wp2
  go_quiet (fail)
  go_wp2
  go_ret
  exact⟨rfl,zdp _ _ _⟩
 ·have g1:decide (xw<yw)=false:=by simpa using h1
  by_cases h2:xw=yw
  ·have g2:(xw == yw)=true:=by simpa using h2
   by_cases h3:xn<yn
   ·have g3:decide (xn<yn)=true:=by simpa using h3
    rw[show lessT ⟨xa,xn,xw⟩ ⟨ya,yn,yw⟩=true by simp[lessT,h2,h3]]
    clear h2
    go_enter Tryz.func212,Tryz.ntmps212
    go_wp2
    go_quiet (fail)
    go_wp2
    go_quiet (fail)
    go_wp2
    go_ret
    exact⟨rfl,zdp _ _ _⟩
   ·have g3:decide (xn<yn)=false:=by simpa using h3
    rw[show lessT ⟨xa,xn,xw⟩ ⟨ya,yn,yw⟩=false by simp[lessT,h2,h3]]
    clear h2
    go_enter Tryz.func212,Tryz.ntmps212
    go_wp2
    go_quiet (fail)
    go_wp2
    go_quiet (fail)
    go_wp2
    go_ret
    exact⟨rfl,zdp _ _ _⟩
  ·have g2:(xw == yw)=false:=by simpa using h2
   rw[show lessT ⟨xa,xn,xw⟩ ⟨ya,yn,yw⟩=false by simp[lessT,h2];omega]
   clear h2
   go_enter Tryz.func212,Tryz.ntmps212
   go_wp2
   go_quiet (fail)
   go_wp2
   go_quiet (fail)
   go_wp2
   go_ret
   exact⟨rfl,zdp _ _ _⟩
end Go.Proofs.YtagohbpbgjelaaaGreatDoor.Wk

namespace Go.Proofs.YtagohbpbgjelaaaGreatDoor.Wk
open Go.RowKit Go.Maps

def zbw (ts:List Tk) (i j:Nat):List Tk:=(ts.set i (ts.getD j tk0)).set j (ts.getD i tk0)

set_option maxHeartbeats 4000000 in
set_option maxRecDepth 100000 in
theorem zmk (B g c:Nat) (n:Nat) (i j:Nat) (hi:i<n) (hj:j<n) (hij:¬ i=j) (x y:Nat) (hxy:¬ x=y) (hxg:¬ x=g) (hyg:¬ y=g) (w:World)
 (c0:w.cell? ⟨B,0,none⟩=some (.slice (some ⟨g,0,none⟩) n c)) (hgB:¬ g=B) (hxB:¬ x=B) (hyB:¬ y=B)
 (ci:w.cell? ⟨g,i,none⟩=some (.pointer (some ⟨x,0,none⟩))) (cj:w.cell? ⟨g,j,none⟩=some (.pointer (some ⟨y,0,none⟩)))
 (fi:w.frozen? ⟨g,i,none⟩=false) (fj:w.frozen? ⟨g,j,none⟩=false) (px:w.cell? ⟨x,2,none⟩=some (.int .i64 i)) (py:w.cell? ⟨y,2,none⟩=some (.int .i64 j)) (fx:w.frozen? ⟨x,2,none⟩=false) (fy:w.frozen? ⟨y,2,none⟩=false) :
 Calls Tryz.prog 215 #[.pointer (some ⟨B,0,none⟩),.int .i64 i,.int .i64 j] w fun e w'=>e=.returned (.tuple #[])∧∃ q,w'=((((w.setCell ⟨g,i,none⟩ (.pointer (some ⟨y,0,none⟩))).setCell ⟨g,j,none⟩ (.pointer (some ⟨x,0,none⟩))).setCell ⟨y,2,none⟩ (.int .i64 i)).setCell ⟨x,2,none⟩ (.int .i64 j)).drewN q:=by
 have hi':(i:Int)<n:=by omega
 have hj':(j:Int)<n:=by omega
 have hij':¬ j=i:=fun e=>hij e.symm
 go_enter Tryz.func215,Tryz.ntmps215
 go_wp2
 go_region
 all_goals
  go_wp2
  go_region
  go_wp2
  go_end0
  exact⟨rfl,2,rfl⟩

set_option maxHeartbeats 4000000 in
set_option maxRecDepth 100000 in
theorem zml (B g c:Nat) (n:Nat) (i:Nat) (hi:i<n) (x:Nat) (hxg:¬ x=g) (w:World)
 (c0:w.cell? ⟨B,0,none⟩=some (.slice (some ⟨g,0,none⟩) n c)) (hgB:¬ g=B) (hxB:¬ x=B)
 (ci:w.cell? ⟨g,i,none⟩=some (.pointer (some ⟨x,0,none⟩)))
 (fi:w.frozen? ⟨g,i,none⟩=false) (px:w.cell? ⟨x,2,none⟩=some (.int .i64 i)) (fx:w.frozen? ⟨x,2,none⟩=false) :
 Calls Tryz.prog 215 #[.pointer (some ⟨B,0,none⟩),.int .i64 i,.int .i64 i] w fun e w'=>e=.returned (.tuple #[])∧∃ q,w'=((((w.setCell ⟨g,i,none⟩ (.pointer (some ⟨x,0,none⟩))).setCell ⟨g,i,none⟩ (.pointer (some ⟨x,0,none⟩))).setCell ⟨x,2,none⟩ (.int .i64 i)).setCell ⟨x,2,none⟩ (.int .i64 i)).drewN q:=by
 have hi':(i:Int)<n:=by omega
 go_enter Tryz.func215,Tryz.ntmps215
 go_wp2
 go_region
 all_goals
  go_wp2
  go_region
  go_wp2
  go_end0
  exact⟨rfl,2,rfl⟩
end Go.Proofs.YtagohbpbgjelaaaGreatDoor.Wk

namespace Go.Proofs.YtagohbpbgjelaaaGreatDoor.Wk
open Go.RowKit Go.Maps

set_option maxRecDepth 100000 in
theorem tkD {ts:List Tk} {k:Nat} (h:k<ts.length):ts.getD k tk0=ts[k]:=by rw[List.getD_eq_getElem?_getD,List.getElem?_eq_getElem h];rfl
set_option maxRecDepth 100000 in
theorem zam (ts:List Tk) (i j:Nat):(zbw ts i j).length=ts.length:=by simp[zbw]
set_option maxRecDepth 100000 in
theorem zd0 (ts:List Tk) (i j:Nat) (hi:i<ts.length) (hj:j<ts.length):(zbw ts i j).Perm ts:=by
 unfold zbw;rw[tkD hi,tkD hj];exact List.set_set_perm hi hj
set_option maxRecDepth 100000 in
theorem zj1 (ts:List Tk) (i j k:Nat) (hk:k<ts.length):(zbw ts i j).getD k tk0=if k=j then ts.getD i tk0 else if k=i then ts.getD j tk0 else ts.getD k tk0:=by
 have hl:k<((ts.set i (ts.getD j tk0)).set j (ts.getD i tk0)).length:=by simpa using hk
 show ((ts.set i (ts.getD j tk0)).set j (ts.getD i tk0)).getD k tk0=_
 rw[tkD hl,List.getElem_set]
 by_cases h1:k=j
 ·rw[if_pos h1.symm,if_pos h1]
 ·rw[if_neg (fun e=>h1 e.symm),if_neg h1,List.getElem_set]
  by_cases h2:k=i
  ·rw[if_pos h2.symm,if_pos h2]
  ·rw[if_neg (fun e=>h2 e.symm),if_neg h2,tkD hk]
set_option maxRecDepth 100000 in
theorem zdO {ts:List Tk} (hn:(ts.map Tk.n).Nodup) {t:Tk} (ht:t ∈ ts):zbO ts t.n=(t.at_:Int)+1:=by
 induction ts with
 | nil=>simp at ht
 | cons a ts ih =>
   simp only[List.map_cons,List.nodup_cons] at hn
   unfold zbO
   rw[List.find?_cons]
   by_cases h:a.n=t.n
   ·rcases List.mem_cons.1 ht with rfl | ht
    ·simp
    ·exact absurd (h▸List.mem_map_of_mem ht) hn.1
   ·have:(a.n == t.n)=false:=by simpa using h
    rw[this]
    rcases List.mem_cons.1 ht with rfl | ht
    ·exact absurd rfl h
    ·exact ih hn.2 ht
set_option maxRecDepth 100000 in
theorem zdf {ts:List Tk} {n:Int} (h:n ∉ ts.map Tk.n):zbO ts n=0:=by
 unfold zbO
 rw[List.find?_eq_none.2]
 intro t ht
 simp only[beq_iff_eq]
 exact fun e=>h (e▸List.mem_map_of_mem ht)
set_option maxRecDepth 100000 in
theorem zlD {ts ts':List Tk} (hp:ts'.Perm ts) (hn:(ts.map Tk.n).Nodup) (n:Int):zbO ts' n=zbO ts n:=by
 by_cases h:n ∈ ts.map Tk.n
 ·obtain⟨t,ht,rfl⟩:=List.mem_map.1 h
  rw[zdO hn ht,zdO ((hp.map Tk.n).nodup_iff.2 hn) (hp.mem_iff.2 ht)]
 ·rw[zdf h,zdf (fun h'=>h ((hp.map Tk.n).mem_iff.1 h'))]
set_option maxRecDepth 100000 in
theorem zhh {ts:List Tk} (hb:(ts.map Tk.at_).Nodup) {i j:Nat} (hi:i<ts.length) (hj:j<ts.length) (h:(ts.getD i tk0).at_=(ts.getD j tk0).at_):i=j:=by
 rw[tkD hi,tkD hj] at h
 have:=(List.nodup_iff_pairwise_ne.1 hb)
 rw[List.pairwise_iff_getElem] at this
 rcases Nat.lt_trichotomy i j with hlt | heq | hgt
 ·exact absurd (by rw[List.getElem_map,List.getElem_map];exact h) (this i j (by simpa using hi) (by simpa using hj) hlt)
 ·exact heq
 ·exact absurd (by rw[List.getElem_map,List.getElem_map];exact h.symm) (this j i (by simpa using hj) (by simpa using hi) hgt)
set_option maxRecDepth 100000 in
theorem zcV {w:World} {a b:Nat} {x y:Array Value} {s t:TypeId} {f f':Nat × Nat} (ha:w.heap[a]? = some (.cells x s f)) (hb:w.heap[b]? = some (.cells y t f')) (hne:s≠t):a≠b:=fun e=>by
 subst e
 rw[ha] at hb
 simp only[Option.some.injEq,Obj.cells.injEq] at hb
 exact hne hb.2.1

set_option maxHeartbeats 1000000 in
set_option maxRecDepth 100000 in
theorem zhp (B:Nat) (O:Nat→Prop) (ts:List Tk) (i j:Nat) (hi:i<ts.length) (hj:j<ts.length) (w:World) (h:LstIs w B O ts) :
 Calls Tryz.prog 215 #[.pointer (some ⟨B,0,none⟩),.int .i64 i,.int .i64 j] w fun e w'=>e=.returned (.tuple #[])∧Off O w w'∧w'.heap.size=w.heap.size∧LstIs w' B O (zbw ts i j):=by
 obtain⟨g,c,m,hB,hr,hOg,hgl,hgB,hc1,hc2,hc⟩:=zne h (by omega)
 have hgcell:∃ cur,w.heap[g]? = some (.cells cur 192 (0,0)):=by
  rcases hr.2 with ⟨e,_⟩ | ⟨g',cap,cur,e,_,hh,_⟩
  ·simp at e
  ·simp only[Value.slice.injEq,Option.some.injEq,Addr.mk.injEq,and_true,true_and] at e
   exact⟨cur,e.1▸hh⟩
 obtain⟨cur,hgc⟩:=hgcell
 have tne:∀ k,k<ts.length→(ts.getD k tk0).at_≠g∧(ts.getD k tk0).at_≠B:=fun k hk=>⟨zcV (h.tasks k hk).2 hgc (by decide),zcV (h.tasks k hk).2 hB (by decide)⟩
 have key:∀ (W:World) (q:Nat),(i=j→W=(((w.setCell ⟨g,i,none⟩ (zcS (ts.getD j tk0))).setCell ⟨g,j,none⟩ (zcS (ts.getD i tk0))).setCell ⟨(ts.getD j tk0).at_,2,none⟩ (.int .i64 i)).setCell ⟨(ts.getD i tk0).at_,2,none⟩ (.int .i64 j)) →
  W=(((w.setCell ⟨g,i,none⟩ (zcS (ts.getD j tk0))).setCell ⟨g,j,none⟩ (zcS (ts.getD i tk0))).setCell ⟨(ts.getD j tk0).at_,2,none⟩ (.int .i64 i)).setCell ⟨(ts.getD i tk0).at_,2,none⟩ (.int .i64 j) →
  Off O w (W.drewN q)∧(W.drewN q).heap.size=w.heap.size∧LstIs (W.drewN q) B O (zbw ts i j):=by
  rintro W q - rfl
  have ho:Off O w ((((w.setCell ⟨g,i,none⟩ (zcS (ts.getD j tk0))).setCell ⟨g,j,none⟩ (zcS (ts.getD i tk0))).setCell ⟨(ts.getD j tk0).at_,2,none⟩ (.int .i64 i)).setCell ⟨(ts.getD i tk0).at_,2,none⟩ (.int .i64 j)) :=
   off_set (off_set (off_set (off_set (off_refl _ _) (p:=⟨g,i,none⟩) (.inl hOg) _) (p:=⟨g,j,none⟩) (.inl hOg) _) (p:=⟨(ts.getD j tk0).at_,2,none⟩) (.inl (h.tasks j hj).1) _) (p:=⟨(ts.getD i tk0).at_,2,none⟩) (.inl (h.tasks i hi).1) _
  have hs:((((w.setCell ⟨g,i,none⟩ (zcS (ts.getD j tk0))).setCell ⟨g,j,none⟩ (zcS (ts.getD i tk0))).setCell ⟨(ts.getD j tk0).at_,2,none⟩ (.int .i64 i)).setCell ⟨(ts.getD i tk0).at_,2,none⟩ (.int .i64 j)).heap.size=w.heap.size:=by simp
  have blk:∀ k,k≠g→k≠(ts.getD i tk0).at_→k≠(ts.getD j tk0).at_→((((w.setCell ⟨g,i,none⟩ (zcS (ts.getD j tk0))).setCell ⟨g,j,none⟩ (zcS (ts.getD i tk0))).setCell ⟨(ts.getD j tk0).at_,2,none⟩ (.int .i64 i)).setCell ⟨(ts.getD i tk0).at_,2,none⟩ (.int .i64 j)).heap[k]? = w.heap[k]?:=fun k h1 h2 h3 =>
   (Below.heap_setCell _ _ _ k h2).trans ((Below.heap_setCell _ _ _ k h3).trans ((Below.heap_setCell _ _ _ k h1).trans (Below.heap_setCell _ _ _ k h1)))
  have hperm:=zd0 ts i j hi hj
  have s1:=hr.stored i (zcS (ts.getD j tk0))
  have s2:=s1.1.stored j (zcS (ts.getD i tk0))
  have hmap:(zbw ts i j).map zcS=((ts.map zcS).set i (zcS (ts.getD j tk0))).set j (zcS (ts.getD i tk0)):=by simp[zbw]
  have hrow:((((w.setCell ⟨g,i,none⟩ (zcS (ts.getD j tk0))).setCell ⟨g,j,none⟩ (zcS (ts.getD i tk0))).setCell ⟨(ts.getD j tk0).at_,2,none⟩ (.int .i64 i)).setCell ⟨(ts.getD i tk0).at_,2,none⟩ (.int .i64 j)).ownsRow 0 192 1 (.slice (some ⟨g,0,none⟩) ts.length c) ts.length ((zbw ts i j).map zcS):=by
   rw[hmap]
   refine own_off (O:=fun k=>k=(ts.getD i tk0).at_∨k=(ts.getD j tk0).at_) s2.1 (off_set (O:=fun k=>k=(ts.getD i tk0).at_∨k=(ts.getD j tk0).at_) (off_set (off_refl _ _) (p:=⟨(ts.getD j tk0).at_,2,none⟩) (.inl (.inr rfl)) _) (p:=⟨(ts.getD i tk0).at_,2,none⟩) (.inl (.inl rfl)) _) (fun k hk e=>?_)
   simp only[Value.ownBlock,Option.some.injEq] at hk
   rcases e with e | e
   ·exact(tne i hi).1 (by omega)
   ·exact(tne j hj).1 (by omega)
  have hbi:=(h.tasks i hi).2
  have hbj:=(h.tasks j hj).2
  refine⟨zbn ho q,hs,⟨h.own,fun k hk=>Nat.lt_of_lt_of_le (h.lt k hk) ho.size,fun t ht=>h.nums t (hperm.mem_iff.1 ht),(hperm.map Tk.n).nodup_iff.2 h.apart,(hperm.map Tk.at_).nodup_iff.2 h.blocks,?_,?_⟩⟩
  ·intro k hk
   rw[zam] at hk
   rw[zj1 ts i j k hk]
   show _∧((((w.setCell ⟨g,i,none⟩ (zcS (ts.getD j tk0))).setCell ⟨g,j,none⟩ (zcS (ts.getD i tk0))).setCell ⟨(ts.getD j tk0).at_,2,none⟩ (.int .i64 i)).setCell ⟨(ts.getD i tk0).at_,2,none⟩ (.int .i64 j)).heap[_]? = _
   by_cases h1:k=j
   ·subst h1
    rw[if_pos rfl]
    refine⟨(h.tasks i hi).1,?_⟩
    by_cases hij:i=k
    ·subst hij
     have e1:(((w.setCell ⟨g,i,none⟩ (zcS (ts.getD i tk0))).setCell ⟨g,i,none⟩ (zcS (ts.getD i tk0))).setCell ⟨(ts.getD i tk0).at_,2,none⟩ (.int .i64 i)).heap[(ts.getD i tk0).at_]? = _:=block_set (i:=2) ((Below.heap_setCell _ _ _ _ (tne i hi).1).trans ((Below.heap_setCell _ _ _ _ (tne i hi).1).trans hbi)) (.int .i64 i)
     exact block_set (i:=2) e1 (.int .i64 i)
    ·have hne:(ts.getD i tk0).at_≠(ts.getD k tk0).at_:=fun e=>hij (zhh h.blocks hi hk e)
     exact block_set (i:=2) ((Below.heap_setCell _ _ _ _ hne).trans ((Below.heap_setCell _ _ _ _ (tne i hi).1).trans ((Below.heap_setCell _ _ _ _ (tne i hi).1).trans hbi))) (.int .i64 k)
   ·rw[if_neg h1]
    by_cases h2:k=i
    ·subst h2
     rw[if_pos rfl]
     refine⟨(h.tasks j hj).1,?_⟩
     have hne:(ts.getD j tk0).at_≠(ts.getD k tk0).at_:=fun e=>h1 (zhh h.blocks hj hk e).symm
     exact(Below.heap_setCell _ _ _ _ hne).trans (block_set (i:=2) ((Below.heap_setCell _ _ _ _ (tne j hj).1).trans ((Below.heap_setCell _ _ _ _ (tne j hj).1).trans hbj)) (.int .i64 k))
    ·rw[if_neg h2]
     exact⟨(h.tasks k hk).1,(blk _ (tne k hk).1 (fun e=>h2 (zhh h.blocks hk hi e)) (fun e=>h1 (zhh h.blocks hk hj e))).trans (h.tasks k hk).2⟩
  ·obtain⟨sv,mo,hB',hr',hs',hm'⟩:=h.lies
   rw[hB] at hB'
   simp only[Option.some.injEq,Obj.cells.injEq,and_true] at hB'
   have e1:Value.slice (some ⟨g,0,none⟩) ts.length c=sv:=by have:=congrArg (fun a:Array Value=>a[0]?) hB';simpa using this
   have e2:m=mo:=by have:=congrArg (fun a:Array Value=>a[1]?) hB';simpa using this
   subst e1 e2
   refine⟨.slice (some ⟨g,0,none⟩) ts.length c,m,(blk B (fun e=>hgB e.symm) (fun e=>(tne i hi).2 e.symm) (fun e=>(tne j hj).2 e.symm)).trans hB,?_,hs',?_⟩
   ·rw[zam];exact hrow
   ·rcases hm' with ⟨e,h0⟩ | ⟨mb,D,N,rfl,hO,hN,hmp,hT,hS,hD⟩
    ·subst h0;simp at hi
    ·refine .inr ⟨mb,D,N,rfl,hO,hN,?_,hT,by rw[zam];exact hS,fun n=>?_⟩
     ·have n1:=zcd hgc hmp
      have n2:=zcd hbi hmp
      have n3:=zcd hbj hmp
      exact(((hmp.setCell (a:=⟨g,i,none⟩) n1 _).setCell (a:=⟨g,j,none⟩) n1 _).setCell (a:=⟨(ts.getD j tk0).at_,2,none⟩) n3 _).setCell (a:=⟨(ts.getD i tk0).at_,2,none⟩) n2 _
     ·rw[(hD n).1,(hD n).2,zlD hperm h.apart]
      refine⟨?_,rfl⟩
      rw[decide_eq_decide]
      exact((hperm.map Tk.n).mem_iff).symm
 have c0:=cell_block hB 0 _ rfl
 have ti:=zeM h i hi
 have tj:=zeM h j hj
 have fr:∀ k,k<ts.length→w.frozen? ⟨(ts.getD k tk0).at_,2,none⟩=false:=fun k hk=>frozen_block (h.tasks k hk).2 2
 by_cases hij:i=j
 ·subst hij
  refine(zml B g c ts.length i hi (ts.getD i tk0).at_ (tne i hi).1 w c0 hgB (tne i hi).2 (hc i hi) (hr.frozenAt _) ti.2.2 (fr i hi)).mono ?_
  rintro e w' ⟨rfl,q,rfl⟩
  exact⟨rfl,key _ q (fun _=>rfl) rfl⟩
 ·refine(zmk B g c ts.length i j hi hj hij (ts.getD i tk0).at_ (ts.getD j tk0).at_ (fun e=>hij (zhh h.blocks hi hj e)) (tne i hi).1 (tne j hj).1 w c0 hgB (tne i hi).2 (tne j hj).2 (hc i hi) (hc j hj) (hr.frozenAt _) (hr.frozenAt _) ti.2.2 tj.2.2 (fr i hi) (fr j hj)).mono ?_
  rintro e w' ⟨rfl,q,rfl⟩
  exact⟨rfl,key _ q (fun h=>absurd h hij) rfl⟩
end Go.Proofs.YtagohbpbgjelaaaGreatDoor.Wk

namespace Go.Proofs.YtagohbpbgjelaaaGreatDoor.Wk
open Go.RowKit Go.Maps

set_option maxRecDepth 100000 in
theorem hptr:(Tryz.prog.info? 192).map (fun i=>(i.zero,i.size,i.bytes))=some (some (.pointer none),1,8):=by kernel_rfl
set_option maxRecDepth 100000 in
theorem zfj {ts:List Tk} {t:Tk} (h:t.n ∉ ts.map Tk.n) (n:Int):zbO (ts ++ [t]) n=if n=t.n then(t.at_:Int)+1 else zbO ts n:=by
 unfold zbO
 rw[List.find?_append]
 by_cases hn:n=t.n
 ·subst hn
  rw[if_pos rfl,List.find?_eq_none.2]
  ·simp
  ·intro x hx;simp only[beq_iff_eq];exact fun e=>h (e▸List.mem_map_of_mem hx)
 ·rw[if_neg hn]
  have:([t].find? fun t=>t.n == n)=none:=by simp;omega
  rw[this]
  cases ts.find? (fun t=>t.n == n) <;> rfl
set_option maxRecDepth 100000 in
theorem zcq {ts:List Tk} {t:Tk} {i:Nat} (hi:i<(ts ++ [t]).length):(ts ++ [t]).getD i tk0=if i=ts.length then t else ts.getD i tk0:=by
 rw[List.length_append,List.length_singleton] at hi
 by_cases h:i=ts.length
 ·subst h;simp
 ·rw[if_neg h,List.getD_eq_getElem?_getD,List.getD_eq_getElem?_getD,List.getElem?_append_left (by omega)]

set_option maxRecDepth 100000 in
theorem zh7 (v:Value) (w:World):(Instr.typeAssert (.iface 192 v) 20 192 false).run Tryz.prog w=.ok v w:=by kernel_rfl

set_option maxRecDepth 100000 in
theorem zkB {w W W1 W3:World} {B g cap mb T N:Nat} {O:Nat→Prop} {ts:List Tk} {n wt:Int} {sv:Value} {D:DataW Unit} {o:Obj}
 (h:LstIs w B O ts) (hTO:¬ O T) (hTl:T<w.heap.size) (hn:0≤n∧n<1048576 ∧ -9223372036854775808≤wt∧wt≤9223372036854775807) (hnew:n ∉ ts.map Tk.n)
 (hoW:Off (fun k=>k=B∨k=T) w W) (hB:W.heap[B]? = some (.cells #[sv,.map (some mb)] 191 (0,0))) (hr:W.ownsRow 0 192 1 sv ts.length (ts.map zcS)) (hsv:∀ k,sv.ownBlock=some k→O k)
 (hT:W.heap[T]? = some (.cells #[.int .i64 n,.int .i64 wt,.int .i64 ts.length] 197 (0,0)))
 (hmb:O mb∨w.heap.size≤mb) (hN:N<1048576) (hm:W.ownsMap (H:=Unit) Tryz.prog 3 zjt mb N D) (hTd:Tidy D) (hSz:Maps.size D=ts.length)
 (hD:∀ n,Maps.has D (.int .i64 n)=decide (n ∈ ts.map Tk.n)∧D.atKey (.int .i64 n) (.lit (.int .i64 0))=.lit (.int .i64 (zbO ts n)))
 (hown:W1.ownsRow 0 192 1 (.slice (some ⟨g,0,none⟩) (ts.length+1) cap) (ts.length+1) (ts.map zcS ++ [.pointer (some ⟨T,0,none⟩)])) (hg:(W.alloc o).grownBy W1 sv.ownBlock) (hgv:sv.ownBlock=some g∨g=W.heap.size+1) :
 ((W1.cell? ⟨B, 0, none⟩ = some sv ∧ W1.frozen? ⟨B, 0, none⟩ = false) ∧ (W1.setCell ⟨B, 0, none⟩ (.slice (some ⟨g, 0, none⟩) (ts.length + 1) cap)).cell? ⟨B, 1, none⟩ = some (.map (some mb)) ∧
   (W1.setCell ⟨B,0,none⟩ (.slice (some ⟨g,0,none⟩) (ts.length+1) cap)).cell? ⟨T,0,none⟩=some (.int .i64 n) ∧
   (W1.setCell ⟨B,0,none⟩ (.slice (some ⟨g,0,none⟩) (ts.length+1) cap)).ownsMap (H:=Unit) Tryz.prog 3 zjt mb N D) ∧
 (W3.ownsMap (H:=Unit) Tryz.prog 3 zjt mb (N+1) (D.put (.int .i64 n) (.lit (.int .i64 ((T:Int)+1))))→(W1.setCell ⟨B,0,none⟩ (.slice (some ⟨g,0,none⟩) (ts.length+1) cap)).grownBy W3 (some mb) →
   Off (fun k=>O k∨k=T) w W3∧LstIs W3 B (fun k=>(O k∨k=T)∨w.heap.size≤k∧k<W3.heap.size) (ts ++ [⟨T,n,wt⟩])):=by
 have n1:=zbr hB hr (by decide)
 have n2:=zcd hB hm
 have n3:=zf0 hr hm
 have n6:=zbr hT hr (by decide)
 have n7:=zcd hT hm
 have nTB:T≠B:=fun e=>hTO (e▸h.own)
 have hBl:=lt_of_some hB
 have hTlW:=lt_of_some hT
 have hml:=hm.lt
 have hB1:W1.heap[B]? = some (.cells #[sv,.map (some mb)] 191 (0,0)):=(hg.block B (by simp;omega) (fun e=>n1 e.symm)).trans ((Below.heap_alloc W o B hBl).trans hB)
 have hT1:W1.heap[T]? = some (.cells #[.int .i64 n,.int .i64 wt,.int .i64 ts.length] 197 (0,0)):=(hg.block T (by simp;omega) (fun e=>n6 e.symm)).trans ((Below.heap_alloc W o T hTlW).trans hT)
 have hm1:W1.ownsMap (H:=Unit) Tryz.prog 3 zjt mb N D:=(hm.alloc o).kept hg (fun e=>n3 e.symm)
 have n4:=zbr hB1 hown (by decide)
 have hB2:=block_set (i:=0) hB1 (.slice (some ⟨g,0,none⟩) (ts.length+1) cap)
 have hT2:(W1.setCell ⟨B,0,none⟩ (.slice (some ⟨g,0,none⟩) (ts.length+1) cap)).heap[T]? = _:=(Below.heap_setCell W1 ⟨B,0,none⟩ _ T nTB).trans hT1
 have hm2:=hm1.setCell (a:=⟨B,0,none⟩) n2 (.slice (some ⟨g,0,none⟩) (ts.length+1) cap)
 have hoff1:Off (fun k=>O k∨k=T) w W1:=zde (zdF (zkt hoW (fun i hi=>by rcases hi with rfl | rfl;exact .inl (.inl h.own);exact .inl (.inr rfl))) o) hg (fun k hk=>.inl (.inl (hsv k hk)))
 have hoff2:=off_set hoff1 (p:=⟨B,0,none⟩) (.inl (.inl h.own)) (.slice (some ⟨g,0,none⟩) (ts.length+1) cap)
 refine⟨⟨⟨cell_block hB1 0 _ rfl,frozen_block hB1 0⟩,cell_block hB2 1 _ rfl,cell_block hT2 0 _ rfl,hm2⟩,fun hm3 hg3=>?_⟩
 have hoff3:=zde hoff2 hg3 (fun k hk=>by cases hk;rcases hmb with h | h;exact .inl (.inl h);exact .inr h)
 have hown2:(W1.setCell ⟨B,0,none⟩ (.slice (some ⟨g,0,none⟩) (ts.length+1) cap)).ownsRow 0 192 1 (.slice (some ⟨g,0,none⟩) (ts.length+1) cap) (ts.length+1) (ts.map zcS ++ [.pointer (some ⟨T,0,none⟩)]) :=
  own_off (O:=fun k=>k=B) hown (off_set (O:=fun k=>k=B) (off_refl _ _) (p:=⟨B,0,none⟩) (.inl rfl) _) (fun k hk e=>n4 (e▸hk))
 have n5:=zf0 hown2 hm2
 have hown3:=hown2.kept hg3 (zjE (fun k hk=>by cases hk;exact n5))
 have hgl:g<W3.heap.size:=(hown3.lt g rfl).2
 have hT3:W3.heap[T]? = some (.cells #[.int .i64 n,.int .i64 wt,.int .i64 ts.length] 197 (0,0)):=(hg3.block T (lt_of_some hT2) (fun e=>by cases e;exact n7 rfl)).trans hT2
 have htask:∀ i,i<ts.length→W3.heap[(ts.getD i tk0).at_]? = some (.cells #[.int .i64 (ts.getD i tk0).n,.int .i64 (ts.getD i tk0).wt,.int .i64 i] 197 (0,0)):=fun i hi=>by
  have hb:=(h.tasks i hi).2
  have hO:=(h.tasks i hi).1
  have hlw:=lt_of_some hb
  have e0:(ts.getD i tk0).at_≠T:=fun e=>hTO (e▸hO)
  have e1:(ts.getD i tk0).at_≠B:=by
   obtain⟨sv',mo',hB',-⟩:=h.lies
   exact zcV hb hB' (by decide)
  have hW:W.heap[(ts.getD i tk0).at_]? = _:=(hoW.block _ hlw (fun e=>by rcases e with e | e;exact e1 e;exact e0 e)).trans hb
  have m1:=zbr hW hr (by decide)
  have m2:=zcd hW hm
  have hW1:W1.heap[(ts.getD i tk0).at_]? = _:=(hg.block _ (Nat.lt_of_lt_of_le (lt_of_some hW) (by simp)) (fun e=>m1 e.symm)).trans ((Below.heap_alloc W o _ (lt_of_some hW)).trans hW)
  have hW2:(W1.setCell ⟨B,0,none⟩ (.slice (some ⟨g,0,none⟩) (ts.length+1) cap)).heap[(ts.getD i tk0).at_]? = _:=(Below.heap_setCell W1 ⟨B,0,none⟩ _ _ e1).trans hW1
  exact(hg3.block _ (lt_of_some hW2) (fun e=>by cases e;exact m2 rfl)).trans hW2
 refine⟨hoff3,.inl (.inl h.own),?_,?_,?_,?_,?_,.slice (some ⟨g,0,none⟩) (ts.length+1) cap,some mb,?_,?_,?_,.inr ⟨mb,D.put (.int .i64 n) (.lit (.int .i64 ((T:Int)+1))),N+1,rfl,?_,by omega,hm3,hTd.put (show WideAt.IsKeyLit (.int .i64 n) from trivial) _,?_,?_⟩⟩
 ·rintro k ((hk | hk) | hk)
  ·have:=h.lt k hk;have:=hoff3.size;omega
  ·have:=hoff3.size;omega
  ·exact hk.2
 ·intro t ht
  rcases List.mem_append.1 ht with ht | ht
  ·exact h.nums t ht
  ·simp at ht;subst ht;exact hn
 ·rw[List.map_append,List.nodup_append]
  exact⟨h.apart,by simp,fun a ha b hb e=>hnew (by simp at hb;rw[← hb,← e];exact ha)⟩
 ·rw[List.map_append,List.nodup_append]
  refine⟨h.blocks,by simp,fun a ha b hb e=>?_⟩
  simp at hb
  subst hb e
  obtain⟨t,ht,rfl⟩:=List.mem_map.1 ha
  obtain⟨i,hi,rfl⟩:=List.mem_iff_getElem.1 ht
  rw[← tkD hi] at hTO
  exact hTO (h.tasks i hi).1
 ·intro i hi
  rw[zcq hi]
  by_cases he:i=ts.length
  ·subst he;rw[if_pos rfl];exact⟨.inl (.inr rfl),hT3⟩
  ·rw[if_neg he]
   have hi':i<ts.length:=by rw[List.length_append,List.length_singleton] at hi;omega
   exact⟨.inl (.inl (h.tasks i hi').1),htask i hi'⟩
 ·exact(hg3.block B (lt_of_some hB2) (fun e=>by cases e;exact n2 rfl)).trans hB2
 ·simpa [zcS] using hown3
 ·intro k hk
  simp only[Value.ownBlock,Option.some.injEq] at hk
  subst hk
  rcases hgv with h | h
  ·exact .inl (.inl (hsv _ h))
  ·exact .inr ⟨by have:=hoW.size;omega,hgl⟩
 ·rcases hmb with h | h
  ·exact .inl (.inl h)
  ·exact .inr ⟨h,hm3.lt⟩
 ·rw[size_put hTd,(hD n).1,hSz]
  simp[hnew]
 ·intro x
  by_cases hx:x=n
  ·subst hx
   have hkl:WideAt.IsKeyLit (.int .i64 x):=trivial
   rw[has_put_same hm.isMap hkl,atKey_put_same hm.isMap hkl,zfj hnew,if_pos rfl]
   simp
  ·have hne:(Lit.int .i64 x)≠.int .i64 n:=by simpa using hx
   rw[has_put_other hne,atKey_put_other hne,(hD x).1,(hD x).2,zfj hnew,if_neg hx]
   simp[hx]

set_option maxHeartbeats 8000000 in
set_option maxRecDepth 100000 in
theorem zk0 (B T:Nat) (O:Nat→Prop) (ts:List Tk) (n wt:Int) (hn:0≤n∧n<1048576 ∧ -9223372036854775808≤wt∧wt≤9223372036854775807) (hnew:n ∉ ts.map Tk.n) (hlen:ts.length<1048576) (w:World)
 (h:LstIs w B O ts) (hTO:¬ O T) (hT:w.heap[T]? = some (.cells #[.int .i64 n,.int .i64 wt,.int .i64 0] 197 (0,0))) (sv:Value) (mb N:Nat) (D:DataW Unit)
 (hB:w.heap[B]? = some (.cells #[sv,.map (some mb)] 191 (0,0))) (hr:w.ownsRow 0 192 1 sv ts.length (ts.map zcS)) (hsv:∀ k,sv.ownBlock=some k→O k)
 (hmb:O mb) (hN:N<1048576) (hm:w.ownsMap (H:=Unit) Tryz.prog 3 zjt mb N D) (hTd:Tidy D) (hSz:Maps.size D=ts.length)
 (hD:∀ n,Maps.has D (.int .i64 n)=decide (n ∈ ts.map Tk.n)∧D.atKey (.int .i64 n) (.lit (.int .i64 0))=.lit (.int .i64 (zbO ts n))) :
 Calls Tryz.prog 214 #[.pointer (some ⟨B,0,none⟩),.iface 192 (.pointer (some ⟨T,0,none⟩))] w fun e w'=>e=.returned (.tuple #[])∧Off (fun k=>O k∨k=T) w w'∧LstIs w' B (fun k=>(O k∨k=T)∨w.heap.size≤k∧k<w'.heap.size) (ts ++ [⟨T,n,wt⟩]):=by
 obtain⟨i0,hi,hz0,hz1,hz2⟩:=zao hptr
 have hlt:=lt_of_some hB
 have hTl:=lt_of_some hT
 have nTB:¬ T=B:=fun e=>hTO (e▸h.own)
 have c0:=cell_block hB 0 _ rfl
 have c1:=cell_block hB 1 _ rfl
 have f0:=frozen_block hB 0
 have f1:=frozen_block hB 1
 have ct:=cell_block hT 2 _ rfl
 have ft:=frozen_block hT 2
 have qm:∀ (w:World) (r:Option Nat),(binOp .eql 187 (.map r) (.map none)).run Tryz.prog w=.ok (.bool r.isNone) w:=fun w r=>run_eql_map_nil w _ _ _ r Tryz.underlying187
 have qk:=fun w:World=>run_makeMap (P:=Tryz.prog) 187 w
 have qa:=fun(v:Value) (w:World)=>zh7 v w
 have hB':(w.setCell ⟨T,2,none⟩ (.int .i64 ts.length)).heap[B]? = _:=(Below.heap_setCell w ⟨T,2,none⟩ (.int .i64 ts.length) B (fun e=>nTB e.symm)).trans hB
 have hT':=block_set (i:=2) hT (.int .i64 ts.length)
 have nr:=zbr hT hr (by decide)
 have nm:=zcd hT hm
 have hr':World.ownsRow (w.setCell ⟨T,2,none⟩ (.int .i64 ts.length)) 0 192 1 sv ts.length (ts.map zcS):=own_off (O:=fun k=>k=T) hr (off_set (O:=fun k=>k=T) (off_refl _ _) (p:=⟨T,2,none⟩) (.inl rfl) _) (fun k hk e=>nr (e▸hk))
 have hm':=hm.setCell (a:=⟨T,2,none⟩) nm (.int .i64 ts.length)
 have Hg:=zaa (fun W1 W3 g cap=>zkB (w:=w) (W:=w.setCell ⟨T,2,none⟩ (.int .i64 ts.length)) (W1:=W1) (W3:=W3) (g:=g) (cap:=cap) (mb:=mb) (sv:=sv) (o:=.cells #[.pointer (some ⟨T,0,none⟩)] 192) h hTO hTl hn hnew (off_set (O:=fun k=>k=B∨k=T) (off_refl _ _) (p:=⟨T,2,none⟩) (.inl (.inr rfl)) _) hB' hr' hsv hT' (.inl hmb) hN hm' hTd hSz hD)
 have Ho:=zaa (hr':World.ownsRow (w.setCell ⟨T,2,none⟩ (.int .i64 ts.length)) 0 192 1 sv ts.length (ts.map zcS))
 obtain⟨va,vc,rfl⟩:=zad hr
 have Hk:=zaa (keyOf_int_mk Tryz.underlying3 (WalkArith.wf_i64 (n:=n) (by omega)))
 clear hB hr hsv h hT hnew hB' hT' hr' hm' hm hTd hSz hD hmb
 have hn':(ts.length:Int)<1048576:=by omega
 go_enter Tryz.func214,Tryz.ntmps214
 go_wp2_with (at_builtin;refine wpList_append_lies _ rfl _ _ 186 rfl 0 192 i0 (.pointer none) 1 8 Tryz.underlying186 hi hz0 hz1 hz2 rfl (by decide) _ ts.length (ts.map zcS) rfl ((uh Ho).alloc _) ⟨w.heap.size,0,none⟩ 1 1 [.pointer (some ⟨T,0,none⟩)] rfl rfl ?c1 ?c2 (by decide) ?c3 ?c4 (Nat.zero_le _) (w.heap.size+1) ?c5 ?_)
 case c1 =>
  have h:=World.news_of_block (MapKept.heap_alloc (w.setCell ⟨T,2,none⟩ (.int .i64 ts.length)) (.cells #[.pointer (some ⟨T,0,none⟩)] 192)).1
  simpa using h
 case c2=>simp[Value.oneCell']
 case c3=>unfold maxLen;omega
 case c4=>omega
 case c5=>simp
 intro g cap W1 hown hgr hgv hgl
 obtain⟨⟨⟨d0,e0⟩,d1,dt,hm2⟩,-⟩:=uh Hg W1 W1 g cap hown hgr (by simpa using hgv)
 obtain⟨W3,hrun,hm3,hg3⟩:=(hm2.drew).update zor Tryz.underlying187 (by unfold maxLen;omega) (uh Hk) (val:=.pointer (some ⟨T,0,none⟩)) (d:=.lit (.int .i64 ((T:Int)+1))) (ps:=[]) rfl
 have Hh:=zaa ((uh Hg W1 W3 g cap hown hgr (by simpa using hgv)).2 hm3 ⟨hg3.os,hg3.tape,hg3.output,hg3.size,hg3.block⟩)
 clear hown hgr hm2 hm3 hg3 c0 c1 f0 f1 ct ft
 go_wp2
 go_region
 all_goals
  go_wp2
  go_end0
  exact⟨rfl,uh Hh⟩

set_option maxHeartbeats 8000000 in
set_option maxRecDepth 100000 in
theorem zmd (B T:Nat) (O:Nat→Prop) (ts:List Tk) (n wt:Int) (hn:0≤n∧n<1048576 ∧ -9223372036854775808≤wt∧wt≤9223372036854775807) (hnew:n ∉ ts.map Tk.n) (hlen:ts.length<1048576) (w:World)
 (h:LstIs w B O ts) (hTO:¬ O T) (hT:w.heap[T]? = some (.cells #[.int .i64 n,.int .i64 wt,.int .i64 0] 197 (0,0))) (sv:Value) (hks:ts=[])
 (hB:w.heap[B]? = some (.cells #[sv,.map none] 191 (0,0))) (hr:w.ownsRow 0 192 1 sv ts.length (ts.map zcS)) (hsv:∀ k,sv.ownBlock=some k→O k) :
 Calls Tryz.prog 214 #[.pointer (some ⟨B,0,none⟩),.iface 192 (.pointer (some ⟨T,0,none⟩))] w fun e w'=>e=.returned (.tuple #[])∧Off (fun k=>O k∨k=T) w w'∧LstIs w' B (fun k=>(O k∨k=T)∨w.heap.size≤k∧k<w'.heap.size) (ts ++ [⟨T,n,wt⟩]):=by
 obtain⟨i0,hi,hz0,hz1,hz2⟩:=zao hptr
 have hlt:=lt_of_some hB
 have hTl:=lt_of_some hT
 have nTB:¬ T=B:=fun e=>hTO (e▸h.own)
 have c0:=cell_block hB 0 _ rfl
 have c1:=cell_block hB 1 _ rfl
 have f0:=frozen_block hB 0
 have f1:=frozen_block hB 1
 have ct:=cell_block hT 2 _ rfl
 have ft:=frozen_block hT 2
 have qm:∀ (w:World) (r:Option Nat),(binOp .eql 187 (.map r) (.map none)).run Tryz.prog w=.ok (.bool r.isNone) w:=fun w r=>run_eql_map_nil w _ _ _ r Tryz.underlying187
 have qk:=fun w:World=>run_makeMap (P:=Tryz.prog) 187 w
 have qa:=fun(v:Value) (w:World)=>zh7 v w
 have hs1:((w.setCell ⟨B,1,none⟩ (.map (some w.heap.size))).setCell ⟨T,2,none⟩ (.int .i64 ts.length)).heap.size=w.heap.size:=by simp
 have hB':(((w.setCell ⟨B,1,none⟩ (.map (some w.heap.size))).setCell ⟨T,2,none⟩ (.int .i64 ts.length)).alloc (.map #[] 0)).heap[B]? = some (.cells #[sv,.map (some w.heap.size)] 191 (0,0)) :=
  (Below.heap_alloc _ _ B (by omega)).trans ((Below.heap_setCell _ ⟨T,2,none⟩ _ B (fun e=>nTB e.symm)).trans (block_set (i:=1) hB (.map (some w.heap.size))))
 have hT':(((w.setCell ⟨B,1,none⟩ (.map (some w.heap.size))).setCell ⟨T,2,none⟩ (.int .i64 ts.length)).alloc (.map #[] 0)).heap[T]? = some (.cells #[.int .i64 n,.int .i64 wt,.int .i64 ts.length] 197 (0,0)) :=
  (Below.heap_alloc _ _ T (by omega)).trans (block_set (i:=2) ((Below.heap_setCell w ⟨B,1,none⟩ _ T nTB).trans hT) (.int .i64 ts.length))
 have nr:=zbr hT hr (by decide)
 have nb:=zbr hB hr (by decide)
 have hr':World.ownsRow (((w.setCell ⟨B,1,none⟩ (.map (some w.heap.size))).setCell ⟨T,2,none⟩ (.int .i64 ts.length)).alloc (.map #[] 0)) 0 192 1 sv ts.length (ts.map zcS) :=
  (own_off (O:=fun k=>k=B∨k=T) hr (off_set (O:=fun k=>k=B∨k=T) (off_set (off_refl _ _) (p:=⟨B,1,none⟩) (.inl (.inl rfl)) _) (p:=⟨T,2,none⟩) (.inl (.inr rfl)) _) (fun k hk e=>by rcases e with e | e;exact nb (e▸hk);exact nr (e▸hk))).alloc _
 have hm':World.ownsMap (H:=Unit) (((w.setCell ⟨B,1,none⟩ (.map (some w.heap.size))).setCell ⟨T,2,none⟩ (.int .i64 ts.length)).alloc (.map #[] 0)) Tryz.prog 3 zjt w.heap.size 0 (.map []):=by
  have h:=World.ownsMap_made (H:=Unit) ((w.setCell ⟨B,1,none⟩ (.map (some w.heap.size))).setCell ⟨T,2,none⟩ (.int .i64 ts.length)) Tryz.prog 3 zjt
  rw[hs1] at h
  exact h
 have hD':∀ n,Maps.has (.map []:DataW Unit) (.int .i64 n)=decide (n ∈ ts.map Tk.n)∧(DataW.map []:DataW Unit).atKey (.int .i64 n) (.lit (.int .i64 0))=.lit (.int .i64 (zbO ts n)):=fun x=>by
  subst hks;exact⟨rfl,rfl⟩
 have hS':Maps.size (.map []:DataW Unit)=ts.length:=by subst hks;rfl
 have Hg:=zaa (fun W1 W3 g cap=>zkB (w:=w) (W:=((w.setCell ⟨B,1,none⟩ (.map (some w.heap.size))).setCell ⟨T,2,none⟩ (.int .i64 ts.length)).alloc (.map #[] 0)) (W1:=W1) (W3:=W3) (g:=g) (cap:=cap) (mb:=w.heap.size) (sv:=sv) (o:=.cells #[.pointer (some ⟨T,0,none⟩)] 192) h hTO hTl hn hnew (zdF (off_set (O:=fun k=>k=B∨k=T) (off_set (off_refl _ _) (p:=⟨B,1,none⟩) (.inl (.inl rfl)) _) (p:=⟨T,2,none⟩) (.inl (.inr rfl)) _) _) hB' hr' hsv hT' (.inr (Nat.le_refl _)) (by decide) hm' tidy_empty hS' hD' )
 have Ho:=zaa (hr':World.ownsRow (((w.setCell ⟨B,1,none⟩ (.map (some w.heap.size))).setCell ⟨T,2,none⟩ (.int .i64 ts.length)).alloc (.map #[] 0)) 0 192 1 sv ts.length (ts.map zcS))
 obtain⟨va,vc,rfl⟩:=zad hr
 have Hk:=zaa (keyOf_int_mk Tryz.underlying3 (WalkArith.wf_i64 (n:=n) (by omega)))
 clear hB hr hsv h hT hnew hB' hT' hr' hm' hD' hS' hks hs1
 have hn':(ts.length:Int)<1048576:=by omega
 go_enter Tryz.func214,Tryz.ntmps214
 go_wp2_with (at_builtin;refine wpList_append_lies _ rfl _ _ 186 rfl 0 192 i0 (.pointer none) 1 8 Tryz.underlying186 hi hz0 hz1 hz2 rfl (by decide) _ ts.length (ts.map zcS) rfl ((uh Ho).alloc _) ⟨w.heap.size+1,0,none⟩ 1 1 [.pointer (some ⟨T,0,none⟩)] rfl rfl ?c1 ?c2 (by decide) ?c3 ?c4 (Nat.zero_le _) (w.heap.size+1+1) ?c5 ?_)
 case c1 =>
  have h:=World.news_of_block (MapKept.heap_alloc (((w.setCell ⟨B,1,none⟩ (.map (some w.heap.size))).setCell ⟨T,2,none⟩ (.int .i64 ts.length)).alloc (.map #[] 0)) (.cells #[.pointer (some ⟨T,0,none⟩)] 192)).1
  simpa using h
 case c2=>simp[Value.oneCell']
 case c3=>unfold maxLen;omega
 case c4=>omega
 case c5=>simp
 intro g cap W1 hown hgr hgv hgl
 obtain⟨⟨⟨d0,e0⟩,d1,dt,hm2⟩,-⟩:=uh Hg W1 W1 g cap hown hgr (by simpa using hgv)
 obtain⟨W3,hrun,hm3,hg3⟩:=(hm2.drew).update zor Tryz.underlying187 (by unfold maxLen;omega) (uh Hk) (val:=.pointer (some ⟨T,0,none⟩)) (d:=.lit (.int .i64 ((T:Int)+1))) (ps:=[]) rfl
 have Hh:=zaa ((uh Hg W1 W3 g cap hown hgr (by simpa using hgv)).2 hm3 ⟨hg3.os,hg3.tape,hg3.output,hg3.size,hg3.block⟩)
 clear hown hgr hm2 hm3 hg3 c0 c1 f0 f1 ct ft
 go_wp2
 go_region
 all_goals
  go_wp2
  go_end0
  exact⟨rfl,uh Hh⟩

end Go.Proofs.YtagohbpbgjelaaaGreatDoor.Wk

namespace Go.Proofs.YtagohbpbgjelaaaGreatDoor.Wk
open Go.RowKit Go.Maps

set_option maxRecDepth 100000 in
theorem znd {w:World} {H:Type} {P:Program} {k:TypeId} {R:Value→Option (DataW H × List MemPlace)} {b n:Nat} {D:DataW H} (h:w.ownsMap P k R b n D):w.ownsMap P k R b (Maps.size D) D:=by
 obtain⟨es,clock,hb,F,hs,rfl⟩:=h
 exact⟨es,clock,hb,F,by simp[Maps.size,length_sorted],rfl⟩

set_option maxRecDepth 100000 in
theorem zme (B T:Nat) (O:Nat→Prop) (ts:List Tk) (n wt:Int) (hn:0≤n∧n<1048576 ∧ -9223372036854775808≤wt∧wt≤9223372036854775807) (hnew:n ∉ ts.map Tk.n) (hlen:ts.length<1048576) (w:World)
 (h:LstIs w B O ts) (hTO:¬ O T) (hT:w.heap[T]? = some (.cells #[.int .i64 n,.int .i64 wt,.int .i64 0] 197 (0,0))) :
 Calls Tryz.prog 214 #[.pointer (some ⟨B,0,none⟩),.iface 192 (.pointer (some ⟨T,0,none⟩))] w fun e w'=>e=.returned (.tuple #[])∧Off (fun k=>O k∨k=T) w w'∧LstIs w' B (fun k=>(O k∨k=T)∨w.heap.size≤k∧k<w'.heap.size) (ts ++ [⟨T,n,wt⟩]):=by
 obtain⟨sv,mo,hB,hr,hsv,hm⟩:=h.lies
 rcases hm with ⟨rfl,hk⟩ | ⟨mb,D,N,rfl,hO,hN,hmap,hTd,hSz,hD⟩
 ·exact zmd B T O ts n wt hn hnew hlen w h hTO hT sv hk hB hr hsv
 ·exact zk0 B T O ts n wt hn hnew hlen w h hTO hT sv mb (Maps.size D) D hB hr hsv hO (by omega) (znd hmap) hTd hSz hD

set_option maxRecDepth 100000 in
theorem zco {w:World} {B:Nat} {O:Nat→Prop} {ts:List Tk} (h:LstIs w B O ts) (q:Nat):LstIs (w.drewN q) B O ts:=lst_off (O':=fun _=>False) h (zbn (off_refl _ _) q) (fun _ _ h=>h)
def upF:Nat→List Tk→Nat→List Tk
 | 0,ts,_=>ts
 | f+1,ts,j=>if j=0 then ts else if lessT (ts.getD j tk0) (ts.getD ((j - 1) / 2) tk0) then upF f (zbw ts ((j - 1) / 2) j) ((j - 1) / 2) else ts
def upL (ts:List Tk) (j:Nat):List Tk:=upF j ts j
set_option maxRecDepth 100000 in
theorem zox (f:Nat):∀ (ts:List Tk) (j:Nat),j≤f→upF f ts j=upF j ts j:=by
 induction f using Nat.strongRecOn with
 | ind f ih =>
   intro ts j hj
   cases f with
   | zero => obtain rfl : j = 0 := by omega
             rfl
   | succ f =>
     cases j with
     | zero=>rfl
     | succ j =>
       show (if j+1=0 then ts else if lessT (ts.getD (j+1) tk0) (ts.getD ((j+1 - 1) / 2) tk0) then upF f (zbw ts ((j+1 - 1) / 2) (j+1)) ((j+1 - 1) / 2) else ts)=(if j+1=0 then ts else if lessT (ts.getD (j+1) tk0) (ts.getD ((j+1 - 1) / 2) tk0) then upF j (zbw ts ((j+1 - 1) / 2) (j+1)) ((j+1 - 1) / 2) else ts)
       rw[ih f (by omega) _ _ (by omega)]
       by_cases h:j=f
       · subst h;rw[ih j (by omega) _ _ (by omega)]
       · rw[ih j (by omega) _ _ (by omega)]
set_option maxRecDepth 100000 in
theorem zl6 (ts:List Tk) (j:Nat):upL ts j=if j=0 then ts else if lessT (ts.getD j tk0) (ts.getD ((j - 1) / 2) tk0) then upL (zbw ts ((j - 1) / 2) j) ((j - 1) / 2) else ts:=by
 cases j with
 | zero=>rfl
 | succ j =>
   unfold upL
   show (if j+1=0 then ts else if lessT (ts.getD (j+1) tk0) (ts.getD ((j+1 - 1) / 2) tk0) then upF j (zbw ts ((j+1 - 1) / 2) (j+1)) ((j+1 - 1) / 2) else ts)=_
   rw[zox j _ _ (by omega)]

set_option maxHeartbeats 4000000 in
set_option maxRecDepth 100000 in
theorem zpZ (B:Nat) (O:Nat→Prop) (ts:List Tk) (j:Nat) (hj:j<ts.length) (hlen:ts.length≤1048576) (w:World) (h:LstIs w B O ts) :
 Calls Tryz.prog 156 #[.iface 194 (.pointer (some ⟨B,0,none⟩)),.int .i64 j] w fun e w'=>e=.returned (.tuple #[])∧Off O w w'∧w'.heap.size=w.heap.size∧LstIs w' B O (upL ts j):=by
 go_enter Tryz.func156,Tryz.ntmps156
 go_wp2
 go_loopw [1] (fun x wr=>∃ (k:Nat) (ls:List Tk),x=.int .i64 k∧k<ls.length∧ls.length=ts.length∧LstIs wr B O ls∧Off O w wr∧wr.heap.size=w.heap.size∧upL ls k=upL ts j) (fun x _=>(intOf x).toNat)
 case atStart=>exact⟨j,ts,rfl,hj,rfl,h,off_refl _ _,rfl,rfl⟩
 case round =>
  obtain⟨k,ls,rfl,hk,hll,hL,hoff,hsz,hup⟩:=hrel
  by_cases h0:k=0
  ·subst h0
   rw[zl6,if_pos rfl] at hup
   have HL:=zaa hL;have Ho:=zaa hoff;have Hu:=zaa hup
   clear hL hoff hup h
   go_wp2
   go_end0
   exact⟨rfl,uh Ho,hsz,(uh Hu)▸uh HL⟩
  ·obtain⟨i,hi⟩:∃ i:Nat,((k:Int) - 1).tdiv 2=i:=⟨(k - 1) / 2,by rw[Int.tdiv_eq_ediv_of_nonneg (by omega)];omega⟩
   have hi2:(k - 1) / 2=i:=by
    rw[Int.tdiv_eq_ediv_of_nonneg (by omega)] at hi;omega
   have hik:i<k:=by omega
   have hne:((i:Int) == k)=false:=by simp;omega
   rw[zl6,if_neg h0,hi2] at hup
   have HLs:=zaa (zhT B O ls k i hk (by omega) wr hL (by omega))
   have HSw:=zaa (fun q=>zhp B O ls i k (by omega) hk (wr.drewN q) (zco hL q))
   have Ho:=zaa hoff;have HL:=zaa hL
   cases hb:lessT (ls.getD k tk0) (ls.getD i tk0)
   ·rw[hb] at hup HLs
    have Hu:=zaa hup
    clear hL hoff hup h hb
    go_wp2_with (go_at_call 212;refine(uh HLs).mono ?_;rintro e w1 ⟨rfl,q,rfl⟩)
    go_end0
    refine⟨rfl,zbn (uh Ho) q,hsz,?_⟩
    have:=uh Hu
    simp only[Bool.false_eq_true,if_false] at this
    exact this▸zco (uh HL) q
   ·rw[hb] at hup HLs
    have Hu:=zaa hup
    clear hL hoff hup h hb
    go_wp2_with (first | (go_at_call 212;refine(uh HLs).mono ?_;rintro e w1 ⟨rfl,q,rfl⟩) | (go_at_call 215;refine(uh HSw q).mono ?_;rintro e w2 ⟨rfl,ho2,hs2,hl2⟩;have Ho2:=zaa ho2;have Hl2:=zaa hl2;clear ho2 hl2))
    go_roundw
    case rel =>
     have:=uh Hu
     simp only[if_true] at this
     exact⟨i,_,rfl,by rw[zam];omega,by rw[zam];exact hll,uh Hl2,zgb (zbn (uh Ho) q) (uh Ho2),hs2.trans hsz,this⟩
    case measure=>simp[intOf];omega
end Go.Proofs.YtagohbpbgjelaaaGreatDoor.Wk

namespace Go.Proofs.YtagohbpbgjelaaaGreatDoor.Wk
open Go.RowKit Go.Maps

set_option maxHeartbeats 4000000 in
set_option maxRecDepth 100000 in
theorem znx (B T:Nat) (O:Nat→Prop) (ts:List Tk) (n wt:Int) (hn:0≤n∧n<1048576 ∧ -9223372036854775808≤wt∧wt≤9223372036854775807) (hnew:n ∉ ts.map Tk.n) (hlen:ts.length<1048576) (w:World)
 (h:LstIs w B O ts) (hTO:¬ O T) (hT:w.heap[T]? = some (.cells #[.int .i64 n,.int .i64 wt,.int .i64 0] 197 (0,0))) :
 Calls Tryz.prog 135 #[.iface 194 (.pointer (some ⟨B,0,none⟩)),.iface 192 (.pointer (some ⟨T,0,none⟩))] w fun e w'=>e=.returned (.tuple #[])∧Off (fun k=>O k∨k=T) w w' ∧
  LstIs w' B (fun k=>(O k∨k=T)∨w.heap.size≤k∧k<w'.heap.size) (upL (ts ++ [⟨T,n,wt⟩]) ts.length):=by
 have HP:=zaa (zme B T O ts n wt hn hnew hlen w h hTO hT)
 have hTl:=lt_of_some hT
 have HO:=zaa h.lt
 clear h hTO hT hnew
 go_enter Tryz.func135,Tryz.ntmps135
 go_wp2_with (go_at_call 214;refine(uh HP).mono ?_;rintro e w1 ⟨rfl,ho,hl⟩)
 have HLn:=zaa (zfB _ _ _ w1 hl)
 have HU:=zaa (zpZ _ _ _ ts.length (by simp) (by simp;omega) w1 hl)
 rw[List.length_append,List.length_singleton] at HLn
 have Ho:=zaa ho
 have hlen':(ts.length:Int)<1048576:=by omega
 clear ho hl
 have hsub:((ts.length+1:Nat):Int) - 1=ts.length:=by omega
 go_wp2_with (first | (go_at_call 211;refine(uh HLn).mono ?_;rintro e w2 ⟨rfl,hw⟩;obtain rfl:=hw.symm) | (go_at_call 156;refine(uh HU).mono ?_;rintro e w2 ⟨rfl,ho2,hs2,hl2⟩;have Ho2:=zaa ho2;have Hl2:=zaa hl2;clear ho2 hl2))
 go_end0
 have h2:Off (fun k=>O k∨k=T) w w2:=zix (uh Ho) (uh Ho2) (fun i hi=>by rcases hi with h | h;exact .inl h;exact .inr h.1)
 refine⟨rfl,h2,zkA (uh Hl2) (fun k hk=>?_) (fun k hk=>?_)⟩
 ·rcases hk with h | h
  ·exact .inl h
  ·exact .inr ⟨h.1,by omega⟩
 ·rcases hk with (h | h) | h
  ·have:=uh HO k h;have:=h2.size;omega
  ·have:=h2.size;omega
  ·exact h.2
set_option maxRecDepth 100000 in
theorem zlq {w:World} {B:Nat} {O:Nat→Prop} {ts:List Tk} (h:LstIs w B O ts) {n:Int} (hn:0≤n∧n<1048576) (hnew:n ∉ ts.map Tk.n):∃ m,w.cell? ⟨B,1,none⟩=some (.map m)∧∀ w',Below w.heap.size w w'→(Instr.lookup 187 (.map m) (.int .i64 n) false).run Tryz.prog w'=.ok (.pointer none) w':=by
 obtain⟨sv,mo,hB,hr,hsv,hm⟩:=h.lies
 have hk:=keyOf_int_mk Tryz.underlying3 (WalkArith.wf_i64 (n:=n) (by omega))
 refine⟨mo,cell_block hB 1 _ rfl,fun w' hb=>?_⟩
 rcases hm with ⟨rfl,-⟩ | ⟨mb,D,N,rfl,hO,hN,hmap,hTd,hSz,hD⟩
 ·rw[look_nil (w:=w') false zor Tryz.underlying187 (zlS _) hk];rfl
 ·have hmap':=zhP (O:=fun _=>False) hmap (zbx hb) (fun h=>h)
  obtain⟨v,ps,hrun,hv⟩:=hmap'.lookup zor Tryz.underlying187 (zlS _) (zd:=.lit (.int .i64 0)) (zp:=[]) rfl hk
  rw[(hD n).2,zdf hnew] at hv
  rw[hrun,zmH hv]

set_option maxHeartbeats 4000000 in
set_option maxRecDepth 100000 in
theorem push_new (B:Nat) (O:Nat→Prop) (ts:List Tk) (n wt:Int) (hn:0≤n∧n<1048576 ∧ -9223372036854775808≤wt∧wt≤9223372036854775807) (hnew:n ∉ ts.map Tk.n) (hlen:ts.length<1048576) (w:World) (h:LstIs w B O ts) :
 Calls Tryz.prog 107 #[.pointer (some ⟨B,0,none⟩),.int .i64 n,.int .i64 wt] w fun e w'=>e=.returned (.tuple #[.bool true,.int .i64 0])∧Off O w w' ∧
  ∃ T,LstIs w' B (fun k=>O k∨w.heap.size≤k∧k<w'.heap.size) (upL (ts ++ [⟨T,n,wt⟩]) ts.length):=by
 have HN:=zaa (zdG n w)
 rw[show decide (0≤n∧n<1048576)=true by simpa using ⟨hn.1,hn.2.1⟩] at HN
 obtain⟨m,cm,hq⟩:=zlq h ⟨hn.1,hn.2.1⟩ hnew
 have hq0:=hq w (Below.refl _ _)
 have hb0:Below w.heap.size w (w.alloc (.cells #[.int .i64 n,.int .i64 wt,.int .i64 0] 197)):=(Below.refl _ _).alloc (Nat.le_refl _) _
 have HP:=zaa (znx B w.heap.size O ts n wt hn hnew hlen (w.alloc (.cells #[.int .i64 n,.int .i64 wt,.int .i64 0] 197)) (lst_below h hb0) (fun h'=>by have:=h.lt _ h';omega) (MapKept.heap_alloc w _).1)
 have HO:=zaa h.lt
 have Hb0:=zaa hb0
 clear h hnew hb0 hq
 go_enter Tryz.func107,Tryz.ntmps107
 go_wp2_with (first | (go_at_call 133;refine(uh HN).mono ?_;rintro e w2 ⟨rfl,hw⟩;obtain rfl:=hw.symm) | (go_at_call 135;refine(uh HP).mono ?_;rintro e w2 ⟨rfl,ho2,hl2⟩;have Ho2:=zaa ho2;have Hl2:=zaa hl2;clear ho2 hl2))
 go_ret2
 have hs:w.heap.size+1≤w2.heap.size:=by have:=(uh Ho2).size;simpa using this
 refine⟨rfl,zix (zbx (uh Hb0)) (uh Ho2) (fun i hi=>by rcases hi with h | h;exact .inl h;exact .inr (by omega)),w.heap.size,zkA (uh Hl2) (fun k hk=>?_) (fun k hk=>?_)⟩
 ·rcases hk with (h | h) | h
  ·exact .inl h
  ·exact .inr ⟨by omega,by omega⟩
  ·exact .inr ⟨by simp at h;omega,h.2⟩
 ·rcases hk with h | h
  ·have:=uh HO k h;omega
  ·exact h.2
end Go.Proofs.YtagohbpbgjelaaaGreatDoor.Wk

namespace Go.Proofs.YtagohbpbgjelaaaGreatDoor.Wk
open Go.RowKit Go.Maps

def zck (ts:List Tk) (n i:Nat):Nat:=if 2 * i+2<n∧lessT (ts.getD (2 * i+2) tk0) (ts.getD (2 * i+1) tk0)=true then 2 * i+2 else 2 * i+1
set_option maxRecDepth 100000 in
theorem zfg (ts:List Tk) (n i:Nat):zck ts n i=2 * i+2∧2 * i+2<n∨zck ts n i=2 * i+1:=by
 unfold zck;split
 ·rename_i h;exact .inl ⟨rfl,h.1⟩
 ·exact .inr rfl
def zdQ:Nat→List Tk→Nat→Nat→List Tk × Nat
 | 0,ts,_,i=>(ts,i)
 | f+1,ts,n,i=>if 2 * i+1<n then(if lessT (ts.getD (zck ts n i) tk0) (ts.getD i tk0) then zdQ f (zbw ts i (zck ts n i)) n (zck ts n i) else(ts,i)) else(ts,i)
def zdy (ts:List Tk) (n i:Nat):List Tk × Nat:=zdQ (n - i) ts n i
set_option maxRecDepth 100000 in
theorem zha (f:Nat):∀ (ts:List Tk) (n i:Nat),n - i≤f→zdQ f ts n i=zdQ (n - i) ts n i:=by
 induction f using Nat.strongRecOn with
 | ind f ih =>
   intro ts n i hj
   cases f with
   | zero=>rw[show n - i=0 by omega]
   | succ f =>
     by_cases h:2 * i+1<n
     ·obtain⟨m,hm⟩:∃ m,n - i=m+1:=⟨n - i - 1,by omega⟩
      have hk:=zfg ts n i
      rw[hm]
      show (if 2 * i+1<n then(if lessT (ts.getD (zck ts n i) tk0) (ts.getD i tk0) then zdQ f (zbw ts i (zck ts n i)) n (zck ts n i) else(ts,i)) else(ts,i))=(if 2 * i+1<n then(if lessT (ts.getD (zck ts n i) tk0) (ts.getD i tk0) then zdQ m (zbw ts i (zck ts n i)) n (zck ts n i) else(ts,i)) else(ts,i))
      rw[ih f (by omega) _ n (zck ts n i) (by omega),ih m (by omega) _ n (zck ts n i) (by omega)]
     ·have e:∀ g,zdQ g ts n i=(ts,i):=fun g=>by cases g with
       | zero=>rfl
       | succ g=>show (if 2 * i+1<n then _ else _)=_;rw[if_neg h]
      rw[e,e]
set_option maxRecDepth 100000 in
theorem zeS (ts:List Tk) (n i:Nat):zdy ts n i=if 2 * i+1<n then(if lessT (ts.getD (zck ts n i) tk0) (ts.getD i tk0) then zdy (zbw ts i (zck ts n i)) n (zck ts n i) else(ts,i)) else(ts,i):=by
 unfold zdy
 have hk:=zfg ts n i
 rw[← zha (n - i+1) ts n i (by omega)]
 show (if 2 * i+1<n then(if lessT (ts.getD (zck ts n i) tk0) (ts.getD i tk0) then zdQ (n - i) (zbw ts i (zck ts n i)) n (zck ts n i) else(ts,i)) else(ts,i))=_
 rw[zha (n - i) _ n (zck ts n i) (by omega)]

set_option maxHeartbeats 4000000 in
set_option maxRecDepth 100000 in
theorem zkM (B:Nat) (O:Nat→Prop) (ts:List Tk) (n i0:Nat) (hi:i0<ts.length) (hn:n≤ts.length) (hlen:ts.length≤1048576) (w:World) (h:LstIs w B O ts) :
 Calls Tryz.prog 178 #[.iface 194 (.pointer (some ⟨B,0,none⟩)),.int .i64 i0,.int .i64 n] w fun e w'=>e=.returned (.bool (decide ((i0:Int)<(zdy ts n i0).2)))∧Off O w w'∧w'.heap.size=w.heap.size∧LstIs w' B O (zdy ts n i0).1:=by
 go_enter Tryz.func178,Tryz.ntmps178
 go_wp2
 go_loopw [7] (fun x wr=>∃ (k:Nat) (ls:List Tk),x=.int .i64 k∧k<ls.length∧ls.length=ts.length∧LstIs wr B O ls∧Off O w wr∧wr.heap.size=w.heap.size∧zdy ls n k=zdy ts n i0) (fun x _=>n - (intOf x).toNat)
 case atStart=>exact⟨i0,ts,rfl,hi,rfl,h,off_refl _ _,rfl,rfl⟩
 case round =>
  obtain⟨k,ls,rfl,hk,hll,hL,hoff,hsz,hdn⟩:=hrel
  have HL:=zaa hL;have Ho:=zaa hoff
  have hk':(k:Int)<1048576:=by omega
  obtain⟨a,ha⟩:∃ a:Nat,2 * (k:Int)+1=a:=⟨2 * k+1,by omega⟩
  have ha2:2 * k+1=a:=by omega
  rw[zeS,ha2] at hdn
  clear h hi
  by_cases h1:a<n
  ·have h1':¬ (n:Int)≤a:=by omega
   have h1'':¬ ((a:Int)<0):=by omega
   rw[if_pos h1] at hdn
   obtain⟨b,hb⟩:∃ b:Nat,(a:Int)+1=b:=⟨a+1,by omega⟩
   have hb2:2 * k+2=b:=by omega
   have hkidd:zck ls n k=if b<n∧lessT (ls.getD b tk0) (ls.getD a tk0)=true then b else a:=by unfold zck;rw[ha2,hb2]
   have HSw:=zaa (fun j (hj:j<ls.length) q=>zhp B O ls k j hk hj (wr.drewN q) (zco hL q))
   have HLs:=zaa (fun j (hj:j<ls.length) q=>zhT B O ls j k hj hk (wr.drewN q) (zco hL q) (by omega))
   have hka:k<a:=by omega
   have hab:a<b:=by omega
   clear ha2 hb2
   by_cases h2:b<n
   ·have h2':(b:Int)<n:=by omega
    have HL2:=zaa (zhT B O ls b a (by omega) (by omega) wr hL (by omega))
    cases hq:lessT (ls.getD b tk0) (ls.getD a tk0)
    · rw [hq] at HL2
      rw[show zck ls n k=a by rw[hkidd,hq];simp] at hdn
      clear hL hoff hq hkidd
      have HLs1:=zaa (uh HLs a (by omega))
      have HSw1:=zaa (uh HSw a (by omega))
      cases hc:lessT (ls.getD a tk0) (ls.getD k tk0)
      · rw[hc] at hdn HLs1
        have Hd:=zaa hdn
        clear hdn hc HLs HSw HSw1
        go_wp2_with fail
        refine(uh HL2).mono ?_
        rintro e w1 ⟨rfl,q,rfl⟩
        go_wp2_with fail
        refine(uh HLs1 q).mono ?_
        rintro e w2 ⟨rfl,q2,rfl⟩
        go_wp2
        go_ret
        have hd:=uh Hd
        simp only[Bool.false_eq_true,if_false] at hd
        rw[← hd]
        exact⟨zbQ (by simp),zbn (uh Ho) _,hsz,zco (uh HL) _⟩
      · rw[hc] at hdn HLs1
        have Hd:=zaa hdn
        clear hdn hc HLs HSw
        go_wp2_with fail
        refine(uh HL2).mono ?_
        rintro e w1 ⟨rfl,q,rfl⟩
        go_wp2_with fail
        refine(uh HLs1 q).mono ?_
        rintro e w2 ⟨rfl,q2,rfl⟩
        obtain⟨q3,hq3⟩:=zdp wr q q2
        rw[hq3]
        go_wp2_with fail
        refine(uh HSw1 q3).mono ?_
        rintro e w3 ⟨rfl,ho2,hs2,hl2⟩
        have Ho2:=zaa ho2;have Hl2:=zaa hl2;clear ho2 hl2
        go_wp2
        go_roundw
        case rel =>
          have hd:=uh Hd
          simp only[if_true] at hd
          exact⟨a,_,rfl,by rw[zam];omega,by rw[zam];exact hll,uh Hl2,zgb (zbn (uh Ho) q3) (uh Ho2),hs2.trans hsz,hd⟩
        case measure=>simp[intOf];omega
    · rw [hq] at HL2
      rw[show zck ls n k=b by rw[hkidd,hq];simp[h2]] at hdn
      clear hL hoff hq hkidd
      have HLs1:=zaa (uh HLs b (by omega))
      have HSw1:=zaa (uh HSw b (by omega))
      cases hc:lessT (ls.getD b tk0) (ls.getD k tk0)
      · rw[hc] at hdn HLs1
        have Hd:=zaa hdn
        clear hdn hc HLs HSw HSw1
        go_wp2_with fail
        refine(uh HL2).mono ?_
        rintro e w1 ⟨rfl,q,rfl⟩
        go_wp2_with fail
        refine(uh HLs1 q).mono ?_
        rintro e w2 ⟨rfl,q2,rfl⟩
        go_wp2
        go_ret
        have hd:=uh Hd
        simp only[Bool.false_eq_true,if_false] at hd
        rw[← hd]
        exact⟨zbQ (by simp),zbn (uh Ho) _,hsz,zco (uh HL) _⟩
      · rw[hc] at hdn HLs1
        have Hd:=zaa hdn
        clear hdn hc HLs HSw
        go_wp2_with fail
        refine(uh HL2).mono ?_
        rintro e w1 ⟨rfl,q,rfl⟩
        go_wp2_with fail
        refine(uh HLs1 q).mono ?_
        rintro e w2 ⟨rfl,q2,rfl⟩
        obtain⟨q3,hq3⟩:=zdp wr q q2
        rw[hq3]
        go_wp2_with fail
        refine(uh HSw1 q3).mono ?_
        rintro e w3 ⟨rfl,ho2,hs2,hl2⟩
        have Ho2:=zaa ho2;have Hl2:=zaa hl2;clear ho2 hl2
        go_wp2
        go_roundw
        case rel =>
          have hd:=uh Hd
          simp only[if_true] at hd
          exact⟨b,_,rfl,by rw[zam];omega,by rw[zam];exact hll,uh Hl2,zgb (zbn (uh Ho) q3) (uh Ho2),hs2.trans hsz,hd⟩
        case measure=>simp[intOf];omega
   ·have h2':¬ (b:Int)<n:=by omega
    rw[show zck ls n k=a by rw[hkidd,if_neg (by omega)]] at hdn
    clear hL hoff hkidd
    have HLs1:=zaa (uh HLs a (by omega) 0)
    have HSw1:=zaa (uh HSw a (by omega))
    cases hc:lessT (ls.getD a tk0) (ls.getD k tk0)
    ·rw[hc] at hdn HLs1
     have Hd:=zaa hdn
     clear hdn hc HLs HSw HSw1
     go_wp2_with fail
     refine(uh HLs1).mono ?_
     rintro e w2 ⟨rfl,q2,rfl⟩
     go_wp2
     go_ret
     have hd:=uh Hd
     simp only[Bool.false_eq_true,if_false] at hd
     rw[← hd]
     exact⟨zbQ (by simp),zbn (uh Ho) _,hsz,zco (uh HL) _⟩
    ·rw[hc] at hdn HLs1
     have Hd:=zaa hdn
     clear hdn hc HLs HSw
     go_wp2_with fail
     refine(uh HLs1).mono ?_
     rintro e w2 ⟨rfl,q2,rfl⟩
     obtain⟨q3,hq3⟩:=zdp wr 0 q2
     try rw[hq3]
     go_wp2_with fail
     refine(uh HSw1 q3).mono ?_
     rintro e w3 ⟨rfl,ho2,hs2,hl2⟩
     have Ho2:=zaa ho2;have Hl2:=zaa hl2;clear ho2 hl2
     go_wp2
     go_roundw
     case rel =>
      have hd:=uh Hd
      simp only[if_true] at hd
      exact⟨a,_,rfl,by rw[zam];omega,by rw[zam];exact hll,uh Hl2,zgb (zbn (uh Ho) q3) (uh Ho2),hs2.trans hsz,hd⟩
     case measure=>simp[intOf];omega
  ·have h1':(n:Int)≤a:=by omega
   rw[if_neg h1] at hdn
   have Hd:=zaa hdn
   clear hL hoff hdn ha2
   go_wp2
   go_ret
   rw[← uh Hd]
   exact⟨zbQ (by simp),uh Ho,hsz,uh HL⟩
end Go.Proofs.YtagohbpbgjelaaaGreatDoor.Wk

namespace Go.Proofs.YtagohbpbgjelaaaGreatDoor.Wk
open Go.RowKit Go.Maps

set_option maxRecDepth 100000 in
theorem zqN {w:World} {B:Nat} {e:TypeId} {g n c:Nat} {xs:List Value} (h:w.ownsRow B e 1 (.slice (some ⟨g,0,none⟩) n c) n xs) (k:Nat) (hk:k≤n):w.ownsRow B e 1 (.slice (some ⟨g,0,none⟩) k c) k (xs.take k):=by
 have hl:=h.1
 refine⟨by simp at hl ⊢;omega,?_⟩
 rcases h.2 with ⟨h0,_⟩ | ⟨g',c',cur,hv,hb,hh,h1,h2,h3,h4⟩
 ·simp at h0
 ·simp only[Value.slice.injEq,Option.some.injEq,Addr.mk.injEq,and_true,true_and] at hv
  obtain⟨rfl,rfl⟩:=hv
  refine .inr ⟨g,c,cur,rfl,hb,hh,by omega,h2,h3,?_⟩
  rw[← h4,List.take_take]
  congr 1
  omega

set_option maxRecDepth 100000 in
theorem zqW {w W3:World} {B g c mb N:Nat} {O:Nat→Prop} {ts:List Tk} {t:Tk} {D:DataW Unit}
 (h:LstIs w B O (ts ++ [t])) (hB:w.heap[B]? = some (.cells #[.slice (some ⟨g,0,none⟩) (ts.length+1) c,.map (some mb)] 191 (0,0))) (hr:w.ownsRow 0 192 1 (.slice (some ⟨g,0,none⟩) (ts.length+1) c) (ts.length+1) ((ts ++ [t]).map zcS)) (hOg:O g)
 (hO:O mb) (hN:N≤1048576) (hmap:w.ownsMap (H:=Unit) Tryz.prog 3 zjt mb N D) (hTd:Tidy D) (hSz:Maps.size D=(ts ++ [t]).length) (hD:∀ n,Maps.has D (.int .i64 n)=decide (n ∈ (ts ++ [t]).map Tk.n)∧D.atKey (.int .i64 n) (.lit (.int .i64 0))=.lit (.int .i64 (zbO (ts ++ [t]) n))) :
 (((w.setCell ⟨g,ts.length,none⟩ (.pointer none)).setCell ⟨B,0,none⟩ (.slice (some ⟨g,0,none⟩) ts.length c)).ownsMap (H:=Unit) Tryz.prog 3 zjt mb N D) ∧
 (W3.ownsMap (H:=Unit) Tryz.prog 3 zjt mb N (D.del (.int .i64 t.n))→((w.setCell ⟨g,ts.length,none⟩ (.pointer none)).setCell ⟨B,0,none⟩ (.slice (some ⟨g,0,none⟩) ts.length c)).grownBy W3 (some mb) →
  Off O w W3∧W3.heap[t.at_]? = some (.cells #[.int .i64 t.n,.int .i64 t.wt,.int .i64 ts.length] 197 (0,0))∧LstIs W3 B O ts):=by
 have hgc:∃ cur,w.heap[g]? = some (.cells cur 192 (0,0)):=by
  rcases hr.2 with ⟨e,_⟩ | ⟨g',cap,cur,e,_,hh,_⟩
  ·simp at e
  ·simp only[Value.slice.injEq,Option.some.injEq,Addr.mk.injEq,and_true,true_and] at e
   exact⟨cur,e.1▸hh⟩
 obtain⟨cur,hgc⟩:=hgc
 have n1:=zcd hgc hmap
 have n2:=zcd hB hmap
 have hgB:g≠B:=zcV hgc hB (by decide)
 have hm2:=(hmap.setCell (a:=⟨g,ts.length,none⟩) n1 (.pointer none)).setCell (a:=⟨B,0,none⟩) n2 (.slice (some ⟨g,0,none⟩) ts.length c)
 refine⟨hm2,fun hm3 hg3=>?_⟩
 have hB2:((w.setCell ⟨g,ts.length,none⟩ (.pointer none)).setCell ⟨B,0,none⟩ (.slice (some ⟨g,0,none⟩) ts.length c)).heap[B]? = some (.cells #[.slice (some ⟨g,0,none⟩) ts.length c,.map (some mb)] 191 (0,0)) :=
  block_set (i:=0) ((Below.heap_setCell w ⟨g,ts.length,none⟩ _ B (fun e=>hgB e.symm)).trans hB) _
 have ho2:Off O w ((w.setCell ⟨g,ts.length,none⟩ (.pointer none)).setCell ⟨B,0,none⟩ (.slice (some ⟨g,0,none⟩) ts.length c)):=off_set (off_set (off_refl _ _) (p:=⟨g,ts.length,none⟩) (.inl hOg) _) (p:=⟨B,0,none⟩) (.inl h.own) _
 have ho3:=zde ho2 hg3 (fun k hk=>by cases hk;exact .inl hO)
 have s1:=hr.stored ts.length (.pointer none)
 have hrow2:((w.setCell ⟨g,ts.length,none⟩ (.pointer none)).setCell ⟨B,0,none⟩ (.slice (some ⟨g,0,none⟩) ts.length c)).ownsRow 0 192 1 (.slice (some ⟨g,0,none⟩) ts.length c) ts.length (ts.map zcS):=by
  have hx:=zqN (own_off (O:=fun k=>k=B) s1.1 (off_set (O:=fun k=>k=B) (off_refl _ _) (p:=⟨B,0,none⟩) (.inl rfl) (.slice (some ⟨g,0,none⟩) ts.length c)) (fun k hk e=>by simp only[Value.ownBlock,Option.some.injEq] at hk;omega)) ts.length (by omega)
  have e:(((ts ++ [t]).map zcS).set ts.length (.pointer none)).take ts.length=ts.map zcS:=by
   rw[List.take_set_of_le (Nat.le_refl _),List.map_append,List.take_append_of_le_length (by simp),List.take_of_length_le (by simp)]
  rw[e] at hx
  exact hx
 have n5:=zf0 hrow2 hm2
 have hrow3:=hrow2.kept hg3 (zjE (fun k hk=>by cases hk;exact n5))
 have task3:∀ i,i<(ts ++ [t]).length→W3.heap[((ts ++ [t]).getD i tk0).at_]? = some (.cells #[.int .i64 ((ts ++ [t]).getD i tk0).n,.int .i64 ((ts ++ [t]).getD i tk0).wt,.int .i64 i] 197 (0,0)):=fun i hi=>by
  have hb:=(h.tasks i hi).2
  have e1:=zcV hb hgc (by decide)
  have e2:=zcV hb hB (by decide)
  have e3:=zcd hb hmap
  have hb2:((w.setCell ⟨g,ts.length,none⟩ (.pointer none)).setCell ⟨B,0,none⟩ (.slice (some ⟨g,0,none⟩) ts.length c)).heap[((ts ++ [t]).getD i tk0).at_]? = _:=(Below.heap_setCell _ ⟨B,0,none⟩ _ _ e2).trans ((Below.heap_setCell w ⟨g,ts.length,none⟩ _ _ e1).trans hb)
  exact(hg3.block _ (lt_of_some hb2) (fun e=>by cases e;exact e3 rfl)).trans hb2
 have apt:=h.apart
 rw[List.map_append,List.nodup_append] at apt
 have hnt:t.n ∉ ts.map Tk.n:=fun hc=>apt.2.2 t.n hc t.n (by simp) rfl
 refine⟨ho3,?_,⟨h.own,fun k hk=>Nat.lt_of_lt_of_le (h.lt k hk) ho3.size,fun x hx=>h.nums x (List.mem_append_left _ hx),apt.1,?_,?_,.slice (some ⟨g,0,none⟩) ts.length c,some mb,?_,hrow3,?_,.inr ⟨mb,_,N,rfl,hO,hN,hm3,hTd.del _,?_,?_⟩⟩⟩
 ·have:=task3 ts.length (by simp)
  rw[zcq (by simp),if_pos rfl] at this
  exact this
 ·have hb:=h.blocks
  rw[List.map_append,List.nodup_append] at hb
  exact hb.1
 ·intro i hi
  have hi':i<(ts ++ [t]).length:=by simp;omega
  have h1:=task3 i hi'
  have h2:=(h.tasks i hi').1
  rw[zcq hi',if_neg (by omega)] at h1 h2
  exact⟨h2,h1⟩
 ·exact(hg3.block B (lt_of_some hB2) (fun e=>by cases e;exact n2 rfl)).trans hB2
 ·intro k hk
  simp only[Value.ownBlock,Option.some.injEq] at hk
  exact hk▸hOg
 ·have:=size_del (k:=.int .i64 t.n) hTd
  rw[(hD t.n).1] at this
  simp at this hSz
  omega
 ·intro x
  by_cases hx:x=t.n
  ·subst hx
   rw[has_del_same,atKey_del_same,zdf hnt]
   simp only[decide_eq_false hnt,and_self]
  ·have hne:(Lit.int .i64 x)≠.int .i64 t.n:=by simpa using hx
   rw[has_del_other hne,atKey_del_other hne,(hD x).1,(hD x).2,zfj hnt,if_neg hx]
   simp[hx]

set_option maxHeartbeats 8000000 in
set_option maxRecDepth 100000 in
theorem zoC (B:Nat) (O:Nat→Prop) (ts:List Tk) (t:Tk) (hlen:ts.length<1048576) (w:World) (h:LstIs w B O (ts ++ [t])) :
 Calls Tryz.prog 213 #[.pointer (some ⟨B,0,none⟩)] w fun e w'=>e=.returned (.iface 192 (.pointer (some ⟨t.at_,0,none⟩)))∧Off O w w'∧w'.heap[t.at_]? = some (.cells #[.int .i64 t.n,.int .i64 t.wt,.int .i64 ts.length] 197 (0,0))∧LstIs w' B O ts:=by
 have hnum:=h.nums t (by simp)
 obtain⟨sv,mo,hB,hr,hsv,hm⟩:=h.lies
 rcases hm with ⟨-,h0⟩ | ⟨mb,D,N,rfl,hO,hN,hmap,hTd,hSz,hD⟩
 ·simp at h0
 rw[List.length_append,List.length_singleton] at hr
 obtain⟨g,c,rfl,-,hgl,hc1,hc2⟩:=own_pos hr (by omega)
 have Hg:=zaa (fun W3=>zqW (W3:=W3) h hB hr (hsv g rfl) hO hN hmap hTd hSz hD)
 have hbt:=(h.tasks ts.length (by simp)).2
 rw[zcq (by simp),if_pos rfl] at hbt
 have ct:w.cell? ⟨t.at_,0,none⟩=some (.int .i64 t.n):=cell_block hbt 0 _ rfl
 have c0:=cell_block hB 0 _ rfl
 have c1:=cell_block hB 1 _ rfl
 have f0:=frozen_block hB 0
 have cg:w.cell? ⟨g,ts.length,none⟩=some (.pointer (some ⟨t.at_,0,none⟩)):=by
  rw[own_cell hr rfl ts.length (by simp),List.getD_eq_getElem?_getD,List.getElem?_map,List.getElem?_append_right (Nat.le_refl _),Nat.sub_self];rfl
 have fg:w.frozen? ⟨g,ts.length,none⟩=false:=hr.frozenAt _
 have hgB:¬ g=B:=fun e=>zbr hB hr (by decide) (by rw[e];rfl)
 have htg:¬ t.at_=g:=fun e=>zbr hbt hr (by decide) (by rw[e];rfl)
 have htB:¬ t.at_=B:=zcV hbt hB (by decide)
 have Hk:=zaa (keyOf_int_mk Tryz.underlying3 (WalkArith.wf_i64 (n:=t.n) (by omega)))
 obtain⟨W3,hrun,hm3,hg3⟩:=((uh Hg w).1.drew).drop zor Tryz.underlying187 (uh Hk) 0
 have hg3':=hg3.grown
 have Hh:=zaa ((uh Hg W3).2 hm3 ⟨hg3'.os,hg3'.tape,hg3'.output,hg3'.size,hg3'.block⟩)
 clear hB hr hsv h hmap hD hSz hTd hm3 hg3 hg3' hbt Hg
 have hsub:((ts.length+1:Nat):Int) - 1=ts.length:=by omega
 have hl':(ts.length:Int)<1048576:=by omega
 have hcc:(ts.length:Int)+1≤c:=by omega
 go_enter Tryz.func213,Tryz.ntmps213
 go_wp2
 go_region
 all_goals
  go_wp2
  go_ret
  exact⟨rfl,uh Hh⟩

def zie (ts:List Tk):List Tk:=(zdy (zbw ts 0 (ts.length - 1)) (ts.length - 1) 0).1
set_option maxRecDepth 100000 in
theorem ziQ (f:Nat):∀ (ts:List Tk) (n i:Nat),(zdQ f ts n i).1.length=ts.length:=by
 induction f with
 | zero=>intro ts n i;rfl
 | succ f ih =>
   intro ts n i
   show (if 2 * i+1<n then(if lessT (ts.getD (zck ts n i) tk0) (ts.getD i tk0) then zdQ f (zbw ts i (zck ts n i)) n (zck ts n i) else(ts,i)) else(ts,i)).1.length=_
   split
   ·split
    ·rw[ih,zam]
    ·rfl
   ·rfl
set_option maxRecDepth 100000 in
theorem zdP (ts:List Tk) (n i:Nat):(zdy ts n i).1.length=ts.length:=ziQ _ ts n i
set_option maxRecDepth 100000 in
theorem zkW (f:Nat):∀ (ts:List Tk) (j:Nat),(upF f ts j).length=ts.length:=by
 induction f with
 | zero=>intro ts j;rfl
 | succ f ih =>
   intro ts j
   show (if j=0 then ts else if lessT (ts.getD j tk0) (ts.getD ((j - 1) / 2) tk0) then upF f (zbw ts ((j - 1) / 2) j) ((j - 1) / 2) else ts).length=_
   split
   ·rfl
   ·split
    ·rw[ih,zam]
    ·rfl
set_option maxRecDepth 100000 in
theorem upL_length (ts:List Tk) (j:Nat):(upL ts j).length=ts.length:=zkW _ ts j

set_option maxHeartbeats 4000000 in
set_option maxRecDepth 100000 in
theorem zpw (B:Nat) (O:Nat→Prop) (ts:List Tk) (hpos:0<ts.length) (hlen:ts.length≤1048576) (w:World) (h:LstIs w B O ts) :
 Calls Tryz.prog 158 #[.iface 194 (.pointer (some ⟨B,0,none⟩))] w fun e w'=>∃ rest t,zie ts=rest ++ [t]∧e=.returned (.iface 192 (.pointer (some ⟨t.at_,0,none⟩)))∧Off O w w'∧w'.heap[t.at_]? = some (.cells #[.int .i64 t.n,.int .i64 t.wt,.int .i64 rest.length] 197 (0,0))∧LstIs w' B O rest:=by
 have HLn:=zaa (zfB B O ts w h)
 obtain⟨m,hm⟩:∃ m:Nat,(ts.length:Int) - 1=m:=⟨ts.length - 1,by omega⟩
 have hm2:ts.length - 1=m:=by omega
 have HSw:=zaa (zhp B O ts 0 m hpos (by omega) w h)
 have HD:=zaa (fun w1 hl=>zkM B O (zbw ts 0 m) m 0 (by rw[zam];omega) (by rw[zam];omega) (by rw[zam];omega) w1 hl)
 obtain⟨rest,t,hrt⟩:∃ rest t,zie ts=rest ++ [t]:=by
  have hl:(zie ts).length=ts.length:=by unfold zie;rw[zdP,zam]
  rcases List.eq_nil_or_concat (zie ts) with h0 | ⟨r,t,h1⟩
  ·rw[h0] at hl;simp at hl;omega
  ·exact⟨r,t,by rw[h1];simp⟩
 have hrl:rest.length<1048576:=by
  have hl:(zie ts).length=ts.length:=by unfold zie;rw[zdP,zam]
  rw[hrt] at hl;simp at hl;omega
 have hrt':(zdy (zbw ts 0 m) m 0).1=rest ++ [t]:=by rw[← hrt,zie,hm2]
 have HP:=zaa (fun w2 hl=>zoC B O rest t hrl w2 hl)
 rw[hrt'] at HD
 have Hrt:=zaa hrt
 clear h hrt hrt' hrl
 generalize decide (((0:Nat):Int)<(zdy (zbw ts 0 m) m 0).2)=bb at *
 go_enter Tryz.func158,Tryz.ntmps158
 go_wp2_with fail
 refine(uh HLn).mono ?_
 rintro e w1 ⟨rfl,hw⟩
 obtain rfl:=hw.symm
 go_wp2_with fail
 refine(uh HSw).mono ?_
 rintro e w1 ⟨rfl,ho1,hs1,hl1⟩
 have HD1:=zaa (uh HD w1 hl1)
 have Ho1:=zaa ho1
 clear ho1 hl1 HD HSw
 go_wp2_with fail
 refine(uh HD1).mono ?_
 rintro e w2 ⟨rfl,ho2,hs2,hl2⟩
 have HP1:=zaa (uh HP w2 hl2)
 have Ho2:=zaa ho2
 clear ho2 hl2 HP HD1
 go_wp2_with fail
 refine(uh HP1).mono ?_
 rintro e w3 ⟨rfl,ho3,hb3,hl3⟩
 have Ho3:=zaa ho3;have Hb3:=zaa hb3;have Hl3:=zaa hl3
 clear ho3 hb3 hl3 HP1
 go_wp2
 go_ret
 exact⟨rest,t,uh Hrt,rfl,zgb (uh Ho1) (zgb (uh Ho2) (uh Ho3)),uh Hb3,uh Hl3⟩

set_option maxHeartbeats 4000000 in
set_option maxRecDepth 100000 in
theorem zhn (B:Nat) (O:Nat→Prop) (ts:List Tk) (hpos:0<ts.length) (hlen:ts.length≤1048576) (w:World) (h:LstIs w B O ts) :
 Calls Tryz.prog 137 #[.iface 194 (.pointer (some ⟨B,0,none⟩))] w fun e w'=>∃ rest t,zie ts=rest ++ [t]∧e=.returned (.pointer (some ⟨t.at_,0,none⟩))∧Off O w w'∧w'.heap[t.at_]? = some (.cells #[.int .i64 t.n,.int .i64 t.wt,.int .i64 rest.length] 197 (0,0))∧LstIs w' B O rest:=by
 have HP:=zaa (zpw B O ts hpos hlen w h)
 have qa:=fun(v:Value) (w:World)=>zh7 v w
 clear h
 go_enter Tryz.func137,Tryz.ntmps137
 go_wp2_with fail
 refine(uh HP).mono ?_
 rintro e w1 ⟨rest,t,h1,rfl,h2,h3,h4⟩
 have H1:=zaa h1;have H2:=zaa h2;have H3:=zaa h3;have H4:=zaa h4
 clear h1 h2 h3 h4
 go_wp2
 go_ret
 exact⟨rest,t,uh H1,rfl,uh H2,uh H3,uh H4⟩

set_option maxHeartbeats 4000000 in
set_option maxRecDepth 100000 in
theorem zkF (B:Nat) (O:Nat→Prop) (ts:List Tk) (w:World) (h:LstIs w B O ts) :
 Calls Tryz.prog 136 #[.pointer (some ⟨B,0,none⟩)] w fun e w'=>e=.returned (.int .i64 ts.length)∧w'=w:=by
 have HLn:=zaa (zfB B O ts w h)
 clear h
 go_enter Tryz.func136,Tryz.ntmps136
 go_wp2_with (first | (go_at_call 157;go_in) | (go_at_call 211;refine(uh HLn).mono ?_;rintro e w1 ⟨rfl,hw⟩;obtain rfl:=hw.symm))
 go_ret
 exact⟨rfl,rfl⟩

set_option maxHeartbeats 4000000 in
set_option maxRecDepth 100000 in
theorem pop_none (B:Nat) (O:Nat→Prop) (w:World) (h:LstIs w B O []) :
 Calls Tryz.prog 108 #[.pointer (some ⟨B,0,none⟩)] w fun e w'=>e=.returned (.tuple #[.int .i64 0,.int .i64 0,.bool false])∧w'=w:=by
 have HLn:=zaa (zkF B O [] w h)
 clear h
 go_enter Tryz.func108,Tryz.ntmps108
 go_wp2_with (go_at_call 136;refine(uh HLn).mono ?_;rintro e w1 ⟨rfl,hw⟩;obtain rfl:=hw.symm)
 go_ret3
 exact⟨rfl,rfl⟩

set_option maxHeartbeats 4000000 in
set_option maxRecDepth 100000 in
theorem pop_some (B:Nat) (O:Nat→Prop) (ts:List Tk) (hpos:0<ts.length) (hlen:ts.length≤1048576) (w:World) (h:LstIs w B O ts) :
 Calls Tryz.prog 108 #[.pointer (some ⟨B,0,none⟩)] w fun e w'=>∃ rest t,zie ts=rest ++ [t]∧e=.returned (.tuple #[.int .i64 t.n,.int .i64 t.wt,.bool true])∧Off O w w'∧LstIs w' B O rest:=by
 have HLn:=zaa (zkF B O ts w h)
 have HP:=zaa (zhn B O ts hpos hlen w h)
 have hne:((ts.length:Int) == 0)=false:=by rw[beq_eq_false_iff_ne];omega
 clear h
 go_enter Tryz.func108,Tryz.ntmps108
 go_wp2_with fail
 refine(uh HLn).mono ?_
 rintro e w1 ⟨rfl,hw⟩
 obtain rfl:=hw.symm
 go_wp2_with fail
 refine(uh HP).mono ?_
 rintro e w1 ⟨rest,t,h1,rfl,h2,h3,h4⟩
 have a0:w1.cell? ⟨t.at_,0,none⟩=some (.int .i64 t.n):=cell_block h3 0 _ rfl
 have a1:w1.cell? ⟨t.at_,1,none⟩=some (.int .i64 t.wt):=cell_block h3 1 _ rfl
 have H1:=zaa h1;have H2:=zaa h2;have H4:=zaa h4
 clear h1 h2 h3 h4
 go_wp2
 go_quiet (fail)
 go_wp2
 go_ret3
 exact⟨rest,t,uh H1,rfl,zbn (uh H2) _,zco (uh H4) _⟩
end Go.Proofs.YtagohbpbgjelaaaGreatDoor.Wk

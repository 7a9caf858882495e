/- alive: a set, a list, a numbering. -/
import Derived.Test.YtagohbpbgjelaaaGreatDoorWkLL
namespace Go.Proofs.YtagohbpbgjelaaaGreatDoor.Wk
open Go.RowKit Go.Maps

set_option maxRecDepth 100000 in
theorem lst_new (w:World):LstIs (w.alloc (.cells #[.slice none 0 0,.map none] 191)) w.heap.size (fun k=>k=w.heap.size) [] :=
 ⟨rfl,fun k h=>by simp;omega,by simp,by simp,by simp,by simp,.slice none 0 0,none,(MapKept.heap_alloc w _).1,⟨rfl,.inl ⟨rfl,rfl⟩⟩,fun k h=>by simp[Value.ownBlock] at h,.inl ⟨rfl,rfl⟩⟩
end Go.Proofs.YtagohbpbgjelaaaGreatDoor.Wk

namespace Go.Proofs.YtagohbpbgjelaaaGreatDoor.Wk

def leT (a b:Tk):Prop:=lessT b a=false
set_option maxRecDepth 100000 in
theorem zhX (a b:Tk):leT a b↔a.wt<b.wt∨a.wt=b.wt∧a.n≤b.n:=by
 unfold leT lessT
 rw[Bool.or_eq_false_iff,Bool.and_eq_false_iff]
 simp only[decide_eq_false_iff_not]
 omega
set_option maxRecDepth 100000 in
theorem znk (a b:Tk):lessT a b=true↔a.wt<b.wt∨a.wt=b.wt∧a.n<b.n:=by
 unfold lessT
 rw[Bool.or_eq_true,Bool.and_eq_true]
 simp only[decide_eq_true_eq]
set_option maxRecDepth 100000 in
theorem zhW (a:Tk):leT a a:=(zhX a a).2 (by omega)
set_option maxRecDepth 100000 in
theorem zcN {a b c:Tk} (h:leT a b) (k:leT b c):leT a c:=by rw[zhX] at *;omega
set_option maxRecDepth 100000 in
theorem zdo {a b:Tk} (h:lessT a b=true):leT a b:=by rw[znk] at h;rw[zhX];omega
set_option maxRecDepth 100000 in
theorem zjD {a b:Tk} (h:lessT a b=false):leT b a:=h

def par (i:Nat):Nat:=(i - 1) / 2
set_option maxRecDepth 100000 in
theorem zcv {i:Nat} (h:0<i):par i<i:=by unfold par;omega
def HeapN (ts:List Tk) (n:Nat):Prop:=∀ i,0<i→i<n→leT (ts.getD (par i) tk0) (ts.getD i tk0)
def zoj (ts:List Tk) (n j:Nat):Prop:=(∀ i,0<i→i<n→i≠j→leT (ts.getD (par i) tk0) (ts.getD i tk0))∧(∀ i,0<i→i<n→par i=j→0<j→leT (ts.getD (par j) tk0) (ts.getD i tk0))
def zgH (ts:List Tk) (n j:Nat):Prop:=(∀ i,0<i→i<n→par i≠j→leT (ts.getD (par i) tk0) (ts.getD i tk0))∧(∀ i,0<i→i<n→par i=j→0<j→leT (ts.getD (par j) tk0) (ts.getD i tk0))

set_option maxRecDepth 100000 in
theorem sw (ts:List Tk) (i j k:Nat) (hk:k<ts.length):(zbw ts i j).getD k tk0=if k=j then ts.getD i tk0 else if k=i then ts.getD j tk0 else ts.getD k tk0:=zj1 ts i j k hk

set_option maxRecDepth 100000 in
theorem zqs {ts:List Tk} {n j:Nat} (hn:n≤ts.length) (hj:j<n) (h0:0<j) (h:zoj ts n j) (hl:lessT (ts.getD j tk0) (ts.getD (par j) tk0)=true):zoj (zbw ts (par j) j) n (par j):=by
 have hp:=zcv h0
 refine⟨fun i hi hin hne=>?_,fun i hi hin hpi hp0=>?_⟩
 · rw [sw ts (par j) j (par i) (by have := zcv hi; omega), sw ts (par j) j i (by omega)]
   by_cases h1:i=j
   · subst h1
     rw[if_neg (by omega),if_pos rfl,if_pos rfl]
     exact zdo hl
   · rw [if_neg h1, if_neg hne]
     by_cases h2:par i=j
     · rw[if_pos h2]
       exact h.2 i hi hin h2 h0
     · rw[if_neg h2]
       by_cases h3:par i=par j
       · rw[if_pos h3]
         have:=h.1 i hi hin h1
         rw[h3] at this
         exact zcN (zdo hl) this
       · rw[if_neg h3]
         exact h.1 i hi hin h1
 · rw[sw ts (par j) j (par (par j)) (by have:=zcv hp0;omega),sw ts (par j) j i (by omega)]
   have hpp:=zcv hp0
   rw[if_neg (by omega),if_neg (by omega)]
   have hup:=h.1 (par j) hp0 (by omega) (by omega)
   by_cases h1:i=j
   · subst h1
     rw[if_pos rfl]
     exact hup
   · rw[if_neg h1,if_neg (by have:=zcv hi;omega)]
     have:=h.1 i hi hin h1
     rw[hpi] at this
     exact zcN hup this
set_option maxRecDepth 100000 in
theorem zl3 {ts:List Tk} {n j:Nat} (h:zoj ts n j) (hd:j=0∨lessT (ts.getD j tk0) (ts.getD (par j) tk0)=false):HeapN ts n:=by
 intro i hi hin
 by_cases h1:i=j
 ·subst h1
  rcases hd with rfl | hd
  ·omega
  ·exact zjD hd
 ·exact h.1 i hi hin h1
set_option maxRecDepth 100000 in
theorem up_heap (j:Nat):∀ (ts:List Tk) (n:Nat),n≤ts.length→j<n→zoj ts n j→HeapN (upL ts j) n:=by
 induction j using Nat.strongRecOn with
 | ind j ih =>
   intro ts n hn hj h
   rw[zl6]
   by_cases h0:j=0
   ·rw[if_pos h0];exact zl3 h (.inl h0)
   ·rw[if_neg h0]
    cases hl:lessT (ts.getD j tk0) (ts.getD ((j - 1) / 2) tk0)
    ·exact zl3 h (.inr hl)
    ·exact ih ((j - 1) / 2) (by omega) _ n (by rw[zam];exact hn) (by omega) (zqs hn hj (by omega) h hl)

set_option maxRecDepth 100000 in
theorem ziH {ts:List Tk} {n i:Nat} (h:2 * i+1<n):par (zck ts n i)=i∧0<zck ts n i∧zck ts n i<n∧i<zck ts n i∧∀ k,0<k→k<n→par k=i→leT (ts.getD (zck ts n i) tk0) (ts.getD k tk0):=by
 have hc:=zfg ts n i
 refine⟨by unfold par;omega,by omega,by omega,by omega,fun k hk hkn hp=>?_⟩
 have hk2:k=2 * i+1∨k=2 * i+2:=by unfold par at hp;omega
 unfold zck
 split
 ·rename_i hq
  rcases hk2 with rfl | rfl
  ·exact zdo hq.2
  ·exact zhW _
 ·rename_i hq
  rcases hk2 with rfl | rfl
  ·exact zhW _
  ·cases hb:lessT (ts.getD (2 * i+2) tk0) (ts.getD (2 * i+1) tk0)
   ·exact zjD hb
   ·exact absurd ⟨hkn,hb⟩ hq
set_option maxRecDepth 100000 in
theorem znN {ts:List Tk} {n i:Nat} (hn:n≤ts.length) (hi:2 * i+1<n) (h:zgH ts n i) (hl:lessT (ts.getD (zck ts n i) tk0) (ts.getD i tk0)=true):zgH (zbw ts i (zck ts n i)) n (zck ts n i):=by
 obtain⟨k1,k2,k3,k4,k5⟩:=ziH (ts:=ts) hi
 generalize zck ts n i=c at *
 refine⟨fun k hk hkn hne=>?_,fun k hk hkn hpk _=>?_⟩
 ·have hpl:=zcv hk
  rw[sw ts i c (par k) (by omega),sw ts i c k (by omega),if_neg hne]
  by_cases h1:k=c
  ·subst h1
   rw[if_pos k1,if_pos rfl]
   exact zdo hl
  · rw [if_neg h1]
    by_cases h2:k=i
    · subst h2
      rw[if_neg (by omega),if_pos rfl]
      exact h.2 c k2 k3 k1 hk
    · rw[if_neg h2]
      by_cases h3:par k=i
      · rw[if_pos h3]
        exact k5 k hk hkn h3
      · rw[if_neg h3]
        exact h.1 k hk hkn h3
 ·have hpl:=zcv hk
  rw[k1,sw ts i c i (by omega),sw ts i c k (by omega),if_neg (by omega),if_pos rfl,if_neg (by omega),if_neg (by omega)]
  have:=h.1 k hk hkn (by omega)
  rw[hpk] at this
  exact this
set_option maxRecDepth 100000 in
theorem zgr {ts:List Tk} {n i:Nat} (h:zgH ts n i) (hd:¬ 2 * i+1<n∨lessT (ts.getD (zck ts n i) tk0) (ts.getD i tk0)=false):HeapN ts n:=by
 intro k hk hkn
 by_cases h1:par k=i
 ·have h2:2 * i+1<n:=by unfold par at h1;omega
  rcases hd with hd | hd
  ·exact absurd h2 hd
  ·rw[h1]
   exact zcN (zjD hd) ((ziH h2).2.2.2.2 k hk hkn h1)
 ·exact h.1 k hk hkn h1
set_option maxRecDepth 100000 in
theorem znO (f:Nat):∀ (ts:List Tk) (n i:Nat),n - i≤f→n≤ts.length→zgH ts n i→HeapN (zdy ts n i).1 n:=by
 induction f with
 | zero =>
   intro ts n i hf hn h
   rw[zeS,if_neg (by omega)]
   exact zgr h (.inl (by omega))
 | succ f ih =>
   intro ts n i hf hn h
   rw[zeS]
   by_cases h1:2 * i+1<n
   ·rw[if_pos h1]
    cases hl:lessT (ts.getD (zck ts n i) tk0) (ts.getD i tk0)
    ·exact zgr h (.inr hl)
    ·have hk:=ziH (ts:=ts) h1
     exact ih _ n _ (by omega) (by rw[zam];exact hn) (znN hn h1 h hl)
   ·rw[if_neg h1]
    exact zgr h (.inl h1)

set_option maxRecDepth 100000 in
theorem zow (f:Nat):∀ (ts:List Tk) (j:Nat),j<ts.length→(upF f ts j).Perm ts:=by
 induction f with
 | zero=>intro ts j _;exact List.Perm.refl _
 | succ f ih =>
   intro ts j hj
   show (if j=0 then ts else if lessT (ts.getD j tk0) (ts.getD ((j - 1) / 2) tk0) then upF f (zbw ts ((j - 1) / 2) j) ((j - 1) / 2) else ts).Perm ts
   split
   ·exact List.Perm.refl _
   ·split
    ·exact(ih _ _ (by rw[zam];omega)).trans (zd0 ts _ _ (by omega) hj)
    ·exact List.Perm.refl _
set_option maxRecDepth 100000 in
theorem upL_perm (ts:List Tk) (j:Nat) (hj:j<ts.length):(upL ts j).Perm ts:=zow _ ts j hj
set_option maxRecDepth 100000 in
theorem zjL (f:Nat):∀ (ts:List Tk) (n i:Nat),n≤ts.length→i<ts.length→(zdQ f ts n i).1.Perm ts∧∀ k,n≤k→k<ts.length→i<n→(zdQ f ts n i).1.getD k tk0=ts.getD k tk0:=by
 induction f with
 | zero=>intro ts n i _ _;exact⟨List.Perm.refl _,fun _ _ _ _=>rfl⟩
 | succ f ih =>
   intro ts n i hn hi
   show (if 2 * i+1<n then(if lessT (ts.getD (zck ts n i) tk0) (ts.getD i tk0) then zdQ f (zbw ts i (zck ts n i)) n (zck ts n i) else(ts,i)) else(ts,i)).1.Perm ts∧_
   by_cases h1:2 * i+1<n
   ·obtain⟨-,-,k3,k4,-⟩:=ziH (ts:=ts) h1
    have e:(zdQ (f+1) ts n i)=(if 2 * i+1<n then(if lessT (ts.getD (zck ts n i) tk0) (ts.getD i tk0) then zdQ f (zbw ts i (zck ts n i)) n (zck ts n i) else(ts,i)) else(ts,i)):=rfl
    rw[e,if_pos h1]
    cases hl:lessT (ts.getD (zck ts n i) tk0) (ts.getD i tk0)
    ·exact⟨List.Perm.refl _,fun _ _ _ _=>rfl⟩
    ·obtain⟨p1,p2⟩:=ih (zbw ts i (zck ts n i)) n (zck ts n i) (by rw[zam];exact hn) (by rw[zam];omega)
     refine⟨p1.trans (zd0 ts _ _ hi (by omega)),fun k hk hkl hin=>?_⟩
     refine(p2 k hk (by rw[zam];exact hkl) k3).trans ?_
     rw[sw ts i _ k hkl,if_neg (by omega),if_neg (by omega)]
   ·have e:(zdQ (f+1) ts n i)=(if 2 * i+1<n then(if lessT (ts.getD (zck ts n i) tk0) (ts.getD i tk0) then zdQ f (zbw ts i (zck ts n i)) n (zck ts n i) else(ts,i)) else(ts,i)):=rfl
    rw[e,if_neg h1]
    exact⟨List.Perm.refl _,fun _ _ _ _=>rfl⟩

set_option maxRecDepth 100000 in
theorem zpx {ts:List Tk} {n:Nat} (h:HeapN ts n):∀ i,i<n→leT (ts.getD 0 tk0) (ts.getD i tk0):=by
 intro i
 induction i using Nat.strongRecOn with
 | ind i ih =>
   intro hi
   by_cases h0:i=0
   ·subst h0;exact zhW _
   ·have hp:=zcv (i:=i) (by omega)
    exact zcN (ih (par i) hp (by omega)) (h i (by omega) hi)

set_option maxRecDepth 100000 in
theorem zny {a b:List Tk} {n:Nat} (h:HeapN a n) (he:∀ i,i<n→a.getD i tk0=b.getD i tk0):HeapN b n:=fun i hi hin=>by
 rw[← he i hin,← he (par i) (by have:=zcv hi;omega)];exact h i hi hin

set_option maxRecDepth 100000 in
theorem push_heap {ts:List Tk} (h:HeapN ts ts.length) (t:Tk):HeapN (upL (ts ++ [t]) ts.length) (ts.length+1)∧(upL (ts ++ [t]) ts.length).Perm (ts ++ [t]):=by
 refine⟨up_heap ts.length (ts ++ [t]) (ts.length+1) (by simp) (by omega) ⟨fun i hi hin hne=>?_,fun i hi hin hp _=>?_⟩,upL_perm _ _ (by simp)⟩
 ·have hpl:=zcv hi
  rw[zcq (by simp;omega),zcq (by simp;omega),if_neg (by omega),if_neg hne]
  exact h i hi (by omega)
 ·have:=zcv hi;omega

set_option maxRecDepth 100000 in
theorem pop_heap {ts rest:List Tk} {t:Tk} (h:HeapN ts ts.length) (hpos:0<ts.length) (hp:zie ts=rest ++ [t]):HeapN rest rest.length∧(rest ++ [t]).Perm ts∧∀ x ∈ ts,leT t x:=by
 have hl:rest.length+1=ts.length:=by
  have:=congrArg List.length hp
  unfold zie at this
  rw[zdP,zam] at this
  simp at this;omega
 have hk:=zjL (ts.length - 1 - 0) (zbw ts 0 (ts.length - 1)) (ts.length - 1) 0 (by rw[zam];omega) (by rw[zam];omega)
 have hperm:(rest ++ [t]).Perm ts:=by
  rw[← hp];unfold zie zdy
  exact hk.1.trans (zd0 ts _ _ hpos (by omega))
 have ht:t=ts.getD 0 tk0:=by
  have h1:(zie ts).getD (ts.length - 1) tk0=ts.getD 0 tk0:=by
   by_cases h0:ts.length=1
   ·have e:zie ts=zbw ts 0 (ts.length - 1):=by unfold zie;rw[zeS,if_neg (by omega)]
    rw[e,sw ts 0 _ _ (by omega),if_pos rfl]
   ·have:=hk.2 (ts.length - 1) (Nat.le_refl _) (by rw[zam];omega) (by omega)
    unfold zie zdy
    rw[this,sw ts 0 _ _ (by omega),if_pos rfl]
  rw[hp,zcq (by simp;omega),if_pos (by omega)] at h1
  exact h1
 refine⟨?_,hperm,fun x hx=>?_⟩
 ·have hd:zgH (zbw ts 0 (ts.length - 1)) (ts.length - 1) 0:=by
   refine⟨fun i hi hin hne=>?_,fun _ _ _ _ h0=>by omega⟩
   have hpl:=zcv hi
   rw[sw ts 0 _ (par i) (by omega),sw ts 0 _ i (by omega),if_neg (by omega),if_neg (by omega),if_neg (by omega),if_neg (by omega)]
   exact h i hi (by omega)
  have:=znO (ts.length - 1) _ (ts.length - 1) 0 (by omega) (by rw[zam];omega) hd
  refine zny (n:=rest.length) (a:=(zdy (zbw ts 0 (ts.length - 1)) (ts.length - 1) 0).1) (by rw[show ts.length - 1=rest.length by omega] at *;exact this) (fun i hi=>?_)
  show (zie ts).getD i tk0=_
  rw[hp,zcq (by simp;omega),if_neg (by omega)]
 ·obtain⟨i,hi,rfl⟩:=List.mem_iff_getElem.1 hx
  rw[ht,← tkD hi]
  exact zpx h i hi

set_option maxRecDepth 100000 in
theorem fix_heap {ts:List Tk} (h:HeapN ts ts.length) (i:Nat) (hi:i<ts.length) (wt:Int) (hw:wt≤(ts.getD i tk0).wt) :
 zoj (ts.set i ⟨(ts.getD i tk0).at_,(ts.getD i tk0).n,wt⟩) ts.length i∧∀ k,0<k→k<ts.length→par k=i→leT ⟨(ts.getD i tk0).at_,(ts.getD i tk0).n,wt⟩ (ts.getD k tk0):=by
 have at_:∀ k,k<ts.length→(ts.set i ⟨(ts.getD i tk0).at_,(ts.getD i tk0).n,wt⟩).getD k tk0=if k=i then⟨(ts.getD i tk0).at_,(ts.getD i tk0).n,wt⟩ else ts.getD k tk0:=fun k hk=>by
  rw[tkD (by simpa using hk),List.getElem_set]
  by_cases e:k=i
  ·subst e;simp
  ·rw[if_neg (fun e'=>e e'.symm),if_neg e,tkD hk]
 have hle:leT ⟨(ts.getD i tk0).at_,(ts.getD i tk0).n,wt⟩ (ts.getD i tk0):=by rw[zhX];simp only;omega
 refine⟨⟨fun k hk hkn hne=>?_,fun k hk hkn hp h0=>?_⟩,fun k hk hkn hp=>?_⟩
 ·have hpl:=zcv hk
  rw[at_ k hkn,at_ (par k) (by omega),if_neg hne]
  have hb:=h k hk hkn
  by_cases e:par k=i
  ·rw[if_pos e];rw[e] at hb;exact zcN hle hb
  ·rw[if_neg e];exact hb
 ·have hpl:=zcv hk
  have hpl2:=zcv h0
  rw[at_ k hkn,at_ (par i) (by omega),if_neg (by omega),if_neg (by omega)]
  have a:=h i h0 hi
  have b:=h k hk hkn
  rw[hp] at b
  exact zcN a b
 ·have b:=h k hk hkn
  rw[hp] at b
  exact zcN hle b
end Go.Proofs.YtagohbpbgjelaaaGreatDoor.Wk

namespace Go.Proofs.YtagohbpbgjelaaaGreatDoor.Wk
open Go.RowKit Go.Maps

def lighter (ts:List Tk) (i:Nat) (wt:Int):List Tk:=ts.set i ⟨(ts.getD i tk0).at_,(ts.getD i tk0).n,wt⟩
set_option maxRecDepth 100000 in
theorem lighter_length (ts:List Tk) (i:Nat) (wt:Int):(lighter ts i wt).length=ts.length:=by simp[lighter]
set_option maxRecDepth 100000 in
theorem zeb (ts:List Tk) (i:Nat) (wt:Int) (k:Nat) (hk:k<ts.length):(lighter ts i wt).getD k tk0=if k=i then⟨(ts.getD i tk0).at_,(ts.getD i tk0).n,wt⟩ else ts.getD k tk0:=by
 unfold lighter
 rw[tkD (by simpa using hk),List.getElem_set]
 by_cases e:k=i
 ·subst e;simp
 ·rw[if_neg (fun e'=>e e'.symm),if_neg e,tkD hk]
set_option maxRecDepth 100000 in
theorem zcM {α:Type} (f:Tk→α) (hf:∀ a n x y,f ⟨a,n,x⟩=f ⟨a,n,y⟩) (ts:List Tk) (i:Nat) (wt:Int) (hi:i<ts.length):(lighter ts i wt).map f=ts.map f:=by
 unfold lighter
 rw[List.map_set]
 have e:f ⟨(ts.getD i tk0).at_,(ts.getD i tk0).n,wt⟩=(ts.map f)[i]'(by simpa using hi):=by
  rw[List.getElem_map,tkD hi]
  exact hf _ _ _ _
 rw[e,List.set_getElem_self]
set_option maxRecDepth 100000 in
theorem zgg {ts:List Tk} {i:Nat} {wt:Int} {t:Tk} (h:t ∈ lighter ts i wt) (hi:i<ts.length):∃ s ∈ ts,t.at_=s.at_∧t.n=s.n∧(t.wt=s.wt∨t.wt=wt):=by
 obtain⟨k,hk,rfl⟩:=List.mem_iff_getElem.1 h
 rw[lighter_length] at hk
 have hm:ts.getD k tk0 ∈ ts:=by rw[tkD (ts:=ts) hk];exact List.getElem_mem _
 rw[← tkD (by rw[lighter_length];exact hk),zeb ts i wt k hk]
 by_cases e:k=i
 ·subst e;rw[if_pos rfl]
  exact⟨ts.getD k tk0,hm,rfl,rfl,.inr rfl⟩
 ·rw[if_neg e]
  exact⟨ts.getD k tk0,hm,rfl,rfl,.inl rfl⟩
set_option maxRecDepth 100000 in
theorem zh3 (ts:List Tk) (i:Nat) (wt:Int) (hi:i<ts.length) (hn:(ts.map Tk.n).Nodup) (n:Int):zbO (lighter ts i wt) n=zbO ts n:=by
 have hm:=zcM Tk.n (fun _ _ _ _=>rfl) ts i wt hi
 by_cases h:n ∈ ts.map Tk.n
 ·have h':n ∈ (lighter ts i wt).map Tk.n:=by rw[hm];exact h
  obtain⟨t,ht,rfl⟩:=List.mem_map.1 h'
  obtain⟨s,hs,e1,e2,-⟩:=zgg ht hi
  rw[zdO (by rw[hm];exact hn) ht,e2,zdO hn hs,e1]
 ·rw[zdf h,zdf (by rw[hm];exact h)]

set_option maxRecDepth 100000 in
theorem zjA {w:World} {B:Nat} {O:Nat→Prop} {ts:List Tk} (h:LstIs w B O ts) (i:Nat) (hi:i<ts.length) (wt:Int) (hw : -9223372036854775808≤wt∧wt≤9223372036854775807) :
 Off O w (w.setCell ⟨(ts.getD i tk0).at_,1,none⟩ (.int .i64 wt))∧LstIs (w.setCell ⟨(ts.getD i tk0).at_,1,none⟩ (.int .i64 wt)) B O (lighter ts i wt):=by
 have hb:=(h.tasks i hi).2
 have ho:Off O w (w.setCell ⟨(ts.getD i tk0).at_,1,none⟩ (.int .i64 wt)):=off_set (off_refl _ _) (p:=⟨(ts.getD i tk0).at_,1,none⟩) (.inl (h.tasks i hi).1) _
 obtain⟨sv,mo,hB,hr,hsv,hm⟩:=h.lies
 have n1:=zbr hb hr (by decide)
 have n2:B≠(ts.getD i tk0).at_:=(zcV hb hB (by decide)).symm
 refine⟨ho,h.own,fun k hk=>Nat.lt_of_lt_of_le (h.lt k hk) ho.size,fun t ht=>?_,?_,?_,fun k hk=>?_,sv,mo,(Below.heap_setCell w ⟨(ts.getD i tk0).at_,1,none⟩ _ B n2).trans hB,?_,hsv,?_⟩
 ·obtain⟨s,hs,e1,e2,e3⟩:=zgg ht hi
  have:=h.nums s hs
  rw[e2]
  refine⟨this.1,this.2.1,?_⟩
  rcases e3 with e3 | e3 <;> omega
 ·rw[zcM Tk.n (fun _ _ _ _=>rfl) ts i wt hi];exact h.apart
 ·rw[zcM Tk.at_ (fun _ _ _ _=>rfl) ts i wt hi];exact h.blocks
 ·rw[lighter_length] at hk
  rw[zeb ts i wt k hk]
  by_cases e:k=i
  ·subst e
   rw[if_pos rfl]
   exact⟨(h.tasks k hk).1,block_set (i:=1) hb (.int .i64 wt)⟩
  ·rw[if_neg e]
   exact⟨(h.tasks k hk).1,(Below.heap_setCell w ⟨(ts.getD i tk0).at_,1,none⟩ _ _ (fun e'=>e (zhh h.blocks hk hi e'))).trans (h.tasks k hk).2⟩
 ·rw[lighter_length,zcM zcS (fun _ _ _ _=>rfl) ts i wt hi]
  exact own_off (O:=fun k=>k=(ts.getD i tk0).at_) hr (off_set (O:=fun k=>k=(ts.getD i tk0).at_) (off_refl _ _) (p:=⟨(ts.getD i tk0).at_,1,none⟩) (.inl rfl) _) (fun k hk e=>n1 (e▸hk))
 ·rcases hm with ⟨rfl,h0⟩ | ⟨mb,D,N,rfl,hO,hN,hmap,hTd,hSz,hD⟩
  ·subst h0;simp at hi
  ·refine .inr ⟨mb,D,N,rfl,hO,hN,hmap.setCell (a:=⟨(ts.getD i tk0).at_,1,none⟩) (zcd hb hmap) _,hTd,by rw[lighter_length];exact hSz,fun n=>?_⟩
   rw[(hD n).1,(hD n).2,zh3 ts i wt hi h.apart,zcM Tk.n (fun _ _ _ _=>rfl) ts i wt hi]
   exact⟨rfl,rfl⟩

set_option maxHeartbeats 4000000 in
set_option maxRecDepth 100000 in
theorem zrk (B:Nat) (O:Nat→Prop) (ts:List Tk) (i:Nat) (hi:i<ts.length) (hlen:ts.length≤1048576) (hd:zdy ts ts.length i=(ts,i)) (w:World) (h:LstIs w B O ts) :
 Calls Tryz.prog 155 #[.iface 194 (.pointer (some ⟨B,0,none⟩)),.int .i64 i] w fun e w'=>e=.returned (.tuple #[])∧Off O w w'∧LstIs w' B O (upL ts i):=by
 have HLn:=zaa (zfB B O ts w h)
 have HD:=zaa (zkM B O ts ts.length i hi (Nat.le_refl _) hlen w h)
 rw[hd,show decide ((i:Int)<((ts,i):List Tk × Nat).2)=false by simp] at HD
 have HU:=zaa (fun w1 hl=>zpZ B O ts i hi hlen w1 hl)
 clear h hd
 go_enter Tryz.func155,Tryz.ntmps155
 go_wp2_with fail
 refine(uh HLn).mono ?_
 rintro e w1 ⟨rfl,hw⟩
 obtain rfl:=hw.symm
 go_wp2_with fail
 refine(uh HD).mono ?_
 rintro e w1 ⟨rfl,ho1,hs1,hl1⟩
 have HU1:=zaa (uh HU w1 hl1)
 have Ho1:=zaa ho1
 clear ho1 hl1 HU HD
 go_wp2_with fail
 refine(uh HU1).mono ?_
 rintro e w2 ⟨rfl,ho2,hs2,hl2⟩
 have Ho2:=zaa ho2;have Hl2:=zaa hl2
 clear ho2 hl2 HU1
 go_wp2
 go_end0
 exact⟨rfl,zgb (uh Ho1) (uh Ho2),uh Hl2⟩

set_option maxRecDepth 100000 in
theorem zlG {ts:List Tk} {n i:Nat} (h:∀ k,0<k→k<n→par k=i→leT (ts.getD i tk0) (ts.getD k tk0)):zdy ts n i=(ts,i):=by
 rw[zeS]
 by_cases h1:2 * i+1<n
 ·obtain⟨k1,k2,k3,-⟩:=ziH (ts:=ts) h1
  rw[if_pos h1,if_neg]
  rw[show lessT (ts.getD (zck ts n i) tk0) (ts.getD i tk0)=false from h _ k2 k3 k1]
  simp
 ·rw[if_neg h1]

set_option maxHeartbeats 4000000 in
set_option maxRecDepth 100000 in
theorem zjB (B:Nat) (O:Nat→Prop) (ts:List Tk) (i:Nat) (hi:i<ts.length) (hlen:ts.length≤1048576) (hh:HeapN ts ts.length) (wt:Int) (hw : -9223372036854775808≤wt∧wt≤9223372036854775807) (w:World) (h:LstIs w B O ts) :
 Calls Tryz.prog 134 #[.iface 194 (.pointer (some ⟨B,0,none⟩)),.pointer (some ⟨(ts.getD i tk0).at_,0,none⟩),.int .i64 wt] w fun e w'=>e=.returned (.tuple #[])∧Off O w w' ∧
  LstIs w' B O (if wt<(ts.getD i tk0).wt then upL (lighter ts i wt) i else ts):=by
 obtain⟨-,a1,a2⟩:=zeM h i hi
 have f1:w.frozen? ⟨(ts.getD i tk0).at_,1,none⟩=false:=frozen_block (h.tasks i hi).2 1
 by_cases hlt:wt<(ts.getD i tk0).wt
 ·obtain⟨ho,hl⟩:=zjA h i hi wt hw
  have hf:=(fix_heap hh i hi wt (by omega)).2
  have hds:zdy (lighter ts i wt) (lighter ts i wt).length i=(lighter ts i wt,i):=by
   rw[lighter_length]
   refine zlG (fun k hk hkn hp=>?_)
   rw[zeb ts i wt i hi,if_pos rfl,zeb ts i wt k hkn,if_neg (by have:=zcv hk;omega)]
   exact hf k hk hkn hp
  have HF:=zaa (zrk B O (lighter ts i wt) i (by rw[lighter_length];exact hi) (by rw[lighter_length];exact hlen) hds _ hl)
  rw[if_pos hlt]
  have Ho:=zaa ho
  have hi':(i:Int)<1048576:=by omega
  clear h hl hds ho hf hh
  generalize (ts.getD i tk0).at_=T at *
  generalize (ts.getD i tk0).wt=z at *
  go_enter Tryz.func134,Tryz.ntmps134
  go_wp2_with (go_at_call 155;refine(uh HF).mono ?_;rintro e w2 ⟨rfl,ho2,hl2⟩;have Ho2:=zaa ho2;have Hl2:=zaa hl2;clear ho2 hl2)
  go_end0
  exact⟨rfl,zgb (uh Ho) (uh Ho2),uh Hl2⟩
 ·rw[if_neg hlt]
  have HL:=zaa h
  clear h hh
  generalize (ts.getD i tk0).at_=T at *
  generalize (ts.getD i tk0).wt=z at *
  go_enter Tryz.func134,Tryz.ntmps134
  go_wp2
  go_end0
  exact⟨rfl,off_refl _ _,uh HL⟩

set_option maxRecDepth 100000 in
theorem znh {w:World} {B:Nat} {O:Nat→Prop} {ts:List Tk} (h:LstIs w B O ts) {i:Nat} (hi:i<ts.length):∃ m,w.cell? ⟨B,1,none⟩=some (.map m)∧(Instr.lookup 187 (.map m) (.int .i64 (ts.getD i tk0).n) false).run Tryz.prog w=.ok (.pointer (some ⟨(ts.getD i tk0).at_,0,none⟩)) w:=by
 have hmem:ts.getD i tk0 ∈ ts:=by rw[tkD hi];exact List.getElem_mem _
 have hnum:=h.nums _ hmem
 obtain⟨sv,mo,hB,hr,hsv,hm⟩:=h.lies
 have hk:=keyOf_int_mk Tryz.underlying3 (WalkArith.wf_i64 (n:=(ts.getD i tk0).n) (by omega))
 refine⟨mo,cell_block hB 1 _ rfl,?_⟩
 rcases hm with ⟨rfl,h0⟩ | ⟨mb,D,N,rfl,hO,hN,hmap,hTd,hSz,hD⟩
 ·subst h0;simp at hi
 ·obtain⟨v,ps,hrun,hv⟩:=hmap.lookup zor Tryz.underlying187 (zlS _) (zd:=.lit (.int .i64 0)) (zp:=[]) rfl hk
  rw[(hD _).2,zdO h.apart hmem] at hv
  rw[hrun,zqD hv]

set_option maxHeartbeats 4000000 in
set_option maxRecDepth 100000 in
theorem push_old (B:Nat) (O:Nat→Prop) (ts:List Tk) (i:Nat) (hi:i<ts.length) (hlen:ts.length≤1048576) (hh:HeapN ts ts.length) (wt:Int) (hw : -9223372036854775808≤wt∧wt≤9223372036854775807) (w:World) (h:LstIs w B O ts) :
 Calls Tryz.prog 107 #[.pointer (some ⟨B,0,none⟩),.int .i64 (ts.getD i tk0).n,.int .i64 wt] w fun e w'=>e=.returned (.tuple #[.bool false,.int .i64 0])∧Off O w w' ∧
  LstIs w' B O (if wt<(ts.getD i tk0).wt then upL (lighter ts i wt) i else ts):=by
 have hmem:ts.getD i tk0 ∈ ts:=by rw[tkD hi];exact List.getElem_mem _
 have hnum:=h.nums _ hmem
 have HN:=zaa (zdG (ts.getD i tk0).n w)
 rw[show decide (0≤(ts.getD i tk0).n∧(ts.getD i tk0).n<1048576)=true by simpa using ⟨hnum.1,hnum.2.1⟩] at HN
 obtain⟨m,cm,hq⟩:=znh h hi
 have HL:=zaa (zjB B O ts i hi hlen hh wt hw w h)
 clear h hmem hnum hh
 generalize (if wt<(ts.getD i tk0).wt then upL (lighter ts i wt) i else ts)=ts' at *
 generalize ts.getD i tk0=t at *
 go_enter Tryz.func107,Tryz.ntmps107
 go_wp2_with (first | (go_at_call 133;refine(uh HN).mono ?_;rintro e w2 ⟨rfl,hw⟩;obtain rfl:=hw.symm) | (go_at_call 134;refine(uh HL).mono ?_;rintro e w2 ⟨rfl,ho2,hl2⟩;have Ho2:=zaa ho2;have Hl2:=zaa hl2;clear ho2 hl2))
 go_ret2
 exact⟨rfl,uh Ho2,uh Hl2⟩

end Go.Proofs.YtagohbpbgjelaaaGreatDoor.Wk

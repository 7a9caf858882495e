/- Rounds: which rules are found, and by which production. -/
namespace Go.Proofs.YtagohbpbgjelaaaGreatDoor

def upZ (f:Nat→Int) (i:Nat) (v:Int):Nat→Int:=fun j=>if j=i then v else f j
theorem zbe (f:Nat→Int) (i:Nat) (v:Int):upZ f i v i=v:=by simp[upZ]
theorem zcF {f:Nat→Int} {i j:Nat} {v:Int} (h:j≠i):upZ f i v j=f j:=by simp[upZ,h]

def dcM:List Nat→(Nat→Int)→(Nat→Int)
 | [],m=>m
 | p::L,m=>dcM L (upZ m p (m p - 1))
def dcR:List Nat→(Nat→Int)→List Nat
 | [],_=>[]
 | p::L,m=>(if m p - 1=0 then[p] else[]) ++ dcR L (upZ m p (m p - 1))
theorem zhe:∀ (a b:List Nat) (m:Nat→Int),dcM (a ++ b) m=dcM b (dcM a m)
 | [],_,_=>rfl
 | p::a,b,m=>by show dcM (a ++ b) _=_;rw[zhe a b];rfl
theorem zhd:∀ (a b:List Nat) (m:Nat→Int),dcR (a ++ b) m=dcR a m ++ dcR b (dcM a m)
 | [],_,_=>rfl
 | p::a,b,m=>by
   show (if m p - 1=0 then[p] else[]) ++ dcR (a ++ b) _=((if m p - 1=0 then[p] else[]) ++ dcR a _) ++ _
   rw[zhd a b,List.append_assoc];rfl
theorem ziS:∀ (L:List Nat) (m:Nat→Int) (q:Nat),dcM L m q=m q - (L.count q:Nat)
 | [],m,q=>by simp[dcM]
 | p::L,m,q=>by
   show dcM L (upZ m p (m p - 1)) q=_
   rw[ziS L,List.count_cons]
   by_cases h:q=p
   ·subst h;rw[zbe];simp;omega
   ·rw[zcF h]
    have:(p == q)=false:=by simp;exact fun h'=>h h'.symm
    rw[this];simp
theorem zdR:∀ (L:List Nat) (m:Nat→Int) (q:Nat),q ∈ dcR L m↔0<m q∧m q≤(L.count q:Nat)
 | [],m,q=>by simp[dcR]
 | p::L,m,q=>by
   show q ∈ (if m p - 1=0 then[p] else[]) ++ dcR L (upZ m p (m p - 1))↔_
   rw[List.mem_append,zdR L,List.count_cons]
   by_cases h:q=p
   ·subst h
    rw[zbe]
    simp
    omega
   ·rw[zcF h]
    have:(p == q)=false:=by simp;exact fun h'=>h h'.symm
    rw[this]
    split <;> simp[h]
theorem zeT:∀ (L:List Nat) (m:Nat→Int),(dcR L m).Nodup
 | [],_=>by simp[dcR]
 | p::L,m=>by
   show ((if m p - 1=0 then[p] else[]) ++ dcR L (upZ m p (m p - 1))).Nodup
   split
   ·rename_i h
    refine List.nodup_append.2 ⟨by simp,zeT L _,?_⟩
    intro a ha b hb he
    simp at ha
    subst he;subst ha
    have:=(zdR L _ _).1 hb
    rw[zbe] at this
    omega
   ·exact zeT L _

def chL (lf:Nat→Nat):List Nat→(Nat→Int)→(Nat→Int)
 | [],c=>c
 | k::ks,c=>chL lf ks (if c (lf k)<0 then upZ c (lf k) k else c)
def fnL (lf:Nat→Nat):List Nat→(Nat→Int)→List Nat
 | [],_=>[]
 | k::ks,c=>(if c (lf k)<0 then[lf k] else[]) ++ fnL lf ks (if c (lf k)<0 then upZ c (lf k) k else c)
theorem zhg (lf:Nat→Nat):∀ (a b:List Nat) (c:Nat→Int),chL lf (a ++ b) c=chL lf b (chL lf a c)
 | [],_,_=>rfl
 | k::a,b,c=>by show chL lf (a ++ b) _=_;rw[zhg lf a b];rfl
theorem zg7 (lf:Nat→Nat):∀ (a b:List Nat) (c:Nat→Int),fnL lf (a ++ b) c=fnL lf a c ++ fnL lf b (chL lf a c)
 | [],_,_=>rfl
 | k::a,b,c=>by
   show (if c (lf k)<0 then[lf k] else[]) ++ fnL lf (a ++ b) _=((if c (lf k)<0 then[lf k] else[]) ++ fnL lf a _) ++ _
   rw[zg7 lf a b,List.append_assoc];rfl
theorem zcU (lf:Nat→Nat):∀ (l:List Nat) (c:Nat→Int) (r:Nat),0≤c r→chL lf l c r=c r
 | [],_,_,_=>rfl
 | k::l,c,r,h=>by
   show chL lf l (if c (lf k)<0 then upZ c (lf k) k else c) r=_
   split
   ·rename_i h'
    have hne:r≠lf k:=fun he=>by subst he;omega
    rw[zcU lf l _ r (by rw[zcF hne];exact h),zcF hne]
   ·exact zcU lf l c r h
theorem zjO (lf:Nat→Nat):∀ (l:List Nat) (c:Nat→Int) (k:Nat),k ∈ l→0≤chL lf l c (lf k)
 | [],_,_,h=>by simp at h
 | j::l,c,k,h=>by
   show 0≤chL lf l (if c (lf j)<0 then upZ c (lf j) j else c) (lf k)
   rcases List.mem_cons.1 h with rfl | h
   ·split
    ·rw[zcU lf l _ _ (by rw[zbe];omega),zbe];omega
    ·rename_i h';rw[zcU lf l _ _ (by omega)];omega
   ·exact zjO lf l _ k h
theorem zgw (lf:Nat→Nat):∀ (l:List Nat) (c:Nat→Int) (r:Nat),c r<0→(0≤chL lf l c r↔r ∈ fnL lf l c)
 | [],c,r,h=>by simp[chL,fnL];omega
 | k::l,c,r,h=>by
   show 0≤chL lf l (if c (lf k)<0 then upZ c (lf k) k else c) r↔r ∈ (if c (lf k)<0 then[lf k] else[]) ++ fnL lf l (if c (lf k)<0 then upZ c (lf k) k else c)
   by_cases hk:c (lf k)<0
   ·rw[if_pos hk,if_pos hk]
    by_cases hr:r=lf k
    ·subst hr
     simp
     rw[zcU lf l _ _ (by rw[zbe];omega),zbe];omega
    ·rw[zgw lf l _ r (by rw[zcF hr];exact h)];simp[hr]
   ·rw[if_neg hk,if_neg hk,zgw lf l c r h];simp
theorem zdL (lf:Nat→Nat):∀ (l:List Nat) (c:Nat→Int) (r:Nat),r ∈ fnL lf l c→c r<0∧∃ k,k ∈ l∧lf k=r
 | [],_,_,h=>by simp[fnL] at h
 | k::l,c,r,h=>by
   have h:r ∈ (if c (lf k)<0 then[lf k] else[]) ++ fnL lf l (if c (lf k)<0 then upZ c (lf k) k else c):=h
   by_cases hk:c (lf k)<0
   ·rw[if_pos hk,if_pos hk] at h
    rcases List.mem_append.1 h with h | h
    ·simp at h;subst h;exact⟨hk,k,by simp,rfl⟩
    ·obtain⟨h1,j,h2,h3⟩:=zdL lf l _ r h
     refine⟨?_,j,by simp[h2],h3⟩
     by_cases hr:r=lf k
     ·subst hr;rw[zbe] at h1;omega
     ·rwa [zcF hr] at h1
   ·rw[if_neg hk,if_neg hk] at h
    simp at h
    obtain⟨h1,j,h2,h3⟩:=zdL lf l _ r h
    exact⟨h1,j,by simp[h2],h3⟩
theorem zdK (lf:Nat→Nat):∀ (l:List Nat) (c:Nat→Int),(fnL lf l c).Nodup
 | [],_=>by simp[fnL]
 | k::l,c=>by
   show ((if c (lf k)<0 then[lf k] else[]) ++ fnL lf l (if c (lf k)<0 then upZ c (lf k) k else c)).Nodup
   by_cases hk:c (lf k)<0
   ·rw[if_pos hk,if_pos hk]
    refine List.nodup_append.2 ⟨by simp,zdK lf l _,?_⟩
    intro a ha b hb he
    simp at ha
    subst he;subst ha
    have:=(zdL lf l _ _ hb).1
    rw[zbe] at this;omega
   ·rw[if_neg hk,if_neg hk];simpa using zdK lf l c
theorem zfG (lf:Nat→Nat) (P Q:Nat→Bool):∀ (l:List Nat) (c:Nat→Int),(∀ k,k ∈ l→P k=true→Q k=true∨0≤c (lf k))→(∀ k,k ∈ l→Q k=true→P k=true)→chL lf (l.filter P) c=chL lf (l.filter Q) c
 | [],_,_,_=>rfl
 | k::l,c,h1,h2=>by
   have up:∀ (d:Nat→Int),(∀ r,0≤c r→0≤d r)→∀ j,j ∈ l→P j=true→Q j=true∨0≤d (lf j):=fun d hd j hj hp=>by
    rcases h1 j (by simp[hj]) hp with h | h
    ·exact .inl h
    ·exact .inr (hd _ h)
   have h2':∀ j,j ∈ l→Q j=true→P j=true:=fun j hj=>h2 j (by simp[hj])
   by_cases hp:P k=true
   ·by_cases hq:Q k=true
    ·rw[List.filter_cons_of_pos hp,List.filter_cons_of_pos hq]
     show chL lf (l.filter P) _=chL lf (l.filter Q) _
     refine zfG lf P Q l _ (up _ fun r hr=>?_) h2'
     split
     ·by_cases he:r=lf k
      ·subst he;rw[zbe];omega
      ·rw[zcF he];exact hr
     ·exact hr
    ·have h0:=(h1 k (by simp) hp).resolve_left hq
     rw[List.filter_cons_of_pos hp,List.filter_cons_of_neg hq]
     show chL lf (l.filter P) (if c (lf k)<0 then upZ c (lf k) k else c)=_
     rw[if_neg (by omega)]
     exact zfG lf P Q l c (up c fun _ h=>h) h2'
   ·have hq:¬ Q k=true:=fun hq=>hp (h2 k (by simp) hq)
    rw[List.filter_cons_of_neg hp,List.filter_cons_of_neg hq]
    exact zfG lf P Q l c (up c fun _ h=>h) h2'
theorem zka:∀ (a b:List Nat),a.Pairwise (· < ·)→b.Pairwise (· < ·)→(∀ x,x ∈ a↔x ∈ b)→a=b
 | [],[],_,_,_=>rfl
 | [],y::b,_,_,h=>by have:=(h y).2 (by simp);simp at this
 | x::a,[],_,_,h=>by have:=(h x).1 (by simp);simp at this
 | x::a,y::b,ha,hb,h=>by
   have ha':=List.pairwise_cons.1 ha
   have hb':=List.pairwise_cons.1 hb
   have hxy:x=y:=by
    rcases List.mem_cons.1 ((h x).1 (by simp)) with h1 | h1
    ·exact h1
    ·rcases List.mem_cons.1 ((h y).2 (by simp)) with h2 | h2
     ·exact h2.symm
     ·have:=hb'.1 x h1;have:=ha'.1 y h2;omega
   subst hxy
   congr 1
   refine zka a b ha'.2 hb'.2 fun z=>?_
   constructor
   ·intro hz
    rcases List.mem_cons.1 ((h z).1 (by simp[hz])) with h1 | h1
    ·have:=ha'.1 z hz;omega
    ·exact h1
   ·intro hz
    rcases List.mem_cons.1 ((h z).2 (by simp[hz])) with h1 | h1
    ·have:=hb'.1 z hz;omega
    ·exact h1
theorem ziP {l:List Nat} {n:Nat} (hu:l.Pairwise (· < ·)) (hl:∀ x,x ∈ l→x<n):l=(List.range n).filter (fun x=>decide (x ∈ l)):=by
 refine zka _ _ hu (List.Pairwise.sublist List.filter_sublist List.pairwise_lt_range) fun x=>?_
 simp
 exact fun h=>hl x h

def fd (c:Nat→Int) (x:Nat):Bool:=decide (0≤c x)
def okR (rl:Nat→List Nat) (el:Nat→Bool) (c:Nat→Int) (q:Nat):Bool:=el q && (rl q).all (fd c)
def stT (lf:Nat→Nat) (rl:Nat→List Nat) (el:Nat→Bool) (np:Nat) (c:Nat→Int):Nat→Int:=chL lf ((List.range np).filter (okR rl el c)) c
def stN (lf:Nat→Nat) (rl:Nat→List Nat) (el:Nat→Bool) (np:Nat):Nat→(Nat→Int)
 | 0=>fun _ => -1
 | n+1=>stT lf rl el np (stN lf rl el np n)
structure RInv (lf:Nat→Nat) (rl:Nat→List Nat) (m0:Nat→Int) (np:Nat) (c mi:Nat→Int) (rd:List Nat):Prop where
 mi:∀ q,q<np→mi q=m0 q - ((rl q).countP (fd c):Nat)
 lt:∀ q,q ∈ rd→q<np
 nd:rd.Nodup
 el:∀ q,q ∈ rd→m0 q=(rl q).length∧(rl q).all (fd c)=true
 sh:∀ q,q<np→m0 q=(rl q).length→(rl q).all (fd c)=true→q ∉ rd→0≤c (lf q)
theorem zce {α:Type} (p:α→Bool):∀ (l:List α),l.all p=true↔l.countP p=l.length
 | l=>by rw[List.countP_eq_length,List.all_eq_true]
theorem zla {lf:Nat→Nat} {rl:Nat→List Nat} {m0:Nat→Int} {np:Nat} {rd:List Nat} (hm:∀ q,q<np→m0 q=(rl q).length∨(rl q).length<m0 q∨m0 q<0) (hrd:rd=(List.range np).filter (fun q=>decide (m0 q=0))):RInv lf rl m0 np (fun _ => -1) m0 rd:=by
 have hz:∀ l:List Nat,l.countP (fd fun _ => -1)=0:=fun l=>List.countP_eq_zero.2 (fun x _=>by simp[fd])
 refine⟨fun q _=>by rw[hz];simp,?_,?_,?_,?_⟩
 ·intro q hq;rw[hrd] at hq;simp at hq;exact hq.1
 ·rw[hrd];exact List.Nodup.sublist List.filter_sublist List.nodup_range
 ·intro q hq
  rw[hrd] at hq;simp at hq
  rcases hm q hq.1 with h | h | h
  ·have:(rl q).length=0:=by omega
   refine⟨h,?_⟩
   rw[List.length_eq_zero_iff.1 this];rfl
  ·omega
  ·omega
 ·intro q hq he ha hn
  exfalso
  apply hn
  rw[hrd]
  rw[zce,hz] at ha
  simp
  exact⟨hq,by omega⟩
theorem zew:∀ (found:List Nat) (L:List Nat),found.Nodup→(found.map fun r=>L.count r).sum=L.countP (fun x=>decide (x ∈ found))
 | [],L,_=>by simp
 | r::f,L,h=>by
   have h':=List.nodup_cons.1 h
   rw[List.map_cons,List.sum_cons,zew f L h'.2]
   clear h
   induction L with
   | nil=>simp
   | cons a L ih =>
     rw[List.count_cons,List.countP_cons,List.countP_cons]
     by_cases har:a=r
     ·subst har
      have:decide (a ∈ f)=false:=by simp[h'.1]
      rw[this];simp;simp at ih;omega
     ·have h1:(a == r)=false:=by simp[har]
      rw[h1]
      have h2:decide (a ∈ r::f)=decide (a ∈ f):=by simp[har]
      rw[h2];simp only[if_false,Bool.false_eq_true];omega
theorem zdq (uses:Nat→List Nat) (p:Nat):∀ (found:List Nat),(found.flatMap uses).count p=(found.map fun r=>(uses r).count p).sum
 | []=>by simp
 | r::f=>by rw[List.flatMap_cons,List.count_append,zdq uses p f];simp
theorem zpD {lf:Nat→Nat} {l:List Nat} {c:Nat→Int} (x:Nat):fd (chL lf l c) x=(fd c x || decide (x ∈ fnL lf l c)):=by
 unfold fd
 by_cases h:0≤c x
 ·rw[zcU lf l c x h];simp[h]
 ·have:=zgw lf l c x (by omega)
  simp[h,this]
theorem zeV {c:Nat→Int} {lf:Nat→Nat} {l:List Nat}:∀ (L:List Nat),L.countP (fd (chL lf l c))=L.countP (fd c)+L.countP (fun x=>decide (x ∈ fnL lf l c))
 | []=>by simp
 | x::L=>by
   rw[List.countP_cons,List.countP_cons,List.countP_cons,zeV L,zpD]
   cases h1:fd c x
   ·simp
    split <;> omega
   ·have:decide (x ∈ fnL lf l c)=false:=by
     simp
     intro hx
     have:=(zdL lf l c x hx).1
     unfold fd at h1
     simp at h1;omega
    rw[this];simp;omega
theorem zmx {lf:Nat→Nat} {rl:Nat→List Nat} {m0:Nat→Int} {np:Nat} {c mi:Nat→Int} {rd:List Nat} {uses:Nat→List Nat} (hm:∀ q,q<np→m0 q=(rl q).length∨(rl q).length<m0 q∨m0 q<0)
 (hu:∀ q r,q<np→(uses r).count q=(rl q).count r) (hul:∀ q r,q ∈ uses r→q<np) (h:RInv lf rl m0 np c mi rd) :
 RInv lf rl m0 np (chL lf rd c) (dcM ((fnL lf rd c).flatMap uses) mi) (dcR ((fnL lf rd c).flatMap uses) mi):=by
 have hcnt:∀ q,q<np→(((fnL lf rd c).flatMap uses).count q:Nat)=(rl q).countP (fun x=>decide (x ∈ fnL lf rd c)):=fun q hq=>by
  rw[zdq,← zew _ _ (zdK lf rd c)]
  congr 1
  exact List.map_congr_left fun r _=>hu q r hq
 have hlt:∀ q,q ∈ dcR ((fnL lf rd c).flatMap uses) mi→q<np:=fun q hq=>by
  have:=((zdR _ _ _).1 hq)
  have hpos:0<((fnL lf rd c).flatMap uses).count q:=by omega
  obtain⟨r,-,hr⟩:=List.mem_flatMap.1 (List.count_pos_iff.1 hpos)
  exact hul q r hr
 refine⟨?_,hlt,zeT _ _,?_,?_⟩
 ·intro q hq
  rw[ziS,h.mi q hq,hcnt q hq,zeV];omega
 ·intro q hq
  have hqn:=hlt q hq
  have h1:=(zdR _ _ _).1 hq
  rw[hcnt q hqn,h.mi q hqn] at h1
  have h2:=zeV (c:=c) (lf:=lf) (l:=rd) (rl q)
  have h3:(rl q).countP (fd (chL lf rd c))≤(rl q).length:=List.countP_le_length
  rcases hm q hqn with hh | hh | hh
  ·exact⟨hh,(zce _ _).2 (by omega)⟩
  ·omega
  ·omega
 ·intro q hq he ha hn
  rw[zce] at ha
  have h2:=zeV (c:=c) (lf:=lf) (l:=rd) (rl q)
  have hn':¬ (0<mi q∧mi q≤(((fnL lf rd c).flatMap uses).count q:Nat)):=fun hc=>hn ((zdR _ _ _).2 hc)
  rw[hcnt q hq,h.mi q hq] at hn'
  have h3:(rl q).countP (fd c)≤(rl q).length:=List.countP_le_length
  have hall:(rl q).all (fd c)=true:=(zce _ _).2 (by omega)
  by_cases hr:q ∈ rd
  ·exact zjO lf rd c q hr
  ·have:=h.sh q hq he hall hr
   rw[zcU lf rd c _ this];exact this
theorem zj9 {lf:Nat→Nat} {rl:Nat→List Nat} {m0:Nat→Int} {np:Nat} {c mi:Nat→Int} {rd rs:List Nat} (h:RInv lf rl m0 np c mi rd) (hs:rs.Pairwise (· < ·)) (hp:∀ x,x ∈ rs↔x ∈ rd) :
 chL lf rs c=stT lf rl (fun q=>decide (m0 q=(rl q).length)) np c:=by
 unfold stT
 rw[ziP hs (fun x hx=>h.lt x ((hp x).1 hx))]
 refine(zfG lf _ _ _ _ ?_ ?_).symm
 ·intro k hk ho
  simp at hk
  unfold okR at ho
  simp only[Bool.and_eq_true,decide_eq_true_eq] at ho
  by_cases hr:k ∈ rd
  ·left;simp;exact(hp k).2 hr
  ·exact .inr (h.sh k hk ho.1 ho.2 hr)
 ·intro k hk hq
  simp at hq
  have:=h.el k ((hp k).1 hq)
  unfold okR
  simp only[Bool.and_eq_true,decide_eq_true_eq]
  exact this
theorem zmw {lf:Nat→Nat} {rl:Nat→List Nat} {m0:Nat→Int} {np:Nat} {c mi:Nat→Int} (h:RInv lf rl m0 np c mi []):stT lf rl (fun q=>decide (m0 q=(rl q).length)) np c=c :=
 (zj9 h List.Pairwise.nil (by simp)).symm
theorem zmy {lf:Nat→Nat} {rl:Nat→List Nat} {m0:Nat→Int} {np:Nat} {c mi:Nat→Int} {rd rs:List Nat} (h:RInv lf rl m0 np c mi rd) (hn:rs.Nodup) (hp:∀ x,x ∈ rs↔x ∈ rd):RInv lf rl m0 np c mi rs :=
 ⟨h.mi,fun q hq=>h.lt q ((hp q).1 hq),hn,fun q hq=>h.el q ((hp q).1 hq),fun q hq he ha hr=>h.sh q hq he ha (fun h'=>hr ((hp q).2 h'))⟩
end Go.Proofs.YtagohbpbgjelaaaGreatDoor

namespace Go.Proofs.YtagohbpbgjelaaaGreatDoor

inductive Rh (W:Nat→List Nat):Nat→Nat→Prop
 | refl (x:Nat):Rh W x x
 | step (x y z:Nat) (h:y ∈ W x) (k:Rh W y z):Rh W x z
theorem Rh.trans {W:Nat→List Nat} {x y z:Nat} (h:Rh W x y) (k:Rh W y z):Rh W x z:=by
 induction h with
 | refl=>exact k
 | step a b c h _ ih=>exact .step a b z h (ih k)
theorem Rh.one {W:Nat→List Nat} {x y:Nat} (h:y ∈ W x):Rh W x y:=.step x y y h (.refl y)

structure Ts where
 count:Nat
 met:Nat→Nat
 low:Nat→Nat
 opn:List Nat
 isO:Nat→Bool
 made:List (List Nat)
def upN (f:Nat→Nat) (i v:Nat):Nat→Nat:=fun j=>if j=i then v else f j
def upB (f:Nat→Bool) (i:Nat) (v:Bool):Nat→Bool:=fun j=>if j=i then v else f j
theorem zbI (f:Nat→Nat) (i v:Nat):upN f i v i=v:=by simp[upN]
theorem zbY {f:Nat→Nat} {i j v:Nat} (h:j≠i):upN f i v j=f j:=by simp[upN,h]
theorem zdW (f:Nat→Bool) (i:Nat) (v:Bool):upB f i v i=v:=by simp[upB]
theorem zek {f:Nat→Bool} {i j:Nat} {v:Bool} (h:j≠i):upB f i v j=f j:=by simp[upB,h]

def zdH (s:Ts) (x:Nat):Prop:=∃ (i:Nat) (ring:List Nat),s.made[i]? = some ring∧x ∈ ring
structure TInv (W:Nat→List Nat) (n:Nat) (s:Ts):Prop where
 o1:∀ x,x ∈ s.opn↔s.isO x=true
 o2:s.opn.Pairwise (fun x y=>s.met x<s.met y)
 o3:∀ x,s.isO x=true→0<s.met x∧s.low x≤s.met x
 o4:∀ x,s.met x≤s.count
 o5:∀ x,0<s.met x→x<n
 v1:∀ x,0<s.met x→s.isO x=true∨zdH s x
 v2:∀ x,zdH s x→0<s.met x∧s.isO x=false
 v3:∀ (i j:Nat) (a b:List Nat) (x:Nat),s.made[i]? = some a→s.made[j]? = some b→x ∈ a→x ∈ b→i=j
 r1:∀ (i:Nat) (a:List Nat),s.made[i]? = some a→a≠[]∧∀ x y,x ∈ a→y ∈ a→Rh W x y
 r2:∀ (i:Nat) (a:List Nat) (x y:Nat),s.made[i]? = some a→x ∈ a→y ∈ W x→∃ (j:Nat) (b:List Nat),j≤i∧s.made[j]? = some b∧y ∈ b
 r3:∀ (i:Nat) (a:List Nat),s.made[i]? = some a→a.Nodup
 z:∀ x,s.isO x=true→∃ y,s.isO y=true∧s.met y=s.low x∧Rh W x y
structure TDone (W:Nat→List Nat) (s:Ts) (x:Nat):Prop where
 lt:s.low x<s.met x
 to:∀ y,y ∈ W x→0<s.met y∧(s.isO y=false∨s.low x≤s.met y)
structure TPost (W:Nat→List Nat) (n:Nat) (s:Ts) (r:Nat) (t:Ts):Prop where
 inv:TInv W n t
 opn:∃ new,t.opn=s.opn ++ new∧∀ x,x ∈ new→s.met x=0
 made:∃ more,t.made=s.made ++ more
 old:∀ x,0<s.met x→t.met x=s.met x∧t.low x=s.low x∧t.isO x=s.isO x
 at_:0<t.met r
 rch:∀ x,s.met x=0→0<t.met x→Rh W r x
 new:∀ x,s.met x=0→t.isO x=true→TDone W t x∧t.low r≤t.low x∧t.isO r=true
structure TLoop (W:Nat→List Nat) (n:Nat) (s:Ts) (r:Nat) (k:Nat) (t:Ts):Prop where
 inv:TInv W n t
 opn:∃ rest,t.opn=s.opn ++ r::rest∧∀ x,x ∈ rest→s.met x=0
 made:∃ more,t.made=s.made ++ more
 old:∀ x,0<s.met x→t.met x=s.met x∧t.low x=s.low x∧t.isO x=s.isO x
 m0:s.met r=0
 mr:t.met r=s.count+1
 ir:t.isO r=true
 rch:∀ x,s.met x=0→0<t.met x→Rh W r x
 new:∀ x,x≠r→s.met x=0→t.isO x=true→TDone W t x∧t.low r≤t.low x
 to:∀ (j y:Nat),j<k→(W r)[j]? = some y→0<t.met y∧(t.isO y=false∨t.low r≤t.met y)

theorem zk1 {W:Nat→List Nat} {n:Nat} {s:Ts} {r:Nat} (h:TInv W n s) (hr:0<s.met r):TPost W n s r s where
 inv:=h
 opn:=⟨[],by simp,by simp⟩
 made:=⟨[],by simp⟩
 old:=fun x _=>⟨rfl,rfl,rfl⟩
 at_:=hr
 rch:=fun x h0 h1=>by omega
 new:=fun x h0 h1=>by have:=(h.o3 x h1).1;omega

def zk3 (s:Ts) (r:Nat):Ts:=⟨s.count+1,upN s.met r (s.count+1),upN s.low r (s.count+1),s.opn ++ [r],upB s.isO r true,s.made⟩
theorem zjh {W:Nat→List Nat} {n:Nat} {s:Ts} {r:Nat} (h:TInv W n s) (hr:s.met r=0) (hn:r<n):TLoop W n s r 0 (zk3 s r):=by
 have hno:∀ x,0<s.met x→x≠r:=fun x hx he=>by subst he;omega
 have hnr:s.isO r=false:=by
  cases hq:s.isO r with
  | false=>rfl
  | true=>have:=(h.o3 r hq).1;omega
 have inv:TInv W n (zk3 s r):=by
  refine⟨?_,?_,?_,?_,?_,?_,?_,?_,?_,?_,?_,?_⟩
  ·intro x
   show x ∈ s.opn ++ [r]↔upB s.isO r true x=true
   by_cases hx:x=r
   ·subst hx;simp[zdW]
   ·rw[zek hx,← h.o1 x];simp[hx]
  ·show (s.opn ++ [r]).Pairwise (fun x y=>upN s.met r (s.count+1) x<upN s.met r (s.count+1) y)
   refine List.pairwise_append.2 ⟨?_,by simp,?_⟩
   ·refine h.o2.imp_of_mem ?_
    intro a b ha hb hab
    have h1:=hno a (h.o3 a ((h.o1 a).1 ha)).1
    have h2:=hno b (h.o3 b ((h.o1 b).1 hb)).1
    rw[zbY h1,zbY h2];exact hab
   ·intro a ha b hb
    simp at hb;subst hb
    have h1:=hno a (h.o3 a ((h.o1 a).1 ha)).1
    rw[zbY h1,zbI]
    have:=h.o4 a;omega
  ·intro x hx
   show 0<upN s.met r (s.count+1) x∧upN s.low r (s.count+1) x≤upN s.met r (s.count+1) x
   by_cases hq:x=r
   ·subst hq;rw[zbI,zbI];omega
   ·rw[zbY hq,zbY hq]
    exact h.o3 x (by have:upB s.isO r true x=true:=hx;rwa [zek hq] at this)
  ·intro x
   show upN s.met r (s.count+1) x≤s.count+1
   by_cases hq:x=r
   ·subst hq;rw[zbI];omega
   ·rw[zbY hq];have:=h.o4 x;omega
  ·intro x
   show 0<upN s.met r (s.count+1) x→x<n
   by_cases hq:x=r
   ·subst hq;intro _;exact hn
   ·rw[zbY hq];exact h.o5 x
  ·intro x
   show 0<upN s.met r (s.count+1) x→upB s.isO r true x=true∨zdH s x
   by_cases hq:x=r
   ·subst hq;intro _;left;exact zdW _ _ _
   ·rw[zbY hq,zek hq];exact h.v1 x
  ·intro x hx
   show 0<upN s.met r (s.count+1) x∧upB s.isO r true x=false
   have hx:zdH s x:=hx
   have:=h.v2 x hx
   have hq:=hno x this.1
   rw[zbY hq,zek hq];exact this
  ·exact h.v3
  ·exact h.r1
  ·exact h.r2
  ·exact h.r3
  ·intro x hx
   show ∃ y,upB s.isO r true y=true∧upN s.met r (s.count+1) y=upN s.low r (s.count+1) x∧Rh W x y
   by_cases hq:x=r
   ·subst hq;exact⟨x,zdW _ _ _,by rw[zbI,zbI],.refl x⟩
   ·have hx:upB s.isO r true x=true:=hx
    rw[zek hq] at hx
    obtain⟨y,y1,y2,y3⟩:=h.z x hx
    have hy:=hno y (h.o3 y y1).1
    exact⟨y,by rw[zek hy];exact y1,by rw[zbY hy,zbY hq];exact y2,y3⟩
 refine⟨inv,⟨[],rfl,by simp⟩,⟨[],by simp[zk3]⟩,?_,hr,zbI _ _ _,zdW _ _ _,?_,?_,?_⟩
 ·intro x hx
  have hq:=hno x hx
  exact⟨zbY hq,zbY hq,zek hq⟩
 ·intro x h0 h1
  have h1:0<upN s.met r (s.count+1) x:=h1
  by_cases hq:x=r
  ·subst hq;exact .refl x
  ·rw[zbY hq] at h1;omega
 ·intro x hq h0 h1
  have h1:upB s.isO r true x=true:=h1
  rw[zek hq] at h1
  have:=(h.o3 x h1).1
  omega
 ·intro j y hj;omega

def zi7 (t:Ts) (r y:Nat):Ts:=if t.isO y=true then { t with low:=upN t.low r (min (t.low r) (t.low y)) } else t
theorem zqy (t:Ts) (r y:Nat):(zi7 t r y).count=t.count∧(zi7 t r y).met=t.met∧(zi7 t r y).opn=t.opn∧(zi7 t r y).isO=t.isO∧(zi7 t r y).made=t.made∧(∀ x,x≠r→(zi7 t r y).low x=t.low x)∧(zi7 t r y).low r≤t.low r∧(t.isO y=true→(zi7 t r y).low r≤t.low y)∧((zi7 t r y).low r=t.low r∨(t.isO y=true∧(zi7 t r y).low r=t.low y)):=by
 unfold zi7
 split
 ·rename_i h
  refine⟨rfl,rfl,rfl,rfl,rfl,fun x hx=>zbY hx,?_,fun _=>?_,?_⟩
  ·show upN t.low r (min (t.low r) (t.low y)) r≤_
   rw[zbI];omega
  ·show upN t.low r (min (t.low r) (t.low y)) r≤_
   rw[zbI];omega
  ·show upN t.low r (min (t.low r) (t.low y)) r=_∨(_∧upN t.low r (min (t.low r) (t.low y)) r=_)
   rw[zbI]
   by_cases hq:t.low r≤t.low y
   ·left;omega
   ·right;exact⟨h,by omega⟩
 ·rename_i h
  exact⟨rfl,rfl,rfl,rfl,rfl,fun x hx=>rfl,Nat.le_refl _,fun h'=>absurd h' h,.inl rfl⟩
theorem zk4 {W:Nat→List Nat} {n:Nat} {s t t':Ts} {r k y:Nat} (h:TLoop W n s r k t) (hk:(W r)[k]? = some y) (hp:TPost W n t y t'):TLoop W n s r (k+1) (zi7 t' r y):=by
 obtain⟨e1,e2,e3,e4,e5,e6,e7,e8,e9⟩:=zqy t' r y
 have hmr:0<t.met r:=by have:=h.mr;omega
 obtain⟨q1,q2,q3⟩:=hp.old r hmr
 have hyr:y ∈ W r:=List.mem_of_getElem? hk
 have hI:=hp.inv
 have hir':t'.isO r=true:=by rw[q3];exact h.ir
 have inM:∀ x,zdH (zi7 t' r y) x↔zdH t' x:=fun x=>by unfold zdH;rw[e5]
 have inv:TInv W n (zi7 t' r y):=by
  refine⟨?_,?_,?_,?_,?_,?_,?_,?_,?_,?_,?_,?_⟩
  ·rw[e3,e4];exact hI.o1
  ·rw[e3,e2];exact hI.o2
  ·intro x;rw[e4,e2]
   intro hx
   have:=hI.o3 x hx
   by_cases hq:x=r
   ·subst hq;omega
   ·rw[e6 x hq];exact this
  ·rw[e1,e2];exact hI.o4
  ·rw[e2];exact hI.o5
  ·intro x;rw[e2,e4,inM];exact hI.v1 x
  ·intro x;rw[e2,e4,inM];exact hI.v2 x
  ·rw[e5];exact hI.v3
  ·rw[e5];exact hI.r1
  ·rw[e5];exact hI.r2
  ·rw[e5];exact hI.r3
  ·intro x;rw[e4,e2]
   intro hx
   by_cases hq:x=r
   ·subst hq
    rcases e9 with h9 | ⟨h9,h10⟩
    ·rw[h9];exact hI.z x hx
    ·rw[h10]
     obtain⟨z,z1,z2,z3⟩:=hI.z y h9
     exact⟨z,z1,z2,.step x y z hyr z3⟩
   ·rw[e6 x hq];exact hI.z x hx
 have hdone:∀ x,x≠r→TDone W t' x→TDone W (zi7 t' r y) x:=by
  intro x hq hd
  refine⟨by rw[e6 x hq,e2];exact hd.lt,fun z hz=>?_⟩
  rw[e2,e4,e6 x hq];exact hd.to z hz
 obtain⟨rest,ho,hrest⟩:=h.opn
 obtain⟨new,hn1,hn2⟩:=hp.opn
 obtain⟨more,hm⟩:=h.made
 obtain⟨more',hm'⟩:=hp.made
 have old0:∀ x,0<s.met x→0<t.met x:=fun x hx=>by rw[(h.old x hx).1];exact hx
 refine⟨inv,⟨rest ++ new,?_,?_⟩,⟨more ++ more',?_⟩,?_,h.m0,?_,?_,?_,?_,?_⟩
 ·rw[e3,hn1,ho];simp
 ·intro x hx
  rcases List.mem_append.1 hx with hx | hx
  ·exact hrest x hx
  ·have:=hn2 x hx
   cases hz:s.met x with
   | zero=>rfl
   | succ m=>have:=old0 x (by omega);omega
 ·rw[e5,hm',hm];simp
 ·intro x hx
  have hxr:x≠r:=fun he=>by subst he;have:=h.m0;omega
  obtain⟨a1,a2,a3⟩:=h.old x hx
  obtain⟨b1,b2,b3⟩:=hp.old x (old0 x hx)
  rw[e2,e6 x hxr,e4]
  exact⟨b1.trans a1,b2.trans a2,b3.trans a3⟩
 ·rw[e2,q1];exact h.mr
 ·rw[e4];exact hir'
 ·intro x h0 h1
  rw[e2] at h1
  by_cases hx:0<t.met x
  ·exact h.rch x h0 hx
  ·exact .step r y x hyr (hp.rch x (by omega) h1)
 ·intro x hq h0 h1
  rw[e4] at h1
  by_cases hx:0<t.met x
  ·obtain⟨a1,a2,a3⟩:=hp.old x hx
   rw[a3] at h1
   obtain⟨d,dl⟩:=h.new x hq h0 h1
   refine⟨hdone x hq ⟨by rw[a1,a2];exact d.lt,fun z hz=>?_⟩,?_⟩
   ·obtain⟨c1,c2⟩:=d.to z hz
    obtain⟨b1,b2,b3⟩:=hp.old z c1
    rw[b1,b3,a2];exact⟨c1,c2⟩
   ·rw[e6 x hq,a2];omega
  ·obtain⟨d,dl,dy⟩:=hp.new x (by omega) h1
   refine⟨hdone x hq d,?_⟩
   have:=e8 dy
   rw[e6 x hq];omega
 ·intro j z hj hz
  rw[e2,e4]
  by_cases hjk:j<k
  ·obtain⟨c1,c2⟩:=h.to j z hjk hz
   obtain⟨b1,b2,b3⟩:=hp.old z c1
   rw[b1,b3]
   refine⟨c1,?_⟩
   rcases c2 with c2 | c2
   ·exact .inl c2
   ·right;omega
  ·have:j=k:=by omega
   subst this
   rw[hk] at hz;cases hz
   refine⟨hp.at_,?_⟩
   cases ho:t'.isO y with
   | false=>exact .inl rfl
   | true=>right;have:=e8 ho;have:=(hI.o3 y ho).2;omega

theorem zk2 {W:Nat→List Nat} {n:Nat} {s t:Ts} {r:Nat} (h:TLoop W n s r (W r).length t) (hl:t.low r≠t.met r):TPost W n s r t:=by
 obtain⟨rest,ho,hrest⟩:=h.opn
 have hle:=(h.inv.o3 r h.ir)
 refine⟨h.inv,⟨r::rest,ho,?_⟩,h.made,h.old,hle.1,h.rch,?_⟩
 ·intro x hx
  rcases List.mem_cons.1 hx with rfl | hx
  ·exact h.m0
  ·exact hrest x hx
 ·intro x h0 h1
  by_cases hq:x=r
  ·subst hq
   refine⟨⟨by omega,fun y hy=>?_⟩,Nat.le_refl _,h.ir⟩
   obtain⟨j,hj,rfl⟩:=List.getElem_of_mem hy
   exact h.to j _ hj (List.getElem?_eq_getElem hj)
  ·obtain⟨d,dl⟩:=h.new x hq h0 h1
   exact⟨d,dl,h.ir⟩
def zfQ (t:Ts) (p:Nat):Ts:={ t with opn:=t.opn.take p,isO:=fun x=>t.isO x && !(t.opn.drop p).contains x,made:=t.made ++ [t.opn.drop p] }
theorem zjg {W:Nat→List Nat} {n:Nat} {s t:Ts} {r:Nat} (hs:TInv W n s) (h:TLoop W n s r (W r).length t) (hl:t.low r=t.met r):TPost W n s r (zfQ t s.opn.length):=by
 obtain⟨rest,ho,hrest⟩:=h.opn
 have hI:=h.inv
 have htk:t.opn.take s.opn.length=s.opn:=by rw[ho];simp
 have hdr:t.opn.drop s.opn.length=r::rest:=by rw[ho];simp
 have hmem:∀ x,x ∈ r::rest→t.isO x=true∧s.met x=0:=fun x hx=>by
  refine⟨(hI.o1 x).1 (by rw[ho];exact List.mem_append_right _ hx),?_⟩
  rcases List.mem_cons.1 hx with rfl | hx
  ·exact h.m0
  ·exact hrest x hx
 have hnd:∀ x,x ∈ s.opn→x ∉ r::rest:=by
  intro x hx hx'
  have h2:=hI.o2
  rw[ho] at h2
  have:=(List.pairwise_append.1 h2).2.2 x hx x hx'
  omega
 -- who is open and was not met before r stands in the ring
 have hge:∀ x,t.isO x=true→t.met r≤t.met x→x ∈ r::rest:=by
  intro x hx hm
  have hx':=(hI.o1 x).2 hx
  rw[ho] at hx'
  rcases List.mem_append.1 hx' with hx' | hx'
  ·have h2:=hI.o2
   rw[ho] at h2
   have:=(List.pairwise_append.1 h2).2.2 x hx' r (by simp)
   omega
  ·exact hx'
 have hlo:∀ x,x ∈ r::rest→t.met r≤t.low x:=by
  intro x hx
  by_cases hq:x=r
  ·subst hq;omega
  ·have:=hmem x hx
   have:=(h.new x hq this.2 this.1).2
   omega
 have hfrom:∀ x,x ∈ r::rest→Rh W r x:=fun x hx=>by
  have:=hmem x hx
  exact h.rch x this.2 (hI.o3 x this.1).1
 have hback:∀ m x,t.met x≤m→x ∈ r::rest→Rh W x r:=by
  intro m
  induction m with
  | zero=>intro x hm hx;have:=(hI.o3 x (hmem x hx).1).1;omega
  | succ m ih =>
    intro x hm hx
    by_cases hq:x=r
    ·subst hq;exact .refl x
    ·have hx':=hmem x hx
     obtain⟨z,z1,z2,z3⟩:=hI.z x hx'.1
     have hlt:=(h.new x hq hx'.2 hx'.1).1.lt
     have:=hlo x hx
     exact z3.trans (ih z (by omega) (hge z z1 (by omega)))
 have hisO:∀ x,(zfQ t s.opn.length).isO x=true↔t.isO x=true∧x ∉ r::rest:=by
  intro x
  show (t.isO x && !(t.opn.drop s.opn.length).contains x)=true↔_
  rw[hdr]
  simp
 have hmade:(zfQ t s.opn.length).made=t.made ++ [r::rest]:=by
  show t.made ++ [t.opn.drop s.opn.length]=_
  rw[hdr]
 have hget:∀ (i:Nat) (a:List Nat),(t.made ++ [r::rest])[i]? = some a→(t.made[i]? = some a)∨(i=t.made.length∧a=r::rest):=by
  intro i a hi
  by_cases hlt:i<t.made.length
  ·rw[List.getElem?_append_left hlt] at hi;exact .inl hi
  ·have hlt2:i<(t.made ++ [r::rest]).length:=by
    rcases Nat.lt_or_ge i (t.made ++ [r::rest]).length with h | h
    ·exact h
    ·rw[List.getElem?_eq_none h] at hi;cases hi
   simp at hlt2
   have:i=t.made.length:=by omega
   subst this
   simp at hi
   exact .inr ⟨rfl,hi.symm⟩
 have hkeep:∀ (i:Nat) (a:List Nat),t.made[i]? = some a→(t.made ++ [r::rest])[i]? = some a:=by
  intro i a hi
  have:i<t.made.length:=(List.getElem?_eq_some_iff.1 hi).1
  rw[List.getElem?_append_left this];exact hi
 have hlast:(t.made ++ [r::rest])[t.made.length]? = some (r::rest):=by simp
 have inM:∀ x,zdH (zfQ t s.opn.length) x↔zdH t x∨x ∈ r::rest:=by
  intro x
  unfold zdH
  rw[hmade]
  constructor
  ·rintro⟨i,a,h1,h2⟩
   rcases hget i a h1 with h1 | ⟨_,rfl⟩
   ·exact .inl ⟨i,a,h1,h2⟩
   ·exact .inr h2
  ·rintro(⟨i,a,h1,h2⟩ | h2)
   ·exact⟨i,a,hkeep i a h1,h2⟩
   ·exact⟨_,_,hlast,h2⟩
 have inv:TInv W n (zfQ t s.opn.length):=by
  refine⟨?_,?_,?_,?_,?_,?_,?_,?_,?_,?_,?_,?_⟩
  ·intro x
   rw[hisO]
   show x ∈ t.opn.take s.opn.length↔_
   rw[htk,← hI.o1 x,ho]
   constructor
   ·intro hx;exact⟨List.mem_append_left _ hx,hnd x hx⟩
   ·rintro⟨h1,h2⟩
    rcases List.mem_append.1 h1 with h1 | h1
    ·exact h1
    ·exact absurd h1 h2
  ·show (t.opn.take s.opn.length).Pairwise (fun x y=>t.met x<t.met y)
   exact hI.o2.sublist (List.take_sublist _ _)
  ·intro x hx;exact hI.o3 x ((hisO x).1 hx).1
  ·exact hI.o4
  ·exact hI.o5
  ·intro x hx
   rw[inM]
   by_cases hr:x ∈ r::rest
   ·exact .inr (.inr hr)
   ·rcases hI.v1 x hx with h1 | h1
    ·exact .inl ((hisO x).2 ⟨h1,hr⟩)
    ·exact .inr (.inl h1)
  ·intro x hx
   have hb:∀ b:Bool,¬ b=true→b=false:=by decide
   rcases(inM x).1 hx with h1 | h1
   ·have:=hI.v2 x h1
    refine⟨this.1,hb _ fun hc=>?_⟩
    have:=((hisO x).1 hc).1;simp_all
   ·exact⟨(hI.o3 x (hmem x h1).1).1,hb _ fun hc=>((hisO x).1 hc).2 h1⟩
  ·rw[hmade]
   intro i j a b x hi hj ha hb
   rcases hget i a hi with h1 | ⟨h1,rfl⟩ <;> rcases hget j b hj with h2 | ⟨h2,rfl⟩
   ·exact hI.v3 i j a b x h1 h2 ha hb
   ·have:=hI.v2 x ⟨i,a,h1,ha⟩;have:=(hmem x hb).1;simp_all
   ·have:=hI.v2 x ⟨j,b,h2,hb⟩;have:=(hmem x ha).1;simp_all
   ·omega
  ·rw[hmade]
   intro i a hi
   rcases hget i a hi with h1 | ⟨h1,rfl⟩
   ·exact hI.r1 i a h1
   ·exact⟨by simp,fun x y hx hy=>(hback _ x (Nat.le_refl _) hx).trans (hfrom y hy)⟩
  · rw [hmade]
    intro i a x y hi hx hy
    rcases hget i a hi with h1 | ⟨h1,rfl⟩
    · obtain⟨j,b,hj,hb,hyb⟩:=hI.r2 i a x y h1 hx hy
      exact⟨j,b,hj,hkeep j b hb,hyb⟩
    · have hto:0<t.met y∧(t.isO y=false∨t.low x≤t.met y):=by
        by_cases hq:x=r
        · subst hq
          obtain⟨j,hj,rfl⟩:=List.getElem_of_mem hy
          exact h.to j _ hj (List.getElem?_eq_getElem hj)
        · have:=hmem x hx
          exact(h.new x hq this.2 this.1).1.to y hy
      by_cases hop:t.isO y=true
      · have : t.low x ≤ t.met y := by rcases hto.2 with h2 | h2; · simp_all
                                       · exact h2
        have:=hlo x hx
        exact⟨i,_,Nat.le_refl _,by rw[h1];exact hlast,hge y hop (by omega)⟩
      · rcases hI.v1 y hto.1 with h2 | ⟨j,b,h2,h3⟩
        · exact absurd h2 hop
        · have:j<t.made.length:=(List.getElem?_eq_some_iff.1 h2).1
          exact⟨j,b,by omega,hkeep j b h2,h3⟩
  · rw[hmade]
    intro i a hi
    rcases hget i a hi with h1 | ⟨h1,rfl⟩
    · exact hI.r3 i a h1
    · have h2:=hI.o2
      rw[ho] at h2
      exact(List.pairwise_append.1 h2).2.1.imp (fun hab he=>by subst he;omega)
  · intro x hx
    obtain⟨h1,h2⟩:=(hisO x).1 hx
    obtain⟨y,y1,y2,y3⟩:=hI.z x h1
    refine⟨y,(hisO y).2 ⟨y1,fun hy=>?_⟩,y2,y3⟩
    have hxm:t.met x<t.met r:=by
      rcases Nat.lt_or_ge (t.met x) (t.met r) with h | h
      · exact h
      · exact absurd (hge x h1 h) h2
    have:=(hI.o3 x h1).2
    have h2:=hI.o2
    rw[ho] at h2
    have h3:=(List.pairwise_append.1 h2).2.1
    rcases List.mem_cons.1 hy with rfl | hy
    · omega
    · have:=(List.pairwise_cons.1 h3).1 y hy;omega
 obtain⟨more,hm⟩:=h.made
 refine⟨inv,⟨[],?_,by simp⟩,⟨more ++ [r::rest],?_⟩,?_,(hI.o3 r h.ir).1,h.rch,?_⟩
 ·show t.opn.take s.opn.length=_
  rw[htk];simp
 ·rw[hmade,hm];simp
 ·intro x hx
  obtain⟨a1,a2,a3⟩:=h.old x hx
  refine⟨a1,a2,?_⟩
  rw[← a3]
  have hnr:x ∉ r::rest:=fun hc=>by have:=(hmem x hc).2;omega
  show (t.isO x && !(t.opn.drop s.opn.length).contains x)=_
  rw[hdr]
  simp at hnr
  simp[hnr]
 ·intro x h0 h1
  obtain⟨h1,h2⟩:=(hisO x).1 h1
  exfalso
  have hx':=(hI.o1 x).2 h1
  rw[ho] at hx'
  rcases List.mem_append.1 hx' with hx' | hx'
  ·have:=(hs.o3 x ((hs.o1 x).1 hx')).1
   omega
  ·exact h2 hx'
end Go.Proofs.YtagohbpbgjelaaaGreatDoor

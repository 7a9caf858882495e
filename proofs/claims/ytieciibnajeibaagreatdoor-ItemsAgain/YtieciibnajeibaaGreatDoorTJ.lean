namespace Go.Proofs.YtieciibnajeibaaGreatDoor
inductive Rh (W:Nat->List Nat):Nat->Nat->Prop
 | refl (x:Nat):Rh W x x
 | step (x y z:Nat) (h:y ∈ W x) (k:Rh W y z):Rh W x z
variable{C S:Nat->Int->Bool}{W rl:Nat->List Nat}{X:Nat->Prop}{Y:Nat->Nat->Prop}{a l rd rs:List Nat}{acc:Int->Bool}{c:Nat->Int}{h i j k n np r x y:Nat}{lf rep:Nat->Nat}
theorem Rh.trans{z:Nat}(h:Rh W x y)(k:Rh W y z):Rh W x z:=by
 induction h with
 | refl=>exact k
 | step a b c h _ ih=>exact .step a b z h (ih k)
theorem Rh.one(h:y ∈ W x):Rh W x y:=.step x y y h (.refl y)
structure Ts where
 count:Nat
 met:Nat->Nat
 low:Nat->Nat
 opn:List Nat
 isO:Nat->Bool
 made:List (List Nat)
def upN(f:Nat->Nat)(i v:Nat):Nat->Nat:=λj=>if j=i then v else f j
def upB(f:Nat->Bool)(i:Nat)(v:Bool):Nat->Bool:=λj=>if j=i then v else f j
theorem zbu(f:Nat->Nat)(i v:Nat):upN f i v i=v:=by simp[upN]
theorem zbM{f:Nat->Nat}{v:Nat}(h:j≠i):upN f i v j=f j:=by simp[upN,h]
theorem zd6(f:Nat->Bool)(i:Nat)(v:Bool):upB f i v i=v:=by simp[upB]
theorem zew{f:Nat->Bool}{v:Bool}(h:j≠i):upB f i v j=f j:=by simp[upB,h]
def zdQ(s:Ts)(x:Nat):Prop:=∃ (i:Nat) (ring:List Nat),s.made[i]? = some ring/\x ∈ ring
structure TInv (W:Nat->List Nat) (n:Nat) (s:Ts):Prop where
 o1:∀ x,x ∈ s.opn↔s.isO x=true
 o2:s.opn.Pairwise (λx y=>s.met x<s.met y)
 o3:∀ x,s.isO x=true->0<s.met x/\s.low x<=s.met x
 o4:∀ x,s.met x<=s.count
 o5:∀ x,0<s.met x->x<n
 v1:∀ x,0<s.met x->s.isO x=true\/zdQ s x
 v2:∀ x,zdQ s x->0<s.met x/\s.isO x=false
 v3:∀ (i j:Nat) (a b:List Nat) (x:Nat),s.made[i]? = some a->s.made[j]? = some b->x ∈ a->x ∈ b->i=j
 r1:∀ (i:Nat) (a:List Nat),s.made[i]? = some a->a≠[]/\∀ x y,x ∈ a->y ∈ a->Rh W x y
 r2:∀ (i:Nat) (a:List Nat) (x y:Nat),s.made[i]? = some a->x ∈ a->y ∈ W x->∃ (j:Nat) (b:List Nat),j<=i/\s.made[j]? = some b/\y ∈ b
 r3:∀ (i:Nat) (a:List Nat),s.made[i]? = some a->a.Nodup
 z:∀ x,s.isO x=true->∃ y,s.isO y=true/\s.met y=s.low x/\Rh W x y
structure TDone (W:Nat->List Nat) (s:Ts) (x:Nat):Prop where
 lt:s.low x<s.met x
 to:∀ y,y ∈ W x->0<s.met y/\(s.isO y=false\/s.low x<=s.met y)
structure TPost (W:Nat->List Nat) (n:Nat) (s:Ts) (r:Nat) (t:Ts):Prop where
 inv:TInv W n t
 opn:∃ new,t.opn=s.opn ++ new/\∀ x,x ∈ new->s.met x=0
 made:∃ more,t.made=s.made ++ more
 old:∀ x,0<s.met x->t.met x=s.met x/\t.low x=s.low x/\t.isO x=s.isO x
 at_:0<t.met r
 rch:∀ x,s.met x=0->0<t.met x->Rh W r x
 new:∀ x,s.met x=0->t.isO x=true->TDone W t x/\t.low r<=t.low x/\t.isO r=true
structure TLoop (W:Nat->List Nat) (n:Nat) (s:Ts) (r:Nat) (k:Nat) (t:Ts):Prop where
 inv:TInv W n t
 opn:∃ rest,t.opn=s.opn ++ r::rest/\∀ x,x ∈ rest->s.met x=0
 made:∃ more,t.made=s.made ++ more
 old:∀ x,0<s.met x->t.met x=s.met x/\t.low x=s.low x/\t.isO x=s.isO x
 m0:s.met r=0
 mr:t.met r=s.count+1
 ir:t.isO r=true
 rch:∀ x,s.met x=0->0<t.met x->Rh W r x
 new:∀ x,x≠r->s.met x=0->t.isO x=true->TDone W t x/\t.low r<=t.low x
 to:∀ (j y:Nat),j<k->(W r)[j]? = some y->0<t.met y/\(t.isO y=false\/t.low r<=t.met y)
theorem znp{s:Ts}(h:TInv W n s)(hr:0<s.met r):TPost W n s r s where
 inv:=h
 opn:=⟨[],by simp,by simp⟩
 made:=⟨[],by simp⟩
 old:=λx _=>⟨rfl,rfl,rfl⟩
 at_:=hr
 rch:=λx h0 h1=>by omega
 new:=λx h0 h1=>by have:=(h.o3 x h1).1;omega
def znr(s:Ts)(r:Nat):Ts:=⟨s.count+1,upN s.met r (s.count+1),upN s.low r (s.count+1),s.opn ++ [r],upB s.isO r true,s.made⟩
theorem zk1{s:Ts}(h:TInv W n s)(hr:s.met r=0)(hn:r<n):TLoop W n s r 0 (znr s r):=by
 have hno:∀ x,0<s.met x->x≠r:=λx hx he=>by subst he;omega
 have hnr:s.isO r=false:=by
  cases hq:s.isO r with
  | false=>rfl
  | true=>have:=(h.o3 r hq).1;omega
 have inv:TInv W n (znr s r):=by
  refine⟨?_,?_,?_,?_,?_,?_,?_,?_,?_,?_,?_,?_⟩
  ·intro x;show x ∈ s.opn ++ [r]↔upB s.isO r true x=true;by_cases hx:x=r
   ·subst hx;simp[zd6]
   ·rw[zew hx,<- h.o1 x];simp[hx]
  ·show (s.opn ++ [r]).Pairwise (λx y=>upN s.met r (s.count+1) x<upN s.met r (s.count+1) y);refine List.pairwise_append.2 ⟨?_,by simp,?_⟩
   ·refine h.o2.imp_of_mem ?_;intro a b ha hb hab;have h1:=hno a (h.o3 a ((h.o1 a).1 ha)).1;have h2:=hno b (h.o3 b ((h.o1 b).1 hb)).1;rw[zbM h1,zbM h2];exact hab
   ·intro a ha b hb;simp at hb;subst hb;have h1:=hno a (h.o3 a ((h.o1 a).1 ha)).1;rw[zbM h1,zbu];have:=h.o4 a;omega
  ·intro x hx;show 0<upN s.met r (s.count+1) x/\upN s.low r (s.count+1) x<=upN s.met r (s.count+1) x;by_cases hq:x=r
   ·subst hq;rw[zbu,zbu];omega
   ·rw[zbM hq,zbM hq];exact h.o3 x (by have:upB s.isO r true x=true:=hx;rwa [zew hq] at this)
  ·intro x;show upN s.met r (s.count+1) x<=s.count+1;by_cases hq:x=r
   ·subst hq;rw[zbu];omega
   ·rw[zbM hq];have:=h.o4 x;omega
  ·intro x;show 0<upN s.met r (s.count+1) x->x<n;by_cases hq:x=r
   ·subst hq;intro _;exact hn
   ·rw[zbM hq];exact h.o5 x
  ·intro x;show 0<upN s.met r (s.count+1) x->upB s.isO r true x=true\/zdQ s x;by_cases hq:x=r
   ·subst hq;intro _;left;exact zd6 _ _ _
   ·rw[zbM hq,zew hq];exact h.v1 x
  ·intro x hx;show 0<upN s.met r (s.count+1) x/\upB s.isO r true x=false;have hx:zdQ s x:=hx;have:=h.v2 x hx;have hq:=hno x this.1;rw[zbM hq,zew hq];exact this
  ·exact h.v3
  ·exact h.r1
  ·exact h.r2
  ·exact h.r3
  ·intro x hx;show ∃ y,upB s.isO r true y=true/\upN s.met r (s.count+1) y=upN s.low r (s.count+1) x/\Rh W x y;by_cases hq:x=r
   ·subst hq;exact⟨x,zd6 _ _ _,by rw[zbu,zbu],.refl x⟩
   ·have hx:upB s.isO r true x=true:=hx;rw[zew hq] at hx;obtain⟨y,y1,y2,y3⟩:=h.z x hx;have hy:=hno y (h.o3 y y1).1;exact⟨y,by rw[zew hy];exact y1,by rw[zbM hy,zbM hq];exact y2,y3⟩
 refine⟨inv,⟨[],rfl,by simp⟩,⟨[],by simp[znr]⟩,?_,hr,zbu _ _ _,zd6 _ _ _,?_,?_,?_⟩
 ·intro x hx;have hq:=hno x hx;exact⟨zbM hq,zbM hq,zew hq⟩
 ·intro x h0 h1;have h1:0<upN s.met r (s.count+1) x:=h1;by_cases hq:x=r
  ·subst hq;exact .refl x
  ·rw[zbM hq] at h1;omega
 ·intro x hq h0 h1;have h1:upB s.isO r true x=true:=h1;rw[zew hq] at h1;have:=(h.o3 x h1).1;omega
 ·intro j y hj;omega
def zkP(t:Ts)(r y:Nat):Ts:=if t.isO y=true then { t with low:=upN t.low r (min (t.low r) (t.low y)) } else t
theorem zve(t:Ts)(r y:Nat):(zkP t r y).count=t.count/\(zkP t r y).met=t.met/\(zkP t r y).opn=t.opn/\(zkP t r y).isO=t.isO/\(zkP t r y).made=t.made/\(∀ x,x≠r->(zkP t r y).low x=t.low x)/\(zkP t r y).low r<=t.low r/\(t.isO y=true->(zkP t r y).low r<=t.low y)/\((zkP t r y).low r=t.low r\/(t.isO y=true/\(zkP t r y).low r=t.low y)):=by
 unfold zkP
 split
 ·rename_i h;refine⟨rfl,rfl,rfl,rfl,rfl,λx hx=>zbM hx,?_,λ_=>?_,?_⟩
  ·show upN t.low r (min (t.low r) (t.low y)) r<=_;rw[zbu];omega
  ·show upN t.low r (min (t.low r) (t.low y)) r<=_;rw[zbu];omega
  ·show upN t.low r (min (t.low r) (t.low y)) r=_\/(_/\upN t.low r (min (t.low r) (t.low y)) r=_);rw[zbu];by_cases hq:t.low r<=t.low y
   ·left;omega
   ·right;exact⟨h,by omega⟩
 ·rename_i h;exact⟨rfl,rfl,rfl,rfl,rfl,λx hx=>rfl,Nat.le_refl _,λh'=>absurd h' h,.inl rfl⟩
theorem zns{s t t':Ts}(h:TLoop W n s r k t)(hk:(W r)[k]? = some y)(hp:TPost W n t y t'):TLoop W n s r (k+1) (zkP t' r y):=by
 obtain⟨e1,e2,e3,e4,e5,e6,e7,e8,e9⟩:=zve t' r y;have hmr:0<t.met r:=by have:=h.mr;omega
 obtain⟨q1,q2,q3⟩:=hp.old r hmr;have hyr:y ∈ W r:=List.mem_of_getElem? hk;have hI:=hp.inv;have hir':t'.isO r=true:=by rw[q3];exact h.ir
 have inM:∀ x,zdQ (zkP t' r y) x↔zdQ t' x:=λx=>by unfold zdQ;rw[e5]
 have inv:TInv W n (zkP t' r y):=by
  refine⟨?_,?_,?_,?_,?_,?_,?_,?_,?_,?_,?_,?_⟩
  ·rw[e3,e4];exact hI.o1
  ·rw[e3,e2];exact hI.o2
  ·intro x;rw[e4,e2];intro hx;have:=hI.o3 x hx;by_cases hq:x=r
   ·subst hq;omega
   ·rw[e6 x hq];exact this
  ·rw[e1,e2];exact hI.o4
  ·rw[e2];exact hI.o5
  ·intro x;rw[e2,e4,inM];exact hI.v1 x
  ·intro x;rw[e2,e4,inM];exact hI.v2 x
  ·rw[e5];exact hI.v3
  ·rw[e5];exact hI.r1
  ·rw[e5];exact hI.r2
  ·rw[e5];exact hI.r3
  ·intro x;rw[e4,e2];intro hx;by_cases hq:x=r
   ·subst hq;rcases e9 with h9 | ⟨h9,h10⟩
    ·rw[h9];exact hI.z x hx
    ·rw[h10];obtain⟨z,z1,z2,z3⟩:=hI.z y h9;exact⟨z,z1,z2,.step x y z hyr z3⟩
   ·rw[e6 x hq];exact hI.z x hx
 have hdone:∀ x,x≠r->TDone W t' x->TDone W (zkP t' r y) x:=by
  intro x hq hd;refine⟨by rw[e6 x hq,e2];exact hd.lt,λz hz=>?_⟩;rw[e2,e4,e6 x hq];exact hd.to z hz
 obtain⟨rest,ho,hrest⟩:=h.opn;obtain⟨new,hn1,hn2⟩:=hp.opn;obtain⟨more,hm⟩:=h.made;obtain⟨more',hm'⟩:=hp.made;have old0:∀ x,0<s.met x->0<t.met x:=λx hx=>by rw[(h.old x hx).1];exact hx
 refine⟨inv,⟨rest ++ new,?_,?_⟩,⟨more ++ more',?_⟩,?_,h.m0,?_,?_,?_,?_,?_⟩
 ·rw[e3,hn1,ho];simp
 ·intro x hx;rcases List.mem_append.1 hx with hx | hx
  ·exact hrest x hx
  ·have:=hn2 x hx
   cases hz:s.met x with
   | zero=>rfl
   | succ m=>have:=old0 x (by omega);omega
 ·rw[e5,hm',hm];simp
 ·intro x hx;have hxr:x≠r:=λhe=>by subst he;have:=h.m0;omega
  obtain⟨a1,a2,a3⟩:=h.old x hx;obtain⟨b1,b2,b3⟩:=hp.old x (old0 x hx);rw[e2,e6 x hxr,e4];exact⟨b1.trans a1,b2.trans a2,b3.trans a3⟩
 ·rw[e2,q1];exact h.mr
 ·rw[e4];exact hir'
 ·intro x h0 h1;rw[e2] at h1;by_cases hx:0<t.met x
  ·exact h.rch x h0 hx
  ·exact .step r y x hyr (hp.rch x (by omega) h1)
 ·intro x hq h0 h1;rw[e4] at h1;by_cases hx:0<t.met x
  ·obtain⟨a1,a2,a3⟩:=hp.old x hx;rw[a3] at h1;obtain⟨d,dl⟩:=h.new x hq h0 h1;refine⟨hdone x hq ⟨by rw[a1,a2];exact d.lt,λz hz=>?_⟩,?_⟩
   ·obtain⟨c1,c2⟩:=d.to z hz;obtain⟨b1,b2,b3⟩:=hp.old z c1;rw[b1,b3,a2];exact⟨c1,c2⟩
   ·rw[e6 x hq,a2];omega
  ·obtain⟨d,dl,dy⟩:=hp.new x (by omega) h1;refine⟨hdone x hq d,?_⟩;have:=e8 dy;rw[e6 x hq];omega
 ·intro j z hj hz;rw[e2,e4];by_cases hjk:j<k
  ·obtain⟨c1,c2⟩:=h.to j z hjk hz;obtain⟨b1,b2,b3⟩:=hp.old z c1;rw[b1,b3];refine⟨c1,?_⟩;rcases c2 with c2 | c2
   ·exact .inl c2
   ·right;omega
  ·have:j=k:=by omega
   subst this;rw[hk] at hz;cases hz;refine⟨hp.at_,?_⟩
   cases ho:t'.isO y with
   | false=>exact .inl rfl
   | true=>right;have:=e8 ho;have:=(hI.o3 y ho).2;omega
theorem znq{s t:Ts}(h:TLoop W n s r (W r).length t)(hl:t.low r≠t.met r):TPost W n s r t:=by
 obtain⟨rest,ho,hrest⟩:=h.opn;have hle:=(h.inv.o3 r h.ir);refine⟨h.inv,⟨r::rest,ho,?_⟩,h.made,h.old,hle.1,h.rch,?_⟩
 ·intro x hx;rcases List.mem_cons.1 hx with rfl | hx
  ·exact h.m0
  ·exact hrest x hx
 ·intro x h0 h1;by_cases hq:x=r
  ·subst hq;refine⟨⟨by omega,λy hy=>?_⟩,Nat.le_refl _,h.ir⟩;obtain⟨j,hj,rfl⟩:=List.getElem_of_mem hy;exact h.to j _ hj (List.getElem?_eq_getElem hj)
  ·obtain⟨d,dl⟩:=h.new x hq h0 h1;exact⟨d,dl,h.ir⟩
def zgD(t:Ts)(p:Nat):Ts:={ t with opn:=t.opn.take p,isO:=λx=>t.isO x && !(t.opn.drop p).contains x,made:=t.made ++ [t.opn.drop p] }
theorem zk0{s t:Ts}(hs:TInv W n s)(h:TLoop W n s r (W r).length t)(hl:t.low r=t.met r):TPost W n s r (zgD t s.opn.length):=by
 obtain⟨rest,ho,hrest⟩:=h.opn;have hI:=h.inv;have htk:t.opn.take s.opn.length=s.opn:=by rw[ho];simp
 have hdr:t.opn.drop s.opn.length=r::rest:=by rw[ho];simp
 have hmem:∀ x,x ∈ r::rest->t.isO x=true/\s.met x=0:=λx hx=>by
  refine⟨(hI.o1 x).1 (by rw[ho];exact List.mem_append_right _ hx),?_⟩;rcases List.mem_cons.1 hx with rfl | hx
  ·exact h.m0
  ·exact hrest x hx
 have hnd:∀ x,x ∈ s.opn->x ∉ r::rest:=by
  intro x hx hx';have h2:=hI.o2;rw[ho] at h2;have:=(List.pairwise_append.1 h2).2.2 x hx x hx';omega
 -- who is open and was not met before r stands in the ring
 have hge:∀ x,t.isO x=true->t.met r<=t.met x->x ∈ r::rest:=by
  intro x hx hm;have hx':=(hI.o1 x).2 hx;rw[ho] at hx';rcases List.mem_append.1 hx' with hx' | hx'
  ·have h2:=hI.o2;rw[ho] at h2;have:=(List.pairwise_append.1 h2).2.2 x hx' r (by simp);omega
  ·exact hx'
 have hlo:∀ x,x ∈ r::rest->t.met r<=t.low x:=by
  intro x hx;by_cases hq:x=r
  ·subst hq;omega
  ·have:=hmem x hx;have:=(h.new x hq this.2 this.1).2;omega
 have hfrom:∀ x,x ∈ r::rest->Rh W r x:=λx hx=>by
  have:=hmem x hx;exact h.rch x this.2 (hI.o3 x this.1).1
 have hback:∀ m x,t.met x<=m->x ∈ r::rest->Rh W x r:=by
  intro m
  induction m with
  | zero=>intro x hm hx;have:=(hI.o3 x (hmem x hx).1).1;omega
  | succ m ih =>
    intro x hm hx;by_cases hq:x=r
    ·subst hq;exact .refl x
    ·have hx':=hmem x hx;obtain⟨z,z1,z2,z3⟩:=hI.z x hx'.1;have hlt:=(h.new x hq hx'.2 hx'.1).1.lt;have:=hlo x hx;exact z3.trans (ih z (by omega) (hge z z1 (by omega)))
 have hisO:∀ x,(zgD t s.opn.length).isO x=true↔t.isO x=true/\x ∉ r::rest:=by
  intro x;show (t.isO x && !(t.opn.drop s.opn.length).contains x)=true↔_;rw[hdr];simp
 have hmade:(zgD t s.opn.length).made=t.made ++ [r::rest]:=by
  show t.made ++ [t.opn.drop s.opn.length]=_;rw[hdr]
 have hget:∀ (i:Nat) (a:List Nat),(t.made ++ [r::rest])[i]? = some a->(t.made[i]? = some a)\/(i=t.made.length/\a=r::rest):=by
  intro i a hi;by_cases hlt:i<t.made.length
  ·rw[List.getElem?_append_left hlt] at hi;exact .inl hi
  ·have hlt2:i<(t.made ++ [r::rest]).length:=by
    rcases Nat.lt_or_ge i (t.made ++ [r::rest]).length with h | h
    ·exact h
    ·rw[List.getElem?_eq_none h] at hi;cases hi
   simp at hlt2;have:i=t.made.length:=by omega
   subst this;simp at hi;exact .inr ⟨rfl,hi.symm⟩
 have hkeep:∀ (i:Nat) (a:List Nat),t.made[i]? = some a->(t.made ++ [r::rest])[i]? = some a:=by
  intro i a hi;have:i<t.made.length:=(List.getElem?_eq_some_iff.1 hi).1;rw[List.getElem?_append_left this];exact hi
 have hlast:(t.made ++ [r::rest])[t.made.length]? = some (r::rest):=by simp
 have inM:∀ x,zdQ (zgD t s.opn.length) x↔zdQ t x\/x ∈ r::rest:=by
  intro x;unfold zdQ;rw[hmade];constructor
  ·rintro⟨i,a,h1,h2⟩;rcases hget i a h1 with h1 | ⟨_,rfl⟩
   ·exact .inl ⟨i,a,h1,h2⟩
   ·exact .inr h2
  ·rintro(⟨i,a,h1,h2⟩ | h2)
   ·exact⟨i,a,hkeep i a h1,h2⟩
   ·exact⟨_,_,hlast,h2⟩
 have inv:TInv W n (zgD t s.opn.length):=by
  refine⟨?_,?_,?_,?_,?_,?_,?_,?_,?_,?_,?_,?_⟩
  ·intro x;rw[hisO];show x ∈ t.opn.take s.opn.length↔_;rw[htk,<- hI.o1 x,ho];constructor
   ·intro hx;exact⟨List.mem_append_left _ hx,hnd x hx⟩
   ·rintro⟨h1,h2⟩;rcases List.mem_append.1 h1 with h1 | h1
    ·exact h1
    ·exact absurd h1 h2
  ·show (t.opn.take s.opn.length).Pairwise (λx y=>t.met x<t.met y);exact hI.o2.sublist (List.take_sublist _ _)
  ·intro x hx;exact hI.o3 x ((hisO x).1 hx).1
  ·exact hI.o4
  ·exact hI.o5
  ·intro x hx;rw[inM];by_cases hr:x ∈ r::rest
   ·exact .inr (.inr hr)
   ·rcases hI.v1 x hx with h1 | h1
    ·exact .inl ((hisO x).2 ⟨h1,hr⟩)
    ·exact .inr (.inl h1)
  ·intro x hx;have hb:∀ b:Bool,¬ b=true->b=false:=by decide
   rcases(inM x).1 hx with h1 | h1
   ·have:=hI.v2 x h1;refine⟨this.1,hb _ λhc=>?_⟩;have:=((hisO x).1 hc).1;simp_all
   ·exact⟨(hI.o3 x (hmem x h1).1).1,hb _ λhc=>((hisO x).1 hc).2 h1⟩
  ·rw[hmade];intro i j a b x hi hj ha hb;rcases hget i a hi with h1 | ⟨h1,rfl⟩ <;> rcases hget j b hj with h2 | ⟨h2,rfl⟩
   ·exact hI.v3 i j a b x h1 h2 ha hb
   ·have:=hI.v2 x ⟨i,a,h1,ha⟩;have:=(hmem x hb).1;simp_all
   ·have:=hI.v2 x ⟨j,b,h2,hb⟩;have:=(hmem x ha).1;simp_all
   ·omega
  ·rw[hmade];intro i a hi;rcases hget i a hi with h1 | ⟨h1,rfl⟩
   ·exact hI.r1 i a h1
   ·exact⟨by simp,λx y hx hy=>(hback _ x (Nat.le_refl _) hx).trans (hfrom y hy)⟩
  · rw [hmade];intro i a x y hi hx hy;rcases hget i a hi with h1 | ⟨h1,rfl⟩
    · obtain⟨j,b,hj,hb,hyb⟩:=hI.r2 i a x y h1 hx hy;exact⟨j,b,hj,hkeep j b hb,hyb⟩
    · have hto:0<t.met y/\(t.isO y=false\/t.low x<=t.met y):=by
        by_cases hq:x=r
        · subst hq;obtain⟨j,hj,rfl⟩:=List.getElem_of_mem hy;exact h.to j _ hj (List.getElem?_eq_getElem hj)
        · have:=hmem x hx;exact(h.new x hq this.2 this.1).1.to y hy
      by_cases hop:t.isO y=true
      · have : t.low x ≤ t.met y := by rcases hto.2 with h2 | h2; · simp_all
                                       · exact h2
        have:=hlo x hx;exact⟨i,_,Nat.le_refl _,by rw[h1];exact hlast,hge y hop (by omega)⟩
      · rcases hI.v1 y hto.1 with h2 | ⟨j,b,h2,h3⟩
        · exact absurd h2 hop
        · have:j<t.made.length:=(List.getElem?_eq_some_iff.1 h2).1;exact⟨j,b,by omega,hkeep j b h2,h3⟩
  · rw[hmade];intro i a hi;rcases hget i a hi with h1 | ⟨h1,rfl⟩
    · exact hI.r3 i a h1
    · have h2:=hI.o2;rw[ho] at h2;exact(List.pairwise_append.1 h2).2.1.imp (λhab he=>by subst he;omega)
  · intro x hx;obtain⟨h1,h2⟩:=(hisO x).1 hx;obtain⟨y,y1,y2,y3⟩:=hI.z x h1;refine⟨y,(hisO y).2 ⟨y1,λhy=>?_⟩,y2,y3⟩;have hxm:t.met x<t.met r:=by
      rcases Nat.lt_or_ge (t.met x) (t.met r) with h | h
      · exact h
      · exact absurd (hge x h1 h) h2
    have:=(hI.o3 x h1).2;have h2:=hI.o2;rw[ho] at h2;have h3:=(List.pairwise_append.1 h2).2.1;rcases List.mem_cons.1 hy with rfl | hy
    · omega
    · have:=(List.pairwise_cons.1 h3).1 y hy;omega
 obtain⟨more,hm⟩:=h.made;refine⟨inv,⟨[],?_,by simp⟩,⟨more ++ [r::rest],?_⟩,?_,(hI.o3 r h.ir).1,h.rch,?_⟩
 ·show t.opn.take s.opn.length=_;rw[htk];simp
 ·rw[hmade,hm];simp
 ·intro x hx;obtain⟨a1,a2,a3⟩:=h.old x hx;refine⟨a1,a2,?_⟩;rw[<- a3];have hnr:x ∉ r::rest:=λhc=>by have:=(hmem x hc).2;omega
  show (t.isO x && !(t.opn.drop s.opn.length).contains x)=_;rw[hdr];simp at hnr;simp[hnr]
 ·intro x h0 h1;obtain⟨h1,h2⟩:=(hisO x).1 h1;exfalso;have hx':=(hI.o1 x).2 h1;rw[ho] at hx';rcases List.mem_append.1 hx' with hx' | hx'
  ·have:=(hs.o3 x ((hs.o1 x).1 hx')).1;omega
  ·exact h2 hx'
structure Rings (W:Nat->List Nat) (n:Nat) (made:List (List Nat)):Prop where
 cov:∀ x,x<n->∃ (i:Nat) (a:List Nat),made[i]? = some a/\x ∈ a
 lt:∀ (i:Nat) (a:List Nat) (x:Nat),made[i]? = some a->x ∈ a->x<n
 uniq:∀ (i j:Nat) (a b:List Nat) (x:Nat),made[i]? = some a->made[j]? = some b->x ∈ a->x ∈ b->i=j
 ne:∀ (i:Nat) (a:List Nat),made[i]? = some a->a≠[]
 mu:∀ (i:Nat) (a:List Nat) (x y:Nat),made[i]? = some a->x ∈ a->y ∈ a->Rh W x y
 to:∀ (i:Nat) (a:List Nat) (x y:Nat),made[i]? = some a->x ∈ a->y ∈ W x->∃ (j:Nat) (b:List Nat),j<=i/\made[j]? = some b/\y ∈ b
 nd:∀ (i:Nat) (a:List Nat),made[i]? = some a->a.Nodup
theorem zoR{s:Ts}{t:Ts}(h:TPost W n s r t)(hs:s.opn=[]):t.opn=[]:=by
 cases ho:t.opn with
 | nil=>rfl
 | cons x rest =>
   exfalso;obtain⟨new,hn,hm⟩:=h.opn;rw[hs,ho,List.nil_append] at hn;have hx0:s.met x=0:=hm x (by rw[<- hn];simp);have hxo:t.isO x=true:=(h.inv.o1 x).1 (by rw[ho];simp);obtain⟨d,-,-⟩:=h.new x hx0 hxo;obtain⟨y,y1,y2,-⟩:=h.inv.z x hxo;have hy:=(h.inv.o1 y).2 y1;rw[ho] at hy;have h2:=h.inv.o2;rw[ho] at h2;have:=d.lt;rcases List.mem_cons.1 hy with rfl | hy
   ·omega
   ·have:=(List.pairwise_cons.1 h2).1 y hy;omega
structure TTop (W:Nat->List Nat) (n:Nat) (k:Nat) (s:Ts):Prop where
 inv:TInv W n s
 opn:s.opn=[]
 met:∀ x,x<k->0<s.met x
def ts0:Ts:=⟨0,λ_=>0,λ_=>0,[],λ_=>false,[]⟩
theorem znn(W:Nat->List Nat)(n:Nat):TTop W n 0 ts0:=by
 have hm:∀ x,¬ zdQ ts0 x:=λx ⟨i,a,h,_⟩=>by simp[ts0] at h
 refine⟨⟨λx=>by simp[ts0],by simp[ts0],λx h=>by simp[ts0] at h,λx=>Nat.le_refl _,λx h=>by simp[ts0] at h,λx h=>by simp[ts0] at h,λx h=>absurd h (hm x),λi j a b x h=>by simp[ts0] at h,λi a h=>by simp[ts0] at h,λi a x y h=>by simp[ts0] at h,λi a h=>by simp[ts0] at h,λx h=>by simp[ts0] at h⟩,rfl,λx h=>by omega⟩
theorem zoM{s t:Ts}(h:TTop W n k s)(hp:TPost W n s k t):TTop W n (k+1) t:=by
 refine⟨hp.inv,zoR hp h.opn,λx hx=>?_⟩;by_cases e:x=k
 ·subst e;exact hp.at_
 ·have:=h.met x (by omega);rw[(hp.old x this).1];exact this
theorem zrU{s:Ts}(h:TTop W n n s):Rings W n s.made:=by
 refine⟨λx hx=>?_,λi a x hi hx=>?_,h.inv.v3,λi a hi=>(h.inv.r1 i a hi).1,λi a x y hi=>(h.inv.r1 i a hi).2 x y,h.inv.r2,h.inv.r3⟩
 ·rcases h.inv.v1 x (h.met x hx) with h1 | h1
  ·have:=(h.inv.o1 x).2 h1;rw[h.opn] at this
   cases this
  ·exact h1
 ·exact h.inv.o5 x (h.inv.v2 x ⟨i,a,hi,hx⟩).1
def Uw(W:Nat->List Nat)(S:Nat->Int->Bool)(r:Nat)(m:Int):Prop:=∃ y,Rh W r y/\S y m=true
theorem zoC{m:Int}(h:Rh W r x)(k:Uw W S x m):Uw W S r m:=by
 obtain⟨y,h1,h2⟩:=k;exact⟨y,h.trans h1,h2⟩
structure GaI (W:Nat->List Nat) (S:Nat->Int->Bool) (made:List (List Nat)) (i:Nat) (rep:Nat->Nat) (C:Nat->Int->Bool):Prop where
 old:∀ (j:Nat) (a:List Nat) (x:Nat),j<i->made[j]? = some a->x ∈ a->rep x ∈ a/\∀ m,C (rep x) m=true↔Uw W S x m
 new:∀ (j:Nat) (a:List Nat) (x:Nat),i<=j->made[j]? = some a->x ∈ a->rep x=x/\C x=S x
theorem ztD(W:Nat->List Nat)(S:Nat->Int->Bool)(made:List (List Nat)):GaI W S made 0 id S:=⟨λj a x h=>by omega,λj a x _ _ _=>⟨rfl,rfl⟩⟩
def upC(C:Nat->Int->Bool)(h:Nat)(f:Int->Bool):Nat->Int->Bool:=λr=>if r=h then f else C r
theorem zbc(C:Nat->Int->Bool)(h:Nat)(f:Int->Bool):upC C h f h=f:=by simp[upC]
theorem zcm{f:Int->Bool}(e:r≠h):upC C h f r=C r:=by simp[upC,e]
theorem zuq(C:Nat->Int->Bool)(h:Nat)(f g:Int->Bool):upC (upC C h f) h g=upC C h g:=by
 funext r;by_cases e:r=h
 ·subst e;rw[zbc,zbc]
 ·rw[zcm e,zcm e,zcm e]
theorem zur(C:Nat->Int->Bool)(h:Nat):upC C h (C h)=C:=by
 funext r;by_cases e:r=h
 ·subst e;rw[zbc]
 ·rw[zcm e]
structure GaR (W:Nat->List Nat) (S:Nat->Int->Bool) (made:List (List Nat)) (i h:Nat) (X:Nat->Prop) (Y:Nat->Nat->Prop) (acc:Int->Bool):Prop where
 snd:∀ m,acc m=true->Uw W S h m
 hd:∀ m,S h m=true->acc m=true
 own:∀ x m,X x->S x m=true->acc m=true
 to:∀ (x y j:Nat) (b:List Nat) (m:Int),Y x y->j<i->made[j]? = some b->y ∈ b->Uw W S y m->acc m=true
def orF(f g:Int->Bool):Int->Bool:=λm=>f m || g m
theorem zsw(f:Int->Bool):orF f f=f:=by funext m;simp[orF]
theorem zqp(W:Nat->List Nat)(S:Nat->Int->Bool)(made:List (List Nat))(i h:Nat):GaR W S made i h (· = h) (λ_ _=>False) (S h) :=
 ⟨λm hm=>⟨h,.refl h,hm⟩,λm hm=>hm,λx m hx hm=>by subst hx;exact hm,λx y j b m h=>h.elim⟩
theorem zwo{made:List (List Nat)}(hR:Rings W n made)(hI:GaI W S made i rep C)(ha:made[i]? = some a)(hh:h ∈ a)(hx:x ∈ a)(hr:GaR W S made i h X Y acc) :
 GaR W S made i h (λz=>X z\/z=x) Y (orF acc (upC C h acc (rep x))):=by
 obtain⟨h1,h2⟩:=hI.new i a x (Nat.le_refl _) ha hx;rw[h1];refine⟨λm hm=>?_,λm hm=>?_,λz m hz hm=>?_,λz y j b m hy hj hb hyb hu=>?_⟩
 ·unfold orF at hm;rcases Bool.or_eq_true_iff.1 hm with h3 | h3
  ·exact hr.snd m h3
  ·by_cases e:x=h
   ·subst e;rw[zbc] at h3;exact hr.snd m h3
   ·rw[zcm e,h2] at h3;exact⟨x,hR.mu i a h x ha hh hx,h3⟩
 ·unfold orF;rw[hr.hd m hm];rfl
 ·unfold orF;rcases hz with hz | rfl
  ·rw[hr.own z m hz hm];rfl
  ·by_cases e:z=h
   ·subst e;rw[hr.hd m hm];rfl
   ·rw[zcm e,h2,hm];simp
 ·unfold orF;rw[hr.to z y j b m hy hj hb hyb hu];rfl
theorem gar_to{made:List (List Nat)}(hR:Rings W n made)(hI:GaI W S made i rep C)(ha:made[i]? = some a)(hh:h ∈ a)(hx:x ∈ a)(hy:y ∈ W x)(hr:GaR W S made i h X Y acc) :
 GaR W S made i h X (λz u=>Y z u\/z=x/\u=y) (orF acc (upC C h acc (rep y))):=by
 obtain⟨j,b,hj,hb,hyb⟩:=hR.to i a x y ha hx hy;have hxy:Rh W h y:=(hR.mu i a h x ha hh hx).trans (Rh.one hy);refine⟨λm hm=>?_,λm hm=>?_,λz m hz hm=>?_,λz u k c m hzu hk hc huc hu=>?_⟩
 ·unfold orF at hm;rcases Bool.or_eq_true_iff.1 hm with h3 | h3
  ·exact hr.snd m h3
  ·by_cases e:rep y=h
   ·rw[e,zbc] at h3;exact hr.snd m h3
   ·rw[zcm e] at h3;by_cases hji:j<i
    ·exact zoC hxy (((hI.old j b y hji hb hyb).2 m).1 h3)
    ·have:j=i:=by omega
     subst this;obtain⟨h1,h2⟩:=hI.new j b y (Nat.le_refl _) hb hyb;rw[h1,h2] at h3;exact⟨y,hxy,h3⟩
 ·unfold orF;rw[hr.hd m hm];rfl
 ·unfold orF;rw[hr.own z m hz hm];rfl
 ·unfold orF;rcases hzu with hzu | ⟨rfl,rfl⟩
  ·rw[hr.to z u k c m hzu hk hc huc hu];rfl
  ·obtain⟨h1,h2⟩:=hI.old k c u hk hc huc;have e:rep u≠h:=λe=>by
    have:=hR.uniq k i c a h hc ha (e▸h1) hh;omega
   rw[zcm e,(h2 m).2 hu];simp
theorem zwp{made:List (List Nat)}(hR:Rings W n made)(hI:GaI W S made i rep C)(ha:made[i]? = some a)(hh:h ∈ a)(hr:GaR W S made i h X Y acc)(hX:∀ x,x ∈ a->X x)(hY:∀ x y,x ∈ a->y ∈ W x->Y x y) :
 GaI W S made (i+1) (λr=>if r ∈ a then h else rep r) (upC C h acc):=by
 have full:∀ x z m,Rh W x z->x ∈ a->S z m=true->acc m=true:=by
  intro x z m hxz
  induction hxz with
  | refl x=>intro hx hm;exact hr.own x m (hX x hx) hm
  | step x y z hy hyz ih =>
    intro hx hm;obtain⟨j,b,hj,hb,hyb⟩:=hR.to i a x y ha hx hy;by_cases hji:j<i
    ·exact hr.to x y j b m (hY x y hx hy) hji hb hyb ⟨z,hyz,hm⟩
    ·have:j=i:=by omega
     subst this;rw[ha] at hb
     cases hb
     exact ih hyb hm
 refine⟨λj b x hj hb hx=>?_,λj b x hj hb hx=>?_⟩
 ·by_cases hji:j<i
  ·have hxa:x ∉ a:=λe=>by have:=hR.uniq j i b a x hb ha hx e;omega
   obtain⟨h1,h2⟩:=hI.old j b x hji hb hx;rw[if_neg hxa];refine⟨h1,λm=>?_⟩;rw[zcm (λe=>by have:=hR.uniq j i b a h hb ha (e▸h1) hh;omega)];exact h2 m
  ·have:j=i:=by omega
   subst this;rw[ha] at hb
   cases hb
   rw[if_pos hx];refine⟨hh,λm=>?_⟩;rw[zbc];refine⟨λhm=>zoC (hR.mu j a x h ha hx hh) (hr.snd m hm),fun⟨z,h1,h2⟩=>full x z m h1 hx h2⟩
 ·have hxa:x ∉ a:=λe=>by have:=hR.uniq j i b a x hb ha hx e;omega
  obtain⟨h1,h2⟩:=hI.new j b x (by omega) hb hx;rw[if_neg hxa];have e2:x≠h:=λe=>hxa (by rw[e];exact hh);exact⟨h1,by rw[zcm e2];exact h2⟩
theorem ga_end{made:List (List Nat)}(hR:Rings W n made)(hI:GaI W S made made.length rep C)(x:Nat)(hx:x<n)(m:Int):C (rep x) m=true↔Uw W S x m:=by
 obtain⟨i,a,h1,h2⟩:=hR.cov x hx;exact(hI.old i a x (List.getElem?_eq_some_iff.1 h1).1 h1 h2).2 m
theorem zpk{made:List (List Nat)}(hR:Rings W n made)(ha:made[i]? = some a)(hx:x ∈ a):(∃ y,y ∈ W x/\Rh W y x)↔(1<a.length\/x ∈ W x):=by
 have back:∀ y z,Rh W y z->z ∈ a->(∃ (j:Nat) (b:List Nat),j<=i/\made[j]? = some b/\y ∈ b)->y ∈ a:=by
  intro y z h
  induction h with
  | refl y=>intro hz _;exact hz
  | step y u z hu huz ih =>
    intro hz ⟨j,b,hj,hb,hyb⟩;obtain⟨k,c,hk,hc,huc⟩:=hR.to j b y u hb hyb hu;have hua:=ih hz ⟨k,c,by omega,hc,huc⟩;have:k=i:=hR.uniq k i c a u hc ha huc hua;have:j=i:=by omega
    subst this;rw[ha] at hb
    cases hb
    exact hyb
 constructor
 ·rintro⟨y,hy,hyx⟩;have hya:=back y x hyx hx (hR.to i a x y ha hx hy);by_cases e:y=x
  ·subst e;exact .inr hy
  ·left;rcases a with _ | ⟨p,_ | ⟨q,a⟩⟩
   ·cases hx
   ·simp at hx hya;omega
   ·simp
 · rintro (hl | hs)
   · have hnd:=hR.nd i a ha;have hy:∃ y,y ∈ a/\y≠x:=by
       rcases a with _ | ⟨p,_ | ⟨q,a⟩⟩
       · simp at hl
       · simp at hl
       · by_cases e:p=x
         · refine⟨q,by simp,λe2=>?_⟩;subst e;subst e2;simp at hnd
         · exact⟨p,by simp,e⟩
     obtain⟨y,hya,hyx⟩:=hy;have h1:=hR.mu i a x y ha hx hya;have h2:=hR.mu i a y x ha hya hx
     cases h1 with
     | refl=>exact absurd rfl hyx
     | step _ z _ hz hzy=>exact⟨z,hz,hzy.trans h2⟩
   · exact⟨x,hs,.refl x⟩
def upZ(f:Nat->Int)(i:Nat)(v:Int):Nat->Int:=λj=>if j=i then v else f j
theorem zbL(f:Nat->Int)(i:Nat)(v:Int):upZ f i v i=v:=by simp[upZ]
theorem zf0{f:Nat->Int}{v:Int}(h:j≠i):upZ f i v j=f j:=by simp[upZ,h]
def dcM:List Nat->(Nat->Int)->(Nat->Int)
 | [],m=>m
 | p::L,m=>dcM L (upZ m p (m p - 1))
def dcR:List Nat->(Nat->Int)->List Nat
 | [],_=>[]
 | p::L,m=>(if m p - 1=0 then[p] else[]) ++ dcR L (upZ m p (m p - 1))
theorem zig:∀ (a b:List Nat) (m:Nat->Int),dcM (a ++ b) m=dcM b (dcM a m)
 | [],_,_=>rfl
 | p::a,b,m=>by show dcM (a ++ b) _=_;rw[zig a b];rfl
theorem zif:∀ (a b:List Nat) (m:Nat->Int),dcR (a ++ b) m=dcR a m ++ dcR b (dcM a m)
 | [],_,_=>rfl
 | p::a,b,m=>by
   show (if m p - 1=0 then[p] else[]) ++ dcR (a ++ b) _=((if m p - 1=0 then[p] else[]) ++ dcR a _) ++ _;rw[zif a b,List.append_assoc];rfl
theorem zmV:∀ (L:List Nat) (m:Nat->Int) (q:Nat),dcM L m q=m q - (L.count q:Nat)
 | [],m,q=>by simp[dcM]
 | p::L,m,q=>by
   show dcM L (upZ m p (m p - 1)) q=_;rw[zmV L,List.count_cons];by_cases h:q=p
   ·subst h;rw[zbL];simp;omega
   ·rw[zf0 h];have:(p == q)=false:=by simp;exact λh'=>h h'.symm
    rw[this];simp
theorem zfY:∀ (L:List Nat) (m:Nat->Int) (q:Nat),q ∈ dcR L m↔0<m q/\m q<=(L.count q:Nat)
 | [],m,q=>by simp[dcR]
 | p::L,m,q=>by
   show q ∈ (if m p - 1=0 then[p] else[]) ++ dcR L (upZ m p (m p - 1))↔_;rw[List.mem_append,zfY L,List.count_cons];by_cases h:q=p
   ·subst h;rw[zbL];simp;omega
   ·rw[zf0 h];have:(p == q)=false:=by simp;exact λh'=>h h'.symm
    rw[this]
    split <;> simp[h]
theorem zfq:∀ (L:List Nat) (m:Nat->Int),(dcR L m).Nodup
 | [],_=>by simp[dcR]
 | p::L,m=>by
   show ((if m p - 1=0 then[p] else[]) ++ dcR L (upZ m p (m p - 1))).Nodup
   split
   ·rename_i h;refine List.nodup_append.2 ⟨by simp,zfq L _,?_⟩;intro a ha b hb he;simp at ha;subst he;subst ha;have:=(zfY L _ _).1 hb;rw[zbL] at this;omega
   ·exact zfq L _
def chL(lf:Nat->Nat):List Nat->(Nat->Int)->(Nat->Int)
 | [],c=>c
 | k::ks,c=>chL lf ks (if c (lf k)<0 then upZ c (lf k) k else c)
def fnL(lf:Nat->Nat):List Nat->(Nat->Int)->List Nat
 | [],_=>[]
 | k::ks,c=>(if c (lf k)<0 then[lf k] else[]) ++ fnL lf ks (if c (lf k)<0 then upZ c (lf k) k else c)
theorem zii(lf:Nat->Nat):∀ (a b:List Nat) (c:Nat->Int),chL lf (a ++ b) c=chL lf b (chL lf a c)
 | [],_,_=>rfl
 | k::a,b,c=>by show chL lf (a ++ b) _=_;rw[zii lf a b];rfl
theorem zh8(lf:Nat->Nat):∀ (a b:List Nat) (c:Nat->Int),fnL lf (a ++ b) c=fnL lf a c ++ fnL lf b (chL lf a c)
 | [],_,_=>rfl
 | k::a,b,c=>by
   show (if c (lf k)<0 then[lf k] else[]) ++ fnL lf (a ++ b) _=((if c (lf k)<0 then[lf k] else[]) ++ fnL lf a _) ++ _;rw[zh8 lf a b,List.append_assoc];rfl
theorem zcR(lf:Nat->Nat):∀ (l:List Nat) (c:Nat->Int) (r:Nat),0<=c r->chL lf l c r=c r
 | [],_,_,_=>rfl
 | k::l,c,r,h=>by
   show chL lf l (if c (lf k)<0 then upZ c (lf k) k else c) r=_
   split
   ·rename_i h';have hne:r≠lf k:=λhe=>by subst he;omega
    rw[zcR lf l _ r (by rw[zf0 hne];exact h),zf0 hne]
   ·exact zcR lf l c r h
theorem zlO(lf:Nat->Nat):∀ (l:List Nat) (c:Nat->Int) (k:Nat),k ∈ l->0<=chL lf l c (lf k)
 | [],_,_,h=>by simp at h
 | j::l,c,k,h=>by
   show 0<=chL lf l (if c (lf j)<0 then upZ c (lf j) j else c) (lf k);rcases List.mem_cons.1 h with rfl | h
   ·split
    ·rw[zcR lf l _ _ (by rw[zbL];omega),zbL];omega
    ·rename_i h';rw[zcR lf l _ _ (by omega)];omega
   ·exact zlO lf l _ k h
theorem zhl(lf:Nat->Nat):∀ (l:List Nat) (c:Nat->Int) (r:Nat),c r<0->(0<=chL lf l c r↔r ∈ fnL lf l c)
 | [],c,r,h=>by simp[chL,fnL];omega
 | k::l,c,r,h=>by
   show 0<=chL lf l (if c (lf k)<0 then upZ c (lf k) k else c) r↔r ∈ (if c (lf k)<0 then[lf k] else[]) ++ fnL lf l (if c (lf k)<0 then upZ c (lf k) k else c);by_cases hk:c (lf k)<0
   ·rw[if_pos hk,if_pos hk];by_cases hr:r=lf k
    ·subst hr;simp;rw[zcR lf l _ _ (by rw[zbL];omega),zbL];omega
    ·rw[zhl lf l _ r (by rw[zf0 hr];exact h)];simp[hr]
   ·rw[if_neg hk,if_neg hk,zhl lf l c r h];simp
theorem zdT(lf:Nat->Nat):∀ (l:List Nat) (c:Nat->Int) (r:Nat),r ∈ fnL lf l c->c r<0/\∃ k,k ∈ l/\lf k=r
 | [],_,_,h=>by simp[fnL] at h
 | k::l,c,r,h=>by
   have h:r ∈ (if c (lf k)<0 then[lf k] else[]) ++ fnL lf l (if c (lf k)<0 then upZ c (lf k) k else c):=h;by_cases hk:c (lf k)<0
   ·rw[if_pos hk,if_pos hk] at h;rcases List.mem_append.1 h with h | h
    ·simp at h;subst h;exact⟨hk,k,by simp,rfl⟩
    ·obtain⟨h1,j,h2,h3⟩:=zdT lf l _ r h;refine⟨?_,j,by simp[h2],h3⟩;by_cases hr:r=lf k
     ·subst hr;rw[zbL] at h1;omega
     ·rwa [zf0 hr] at h1
   ·rw[if_neg hk,if_neg hk] at h;simp at h;obtain⟨h1,j,h2,h3⟩:=zdT lf l _ r h;exact⟨h1,j,by simp[h2],h3⟩
theorem zdS(lf:Nat->Nat):∀ (l:List Nat) (c:Nat->Int),(fnL lf l c).Nodup
 | [],_=>by simp[fnL]
 | k::l,c=>by
   show ((if c (lf k)<0 then[lf k] else[]) ++ fnL lf l (if c (lf k)<0 then upZ c (lf k) k else c)).Nodup;by_cases hk:c (lf k)<0
   ·rw[if_pos hk,if_pos hk];refine List.nodup_append.2 ⟨by simp,zdS lf l _,?_⟩;intro a ha b hb he;simp at ha;subst he;subst ha;have:=(zdT lf l _ _ hb).1;rw[zbL] at this;omega
   ·rw[if_neg hk,if_neg hk];simpa using zdS lf l c
theorem zgx(lf:Nat->Nat)(P Q:Nat->Bool):∀ (l:List Nat) (c:Nat->Int),(∀ k,k ∈ l->P k=true->Q k=true\/0<=c (lf k))->(∀ k,k ∈ l->Q k=true->P k=true)->chL lf (l.filter P) c=chL lf (l.filter Q) c
 | [],_,_,_=>rfl
 | k::l,c,h1,h2=>by
   have up:∀ (d:Nat->Int),(∀ r,0<=c r->0<=d r)->∀ j,j ∈ l->P j=true->Q j=true\/0<=d (lf j):=λd hd j hj hp=>by
    rcases h1 j (by simp[hj]) hp with h | h
    ·exact .inl h
    ·exact .inr (hd _ h)
   have h2':∀ j,j ∈ l->Q j=true->P j=true:=λj hj=>h2 j (by simp[hj]);by_cases hp:P k=true
   ·by_cases hq:Q k=true
    ·rw[List.filter_cons_of_pos hp,List.filter_cons_of_pos hq];show chL lf (l.filter P) _=chL lf (l.filter Q) _;refine zgx lf P Q l _ (up _ λr hr=>?_) h2'
     split
     ·by_cases he:r=lf k
      ·subst he;rw[zbL];omega
      ·rw[zf0 he];exact hr
     ·exact hr
    ·have h0:=(h1 k (by simp) hp).resolve_left hq;rw[List.filter_cons_of_pos hp,List.filter_cons_of_neg hq];show chL lf (l.filter P) (if c (lf k)<0 then upZ c (lf k) k else c)=_;rw[if_neg (by omega)];exact zgx lf P Q l c (up c λ_ h=>h) h2'
   ·have hq:¬ Q k=true:=λhq=>hp (h2 k (by simp) hq);rw[List.filter_cons_of_neg hp,List.filter_cons_of_neg hq];exact zgx lf P Q l c (up c λ_ h=>h) h2'
theorem zmi:∀ (a b:List Nat),a.Pairwise (· < ·)->b.Pairwise (· < ·)->(∀ x,x ∈ a↔x ∈ b)->a=b
 | [],[],_,_,_=>rfl
 | [],y::b,_,_,h=>by have:=(h y).2 (by simp);simp at this
 | x::a,[],_,_,h=>by have:=(h x).1 (by simp);simp at this
 | x::a,y::b,ha,hb,h=>by
   have ha':=List.pairwise_cons.1 ha;have hb':=List.pairwise_cons.1 hb;have hxy:x=y:=by
    rcases List.mem_cons.1 ((h x).1 (by simp)) with h1 | h1
    ·exact h1
    ·rcases List.mem_cons.1 ((h y).2 (by simp)) with h2 | h2
     ·exact h2.symm
     ·have:=hb'.1 x h1;have:=ha'.1 y h2;omega
   subst hxy
   congr 1
   refine zmi a b ha'.2 hb'.2 λz=>?_;constructor
   ·intro hz;rcases List.mem_cons.1 ((h z).1 (by simp[hz])) with h1 | h1
    ·have:=ha'.1 z hz;omega
    ·exact h1
   ·intro hz;rcases List.mem_cons.1 ((h z).2 (by simp[hz])) with h1 | h1
    ·have:=hb'.1 z hz;omega
    ·exact h1
theorem zku(hu:l.Pairwise (· < ·))(hl:∀ x,x ∈ l->x<n):l=(List.range n).filter (λx=>decide (x ∈ l)):=by
 refine zmi _ _ hu (List.Pairwise.sublist List.filter_sublist List.pairwise_lt_range) λx=>?_;simp;exact λh=>hl x h
def fd(c:Nat->Int)(x:Nat):Bool:=decide (0<=c x)
def okR(rl:Nat->List Nat)(el:Nat->Bool)(c:Nat->Int)(q:Nat):Bool:=el q && (rl q).all (fd c)
def stT(lf:Nat->Nat)(rl:Nat->List Nat)(el:Nat->Bool)(np:Nat)(c:Nat->Int):Nat->Int:=chL lf ((List.range np).filter (okR rl el c)) c
def stN(lf:Nat->Nat)(rl:Nat->List Nat)(el:Nat->Bool)(np:Nat):Nat->(Nat->Int)
 | 0=>λ_ => -1
 | n+1=>stT lf rl el np (stN lf rl el np n)
structure RInv (lf:Nat->Nat) (rl:Nat->List Nat) (m0:Nat->Int) (np:Nat) (c mi:Nat->Int) (rd:List Nat):Prop where
 mi:∀ q,q<np->mi q=m0 q - ((rl q).countP (fd c):Nat)
 lt:∀ q,q ∈ rd->q<np
 nd:rd.Nodup
 el:∀ q,q ∈ rd->m0 q=(rl q).length/\(rl q).all (fd c)=true
 sh:∀ q,q<np->m0 q=(rl q).length->(rl q).all (fd c)=true->q ∉ rd->0<=c (lf q)
theorem zen{α:Type}(p:α->Bool):∀ (l:List α),l.all p=true↔l.countP p=l.length
 | l=>by rw[List.countP_eq_length,List.all_eq_true]
theorem znz{m0:Nat->Int}(hm:∀ q,q<np->m0 q=(rl q).length\/(rl q).length<m0 q\/m0 q<0)(hrd:rd=(List.range np).filter (λq=>decide (m0 q=0))):RInv lf rl m0 np (λ_ => -1) m0 rd:=by
 have hz:∀ l:List Nat,l.countP (fd λ_ => -1)=0:=λl=>List.countP_eq_zero.2 (λx _=>by simp[fd]);refine⟨λq _=>by rw[hz];simp,?_,?_,?_,?_⟩
 ·intro q hq;rw[hrd] at hq;simp at hq;exact hq.1
 ·rw[hrd];exact List.Nodup.sublist List.filter_sublist List.nodup_range
 ·intro q hq;rw[hrd] at hq;simp at hq;rcases hm q hq.1 with h | h | h
  ·have:(rl q).length=0:=by omega
   refine⟨h,?_⟩;rw[List.length_eq_zero_iff.1 this];rfl
  ·omega
  ·omega
 ·intro q hq he ha hn;exfalso;apply hn;rw[hrd];rw[zen,hz] at ha;simp;exact⟨hq,by omega⟩
theorem zeR:∀ (found:List Nat) (L:List Nat),found.Nodup->(found.map λr=>L.count r).sum=L.countP (λx=>decide (x ∈ found))
 | [],L,_=>by simp
 | r::f,L,h=>by
   have h':=List.nodup_cons.1 h;rw[List.map_cons,List.sum_cons,zeR f L h'.2];clear h
   induction L with
   | nil=>simp
   | cons a L ih =>
     rw[List.count_cons,List.countP_cons,List.countP_cons];by_cases har:a=r
     ·subst har;have:decide (a ∈ f)=false:=by simp[h'.1]
      rw[this];simp;simp at ih;omega
     ·have h1:(a == r)=false:=by simp[har]
      rw[h1];have h2:decide (a ∈ r::f)=decide (a ∈ f):=by simp[har]
      rw[h2];simp only[if_false,Bool.false_eq_true];omega
theorem zdt(uses:Nat->List Nat)(p:Nat):∀ (found:List Nat),(found.flatMap uses).count p=(found.map λr=>(uses r).count p).sum
 | []=>by simp
 | r::f=>by rw[List.flatMap_cons,List.count_append,zdt uses p f];simp
theorem ztI(x:Nat):fd (chL lf l c) x=(fd c x || decide (x ∈ fnL lf l c)):=by
 unfold fd;by_cases h:0<=c x
 ·rw[zcR lf l c x h];simp[h]
 ·have:=zhl lf l c x (by omega);simp[h,this]
theorem zfr{c:Nat->Int}{lf:Nat->Nat}{l:List Nat}:∀ (L:List Nat),L.countP (fd (chL lf l c))=L.countP (fd c)+L.countP (λx=>decide (x ∈ fnL lf l c))
 | []=>by simp
 | x::L=>by
   rw[List.countP_cons,List.countP_cons,List.countP_cons,zfr L,ztI]
   cases h1:fd c x
   ·simp
    split <;> omega
   ·have:decide (x ∈ fnL lf l c)=false:=by
     simp;intro hx;have:=(zdT lf l c x hx).1;unfold fd at h1;simp at h1;omega
    rw[this];simp;omega
theorem zpi{m0:Nat->Int}{mi:Nat->Int}{uses:Nat->List Nat}(hm:∀ q,q<np->m0 q=(rl q).length\/(rl q).length<m0 q\/m0 q<0)
 (hu:∀ q r,q<np->(uses r).count q=(rl q).count r) (hul:∀ q r,q ∈ uses r->q<np) (h:RInv lf rl m0 np c mi rd) :
 RInv lf rl m0 np (chL lf rd c) (dcM ((fnL lf rd c).flatMap uses) mi) (dcR ((fnL lf rd c).flatMap uses) mi):=by
 have hcnt:∀ q,q<np->(((fnL lf rd c).flatMap uses).count q:Nat)=(rl q).countP (λx=>decide (x ∈ fnL lf rd c)):=λq hq=>by
  rw[zdt,<- zeR _ _ (zdS lf rd c)]
  congr 1
  exact List.map_congr_left λr _=>hu q r hq
 have hlt:∀ q,q ∈ dcR ((fnL lf rd c).flatMap uses) mi->q<np:=λq hq=>by
  have:=((zfY _ _ _).1 hq);have hpos:0<((fnL lf rd c).flatMap uses).count q:=by omega
  obtain⟨r,-,hr⟩:=List.mem_flatMap.1 (List.count_pos_iff.1 hpos);exact hul q r hr
 refine⟨?_,hlt,zfq _ _,?_,?_⟩
 ·intro q hq;rw[zmV,h.mi q hq,hcnt q hq,zfr];omega
 ·intro q hq;have hqn:=hlt q hq;have h1:=(zfY _ _ _).1 hq;rw[hcnt q hqn,h.mi q hqn] at h1;have h2:=zfr (c:=c) (lf:=lf) (l:=rd) (rl q);have h3:(rl q).countP (fd (chL lf rd c))<=(rl q).length:=List.countP_le_length;rcases hm q hqn with hh | hh | hh
  ·exact⟨hh,(zen _ _).2 (by omega)⟩
  ·omega
  ·omega
 ·intro q hq he ha hn;rw[zen] at ha;have h2:=zfr (c:=c) (lf:=lf) (l:=rd) (rl q);have hn':¬ (0<mi q/\mi q<=(((fnL lf rd c).flatMap uses).count q:Nat)):=λhc=>hn ((zfY _ _ _).2 hc);rw[hcnt q hq,h.mi q hq] at hn';have h3:(rl q).countP (fd c)<=(rl q).length:=List.countP_le_length;have hall:(rl q).all (fd c)=true:=(zen _ _).2 (by omega);by_cases hr:q ∈ rd
  ·exact zlO lf rd c q hr
  ·have:=h.sh q hq he hall hr;rw[zcR lf rd c _ this];exact this
theorem zmh{m0:Nat->Int}{mi:Nat->Int}(h:RInv lf rl m0 np c mi rd)(hs:rs.Pairwise (· < ·))(hp:∀ x,x ∈ rs↔x ∈ rd) :
 chL lf rs c=stT lf rl (λq=>decide (m0 q=(rl q).length)) np c:=by
 unfold stT;rw[zku hs (λx hx=>h.lt x ((hp x).1 hx))];refine(zgx lf _ _ _ _ ?_ ?_).symm
 ·intro k hk ho;simp at hk;unfold okR at ho;simp only[Bool.and_eq_true,decide_eq_true_eq] at ho;by_cases hr:k ∈ rd
  ·left;simp;exact(hp k).2 hr
  ·exact .inr (h.sh k hk ho.1 ho.2 hr)
 ·intro k hk hq;simp at hq;have:=h.el k ((hp k).1 hq);unfold okR;simp only[Bool.and_eq_true,decide_eq_true_eq];exact this
theorem zpf{m0:Nat->Int}{mi:Nat->Int}(h:RInv lf rl m0 np c mi []):stT lf rl (λq=>decide (m0 q=(rl q).length)) np c=c :=
 (zmh h List.Pairwise.nil (by simp)).symm
theorem zpj{m0:Nat->Int}{mi:Nat->Int}(h:RInv lf rl m0 np c mi rd)(hn:rs.Nodup)(hp:∀ x,x ∈ rs↔x ∈ rd):RInv lf rl m0 np c mi rs :=
 ⟨h.mi,λq hq=>h.lt q ((hp q).1 hq),hn,λq hq=>h.el q ((hp q).1 hq),λq hq he ha hr=>h.sh q hq he ha (λh'=>hr ((hp q).2 h'))⟩
def upH(H:Nat->Option Int)(r:Nat)(v:Option Int):Nat->Option Int:=λj=>if j=r then v else H j
theorem zgh(H:Nat->Option Int)(r:Nat)(v:Option Int):upH H r v r=v:=by simp[upH]
theorem zl2{H:Nat->Option Int}{v:Option Int}(h:j≠r):upH H r v j=H j:=by simp[upH,h]
def zjR(H:Nat->Option Int)(r:Nat)(w:Int):Nat->Option Int:=upH H r (some (match H r with | some v=>min w v | none=>w))
end Go.Proofs.YtieciibnajeibaaGreatDoor

/- Rings of rules, found: what is laid together along them. -/
import Derived.Test.YtagohbpbgjelaaaGreatDoorRO
namespace Go.Proofs.YtagohbpbgjelaaaGreatDoor

structure Rings (W:Nat→List Nat) (n:Nat) (made:List (List Nat)):Prop where
 cov:∀ x,x<n→∃ (i:Nat) (a:List Nat),made[i]? = some a∧x ∈ a
 lt:∀ (i:Nat) (a:List Nat) (x:Nat),made[i]? = some a→x ∈ a→x<n
 uniq:∀ (i j:Nat) (a b:List Nat) (x:Nat),made[i]? = some a→made[j]? = some b→x ∈ a→x ∈ b→i=j
 ne:∀ (i:Nat) (a:List Nat),made[i]? = some a→a≠[]
 mu:∀ (i:Nat) (a:List Nat) (x y:Nat),made[i]? = some a→x ∈ a→y ∈ a→Rh W x y
 to:∀ (i:Nat) (a:List Nat) (x y:Nat),made[i]? = some a→x ∈ a→y ∈ W x→∃ (j:Nat) (b:List Nat),j≤i∧made[j]? = some b∧y ∈ b
 nd:∀ (i:Nat) (a:List Nat),made[i]? = some a→a.Nodup

theorem zmf {W:Nat→List Nat} {n:Nat} {s:Ts} {r:Nat} {t:Ts} (h:TPost W n s r t) (hs:s.opn=[]):t.opn=[]:=by
 cases ho:t.opn with
 | nil=>rfl
 | cons x rest =>
   exfalso
   obtain⟨new,hn,hm⟩:=h.opn
   rw[hs,ho,List.nil_append] at hn
   have hx0:s.met x=0:=hm x (by rw[← hn];simp)
   have hxo:t.isO x=true:=(h.inv.o1 x).1 (by rw[ho];simp)
   obtain⟨d,-,-⟩:=h.new x hx0 hxo
   obtain⟨y,y1,y2,-⟩:=h.inv.z x hxo
   have hy:=(h.inv.o1 y).2 y1
   rw[ho] at hy
   have h2:=h.inv.o2
   rw[ho] at h2
   have:=d.lt
   rcases List.mem_cons.1 hy with rfl | hy
   ·omega
   ·have:=(List.pairwise_cons.1 h2).1 y hy;omega
structure TTop (W:Nat→List Nat) (n:Nat) (k:Nat) (s:Ts):Prop where
 inv:TInv W n s
 opn:s.opn=[]
 met:∀ x,x<k→0<s.met x
def ts0:Ts:=⟨0,fun _=>0,fun _=>0,[],fun _=>false,[]⟩
theorem zkX (W:Nat→List Nat) (n:Nat):TTop W n 0 ts0:=by
 have hm:∀ x,¬ zdH ts0 x:=fun x ⟨i,a,h,_⟩=>by simp[ts0] at h
 refine⟨⟨fun x=>by simp[ts0],by simp[ts0],fun x h=>by simp[ts0] at h,fun x=>Nat.le_refl _,fun x h=>by simp[ts0] at h,fun x h=>by simp[ts0] at h,fun x h=>absurd h (hm x),fun i j a b x h=>by simp[ts0] at h,fun i a h=>by simp[ts0] at h,fun i a x y h=>by simp[ts0] at h,fun i a h=>by simp[ts0] at h,fun x h=>by simp[ts0] at h⟩,rfl,fun x h=>by omega⟩
theorem zl9 {W:Nat→List Nat} {n k:Nat} {s t:Ts} (h:TTop W n k s) (hp:TPost W n s k t):TTop W n (k+1) t:=by
 refine⟨hp.inv,zmf hp h.opn,fun x hx=>?_⟩
 by_cases e:x=k
 ·subst e;exact hp.at_
 ·have:=h.met x (by omega)
  rw[(hp.old x this).1];exact this
theorem zoy {W:Nat→List Nat} {n:Nat} {s:Ts} (h:TTop W n n s):Rings W n s.made:=by
 refine⟨fun x hx=>?_,fun i a x hi hx=>?_,h.inv.v3,fun i a hi=>(h.inv.r1 i a hi).1,fun i a x y hi=>(h.inv.r1 i a hi).2 x y,h.inv.r2,h.inv.r3⟩
 ·rcases h.inv.v1 x (h.met x hx) with h1 | h1
  ·have:=(h.inv.o1 x).2 h1
   rw[h.opn] at this
   cases this
  ·exact h1
 ·exact h.inv.o5 x (h.inv.v2 x ⟨i,a,hi,hx⟩).1

def Uw (W:Nat→List Nat) (S:Nat→Int→Bool) (r:Nat) (m:Int):Prop:=∃ y,Rh W r y∧S y m=true
theorem zlZ {W:Nat→List Nat} {S:Nat→Int→Bool} {r x:Nat} {m:Int} (h:Rh W r x) (k:Uw W S x m):Uw W S r m:=by
 obtain⟨y,h1,h2⟩:=k
 exact⟨y,h.trans h1,h2⟩
structure GaI (W:Nat→List Nat) (S:Nat→Int→Bool) (made:List (List Nat)) (i:Nat) (rep:Nat→Nat) (C:Nat→Int→Bool):Prop where
 old:∀ (j:Nat) (a:List Nat) (x:Nat),j<i→made[j]? = some a→x ∈ a→rep x ∈ a∧∀ m,C (rep x) m=true↔Uw W S x m
 new:∀ (j:Nat) (a:List Nat) (x:Nat),i≤j→made[j]? = some a→x ∈ a→rep x=x∧C x=S x
theorem zpz (W:Nat→List Nat) (S:Nat→Int→Bool) (made:List (List Nat)):GaI W S made 0 id S:=⟨fun j a x h=>by omega,fun j a x _ _ _=>⟨rfl,rfl⟩⟩
def upC (C:Nat→Int→Bool) (h:Nat) (f:Int→Bool):Nat→Int→Bool:=fun r=>if r=h then f else C r
theorem zbq (C:Nat→Int→Bool) (h:Nat) (f:Int→Bool):upC C h f h=f:=by simp[upC]
theorem zcu {C:Nat→Int→Bool} {h r:Nat} {f:Int→Bool} (e:r≠h):upC C h f r=C r:=by simp[upC,e]
theorem zp0 (C:Nat→Int→Bool) (h:Nat) (f g:Int→Bool):upC (upC C h f) h g=upC C h g:=by
 funext r
 by_cases e:r=h
 ·subst e;rw[zbq,zbq]
 ·rw[zcu e,zcu e,zcu e]
theorem zp1 (C:Nat→Int→Bool) (h:Nat):upC C h (C h)=C:=by
 funext r
 by_cases e:r=h
 ·subst e;rw[zbq]
 ·rw[zcu e]
structure GaR (W:Nat→List Nat) (S:Nat→Int→Bool) (made:List (List Nat)) (i h:Nat) (X:Nat→Prop) (Y:Nat→Nat→Prop) (acc:Int→Bool):Prop where
 snd:∀ m,acc m=true→Uw W S h m
 hd:∀ m,S h m=true→acc m=true
 own:∀ x m,X x→S x m=true→acc m=true
 to:∀ (x y j:Nat) (b:List Nat) (m:Int),Y x y→j<i→made[j]? = some b→y ∈ b→Uw W S y m→acc m=true
def orF (f g:Int→Bool):Int→Bool:=fun m=>f m || g m
theorem zoV (f:Int→Bool):orF f f=f:=by funext m;simp[orF]
theorem znB (W:Nat→List Nat) (S:Nat→Int→Bool) (made:List (List Nat)) (i h:Nat):GaR W S made i h (· = h) (fun _ _=>False) (S h) :=
 ⟨fun m hm=>⟨h,.refl h,hm⟩,fun m hm=>hm,fun x m hx hm=>by subst hx;exact hm,fun x y j b m h=>h.elim⟩
theorem zra {W:Nat→List Nat} {n:Nat} {S:Nat→Int→Bool} {made:List (List Nat)} (hR:Rings W n made) {i h x:Nat} {a:List Nat} {rep:Nat→Nat} {C:Nat→Int→Bool} (hI:GaI W S made i rep C) (ha:made[i]? = some a) (hh:h ∈ a) (hx:x ∈ a) {X:Nat→Prop} {Y:Nat→Nat→Prop} {acc:Int→Bool} (hr:GaR W S made i h X Y acc) :
 GaR W S made i h (fun z=>X z∨z=x) Y (orF acc (upC C h acc (rep x))):=by
 obtain⟨h1,h2⟩:=hI.new i a x (Nat.le_refl _) ha hx
 rw[h1]
 refine⟨fun m hm=>?_,fun m hm=>?_,fun z m hz hm=>?_,fun z y j b m hy hj hb hyb hu=>?_⟩
 ·unfold orF at hm
  rcases Bool.or_eq_true_iff.1 hm with h3 | h3
  ·exact hr.snd m h3
  ·by_cases e:x=h
   ·subst e;rw[zbq] at h3;exact hr.snd m h3
   ·rw[zcu e,h2] at h3
    exact⟨x,hR.mu i a h x ha hh hx,h3⟩
 ·unfold orF;rw[hr.hd m hm];rfl
 ·unfold orF
  rcases hz with hz | rfl
  ·rw[hr.own z m hz hm];rfl
  ·by_cases e:z=h
   ·subst e
    rw[hr.hd m hm];rfl
   ·rw[zcu e,h2,hm];simp
 ·unfold orF;rw[hr.to z y j b m hy hj hb hyb hu];rfl
theorem gar_to {W:Nat→List Nat} {n:Nat} {S:Nat→Int→Bool} {made:List (List Nat)} (hR:Rings W n made) {i h x y:Nat} {a:List Nat} {rep:Nat→Nat} {C:Nat→Int→Bool} (hI:GaI W S made i rep C) (ha:made[i]? = some a) (hh:h ∈ a) (hx:x ∈ a) (hy:y ∈ W x) {X:Nat→Prop} {Y:Nat→Nat→Prop} {acc:Int→Bool} (hr:GaR W S made i h X Y acc) :
 GaR W S made i h X (fun z u=>Y z u∨z=x∧u=y) (orF acc (upC C h acc (rep y))):=by
 obtain⟨j,b,hj,hb,hyb⟩:=hR.to i a x y ha hx hy
 have hxy:Rh W h y:=(hR.mu i a h x ha hh hx).trans (Rh.one hy)
 refine⟨fun m hm=>?_,fun m hm=>?_,fun z m hz hm=>?_,fun z u k c m hzu hk hc huc hu=>?_⟩
 ·unfold orF at hm
  rcases Bool.or_eq_true_iff.1 hm with h3 | h3
  ·exact hr.snd m h3
  ·by_cases e:rep y=h
   ·rw[e,zbq] at h3;exact hr.snd m h3
   ·rw[zcu e] at h3
    by_cases hji:j<i
    ·exact zlZ hxy (((hI.old j b y hji hb hyb).2 m).1 h3)
    ·have:j=i:=by omega
     subst this
     obtain⟨h1,h2⟩:=hI.new j b y (Nat.le_refl _) hb hyb
     rw[h1,h2] at h3
     exact⟨y,hxy,h3⟩
 ·unfold orF;rw[hr.hd m hm];rfl
 ·unfold orF;rw[hr.own z m hz hm];rfl
 ·unfold orF
  rcases hzu with hzu | ⟨rfl,rfl⟩
  ·rw[hr.to z u k c m hzu hk hc huc hu];rfl
  ·obtain⟨h1,h2⟩:=hI.old k c u hk hc huc
   have e:rep u≠h:=fun e=>by
    have:=hR.uniq k i c a h hc ha (e▸h1) hh
    omega
   rw[zcu e,(h2 m).2 hu];simp
theorem zrb {W:Nat→List Nat} {n:Nat} {S:Nat→Int→Bool} {made:List (List Nat)} (hR:Rings W n made) {i h:Nat} {a:List Nat} {rep:Nat→Nat} {C:Nat→Int→Bool} (hI:GaI W S made i rep C) (ha:made[i]? = some a) (hh:h ∈ a) {X:Nat→Prop} {Y:Nat→Nat→Prop} {acc:Int→Bool} (hr:GaR W S made i h X Y acc) (hX:∀ x,x ∈ a→X x) (hY:∀ x y,x ∈ a→y ∈ W x→Y x y) :
 GaI W S made (i+1) (fun r=>if r ∈ a then h else rep r) (upC C h acc):=by
 have full:∀ x z m,Rh W x z→x ∈ a→S z m=true→acc m=true:=by
  intro x z m hxz
  induction hxz with
  | refl x=>intro hx hm;exact hr.own x m (hX x hx) hm
  | step x y z hy hyz ih =>
    intro hx hm
    obtain⟨j,b,hj,hb,hyb⟩:=hR.to i a x y ha hx hy
    by_cases hji:j<i
    ·exact hr.to x y j b m (hY x y hx hy) hji hb hyb ⟨z,hyz,hm⟩
    ·have:j=i:=by omega
     subst this
     rw[ha] at hb
     cases hb
     exact ih hyb hm
 refine⟨fun j b x hj hb hx=>?_,fun j b x hj hb hx=>?_⟩
 ·by_cases hji:j<i
  ·have hxa:x ∉ a:=fun e=>by have:=hR.uniq j i b a x hb ha hx e;omega
   obtain⟨h1,h2⟩:=hI.old j b x hji hb hx
   rw[if_neg hxa]
   refine⟨h1,fun m=>?_⟩
   rw[zcu (fun e=>by have:=hR.uniq j i b a h hb ha (e▸h1) hh;omega)]
   exact h2 m
  ·have:j=i:=by omega
   subst this
   rw[ha] at hb
   cases hb
   rw[if_pos hx]
   refine⟨hh,fun m=>?_⟩
   rw[zbq]
   refine⟨fun hm=>zlZ (hR.mu j a x h ha hx hh) (hr.snd m hm),fun⟨z,h1,h2⟩=>full x z m h1 hx h2⟩
 ·have hxa:x ∉ a:=fun e=>by have:=hR.uniq j i b a x hb ha hx e;omega
  obtain⟨h1,h2⟩:=hI.new j b x (by omega) hb hx
  rw[if_neg hxa]
  have e2:x≠h:=fun e=>hxa (by rw[e];exact hh)
  exact⟨h1,by rw[zcu e2];exact h2⟩
theorem ga_end {W:Nat→List Nat} {n:Nat} {S:Nat→Int→Bool} {made:List (List Nat)} (hR:Rings W n made) {rep:Nat→Nat} {C:Nat→Int→Bool} (hI:GaI W S made made.length rep C) (x:Nat) (hx:x<n) (m:Int):C (rep x) m=true↔Uw W S x m:=by
 obtain⟨i,a,h1,h2⟩:=hR.cov x hx
 exact(hI.old i a x (List.getElem?_eq_some_iff.1 h1).1 h1 h2).2 m
theorem zmz {W:Nat→List Nat} {n:Nat} {made:List (List Nat)} (hR:Rings W n made) {i x:Nat} {a:List Nat} (ha:made[i]? = some a) (hx:x ∈ a):(∃ y,y ∈ W x∧Rh W y x)↔(1<a.length∨x ∈ W x):=by
 have back:∀ y z,Rh W y z→z ∈ a→(∃ (j:Nat) (b:List Nat),j≤i∧made[j]? = some b∧y ∈ b)→y ∈ a:=by
  intro y z h
  induction h with
  | refl y=>intro hz _;exact hz
  | step y u z hu huz ih =>
    intro hz ⟨j,b,hj,hb,hyb⟩
    obtain⟨k,c,hk,hc,huc⟩:=hR.to j b y u hb hyb hu
    have hua:=ih hz ⟨k,c,by omega,hc,huc⟩
    have:k=i:=hR.uniq k i c a u hc ha huc hua
    have:j=i:=by omega
    subst this
    rw[ha] at hb
    cases hb
    exact hyb
 constructor
 ·rintro⟨y,hy,hyx⟩
  have hya:=back y x hyx hx (hR.to i a x y ha hx hy)
  by_cases e:y=x
  ·subst e;exact .inr hy
  ·left
   rcases a with _ | ⟨p,_ | ⟨q,a⟩⟩
   ·cases hx
   ·simp at hx hya;omega
   ·simp
 · rintro (hl | hs)
   · have hnd:=hR.nd i a ha
     have hy:∃ y,y ∈ a∧y≠x:=by
       rcases a with _ | ⟨p,_ | ⟨q,a⟩⟩
       · simp at hl
       · simp at hl
       · by_cases e:p=x
         · refine⟨q,by simp,fun e2=>?_⟩
           subst e;subst e2
           simp at hnd
         · exact⟨p,by simp,e⟩
     obtain⟨y,hya,hyx⟩:=hy
     have h1:=hR.mu i a x y ha hx hya
     have h2:=hR.mu i a y x ha hya hx
     cases h1 with
     | refl=>exact absurd rfl hyx
     | step _ z _ hz hzy=>exact⟨z,hz,hzy.trans h2⟩
   · exact⟨x,hs,.refl x⟩
end Go.Proofs.YtagohbpbgjelaaaGreatDoor

namespace Go.Proofs.YtagohbpbgjelaaaGreatDoor

def zfV (L:Nat→Int):List Nat→Int
 | []=>0
 | x::l=>(if 0≤L x then L x else 0)+zfV L l
theorem zfU (L:Nat→Int):∀ (l:List Nat),0≤zfV L l∧∀ x,x ∈ l→L x≤zfV L l
 | []=>⟨by simp[zfV],fun x h=>by simp at h⟩
 | y::l=>by
   have ih:=zfU L l
   unfold zfV
   refine⟨by split <;> omega,fun x hx=>?_⟩
   rcases List.mem_cons.1 hx with rfl | hx
   ·split <;> omega
   ·have:=ih.2 x hx;split <;> omega
theorem zmm {L:Nat→Int} {r:Nat} {w:Int} (hr:L r<0) (hw:0≤w):∀ (l:List Nat),zfV (upZ L r w) l=zfV L l+w * (l.count r:Nat)
 | []=>by simp[zfV]
 | x::l=>by
   unfold zfV
   rw[zmm hr hw l,List.count_cons]
   by_cases h:x=r
   ·subst h;rw[zbe,if_pos hw,if_neg (by omega)]
    simp
    rw[Int.mul_add];omega
   ·rw[zcF h]
    have:(x == r)=false:=by simp[h]
    rw[this];simp;omega
structure KInv (lf:Nat→Nat) (rl:Nat→List Nat) (kc:Nat→Int) (np:Nat) (good:Nat→Int→Prop) (TL:Int) (L mi su:Nat→Int) (H:Nat→Option Int) (rem:List Nat):Prop where
 miE:∀ q,q<np→mi q=(rl q).length - ((rl q).countP (fd L):Nat)
 suE:∀ q,q<np→su q=kc q+zfV L (rl q)
 hp:∀ r w,H r=some w→L r<0∧∃ q,q<np∧lf q=r∧(rl q).all (fd L)=true∧w=min (su q) TL
 rd:∀ q,q<np→(rl q).all (fd L)=true→q ∉ rem→(0≤L (lf q)∧L (lf q)≤min (su q) TL)∨∃ w,H (lf q)=some w∧w≤min (su q) TL
 mo:∀ r w s,H r=some w→0≤L s→L s≤w
 lg:∀ r,L r = -1∨(0≤L r∧L r≤TL∧good r (L r))
 rm:∀ q,q ∈ rem→q<np∧(rl q).all (fd L)=true∧∀ s,0≤L s→L s≤min (su q) TL
def upH (H:Nat→Option Int) (r:Nat) (v:Option Int):Nat→Option Int:=fun j=>if j=r then v else H j
theorem zdi (H:Nat→Option Int) (r:Nat) (v:Option Int):upH H r v r=v:=by simp[upH]
theorem zfo {H:Nat→Option Int} {r j:Nat} {v:Option Int} (h:j≠r):upH H r v j=H j:=by simp[upH,h]
def zfb (H:Nat→Option Int) (r:Nat) (w:Int):Nat→Option Int:=upH H r (some (match H r with | some v=>min w v | none=>w))
theorem ziG {lf:Nat→Nat} {rl:Nat→List Nat} {kc:Nat→Int} {np:Nat} {good:Nat→Int→Prop} {TL:Int} {L mi su:Nat→Int} {H:Nat→Option Int} {q:Nat} {rem:List Nat} (h:KInv lf rl kc np good TL L mi su H (q::rem)) (hl:L (lf q)<0) :
 KInv lf rl kc np good TL L mi su (zfb H (lf q) (min (su q) TL)) rem:=by
 obtain⟨hq,ha,hs⟩:=h.rm q (by simp)
 have hcase:∃ v,zfb H (lf q) (min (su q) TL) (lf q)=some v∧v≤min (su q) TL∧(v=min (su q) TL∨H (lf q)=some v)∧∀ v',H (lf q)=some v'→v≤v':=by
  unfold zfb
  rw[zdi]
  cases hh:H (lf q) with
  | none=>exact⟨_,rfl,Int.le_refl _,.inl rfl,fun v' hv=>by cases hv⟩
  | some v =>
    refine⟨_,rfl,by show min _ v≤_;omega,?_,fun v' hv=>by cases hv;show min _ v≤v;omega⟩
    by_cases hle:min (su q) TL≤v
    ·left;show min _ v=_;omega
    ·right;show some v=some (min _ v);congr 1;omega
 obtain⟨v,e1,e2,e3,e4⟩:=hcase
 have hne:∀ r,r≠lf q→zfb H (lf q) (min (su q) TL) r=H r:=fun r hr=>by unfold zfb;rw[zfo hr]
 refine⟨h.miE,h.suE,?_,?_,?_,h.lg,fun p hp=>h.rm p (by simp[hp])⟩
 ·intro r w hw
  by_cases hr:r=lf q
  ·subst hr
   rw[e1] at hw;cases hw
   rcases e3 with e | e
   ·exact⟨hl,q,hq,rfl,ha,e⟩
   ·exact h.hp _ _ e
  ·rw[hne r hr] at hw;exact h.hp r w hw
 ·intro p hp hpa hpr
  by_cases hpq:p=q
  ·subst hpq;exact .inr ⟨v,e1,e2⟩
  ·rcases h.rd p hp hpa (by simp[hpq,hpr]) with h1 | ⟨w,h1,h2⟩
   ·exact .inl h1
   ·right
    by_cases hr:lf p=lf q
    ·rw[hr] at h1 ⊢
     have:=e4 w h1
     exact⟨v,e1,by omega⟩
    ·exact⟨w,by rw[hne _ hr];exact h1,h2⟩
 ·intro r w s hw h0
  by_cases hr:r=lf q
  ·subst hr
   rw[e1] at hw;cases hw
   rcases e3 with e | e
   ·rw[e];exact hs s h0
   ·exact h.mo _ _ s e h0
  ·rw[hne r hr] at hw;exact h.mo r w s hw h0
theorem znm {lf:Nat→Nat} {rl:Nat→List Nat} {kc:Nat→Int} {np:Nat} {good:Nat→Int→Prop} {TL:Int} {L mi su:Nat→Int} {H:Nat→Option Int} {q:Nat} {rem:List Nat} (h:KInv lf rl kc np good TL L mi su H (q::rem)) (hl:0≤L (lf q)) :
 KInv lf rl kc np good TL L mi su H rem:=by
 obtain⟨hq,ha,hs⟩:=h.rm q (by simp)
 refine⟨h.miE,h.suE,h.hp,?_,h.mo,h.lg,fun p hp=>h.rm p (by simp[hp])⟩
 intro p hp hpa hpr
 by_cases hpq:p=q
 ·subst hpq;exact .inl ⟨hl,hs _ hl⟩
 ·exact h.rd p hp hpa (by simp[hpq,hpr])
theorem fd_up {L:Nat→Int} {r:Nat} {w:Int} (hw:0≤w) (x:Nat):fd (upZ L r w) x=(fd L x || decide (x=r)):=by
 unfold fd
 by_cases h:x=r
 ·subst h;rw[zbe];simp[hw]
 ·rw[zcF h];simp[h]
theorem zeU {L:Nat→Int} {r:Nat} {w:Int} (hr:L r<0) (hw:0≤w):∀ (l:List Nat),l.countP (fd (upZ L r w))=l.countP (fd L)+l.count r
 | []=>by simp
 | x::l=>by
   rw[List.countP_cons,List.countP_cons,List.count_cons,zeU hr hw l,fd_up hw]
   by_cases h:x=r
   ·subst h
    have:fd L x=false:=by unfold fd;simp;omega
    rw[this];simp;omega
   ·have:(x == r)=false:=by simp[h]
    rw[this];simp[h];omega
theorem zpo {lf:Nat→Nat} {rl:Nat→List Nat} {kc:Nat→Int} {np:Nat} {good:Nat→Int→Prop} {TL:Int} {L mi su:Nat→Int} {H:Nat→Option Int} {r:Nat} {w:Int} {uses:Nat→List Nat}
 (hu:∀ q r,q<np→(uses r).count q=(rl q).count r) (hul:∀ q r,q ∈ uses r→q<np) (hk:∀ q,q<np→0≤kc q) (hTL:0≤TL)
 (hgood:∀ (f:Nat→Int) q,q<np→(∀ x,x ∈ rl q→0≤f x∧f x≤TL∧good x (f x))→good (lf q) (min (kc q+zfV f (rl q)) TL))
 (h:KInv lf rl kc np good TL L mi su H []) (hr:H r=some w) (hmin:∀ s v,H s=some v→w≤v) :
 L r<0∧0≤w∧w≤TL∧KInv lf rl kc np good TL (upZ L r w) (dcM (uses r) mi) (fun q=>su q+w * ((uses r).count q:Nat)) (upH H r none) (dcR (uses r) mi):=by
 obtain⟨hLr,q0,hq0,hlf,hall,hw⟩:=h.hp r w hr
 have hs0:∀ q,q<np→0≤su q:=fun q hq=>by rw[h.suE q hq];have:=hk q hq;have:=(zfU L (rl q)).1;omega
 have hw0:0≤w:=by have:=hs0 q0 hq0;omega
 have hwT:w≤TL:=by omega
 have hgr:good r w:=by
  have:=hgood L q0 hq0 (fun x hx=>by
   have hf:=List.all_eq_true.1 hall x hx
   unfold fd at hf;simp at hf
   rcases h.lg x with h1 | h1
   ·omega
   ·exact h1)
  rw[hlf,← h.suE q0 hq0,← hw] at this
  exact this
 have hsu:∀ q,q<np→su q+w * ((uses r).count q:Nat)=kc q+zfV (upZ L r w) (rl q):=fun q hq=>by
  rw[zmm hLr hw0,hu q r hq,h.suE q hq];omega
 have hmiA:∀ q,q<np→dcM (uses r) mi q=(rl q).length - ((rl q).countP (fd (upZ L r w)):Nat):=fun q hq=>by
  rw[ziS,h.miE q hq,zeU hLr hw0,hu q r hq];omega
 have hup:∀ s,0≤L s→upZ L r w s=L s:=fun s hs=>zcF (fun e=>by subst e;omega)
 have hlem:∀ s,0≤upZ L r w s→upZ L r w s≤w:=fun s hs=>by
  by_cases e:s=r
  ·subst e;rw[zbe];omega
  ·rw[zcF e] at hs ⊢;exact h.mo r w s hr hs
 have hallup:∀ l:List Nat,l.all (fd L)=true→l.all (fd (upZ L r w))=true:=fun l hl=>List.all_eq_true.2 fun x hx=>by
  rw[fd_up hw0,List.all_eq_true.1 hl x hx];rfl
 have hnone:∀ l:List Nat,l.all (fd L)=true→l.count r=0:=fun l hl=>List.count_eq_zero.2 fun hm=>by
  have:=List.all_eq_true.1 hl r hm
  unfold fd at this;simp at this;omega
 have hsame:∀ q,q<np→(rl q).all (fd L)=true→su q+w * ((uses r).count q:Nat)=su q:=fun q hq hl=>by
  rw[hu q r hq,hnone _ hl];simp
 refine⟨hLr,hw0,hwT,hmiA,hsu,?_,?_,?_,?_,?_⟩
 ·intro s v hv
  by_cases e:s=r
  ·subst e;rw[zdi] at hv;cases hv
  ·rw[zfo e] at hv
   obtain⟨h1,q,h2,h3,h4,h5⟩:=h.hp s v hv
   exact⟨by rw[zcF e];exact h1,q,h2,h3,hallup _ h4,by show v=min (su q+_) TL;rw[hsame q h2 h4];exact h5⟩
 ·intro q hq hqa hqr
  show (_∧_≤min (su q+w * ((uses r).count q:Nat)) TL)∨∃ v,_∧v≤min (su q+w * ((uses r).count q:Nat)) TL
  by_cases hold:(rl q).all (fd L)=true
  · rw [hsame q hq hold]
    rcases h.rd q hq hold (by simp) with ⟨h1,h2⟩ | ⟨v,h1,h2⟩
    · exact .inl ⟨by rw[hup _ h1];exact h1,by rw[hup _ h1];exact h2⟩
    · by_cases e:lf q=r
      · left
        rw[e,zbe]
        rw[e,hr] at h1;cases h1
        exact⟨hw0,h2⟩
      · exact .inr ⟨v,by rw[zfo e];exact h1,h2⟩
  · exfalso
    apply hqr
    refine(zdR _ _ _).2 ?_
    rw[zce] at hqa hold
    have h1:=h.miE q hq
    have h2:=zeU hLr hw0 (rl q)
    have h3:(rl q).countP (fd L)≤(rl q).length:=List.countP_le_length
    rw[hu q r hq]
    omega
 ·intro s v x hv hx
  by_cases e:s=r
  ·subst e;rw[zdi] at hv;cases hv
  ·rw[zfo e] at hv
   have:=hmin s v hv
   have:=hlem x hx
   omega
 ·intro x
  by_cases e:x=r
  ·subst e;rw[zbe];exact .inr ⟨hw0,hwT,hgr⟩
  ·rw[zcF e];exact h.lg x
 ·intro q hq
  have hm:=(zdR _ _ _).1 hq
  have hcnt:0<(uses r).count q:=by omega
  have hqn:=hul q r (List.count_pos_iff.1 hcnt)
  have h1:=h.miE q hqn
  have h2:=zeU hLr hw0 (rl q)
  have h3:(rl q).countP (fd (upZ L r w))≤(rl q).length:=List.countP_le_length
  have h4:=hu q r hqn
  refine⟨hqn,(zce _ _).2 (by omega),fun s hs=>?_⟩
  have:=hlem s hs
  have hsq:w≤su q+w * ((uses r).count q:Nat):=by
   have:=hs0 q hqn
   have:w * 1≤w * ((uses r).count q:Nat):=Int.mul_le_mul_of_nonneg_left (by omega) hw0
   omega
  show _≤min (su q+w * ((uses r).count q:Nat)) TL
  omega
theorem zpp {lf:Nat→Nat} {rl:Nat→List Nat} {kc:Nat→Int} {np:Nat} {good:Nat→Int→Prop} {TL:Int} {L mi su:Nat→Int} {H:Nat→Option Int} (h:KInv lf rl kc np good TL L mi su H []) (hH:∀ r,H r=none) :
 (∀ r,L r = -1∨(0≤L r∧L r≤TL∧good r (L r)))∧∀ q,q<np→(∀ x,x ∈ rl q→0≤L x)→0≤L (lf q)∧L (lf q)≤min (kc q+zfV L (rl q)) TL:=by
 refine⟨h.lg,fun q hq ha=>?_⟩
 rcases h.rd q hq (List.all_eq_true.2 fun x hx=>by unfold fd;simpa using ha x hx) (by simp) with h1 | ⟨w,h1,_⟩
 ·rw[← h.suE q hq];exact h1
 ·rw[hH] at h1;cases h1
theorem zlu {lf:Nat→Nat} {rl:Nat→List Nat} {kc:Nat→Int} {np:Nat} {good:Nat→Int→Prop} {TL:Int} :
 KInv lf rl kc np good TL (fun _ => -1) (fun q=>(rl q).length) kc (fun _=>none) ((List.range np).filter fun q=>decide (rl q=[])):=by
 have hz:∀ l:List Nat,l.countP (fd fun _ => -1)=0:=fun l=>List.countP_eq_zero.2 (fun x _=>by simp[fd])
 have hs:∀ l:List Nat,zfV (fun _ => -1) l=0:=fun l=>by
  induction l with
  | nil=>rfl
  | cons x l ih=>unfold zfV;rw[ih];rfl
 have hall:∀ l:List Nat,l.all (fd fun _ => -1)=true→l=[]:=fun l hl=>by
  rw[zce,hz] at hl;exact List.length_eq_zero_iff.1 hl.symm
 refine⟨fun q _=>by rw[hz];simp,fun q _=>by rw[hs];omega,fun r w h=>(by cases h),?_,fun r w s h=>(by cases h),fun r=>.inl rfl,?_⟩
 ·intro q hq ha hr
  exfalso
  apply hr
  simp
  exact⟨hq,hall _ ha⟩
 ·intro q hq
  simp at hq
  exact⟨hq.1,by rw[hq.2];rfl,fun s h=>by simp at h⟩
end Go.Proofs.YtagohbpbgjelaaaGreatDoor

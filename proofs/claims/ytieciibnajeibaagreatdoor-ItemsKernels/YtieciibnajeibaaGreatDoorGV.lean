import Derived.Test.YtieciibnajeibaaGreatDoorTW
import Derived.Test.YtieciibnajeibaaGreatDoorGW
import Derived.Test.YtieciibnajeibaaGreatDoorSX
set_option maxHeartbeats 8000000
set_option maxRecDepth 100000
namespace Go.Proofs.YtieciibnajeibaaGreatDoor
open Go.RowKit
variable{B b i j k n nk np q r tb:Nat}{C:Nat->Int->Bool}{G:Gm}{S el ok:Nat->Bool}{W rl:Nat->List Nat}{W' a:World}{f m0:Nat->Int}{fs:List Nat}{made:List (List Nat)}{okP:Pd->Bool}{row:List Int}{v:Value}{x y:Int}
theorem ziO{w:World}(h:RingsAt B w v made){a:List Nat}(ha:made[i]? = some a):∃ va vc g c,v=.slice (some ⟨va,0,none⟩) made.length vc/\w.cell? ⟨va,i,none⟩=some (.slice (some ⟨g,0,none⟩) a.length c)/\∀ j x:Nat,a[j]? = some x->w.cell? ⟨g,j,none⟩=some (.int .i64 (x:Nat)):=by
 obtain⟨vs,h1,h2⟩:=h.form;obtain⟨g,c,cs,h3,h4,h5,h6⟩:=h2 i a ha;have hi:i<made.length:=(zsP.1 ha).1;obtain⟨va,vc,hv,-⟩:=Wk.own_pos h1 (by omega);subst hv;refine⟨va,vc,g,c,rfl,?_,λj x hx=>?_⟩
 ·rw[Wk.own_cell h1 rfl i (by have:=h1.1;omega),zsE,h3];rfl
 ·unfold World.cell?;rw[h5];exact h6 j x hx
def GaB(B tb:Nat)(w:World)(k:Nat):Prop:=k=tb\/zxs B w k
theorem zqv{b c:World}(h:Fr (GaB B tb a) a b)(k:Fr (GaB B tb b) b c):Fr (GaB B tb a) a c :=
 ⟨zsy h.1 k.1,λi hi ho=>by
  have e1:=h.2.1 i hi ho
  exact(k.2.1 i (zsJ hi h.1) (λhs=>ho (hs.imp id (λhs=>⟨hs.1,(zhf e1).1 hs.2⟩)))).trans e1,k.2.2.1.trans h.2.2.1,k.2.2.2.1.trans h.2.2.2.1,k.2.2.2.2.trans h.2.2.2.2⟩
theorem zqw{b c:World}(h:Fr (GaB B tb a) a b)(k:Fr (zxs B b) b c):Fr (GaB B tb a) a c:=zqv h (zai k (λ_ _ h=>.inr h))
theorem zgC{S:Nat->Int->Bool}{h:Nat}{X X':Nat->Prop}{Y Y':Nat->Nat->Prop}{acc:Int->Bool}(hr:GaR W S made i h X Y acc)(hX:∀ x,X' x->X x)(hY:∀ x y,Y' x y->Y x y):GaR W S made i h X' Y' acc :=
 ⟨hr.snd,hr.hd,λx m hx=>hr.own x m (hX x hx),λx y j b m hy=>hr.to x y j b m (hY x y hy)⟩
theorem zh4{R:Nat}{b:World}(h:RingsAt R a v made)(hf:Fr (GaB B tb a) a b)(ht:∃ cs,a.heap[tb]? = some (.cells cs 110 (0,0))):RingsAt R b v made :=
 zgV h (λk cs t hk h3 _=>hf.2.1 k (zsO.1 hk).1 (λho=>by
  obtain⟨ds,hd⟩:=ht;rcases ho with e | ⟨-,hs⟩
  ·subst e;rw[hk] at hd;simp only[Option.some.injEq,Obj.cells.injEq] at hd;rcases h3 with rfl | rfl <;> simp at hd
  ·rcases h3 with rfl | rfl
   ·exact zap hk (by decide) (by decide) hs
   ·exact zap hk (by decide) (by decide) hs))
theorem zmH{l:List Nat}(hnd:l.Nodup)(hl:∀ x,x ∈ l->x<n):l.length<=n:=by
 have:=Wk.nodup_bound n (zag l) (by
  unfold zag
  refine List.Pairwise.map (R:=(·≠·)) _ (λa b hab e=>hab (by omega)) hnd) (λx hx=>by
  unfold zag at hx;obtain⟨y,hy,rfl⟩:=List.mem_map.1 hx;have:=hl y hy
  omega)
 rwa [zam] at this
theorem zbw{l:List Nat}{p:Nat}(h:p<l.length)(z:Nat):z ∈ l.take (p+1)↔z ∈ l.take p\/z=l.getD p 0:=by
 have e:l.take (p+1)=l.take p ++ [l.getD p 0]:=by rw[zsU,zsE,zsF h];rfl
 rw[e];simp
theorem zii(B:Nat)(W:Nat->List Nat)(S:Nat->Int->Bool)(n wb wcp tb tc:Nat)(A:Nat->Nat)(OO:Nat->Nat->Prop)(hn:n<=2048)(hW:∀ r,r<n->∀ y,y ∈ W r->y<n)(hWl:∀ r,(W r).length<=1048576)(w:World)(hB:B<=w.heap.size)(hWay:zjD w.heap.size w wb n W)(hwn:∀ r a c b o,r<n->w.cell? ⟨wb,r,none⟩=some (.slice (some ⟨b,o,none⟩) a c)->¬ zcw w b/\b≠tb)(hwb:¬ zcw w wb/\wb≠tb)(hS:SetsV B w tb n A OO id S) :
 Calls Tryz.prog 151 #[.slice (some ⟨wb,0,none⟩) n wcp,.slice (some ⟨tb,0,none⟩) n tc] w λe w'=>(∃ v,e=.returned v)/\(∃ OO' rep C,SetsV B w' tb n A OO' rep C/\∀ x,x<n->∀ m,C (rep x) m=true↔Uw W S x m)/\Fr (GaB B tb w) w w':=by
 have HR:=zaa (zjZ W n wb wcp hn hW hWl w hWay);have HS:=zaa hS;have HW:=zaa hWay;have Hwn:=zaa hwn;have Hwb:=zaa hwb;clear hS hWay hwn hwb;go_enter Tryz.func151,Tryz.ntmps151;go_wp2_with fail;refine(uh HR).mono ?_;rintro e w1 ⟨v1,made,rfl,hRi,hml,hRa,hb1⟩;obtain⟨ra,rc,rfl⟩:=(show ∃ a c,v1=.slice a made.length c by obtain⟨vs,h1,-⟩:=hRa.form;exact zaf h1);have hS1:=zaY (uh HS) hb1;have hs1:=hb1.size;have hB1:B<=w1.heap.size:=by omega
 obtain⟨tcs,htc,-⟩:=hS1.row;have Htc:Hid (∃ cs,w1.heap[tb]? = some (.cells cs 110 (0,0))):=zaa ⟨tcs,htc⟩
 have HWK:Hid (∀ r,r<n->∃ a c,∀ V,Fr (GaB B tb w1) w1 V->V.cell? ⟨wb,r,none⟩=some (.slice a (W r).length c)/\NRow V.heap.size V a (zag (W r))):=zaa (λr hr=>by
  obtain⟨a,c,h1,h2⟩:=(uh HW).2 r hr;refine⟨a,c,λV hV=>?_⟩;have kp:∀ k,k<w.heap.size->¬ zcw w k->k≠tb->V.heap[k]? = w.heap[k]?:=λk hk h3 h4=>(hV.2.1 k (by omega) (λho=>ho.elim h4 (λho=>h3 ((zhf (hb1.block k hk)).1 ho.2)))).trans (hb1.block k hk);have hwl:=(uh HW).1;refine⟨(zsL (kp wb hwl (uh Hwb).1 (uh Hwb).2)).trans h1,?_⟩;rcases h2 with h2 | ⟨b,off,rfl,h3,h4⟩
  ·exact .inl h2
  ·obtain⟨n1,n2⟩:=uh Hwn r _ c b off hr h1
   exact .inr ⟨b,off,rfl,zsJ h3 (by have:=hV.1;omega),λj hj=>(zsL (kp b h3 n1 n2)).trans (h4 j hj)⟩)
 have Hb1:=zaa hb1;have HRi:=zaa hRi;have HRa:=zaa hRa;have HS1:=zaa hS1;clear hb1 hRi hRa HR hS1 htc HS HW;go_wp2
 go_loopw [16] (λx V=>∃ (i:Nat) (rep:Nat->Nat) (C:Nat->Int->Bool) (OO':Nat->Nat->Prop),x=.int .i64 i/\i<=made.length/\GaI W S made i rep C/\SetsV B V tb n A OO' rep C/\Fr (GaB B tb w1) w1 V) (λx _=>made.length - (intOf x).toNat)
 case atStart=>exact⟨0,id,S,OO,rfl,zsK _,ztC W S made,uh HS1,zax _ _⟩
 case round =>
  obtain⟨i,rep,C,OO1,rfl,hi,hI,hV,hF⟩:=hrel;by_cases hlt:i<made.length
  ·have hlt':(i:Int)<made.length:=by omega
   obtain⟨a,ha⟩:∃ a,made[i]? = some a:=⟨made[i],zsF hlt⟩;obtain⟨va,vc,g,c,hv,hc1,hc2⟩:=ziO (zh4 (uh HRa) hF (uh Htc)) ha
   cases hv
   have hne:=(uh HRi).ne i a ha;obtain⟨h,a',rfl⟩:∃ h a',a=h::a':=by cases a with
    | nil=>exact absurd rfl hne
    | cons h a'=>exact⟨h,a',rfl⟩
   have hhm:h ∈ h::a':=List.mem_cons_self;have hhn:=(uh HRi).lt i _ h ha hhm;obtain⟨hrh,hch⟩:=hI.new i _ h (zsG _) ha hhm;have hc0:=hc2 0 h rfl;have hcs:=(zbN hV hhn).1;rw[hrh] at hcs;have hhn':(h:Int)<n:=by omega
   have hal:(h::a').length<=2048:=by
    have hnd:=(uh HRi).nd i _ ha;have:=zmH hnd (λx hx=>(uh HRi).lt i _ x ha hx);omega
   have hap:(0:Int)<((h::a').length:Nat):=by simp
   have Hc2:Hid (∀ V',Fr (GaB B tb w1) w1 V'->∀ j x:Nat,(h::a')[j]? = some x->V'.cell? ⟨g,j,none⟩=some (.int .i64 (x:Nat))):=zaa (λV' hV' j x hx=>by
    obtain⟨va',vc',g',c',hv',d1,d2⟩:=ziO (zh4 (uh HRa) hV' (uh Htc)) ha
    cases hv'
    have e1:V'.cell? ⟨va,i,none⟩=wr.cell? ⟨va,i,none⟩:=by
     obtain⟨vs,q1,-⟩:=(uh HRa).form;obtain⟨cs,q2⟩:=zcI q1 rfl;have nk:¬ GaB B tb w1 va:=λho=>by
      obtain⟨ds,hd⟩:=uh Htc;rcases ho with e | ⟨-,hs⟩
      ·subst e;rw[q2] at hd;simp at hd
      ·exact zap q2 (by decide) (by decide) hs
     have hl:=(zsO.1 q2).1;exact zsL ((hV'.2.1 va hl nk).trans (hF.2.1 va hl nk).symm)
    rw[d1,hc1] at e1
    cases e1
    exact d2 j x hx)
   have Hst:=zaa (zqu W S made i h);have HI:=zaa hI;have HV:=zaa hV;have HF:=zaa hF;have Hha:=zaa ha;have Hch:=zaa hch;clear hI hV hF ha hne hch hc2;generalize hav:h::a'=a at *;go_wp2
   go_loopw [28] (λx V=>∃ (p:Nat) (acc:Int->Bool) (OO':Nat->Nat->Prop),x=.int .i64 p/\p<=a.length/\GaR W S made i h (λz=>z=h\/z ∈ a.take p) (λz u=>z ∈ a.take p/\u ∈ W z) acc/\SetsV B V tb n A OO' rep (upC C h acc)/\Fr (GaB B tb w1) w1 V) (λx _=>a.length - (intOf x).toNat)
   case atStart=>exact⟨0,S h,OO1,rfl,zsK _,zgC (uh Hst) (λx hx=>by simpa using hx) (λx y hy=>by simp at hy),by rw[<- uh Hch,zur];exact uh HV,uh HF⟩
   case round =>
    obtain⟨p,acc,OO2,rfl,hp,hG,hV,hF⟩:=hrel;have hBr:B<=wr.heap.size:=by have:=hF.1;omega
    by_cases hpl:p<a.length
    ·have hpl':(p:Int)<a.length:=by omega
     have hxa:a[p]? = some (a.getD p 0):=by rw[zsE,zsF hpl];rfl
     have hxm:a.getD p 0 ∈ a:=List.mem_of_getElem? hxa;have hxn:=(uh HRi).lt i _ _ (uh Hha) hxm;have hcx:=uh Hc2 wr hF p _ hxa;have hcp:=(zbN hV hxn).1;have HJ:=zaa (zjW hV hBr hhn (hV.rp _ hxn));have hGo:=zwp (uh HRi) (uh HI) (uh Hha) hhm hxm hG;rw[zuq,zbd] at HJ;have Htk:=zaa (λz=>zbw hpl z);have Hxm:=zaa hxm;have HGo:=zaa hGo;have HF:=zaa hF;generalize a.getD p 0=x at *;have hxn':(x:Int)<n:=by omega
     clear hG hV hF hGo hxa;generalize hacc:orF acc (upC C h acc (rep x))=acc1 at *;go_wp2_with fail;refine(uh HJ).mono ?_;rintro e W2 ⟨⟨c2,rfl⟩,⟨OO3,hV3⟩,hF3⟩;have hF3':=zqw (uh HF) hF3;obtain⟨xa,xc,hxw⟩:=uh HWK x hxn;obtain⟨hwc,-⟩:=hxw W2 hF3';have hxl:=hWl x;have HV3:=zaa hV3;have HF3:=zaa hF3';have Hxw:=zaa hxw;have Hwx:=zaa (hW x hxn);clear hV3 hF3 hF3' hxw;go_wp2
     go_loopw [43] (λy V=>∃ (q:Nat) (acc:Int->Bool) (OO':Nat->Nat->Prop),y=.int .i64 q/\q<=(W x).length/\GaR W S made i h (λz=>(z=h\/z ∈ a.take p)\/z=x) (λz u=>(z ∈ a.take p/\u ∈ W z)\/z=x/\u ∈ (W x).take q) acc/\SetsV B V tb n A OO' rep (upC C h acc)/\Fr (GaB B tb w1) w1 V) (λy _=>(W x).length - (intOf y).toNat)
     case atStart=>exact⟨0,acc1,OO3,rfl,zsK _,zgC (uh HGo) (λz hz=>hz) (λz u hu=>by simpa using hu),uh HV3,uh HF3⟩
     case round =>
      obtain⟨q,acc2,OO4,rfl,hq,hG,hV,hF⟩:=hrel;have hBr2:B<=wr.heap.size:=by have:=hF.1;omega
      by_cases hql:q<(W x).length
      ·have hql':(q:Int)<(W x).length:=by omega
       have hya:(W x)[q]? = some ((W x).getD q 0):=by rw[zsE,zsF hql];rfl
       have hym:(W x).getD q 0 ∈ W x:=List.mem_of_getElem? hya;have hyn:=uh Hwx _ hym;obtain⟨b9,o9,rfl,hb9,hc9⟩:=zbg (uh Hxw wr hF).2 (k:=q) (by rw[zam];exact hql);rw[zbS hql] at hc9;have hcp2:=(zbN hV hyn).1;have HJ2:=zaa (zjW hV hBr2 hhn (hV.rp _ hyn));have hGo2:=gar_to (uh HRi) (uh HI) (uh Hha) hhm (uh Hxm) hym hG;rw[zuq,zbd] at HJ2;have Htk2:=zaa (λz=>zbw hql z);have HGo2:=zaa hGo2;have HF5:=zaa hF;generalize (W x).getD q 0=y at *;have hyn':(y:Int)<n:=by omega
       clear hG hV hF hGo2 hya hym;generalize orF acc2 (upC C h acc2 (rep y))=acc3 at *;go_wp2_with fail;refine(uh HJ2).mono ?_;rintro e W3 ⟨⟨c3,rfl⟩,⟨OO5,hV5⟩,hF6⟩;have HV5:=zaa hV5;have HF6:=zaa (zqw (uh HF5) hF6);clear hV5 hF6;go_wp2;go_roundw
       case rel=>exact⟨q+1,acc3,OO5,by go_num,by omega,zgC (uh HGo2) (λz hz=>hz) (λz u hu=>by
        rcases hu with hu | ⟨rfl,hu⟩
        ·exact .inl (.inl hu)
        ·rcases(uh Htk2 u).1 hu with hu | hu
         ·exact .inl (.inr ⟨rfl,hu⟩)
         ·exact .inr ⟨rfl,hu⟩),uh HV5,uh HF6⟩
       case measure=>simp[intOf];omega
      ·obtain rfl:q=(W x).length:=by omega
       have HG:=zaa hG;have HV:=zaa hV;have HF4:=zaa hF;clear hG hV hF;go_wp2;go_roundw
       case rel=>exact⟨p+1,acc2,OO4,by go_num,by omega,zgC (uh HG) (λz hz=>by
        rcases hz with hz | hz
        ·exact .inl (.inl hz)
        ·exact((uh Htk z).1 hz).imp .inr id) (λz u hu=>by
        rcases(uh Htk z).1 hu.1 with hz | hz
        ·exact .inl ⟨hz,hu.2⟩
        ·subst hz;exact .inr ⟨rfl,by rw[zsN];exact hu.2⟩),uh HV,uh HF4⟩
       case measure=>simp[intOf];omega
    ·obtain rfl:p=a.length:=by omega
     rw[zsN] at hG;have Hnx:=zaa (zwq (uh HRi) (uh HI) (uh Hha) hhm hG (λx hx=>.inr hx) (λx y hx hy=>⟨hx,hy⟩));have HV:=zaa hV;have HF:=zaa hF;clear hG hV hF;go_wp2
     go_loopw [57] (λx V=>∃ (p:Nat),x=.int .i64 p/\p<=a.length/\SetsV B V tb n A OO2 (λr=>if r ∈ a.take p then h else rep r) (upC C h acc)/\Fr (GaB B tb w1) w1 V) (λx _=>a.length - (intOf x).toNat)
     case atStart=>exact⟨0,rfl,zsK _,by simpa using uh HV,uh HF⟩
     case round =>
      obtain⟨p,rfl,hp,hV,hF⟩:=hrel;by_cases hpl:p<a.length
      ·have hpl':(p:Int)<a.length:=by omega
       have hxa:a[p]? = some (a.getD p 0):=by rw[zsE,zsF hpl];rfl
       have hxn:=(uh HRi).lt i _ _ (uh Hha) (List.mem_of_getElem? hxa);have hcx:=uh Hc2 wr hF p _ hxa;obtain⟨hcp,hfp⟩:=zbN hV hxn;have hVs:=znF hV (r:=a.getD p 0) hhn;have e1:upN (λr=>if r ∈ a.take p then h else rep r) (a.getD p 0) h=λr=>if r ∈ a.take (p+1) then h else rep r:=by
        funext r;unfold upN;by_cases e:r=a.getD p 0
        ·rw[if_pos e,if_pos ((zbw hpl r).2 (.inr e))]
        ·rw[if_neg e];show (if r ∈ a.take p then h else rep r)=_;by_cases e2:r ∈ a.take p
         ·rw[if_pos e2,if_pos ((zbw hpl r).2 (.inl e2))]
         ·rw[if_neg e2,if_neg (λe3=>((zbw hpl r).1 e3).elim e2 e)]
       rw[e1] at hVs;have hFs:Fr (GaB B tb w1) w1 (wr.setCell ⟨tb,a.getD p 0,none⟩ (.pointer (some ⟨A h,0,none⟩))):=zaE hF (.inl rfl) _;have HVs:=zaa hVs;have HFs:=zaa hFs;generalize a.getD p 0=x at *;generalize (if x ∈ a.take p then h else rep x)=rx at *;have hxn':(x:Int)<n:=by omega
       clear hV hF hVs hFs hxa e1;go_wp2;go_roundw
       case rel=>exact⟨p+1,by go_num,by omega,uh HVs,uh HFs⟩
       case measure=>simp[intOf];omega
      ·obtain rfl:p=a.length:=by omega
       rw[zsN] at hV;have HV:=zaa hV;have HF:=zaa hF;clear hV hF;go_wp2;go_roundw
       case rel=>exact⟨i+1,_,_,OO2,by go_num,by omega,uh Hnx,uh HV,uh HF⟩
       case measure=>simp[intOf];omega
  ·obtain rfl:i=made.length:=by omega
   have Hen:=zaa (λx hx m=>ga_end (uh HRi) hI x hx m);have HV:=zaa hV;have HF:=zaa hF;clear hI hV hF;go_wp2
   go_end0
   refine⟨⟨_,rfl⟩,⟨_,rep,C,uh HV,uh Hen⟩,?_⟩;have hb1:=uh Hb1;have hF:=uh HF;exact⟨zsy hb1.size hF.1,λk hk ho=>(hF.2.1 k (by omega) (λh=>ho (h.imp id (λh=>⟨h.1,(zhf (hb1.block k hk)).1 h.2⟩)))).trans (hb1.block k hk),hF.2.2.1.trans hb1.os,hF.2.2.2.1.trans hb1.tape,hF.2.2.2.2.trans hb1.output⟩
abbrev rhs(G:Gm)(q:Nat):List Int:=(G.prods.getD q pd0).right
abbrev lhs(G:Gm)(q:Nat):Nat:=(G.prods.getD q pd0).left.toNat
def WayP(G:Gm)(q i r y:Nat):Prop:=q<G.prods.length/\lhs G q=r/\i<(rhs G q).length/\zar G.nk (zat G) ((rhs G q).take i)=true/\(G.nk:Int)<=(rhs G q).getD i 0/\((rhs G q).getD i 0 - G.nk).toNat=y
def KndP(G:Gm)(q i r:Nat)(m:Int):Prop:=q<G.prods.length/\lhs G q=r/\i<(rhs G q).length/\zar G.nk (zat G) ((rhs G q).take i)=true/\(rhs G q).getD i 0<(G.nk:Int)/\(rhs G q).getD i 0=m
def zrD(k j q i:Nat):Prop:=q<k\/q=k/\i<j
def upW(W:Nat->List Nat)(r y:Nat):Nat->List Nat:=λs=>if s=r then W r ++ [y] else W s
theorem zoK(W:Nat->List Nat)(r y s z:Nat):z ∈ upW W r y s↔z ∈ W s\/s=r/\z=y:=by
 unfold upW;by_cases e:s=r
 ·subst e;simp
 ·simp[e]
theorem ziF(W:Nat->List Nat)(r y s:Nat):(upW W r y s).length<=(W s).length+1:=by
 unfold upW;by_cases e:s=r
 ·subst e;simp
 ·simp[e]
structure FbI (G:Gm) (k j:Nat) (C:Nat->Int->Bool) (W:Nat->List Nat):Prop where
 c:∀ r m,C r m=true↔∃ q i,zrD k j q i/\KndP G q i r m
 w:∀ r y,y ∈ W r↔∃ q i,zrD k j q i/\WayP G q i r y
 l:∀ r,(W r).length<=64 * k+j
theorem upto_succ:zrD k (j+1) q i↔zrD k j q i\/q=k/\i=j:=by unfold zrD;omega
theorem ztI(G:Gm):FbI G 0 0 (λ_ _=>false) (λ_=>[]) :=
 ⟨λr m=>⟨λh=>(by cases h),fun⟨q,i,h,_⟩=>(by unfold zrD at h;omega)⟩,λr y=>⟨λh=>(by cases h),fun⟨q,i,h,_⟩=>(by unfold zrD at h;omega)⟩,λr=>by simp⟩
theorem zwD(h:FbI G k j C W)(hk:k<G.prods.length)(hj:j<(rhs G k).length)(he:zar G.nk (zat G) ((rhs G k).take j)=true)(hx:(rhs G k).getD j 0<(G.nk:Int)):FbI G k (j+1) (upC C (lhs G k) (zk1 (C (lhs G k)) ((rhs G k).getD j 0))) W:=by
 refine⟨λr m=>?_,λr y=>?_,λr=>by have:=h.l r;omega⟩
 ·have key:upC C (lhs G k) (zk1 (C (lhs G k)) ((rhs G k).getD j 0)) r m=true↔C r m=true\/KndP G k j r m:=by
   by_cases e:r=lhs G k
   ·subst e;rw[zbd];unfold zk1;by_cases e2:m=(rhs G k).getD j 0
    ·rw[if_pos e2];exact⟨λ_=>.inr ⟨hk,rfl,hj,he,hx,e2.symm⟩,λ_=>rfl⟩
    ·rw[if_neg e2];exact⟨.inl,λh1=>h1.elim id (λh2=>absurd h2.2.2.2.2.2.symm e2)⟩
   ·rw[zcp e];exact⟨.inl,λh1=>h1.elim id (λh2=>absurd h2.2.1.symm e)⟩
  rw[key,h.c r m];constructor
  ·rintro(⟨q,i,h1,h2⟩ | h2)
   ·exact⟨q,i,upto_succ.2 (.inl h1),h2⟩
   ·exact⟨k,j,upto_succ.2 (.inr ⟨rfl,rfl⟩),h2⟩
  ·rintro⟨q,i,h1,h2⟩;rcases upto_succ.1 h1 with h1 | ⟨rfl,rfl⟩
   ·exact .inl ⟨q,i,h1,h2⟩
   ·exact .inr h2
 ·rw[h.w r y];constructor
  ·rintro⟨q,i,h1,h2⟩;exact⟨q,i,upto_succ.2 (.inl h1),h2⟩
  ·rintro⟨q,i,h1,h2⟩;rcases upto_succ.1 h1 with h1 | ⟨rfl,rfl⟩
   ·exact⟨q,i,h1,h2⟩
   ·have:=h2.2.2.2.2.1;omega
theorem zwC(h:FbI G k j C W)(hk:k<G.prods.length)(hj:j<(rhs G k).length)(he:zar G.nk (zat G) ((rhs G k).take j)=true)(hx:(G.nk:Int)<=(rhs G k).getD j 0):FbI G k (j+1) C (upW W (lhs G k) ((rhs G k).getD j 0 - G.nk).toNat):=by
 refine⟨λr m=>?_,λr y=>?_,λr=>by have:=h.l r;have:=ziF W (lhs G k) ((rhs G k).getD j 0 - G.nk).toNat r;omega⟩
 ·rw[h.c r m];constructor
  ·rintro⟨q,i,h1,h2⟩;exact⟨q,i,upto_succ.2 (.inl h1),h2⟩
  ·rintro⟨q,i,h1,h2⟩;rcases upto_succ.1 h1 with h1 | ⟨rfl,rfl⟩
   ·exact⟨q,i,h1,h2⟩
   ·have:=h2.2.2.2.2.1;omega
 ·rw[zoK,h.w r y];constructor
  ·rintro(⟨q,i,h1,h2⟩ | ⟨rfl,rfl⟩)
   ·exact⟨q,i,upto_succ.2 (.inl h1),h2⟩
   ·exact⟨k,j,upto_succ.2 (.inr ⟨rfl,rfl⟩),hk,rfl,hj,he,hx,rfl⟩
  ·rintro⟨q,i,h1,h2⟩;rcases upto_succ.1 h1 with h1 | ⟨rfl,rfl⟩
   ·exact .inl ⟨q,i,h1,h2⟩
   ·exact .inr ⟨h2.2.1.symm,h2.2.2.2.2.2.symm⟩
theorem zwB(h:FbI G k j C W)(hj:j<=64)(hs:∀ i,j<=i->i<(rhs G k).length->zar G.nk (zat G) ((rhs G k).take i)=false):FbI G (k+1) 0 C W:=by
 have key:∀ q i,(zar G.nk (zat G) ((rhs G q).take i)=true/\i<(rhs G q).length)->(zrD (k+1) 0 q i↔zrD k j q i):=λq i ⟨he,hi⟩=>by
  unfold zrD;constructor
  ·rintro(h1 | h1)
   ·by_cases e:q=k
    ·subst e;by_cases hij:i<j
     ·exact .inr ⟨rfl,hij⟩
     ·have:=hs i (by omega) hi;rw[he] at this;cases this
    ·exact .inl (by omega)
   ·omega
  ·omega
 refine⟨λr m=>?_,λr y=>?_,λr=>by have:=h.l r;omega⟩
 ·rw[h.c r m];constructor
  ·rintro⟨q,i,h1,h2⟩;exact⟨q,i,(key q i ⟨h2.2.2.2.1,h2.2.2.1⟩).2 h1,h2⟩
  ·rintro⟨q,i,h1,h2⟩;exact⟨q,i,(key q i ⟨h2.2.2.2.1,h2.2.2.1⟩).1 h1,h2⟩
 ·rw[h.w r y];constructor
  ·rintro⟨q,i,h1,h2⟩;exact⟨q,i,(key q i ⟨h2.2.2.2.1,h2.2.2.1⟩).2 h1,h2⟩
  ·rintro⟨q,i,h1,h2⟩;exact⟨q,i,(key q i ⟨h2.2.2.2.1,h2.2.2.1⟩).1 h1,h2⟩
theorem zin(hj:j<row.length)(hi:j<i)(hx:row.getD j 0<(G.nk:Int)\/zat G (row.getD j 0 - G.nk).toNat=false):zar G.nk (zat G) (row.take i)=false:=by
 cases h:zar G.nk (zat G) (row.take i) with
 | false=>rfl
 | true =>
   have hm:row.getD j 0 ∈ row.take i:=by
    rw[zsE,zsF hj];show row[j] ∈ _;exact List.mem_take_iff_getElem.2 ⟨j,by omega,rfl⟩
   obtain⟨h1,h2⟩:=emptyB_iff.1 h _ hm;rcases hx with hx | hx
   ·omega
   ·rw[hx] at h2;cases h2
theorem zok(hj:j<row.length)(he:zar G.nk (zat G) (row.take j)=true)(hx:(G.nk:Int)<=row.getD j 0)(hn:zat G (row.getD j 0 - G.nk).toNat=true):zar G.nk (zat G) (row.take (j+1))=true:=by
 refine emptyB_iff.2 λx hxm=>?_;rw[zcH row j 0 hj] at hxm;rcases List.mem_append.1 hxm with h1 | h1
 ·exact emptyB_iff.1 he x h1
 ·simp only[List.mem_singleton] at h1;rw[h1];exact⟨hx,hn⟩
theorem fb_end(hG:GOk G)(h:FbI G G.prods.length 0 C W)(r:Nat)(m:Int):Uw W C r m↔0<=m/\Fst G r m.toNat:=by
 have up:∀ q i,q<G.prods.length->zrD G.prods.length 0 q i:=λq i hq=>.inl hq;constructor
 ·rintro⟨y,h1,h2⟩
  induction h1 with
  | refl x =>
    obtain⟨q,i,-,hq,rfl,hi,he,hx,rfl⟩:=(h.c _ _).1 h2;have h3:(1:Int)<=(rhs G q).getD i 0:=(hG.py _ (zan hq) _ (zbh hi)).1;exact⟨by omega,.kind _ (zan hq) i hi he hx⟩
  | step x y z hy _ ih =>
    obtain⟨q,i,-,hq,rfl,hi,he,hx,rfl⟩:=(h.w _ _).1 hy;obtain⟨h3,h4⟩:=ih h2;exact⟨h3,.rule _ (zan hq) i hi he hx _ h4⟩
 ·rintro⟨h0,h1⟩;obtain⟨k,rfl⟩:=Int.eq_ofNat_of_zero_le h0;rw[zsS] at h1;clear h0
  induction h1 with
  | kind p hp i hi he hx =>
    obtain⟨q,hq,rfl⟩:=List.getElem_of_mem hp;have e:G.prods[q]=G.prods.getD q pd0:=by rw[zsE,zsF hq];rfl
    rw[e] at hi he hx ⊢;have h3:(1:Int)<=(rhs G q).getD i 0:=(hG.py _ (zan hq) _ (zbh hi)).1;exact⟨_,.refl _,(h.c _ _).2 ⟨q,i,up q i hq,hq,rfl,hi,he,hx,by show (rhs G q).getD i 0=(((rhs G q).getD i 0).toNat:Int);omega⟩⟩
  | rule p hp i hi he hx k _ ih =>
    obtain⟨q,hq,rfl⟩:=List.getElem_of_mem hp;have e:G.prods[q]=G.prods.getD q pd0:=by rw[zsE,zsF hq];rfl
    rw[e] at hi he hx ih ⊢;obtain⟨y,h3,h4⟩:=ih;exact⟨y,.step _ _ _ ((h.w _ _).2 ⟨q,i,up q i hq,hq,rfl,hi,he,hx,rfl⟩) h3,h4⟩
theorem zmL(z:Value)(n:Nat):madeCells #[z] n=(List.replicate n z).toArray:=by
 refine Array.ext (by simp[madeCells]) λi h1 h2=>?_;simp[madeCells,Nat.mod_one]
theorem zgu(z y:Value)(m k r:Nat):Wk.over (List.replicate m y ++ List.replicate (k+r) z) m (List.replicate k y)=List.replicate (m+k) y ++ List.replicate r z:=by
 unfold Wk.over;have h1:(List.replicate m y ++ List.replicate (k+r) z).take m=List.replicate m y:=by rw[List.take_append_of_le_length (by simp)];simp
 have h2:(List.replicate m y ++ List.replicate (k+r) z).drop (m+(List.replicate k y).length)=List.replicate r z:=by
  rw[List.length_replicate,List.drop_append];simp
 rw[h1,h2,<- List.append_assoc,List.replicate_append_replicate]
theorem zmg(g n m:Nat)(h:m<n)(w:World):(Instr.slice 50 (.slice (some ⟨g,0,none⟩) n n) (some (.int .i64 (m:Int))) none none).run Tryz.prog w=.ok (.slice (some ⟨g,m,none⟩) (n - m) (n - m)) w:=by
 rw[run_slice_l w 50 (some ⟨g,0,none⟩) n n Tryz.underlying50 .i64 (m:Int) (by omega) (by omega)];have e:((m:Int)).toNat=m:=by omega
 rw[e];simp[go_sem,Addr.add];rw[if_neg (by omega)]
 split
 ·rename_i h0;subst h0;rfl
 ·rfl
theorem zsa:(Tryz.prog.info? 3).map (·.size)=some 1:=by kernel_rfl
theorem znJ(xb n:Nat)(x:Int)(hn0:1<=n)(hn:n<=2048)(w:World)(hx:w.heap[xb]? = some (.cells #[.int .i64 x] 3)) :
 Calls Tryz.prog 134 #[.slice (some ⟨xb,0,none⟩) 1 1,.int .i64 (n:Int)] w λe w'=>∃ b,e=.returned (.slice (some ⟨b,0,none⟩) n n)/\w'.heap[b]? = some (.cells (List.replicate n (Value.int .i64 x)).toArray 3)/\w.heap.size<=b/\Below w.heap.size w w':=by
 have hmk:=λw=>run_make_row' (P:=Tryz.prog) 50 3 (.int .i64 0) 8 Tryz.underlying50 zdL rfl .i64 .i64 n (by omega) (by omega) w;have HM:=zaa (Tryz.bits_Mul 1 n (by omega) (by omega) w);have h1:(1 * n / 18446744073709551616:Nat)=0:=by omega
 have h2:(1 * n % 18446744073709551616:Nat)=n:=by omega
 rw[h1,h2] at HM;have hn':¬ (n:Int)<0:=by omega
 have hc:(IntKind.u64.wrap (n:Int))=n:=by rw[IntKind.wrap_u64];omega
 go_enter Tryz.func134,Tryz.ntmps134;go_wp2_with fail;refine(uh HM).mono ?_;rintro e w2 ⟨rfl,rfl⟩;have hxl:xb<w2.heap.size:=(zsO.1 hx).1;have hA:(w2.alloc (.cells (madeCells #[.int .i64 0] n) 3)).heap[w2.heap.size]? = some (.cells (List.replicate n (Value.int .i64 0)).toArray 3 (0,0)):=by rw[zmL];exact zsH _ _
 have hb1:Below w2.heap.size w2 (w2.alloc (.cells (madeCells #[.int .i64 0] n) 3)):=(zsY _ _).alloc (zsG _) _
 have hcp:=Wk.run_copy_rows (P:=Tryz.prog) (w2.alloc (.cells (madeCells #[.int .i64 0] n) 3)) 50 50 3 3 1 w2.heap.size 0 n n ⟨xb,0,none⟩ 1 1 (List.replicate n (Value.int .i64 0)) 3 [.int .i64 x] Tryz.underlying50 zsa hA (by simp[Nat.min_def];omega) (λj v hv=>by
  rcases j with _ | j
  ·cases hv
   rw[zhA];exact(hb1.cell (p:=⟨xb,0,none⟩) hxl).trans (by unfold World.cell?;rw[hx];rfl)
  ·cases hv) (by simp;omega) (λv hv=>by simp at hv;subst hv;rfl)
 have hmin:Nat.min 1 n=1:=by simp[Nat.min_def];omega
 rw[hmin] at hcp;have hov:=zgu (.int .i64 0) (.int .i64 x) 0 1 (n - 1);simp only[List.replicate_zero,List.nil_append,Nat.zero_add,show 1+(n - 1)=n by omega] at hov;have hov':Wk.over (List.replicate n (Value.int .i64 0)) 0 [.int .i64 x]=.int .i64 x::List.replicate (n - 1) (.int .i64 0):=hov;rw[hov'] at hcp;have hW:((w2.alloc (.cells (madeCells #[.int .i64 0] n) 3)).setRow w2.heap.size (Value.int .i64 x::List.replicate (n - 1) (Value.int .i64 0)).toArray).heap[w2.heap.size]? = some (.cells (Value.int .i64 x::List.replicate (n - 1) (Value.int .i64 0)).toArray 3 (0,0)):=setRow_heap _ _ _ _ _ _ hA;have hbW:Below w2.heap.size w2 ((w2.alloc (.cells (madeCells #[.int .i64 0] n) 3)).setRow w2.heap.size (Value.int .i64 x::List.replicate (n - 1) (Value.int .i64 0)).toArray):=Wk.below_row hb1 _ (zsG _) _;have Hst:=zaa (And.intro hW hbW);clear hA hov hov' hW hbW;go_wp2_with (at_builtin;refine Wk.wpList_copy_known _ rfl _ _ 50 50 rfl _ _ rfl rfl hcp ?_);generalize (w2.alloc (.cells (madeCells #[.int .i64 0] n) 3)).setRow w2.heap.size (Value.int .i64 x::List.replicate (n - 1) (Value.int .i64 0)).toArray=W0 at *
 go_loopw [8] (λy W=>∃ m:Nat,y=.int .i64 m/\1<=m/\m<=n/\W.heap[w2.heap.size]? = some (.cells (List.replicate m (Value.int .i64 x) ++ List.replicate (n - m) (Value.int .i64 0)).toArray 3 (0,0))/\Below w2.heap.size w2 W) (λy _=>n - (intOf y).toNat)
 case atStart=>exact⟨1,rfl,zsG _,hn0,(uh Hst).1,(uh Hst).2⟩
 case round =>
  clear Hst hcp hb1;obtain⟨m,rfl,hm1,hmn,hW,hb⟩:=hrel;by_cases hlt:m<n
  ·have hlt':(m:Int)<n:=by omega
   obtain⟨k,hk⟩:∃ k,k=Nat.min m (n - m):=⟨_,rfl⟩;have hk1:1<=k/\k<=n - m/\k<=m:=by rw[hk];simp only[Nat.min_def];split <;> omega
   have hs1:=λw=>zmg w2.heap.size n m hlt w;have hs2:=λw=>zmh w2.heap.size 0 n n m hmn w
   have HC:=zaa (λ(W':World) (hW':W'.heap[w2.heap.size]? = some (.cells (List.replicate m (Value.int .i64 x) ++ List.replicate (n - m) (Value.int .i64 0)).toArray 3 (0,0)))=>Wk.run_copy_rows (P:=Tryz.prog) W' 50 50 3 3 1 w2.heap.size m (n - m) (n - m) ⟨w2.heap.size,0,none⟩ m n (List.replicate m (Value.int .i64 x) ++ List.replicate (n - m) (Value.int .i64 0)) 3 (List.replicate k (.int .i64 x)) Tryz.underlying50 zsa hW' (by rw[<- hk];simp) (λj v hv=>by
    have hj:j<k:=by
     rcases Nat.lt_or_ge j k with h | h
     ·exact h
     ·rw[List.getElem?_eq_none (by simp;omega)] at hv;cases hv
    rw[List.getElem?_replicate,if_pos hj] at hv
    cases hv
    have:=World.news_of_block hW' j (.int .i64 x) (by
     rw[List.getElem?_append_left (by simp;omega),List.getElem?_replicate,if_pos (by omega)])
    exact this) (by simp;omega) (λv hv=>by rw[(List.mem_replicate.1 hv).2];rfl))
   rw[<- hk] at HC;have hov:Wk.over (List.replicate m (Value.int .i64 x) ++ List.replicate (n - m) (Value.int .i64 0)) m (List.replicate k (.int .i64 x))=List.replicate (m+k) (.int .i64 x) ++ List.replicate (n - (m+k)) (.int .i64 0):=by
    have h:=zgu (.int .i64 0) (.int .i64 x) m k (n - (m+k))
    rwa [show k+(n - (m+k))=n - m by omega] at h
   rw[hov] at HC;clear hov hk;have hwk:IntKind.i64.wrap ((m:Int)+k)=m+k:=by rw[IntKind.wrap_i64];omega
   go_wp2
   go_region_law (refine Wk.step_copy_known rfl (.tmp 41) (.tmp 44) 50 50 rfl (.slice (some ⟨w2.heap.size,m,none⟩) (n - m) (n - m)) (.slice (some ⟨w2.heap.size,0,none⟩) m n) (by simp[Act.eval,Act.put]) (by simp[Act.eval,Act.put]) (uh HC _ hW) ?_)
   all_goals
    go_simp;go_wp2;go_roundw
    case rel=>exact⟨m+k,by go_num,by omega,by omega,setRow_heap _ _ _ _ _ _ hW,Wk.below_row hb.drew _ (zsG _) _⟩
    case measure=>simp[intOf];omega
  ·obtain rfl:m=n:=by omega
   have hW2:wr.heap[w2.heap.size]? = some (.cells (List.replicate m (Value.int .i64 x)).toArray 3):=by rw[hW];simp
   go_wp2;go_ret;exact⟨w2.heap.size,rfl,hW2,zsG _,hb⟩
theorem castL_mem{l:List Nat}:x ∈ zag l↔∃ y,y ∈ l/\(y:Int)=x:=by unfold zag;simp
theorem zr8(rd:List Nat)(hnd:rd.Nodup):∃ rs,(zag rd).mergeSort (λx y=>decide (x<=y))=zag rs/\rs.Pairwise (· < ·)/\rs.Nodup/\(∀ x,x ∈ rs↔x ∈ rd)/\rs.length=rd.length:=by
 have hp:((zag rd).mergeSort (λx y=>decide (x<=y))).Perm (zag rd):=List.mergeSort_perm _ _;have hs:((zag rd).mergeSort (λx y=>decide (x<=y))).Pairwise (λx y=>decide (x<=y)=true):=List.pairwise_mergeSort (λa b c h1 h2=>by simp at *;omega) (λa b=>by simp;omega) _;generalize (zag rd).mergeSort (λx y=>decide (x<=y))=L at *;have hpos:∀ x,x ∈ L->0<=x:=λx hx=>by
  obtain⟨y,_,rfl⟩:=castL_mem.1 (hp.mem_iff.1 hx);omega
 have hL:L=zag (L.map Int.toNat):=by
  have h1:L.map ((λ(r:Nat)=>(r:Int)) ∘ Int.toNat)=L.map id:=List.map_congr_left λx hx=>by
   have:=hpos x hx;simp[Function.comp];omega
  unfold zag;rw[List.map_map,h1,List.map_id]
 generalize L.map Int.toNat=R at *;subst hL;have hn1:∀ l:List Nat,l.Nodup↔(zag l).Nodup:=λl=>by
  unfold List.Nodup zag;rw[List.pairwise_map];exact⟨λh=>h.imp (λh e=>h (by omega)),λh=>h.imp (λh e=>h (by omega))⟩
 have hR:R.Nodup:=(hn1 R).2 (hp.nodup_iff.2 ((hn1 rd).1 hnd));refine⟨R,rfl,?_,hR,λx=>?_,by have:=hp.length_eq;rwa [zam,zam] at this⟩
 ·unfold zag at hs;rw[List.pairwise_map] at hs;have h2:=List.Pairwise.and hs hR
  exact h2.imp (fun {a b} h=>by
   have h1:=h.1;have h2:=h.2
   simp at h1;omega)
 ·constructor
  ·intro hx;obtain⟨y,hy,e⟩:=castL_mem.1 (hp.mem_iff.1 (castL_mem.2 ⟨x,hx,rfl⟩));have:y=x:=by omega
   subst this;exact hy
  ·intro hx;obtain⟨y,hy,e⟩:=castL_mem.1 (hp.mem_iff.2 (castL_mem.2 ⟨x,hx,rfl⟩));have:y=x:=by omega
   subst this;exact hy
def zci(f:Nat->Int):Nat->Nat
 | 0=>0
 | n+1=>zci f n+if f n<0 then 1 else 0
theorem zd7{f g:Nat->Int}:∀ n,(∀ i,i<n->f i=g i)->zci f n=zci g n
 | 0,_=>rfl
 | n+1,h=>by unfold zci;rw[zd7 n (λi hi=>h i (by omega)),h n (by omega)]
theorem zht{f g:Nat->Int}:∀ n,(∀ i,i<n->0<=f i->0<=g i)->zci g n<=zci f n
 | 0,_=>zsG _
 | n+1,h=>by
   have ih:=zht n (λi hi=>h i (by omega));have hn:=h n (by omega);unfold zci
   split <;> split <;> omega
theorem zkI{f g:Nat->Int}:∀ n,(∀ i,i<n->0<=f i->0<=g i)->∀ i,i<n->f i<0->0<=g i->zci g n<zci f n
 | 0,_,i,hi,_,_=>by omega
 | n+1,h,i,hi,h0,h1=>by
   unfold zci;by_cases e:i=n
   ·subst e;have:=zht i (λj hj=>h j (by omega));rw[if_neg (by omega),if_pos h0];omega
   ·have:=zkI n (λj hj=>h j (by omega)) i (by omega) h0 h1;have hn:=h n (by omega)
    split <;> split <;> omega
theorem znc{lf:Nat->Nat}:∀ (l:List Nat) (c:Nat->Int),(∀ r,-1<=c r)->∀ r,-1<=chL lf l c r
 | [],c,h=>h
 | k::l,c,h=>by
   show ∀ r,-1<=chL lf l (if c (lf k)<0 then upZ c (lf k) k else c) r;refine znc l _ λr=>?_
   split
   ·unfold upZ;split
    ·omega
    ·exact h r
   ·exact h r
def lenV:Value->Nat
 | .slice _ n _=>n
 | _=>0
theorem zt6(lf:Nat->Nat)(l:List Nat)(q:Nat)(c:Nat->Int):chL lf (l ++ [q]) c=if chL lf l c (lf q)<0 then upZ (chL lf l c) (lf q) q else chL lf l c:=by rw[ziu];rfl
theorem ztE(lf:Nat->Nat)(l:List Nat)(q:Nat)(c:Nat->Int):fnL lf (l ++ [q]) c=fnL lf l c ++ if chL lf l c (lf q)<0 then[lf q] else[]:=by rw[zij];simp[fnL]
def lfN(G:Gm)(q:Nat):Nat:=(G.prods.getD q pd0).left.toNat
def rlN(G:Gm)(q:Nat):List Nat:=(zaA G.nk (G.prods.getD q pd0).right).map Int.toNat
theorem znH(h:x ∈ zaA nk row):0<=x:=by
 obtain⟨y,_,h2⟩:=List.mem_flatMap.1 h
 split at h2
 ·simp at h2;omega
 ·simp at h2
theorem zhs(r:Nat):∀ (l:List Int),(∀ x,x ∈ l->0<=x)->(l.map Int.toNat).count r=l.count (r:Int)
 | [],_=>by simp
 | x::l,h=>by
   rw[List.map_cons,List.count_cons,List.count_cons,zhs r l (λy hy=>h y (by simp[hy]))];have hx:=h x (by simp);have e:(x.toNat == r)=(x == (r:Int)):=by rw[Bool.eq_iff_iff];simp;omega
   rw[e]
theorem zhT(hq:q<G.prods.length):(ze0 G r).count q=(rlN G q).count r:=by
 unfold rlN;rw[zhs r _ (λx hx=>znH hx)];unfold ze0;have key:∀ n,((List.range n).flatMap λi=>List.replicate ((zaA G.nk (G.prods.getD i pd0).right).count (r:Int)) i).count q=if q<n then(zaA G.nk (G.prods.getD q pd0).right).count (r:Int) else 0:=by
  intro n
  induction n with
  | zero=>simp
  | succ n ih =>
    rw[List.range_succ,List.flatMap_append,List.count_append,ih];simp only[List.flatMap_cons,List.flatMap_nil,List.append_nil,List.count_replicate];by_cases e:n=q
    ·subst e;simp
    ·have:(n == q)=false:=by simpa using e
     by_cases h:q<n
     ·have h2:q<n+1:=by omega
      simp only[this,h,h2,if_true,Bool.false_eq_true,if_false,Nat.add_zero]
     ·have h2:¬ q<n+1:=by omega
      simp only[this,h,h2,Bool.false_eq_true,if_false,Nat.add_zero]
 rw[key,if_pos hq]
structure RoI (G:Gm) (M:Nat) (w:World) (mv:Value) (ml:List Int) (bb lb:Nat) (c:Nat->Int) (rd:List Nat) (u:Value) (W:World):Prop where
 by_:W.rowIs bb 3 G.rules.length (λr=>.int .i64 (c r))
 left:zeD W lb G.rules.length (λr=>decide (r<G.rules.length) && decide (c r<0))
 ms:∃ ml',ml'.length=ml.length/\RInv (lfN G) (rlN G) (atZ ml) G.prods.length c (atZ ml') rd/\W.ownsRow M 3 1 mv ml'.length (zao ml')/\∀ q,G.prods.length<=q->atZ ml' q=0
 rd:∃ base,bb<base/\lb<base/\w.heap.size<=base/\base<=W.heap.size/\W.ownsRow base 3 1 u (zag rd).length (zao (zag rd))
 st:∃ n,c=stN (lfN G) (rlN G) (λq=>decide (atZ ml q=(rlN G q).length)) G.prods.length n
 cl:∀ r,-1<=c r
 fr:Fr (λk=>mv.ownBlock=some k) w W
theorem zpi{w:World}{t:Nat}(h:w.heap[b]? = some (.cells (List.replicate n v).toArray t)):w.rowIs b t n (λ_=>v) :=
 ⟨_,h,by simp,λi hi=>by simp[hi]⟩
theorem fr_hi{O:Nat->Prop}{b c:World}(h:Fr O a b)(k:Below B b c)(hB:a.heap.size<=B):Fr O a c:=⟨zsy h.1 k.size,λj hj ho=>(k.block j (by omega)).trans (h.2.1 j hj ho),k.os.trans h.2.2.1,k.tape.trans h.2.2.2.1,k.output.trans h.2.2.2.2⟩
theorem zcZ{W:World}{e s:Nat}{xs:List Value}(h:W.ownsRow B e s v n xs)(hk:∀ k,v.ownBlock=some k->W'.heap[k]? = W.heap[k]?):W'.ownsRow B e s v n xs:=by
 refine⟨h.1,?_⟩;rcases h.2 with h1 | ⟨g,cap,cur,hv,hb,hh,rest⟩
 ·exact .inl h1
 ·exact .inr ⟨g,cap,cur,hv,hb,(hk g (by rw[hv];rfl)).trans hh,rest⟩
theorem zcU{W:World}(h:zeD W b n S)(hk:W'.heap[b]? = W.heap[b]?):zeD W' b n S:=by
 obtain⟨D,⟨es,cc,h3,h4⟩,h2⟩:=h;exact⟨D,⟨es,cc,hk.trans h3,h4⟩,h2⟩
theorem zi7{W:World}(h:zeD W b n S):b<W.heap.size:=by obtain⟨D,h1,_⟩:=h;exact h1.lt
structure InI (G:Gm) (w5:World) (bb lb:Nat) (c:Nat->Int) (l:List Nat) (v:Value) (W:World):Prop where
 by_:W.rowIs bb 3 G.rules.length (λr=>.int .i64 (chL (lfN G) l c r))
 left:zeD W lb G.rules.length (λr=>decide (r<G.rules.length) && decide (chL (lfN G) l c r<0))
 fd:W.ownsRow w5.heap.size 3 1 v (zag (fnL (lfN G) l c)).length (zao (zag (fnL (lfN G) l c)))
 fr:Fr (λk=>k=bb\/k=lb) w5 W
theorem zh3(G:Gm)(hG:GOk G)(ka pa ra qa:Option Addr)(kc pc rc qc gb ob ub:Nat)(M:Nat)(mv:Value)(ml:List Int)(hml:ml.length=G.prods.length)(hm0:∀ q,q<G.prods.length->atZ ml q=(rlN G q).length\/((rlN G q).length:Int)<atZ ml q\/atZ ml q<0)(hmb:∀ q,-1048<=atZ ml q/\atZ ml q<=1048)
 (w:World) (hM:M<=w.heap.size) (hg:GrAt M w G ka kc pa pc ra rc qa qc gb ob ub) (hm:w.ownsRow M 3 1 mv ml.length (zao ml)) :
 Calls Tryz.prog 157 #[.pointer (some ⟨gb,0,none⟩),mv] w λe w'=>∃ (b n:Nat) (c:Nat->Int),e=.returned (.slice (some ⟨b,0,none⟩) G.rules.length G.rules.length)/\w'.rowIs b 3 G.rules.length (λr=>.int .i64 (c r))/\c=stN (lfN G) (rlN G) (λq=>decide (atZ ml q=(rlN G q).length)) G.prods.length n/\stT (lfN G) (rlN G) (λq=>decide (atZ ml q=(rlN G q).length)) G.prods.length c=c/\w.heap.size<=b/\Fr (λk=>mv.ownBlock=some k) w w':=by
 obtain⟨ma,mc,hmv⟩:=zaf hm;subst hmv;have c2:w.cell? ⟨gb,2,none⟩=some (.slice ra G.rules.length rc):=by unfold World.cell?;rw[hg.box];rfl
 have hgl:gb<w.heap.size:=by have:=hg.lt;omega
 have hr1:=hG.r1;have hr2:=hG.r2;unfold Gm.nr at hr1 hr2;have hml4:ml.length<=4096:=by have:=hG.ps;omega
 have Hml:=zaa hml;clear hml;go_enter Tryz.func157,Tryz.ntmps157;go_wp2_with fail;have hb1:Below w.heap.size w (w.alloc (.cells #[.int .i64 (-1)] 3)):=(zsY _ _).alloc (zsG _) _;have hs1:(w.alloc (.cells #[.int .i64 (-1)] 3)).heap.size=w.heap.size+1:=by simp
 refine(znJ w.heap.size G.rules.length (-1) hr1 hr2 _ (zsH _ _)).mono ?_;rintro e w2 ⟨bb,rfl,hbb,hbl,hb2⟩;have hbw2:Below w.heap.size w w2:=hb1.trans (zab hb2 (by omega));have hs2:=hb2.size;have hbb2:bb<w2.heap.size:=(zsO.1 hbb).1;have c2b:=(hbw2.cell (p:=⟨gb,2,none⟩) hgl).trans c2;have HL:=zaa (zhz gb G.rules.length ra rc hr2 w2 (by omega) c2b);have Hg:=zaa hg;have Hm:=zaa hm;clear hb1 hb2 hg hm c2;go_wp2_with fail;refine(uh HL).mono ?_;rintro e w3 ⟨lb,rfl,hlf,hlb,hlb3,hb3⟩;have hbw3:=hbw2.trans (zab hb3 (by omega));have hs3:=hb3.size;have hm3:=zaO (zaW (uh Hm) hbw3) (zsG _);obtain⟨_,_,he,hmn⟩:=zb5 hm3
 cases he
 have HP:=zaa (znL ma mc ml 0 (by omega) w3 hmn);clear HL;go_wp2_with fail;refine(uh HP).mono ?_;rintro e w4 ⟨v4,rfl,how4,hb4⟩;obtain⟨va,vc,rfl⟩:=zaf how4;have hbw4:=hbw3.trans (zab hb4 (by omega));have hs4:=hb4.size;have hplc:zdT ml 0 ml.length=zag ((List.range G.prods.length).filter λq=>decide (atZ ml q=0)):=by rw[zmu,uh Hml];rfl
 have hR0:RoI G M w (.slice ma ml.length mc) ml bb lb (λ_ => -1) ((List.range G.prods.length).filter λq=>decide (atZ ml q=0)) (.slice va (zdT ml 0 ml.length).length vc) w4:=by
  refine⟨?_,?_,⟨ml,rfl,znI hm0 rfl,zaO (zaW (uh Hm) hbw4) (zsG _),λq hq=>?_⟩,⟨w3.heap.size,by omega,hlb3,by omega,by omega,?_⟩,⟨0,rfl⟩,λ_=>by omega,zae hbw4⟩
  ·exact(zpi (zev (zev hbb hb3) hb4))
  ·obtain⟨D,h1,h2⟩:=hlf;have hl3:=h1.lt;obtain⟨es,cc,h3,h4⟩:=h1;exact⟨D,⟨es,cc,(hb4.block lb hl3).trans h3,h4⟩,λi=>by rw[h2 i];simp⟩
  ·unfold atZ;rw[zsE,List.getElem?_eq_none (by have:=uh Hml;omega)];rfl
  ·rw[<- hplc];exact how4
 have hlen4:=zgX ml 0 ml.length;have HR0:=zaa hR0;have Hplc:=zaa hplc;have hbbw:w.heap.size<=bb:=by omega
 have hlbw:w.heap.size<=lb:=by omega
 clear hR0 how4 hbb hlf hm3 hmn HP hb3 hb4 hplc c2b hbw2 hbw3;have HKg:Hid (∀ W,Fr (λk=>(Value.slice ma ml.length mc).ownBlock=some k) w W->GrAt M W G ka kc pa pc ra rc qa qc gb ob ub):=zaa (λW hF=>za0 (uh Hg) (zau hF hM (λk hk=>((uh Hm).lt k hk).1)));have hMw:∀ k,(Value.slice ma ml.length mc).ownBlock=some k->M<=k/\k<w.heap.size:=λk hk=>(uh Hm).lt k hk;go_wp2
 go_loopw [7] (λu W=>∃ c rd,RoI G M w (.slice ma ml.length mc) ml bb lb c rd u W) (λu W=>2 * zci (zxD W bb) G.rules.length+if lenV u=0 then 0 else 1)
 case atStart=>exact⟨_,_,uh HR0⟩
 case round =>
  clear HR0 hbw4 hs4 hs3 hs2 hlen4;obtain⟨c,rd,hR⟩:=hrel;obtain⟨hby,hleft,⟨ml',hl',hinv,hms,hz'⟩,⟨base,hbs1,hbs2,hbs3,hbs4,hrd⟩,⟨n,hst⟩,hcl,hfr⟩:=hR;obtain⟨ua,uc,rfl⟩:=zaf hrd;have hcnt:zci (zxD wr bb) G.rules.length=zci c G.rules.length:=zd7 _ (λr hr=>zpJ hby r hr);have hrl:(zag rd).length=rd.length:=zam rd;by_cases hz:rd=[]
  ·subst hz;have hend:=zpj hinv;have Hfin:=zaa (And.intro hby (And.intro hst (And.intro hend hfr)));clear hby hleft hinv hms hrd hst hfr hend;go_wp2;go_ret;obtain⟨h1,h2,h3,h4⟩:=uh Hfin;exact⟨bb,n,c,rfl,h1,h2,h3,hbbw,h4⟩
  ·have Hst:=zaa hst;clear hst;have hpos:0<rd.length:=List.length_pos_iff.2 hz;obtain⟨rs,hsort,hup,hsn,hsm,hsl⟩:=zr8 rd hinv.nd;have hrdl:rd.length<=4096:=by
    have h1:=List.Nodup.length_le_of_subset hinv.nd (l₂:=List.range G.prods.length) (λq hq=>List.mem_range.2 (hinv.lt q hq));have:=hG.ps;rw[List.length_range] at h1;omega
   have HSo:=zaa (zo7 base ua uc (zag rd) (by rw[zam];omega) wr hrd);rw[hsort] at HSo;have hpos':(0:Int)<(zag rd).length:=by rw[hrl];omega
   have HA:=zaa (And.intro hby (And.intro hleft (And.intro hms (And.intro hfr hinv))));clear hby hleft hinv hms hfr hrd;rw[hrl] at HSo;go_wp2_with fail;refine(uh HSo).mono ?_;rintro e w5 ⟨rfl,how5,hb5⟩;obtain⟨hby,hleft,hms,hfr,hinv⟩:=uh HA;have hs5:=hb5.size;have hby5:=hby.of_block (hb5.block bb hbs1);have hleft5:=zcU hleft (hb5.block lb hbs2);have hms5:=zcZ hms (λk hk=>hb5.block k (by have:=(hMw k hk).2;omega));have hfr5:=fr_hi hfr hb5 hbs3;have hsl':rs.length=rd.length:=hsl;rw[<- hsl',<- zam rs] at how5;obtain⟨_,_,he5,hn5⟩:=zb5 how5;rw[zam,hsl'] at he5
   cases he5
   have hrb:∀ k,(Value.slice ua rd.length uc).ownBlock=some k->k≠bb/\k≠lb:=λk hk=>by
    have h1:=how5;rw[zam,hsl'] at h1;have:=(h1.lt k hk).1;omega
   have hne:bb≠lb:=λe=>by
    subst e;obtain⟨D,⟨es,cc,h3,_⟩,_⟩:=hleft5;obtain⟨cs,h5,_⟩:=hby5;rw[h3] at h5;cases h5
   have HI0:Hid (InI G w5 bb lb c [] (.slice none 0 0) w5):=zaa ⟨hby5,hleft5,World.ownsRow_nil _ _ _ _,zax _ _⟩
   have Hn5:Hid (∀ W,Fr (λk=>k=bb\/k=lb) w5 W->NRow W.heap.size W ua (zag rs)):=zaa (λW hF=>by
    rcases hn5 with h | ⟨b,o,h1,h2,h3⟩
    ·exact .inl h
    ·refine .inr ⟨b,o,h1,by have:=hF.1;omega,λj hj=>(zsL (hF.2.1 b h2 (λh=>?_))).trans (h3 j hj)⟩;have:=hrb b (by rw[h1];rfl)
     rcases h with h | h <;> omega)
   have Hq5:Hid (∀ W,Fr (λk=>k=bb\/k=lb) w5 W->GIn M W G ka pa ra qa/\W.cell? ⟨gb,3,none⟩=some (.slice qa G.prods.length qc)):=zaa (λW hF=>by
    have hg5:=uh HKg w5 hfr5;have hg6:=za0 hg5 (zau hF (by omega) (λk hk=>by rcases hk with hk | hk <;> omega))
    exact⟨hg6.gin,by unfold World.cell?;rw[hg6.box];rfl⟩)
   have hrsl:∀ q,q ∈ rs->q<G.prods.length:=λq hq=>hinv.lt q ((hsm q).1 hq);have HB:=zaa (And.intro hms5 (And.intro hfr5 hinv));have hbb5:=hby5.lt;have hlb5:=zi7 hleft5;have Hrsl:=zaa hrsl;clear hby hleft hms hfr hinv hby5 hleft5 hms5 hfr5 how5 hn5 hb5 HSo HA hrsl;generalize hrdlen:rd.length=nd at *;go_wp2
   go_loopw [8,31] (λv x W=>∃ i:Nat,x=.int .i64 i/\i<=nd/\InI G w5 bb lb c (rs.take i) v W) (λ_ x _=>nd - (intOf x).toNat)
   case atStart=>exact⟨0,rfl,zsK _,by simpa using uh HI0⟩
   case round =>
    clear HI0;obtain⟨i,rfl,hi,hI⟩:=hrel;obtain⟨va,vc,rfl⟩:=zaf hI.fd;have hnr:=uh Hn5 wr hI.fr;obtain⟨hgin,c3⟩:=uh Hq5 wr hI.fr;by_cases hlt:i<nd
    ·have hlt':(i:Int)<nd:=by omega
     have hir:i<rs.length:=by omega
     obtain⟨xb,xo,rfl,hxb,hcx⟩:=zbg hnr (k:=i) (by rw[zam];exact hir);rw[zbS hir] at hcx;have hq:=uh Hrsl _ (zfq hir);have HTs:=zaa (zed rs i hir);generalize rs.getD i 0=q at *;obtain⟨b,off,rfl,hbB,rr,rrc,x3,x4,x5,x6,n6,c6,-,-,q0,-⟩:=zdu hgin.prods hq;have hpl:=hG.pl _ (zan hq);unfold Gm.nr at hpl;have hll:(G.prods.getD q pd0).left=((lfN G q:Nat):Int):=by unfold lfN;omega
     have hl:lfN G q<G.rules.length:=by unfold lfN;omega
     rw[hll] at q0;have Hcs:=zaa (zt6 (lfN G) (rs.take i) q c);have Hfs:=zaa (ztE (lfN G) (rs.take i) q c);have HT:=zaa (ziI lb G.rules.length (lfN G q) _ (by omega) wr hI.left);rw[decide_eq_true hl,Bool.true_and] at HT;have hnq:(q:Int)<G.prods.length:=by omega
     have hcl2:=znc (lf:=lfN G) (rs.take i) c hcl (lfN G q);have HI:=zaa hI;have hbl2:=hI.by_.lt;have hs6:=hI.fr.1;have hfl:(zag (fnL (lfN G) (rs.take i) c)).length<=2048:=by
      rw[zam]
      have h1:=List.Nodup.length_le_of_subset (zd0 (lfN G) (rs.take i) c) (l₂:=List.range G.rules.length) (λr hr=>by
       obtain⟨_,k,hk,rfl⟩:=zd3 _ _ _ _ hr;have:=hG.pl _ (zan (uh Hrsl k (List.mem_of_mem_take hk)));unfold Gm.nr at this
       exact List.mem_range.2 (by unfold lfN;omega))
      rw[List.length_range] at h1;omega
     clear hnr hgin hpl hll
     have Hout:Hid (∀ (w6 W8:World) (v8:Value) (c8:Nat->Int) (f8:List Nat),c8=chL (lfN G) (rs.take (i+1)) c->f8=fnL (lfN G) (rs.take (i+1)) c->W8.rowIs bb 3 G.rules.length (λr=>.int .i64 (c8 r))->zeD W8 lb G.rules.length (λr=>decide (r<G.rules.length) && decide (c8 r<0))->W8.ownsRow w5.heap.size 3 1 v8 (zag f8).length (zao (zag f8))->Fr (λk=>k=bb\/k=lb) w5 W8->InI G w5 bb lb c (rs.take (i+1)) v8 W8):=zaa (by
      rintro w6 W8 v8 _ _ rfl rfl h1 h2 h3 h4
      exact⟨h1,h2,h3,h4⟩)
     by_cases hneg:chL (lfN G) (rs.take i) c (lfN G q)<0
     · rw [decide_eq_true hneg] at HT;have Hc8:Hid (upZ (chL (lfN G) (rs.take i) c) (lfN G q) q=chL (lfN G) (rs.take (i+1)) c):=zaa (by rw[uh HTs,uh Hcs,if_pos hneg]);have Hf8:Hid (fnL (lfN G) (rs.take i) c ++ [lfN G q]=fnL (lfN G) (rs.take (i+1)) c):=zaa (by rw[uh HTs,uh Hfs,if_pos hneg]);clear Hcs Hfs HTs hI;obtain⟨i3,hi3,hz30,hz31,hz32⟩:=zak zdL;have Hneg:=zaa hneg;clear hneg;go_wp2_with fail;refine(uh HT).mono ?_;rintro e w6 ⟨rfl,hleft6,hf6⟩;have hI:=uh HI;have hby6:=hI.by_.of_block (hf6.2.1 bb hbl2 hne);have hfd6:=zcZ hI.fd (λk hk=>hf6.2.1 k (hI.fd.lt k hk).2 (λe=>by have e:k=lb:=e;have:=(hI.fd.lt k hk).1;omega));have hF6:=zcQ hI.fr (zai hf6 (λk _ h=>.inr h));have hfz:=hby6.frozen (lfN G q);have hcz:=hby6.cell hl;have hbl6:=hby6.lt;have hset:Fr (· = bb) w6 (w6.setCell ⟨bb,lfN G q,none⟩ (.int .i64 (q:Int))):=zaE (zax _ _) (by rfl) _;have hby7:(w6.setCell ⟨bb,lfN G q,none⟩ (.int .i64 (q:Int))).rowIs bb 3 G.rules.length (λr=>.int .i64 (upZ (chL (lfN G) (rs.take i) c) (lfN G q) q r)):=(hby6.set (lfN G q) _).congr (λr _=>by unfold upZ;split <;> rfl);have hleft7:=zcU hleft6 (hset.2.1 lb (zi7 hleft6) (λe=>hne e.symm));have hfd7:=zcZ hfd6 (λk hk=>hset.2.1 k (hfd6.lt k hk).2 (λe=>by have e:k=bb:=e;have:=(hfd6.lt k hk).1;omega));have hF7:Fr (λk=>k=bb\/k=lb) w5 (w6.setCell ⟨bb,lfN G q,none⟩ (.int .i64 (q:Int))):=zcQ hF6 (zai hset (λk _ h=>.inl h));have hs7:=hF7.1;have HE:=zaa (And.intro hby7 (And.intro hleft7 (And.intro hfd7 hF7)));clear hby6 hleft6 hfd6 hF6 hf6 hset hby7 hleft7 hfd7 hF7 hI;go_wp2_with (at_builtin;refine wpList_append_own _ rfl _ _ 50 rfl w5.heap.size 3 i3 (.int .i64 0) 1 8 Tryz.underlying50 hi3 hz30 hz31 hz32 rfl (by decide) _ _ _ rfl ((uh HE).2.2.1.alloc _) ⟨w6.heap.size,0,none⟩ 1 1 [.int .i64 (lfN G q:Int)] rfl rfl ?zc1 ?zc2 ?zc3 ?zc4 ?zc5 ?_)
       case zc1=>intro j u hu;have h:=zpV (w6.setCell ⟨bb,lfN G q,none⟩ (.int .i64 (q:Int))) (.int .i64 (lfN G q:Int)) 3 j u hu;simpa using h
       case zc2=>intro u hu;simp at hu;rcases hu with rfl;rfl
       case zc3=>unfold maxLen;omega
       case zc4=>omega
       case zc5=>simp at hs7 ⊢;omega
       intro v' W3 hown' hgrow _;obtain⟨e1,e2,e3,e4⟩:=uh HE;have hb3:Below w5.heap.size (w6.setCell ⟨bb,lfN G q,none⟩ (.int .i64 (q:Int))) W3:=((zsY _ _).alloc (by simp at hs7 ⊢;omega) _).grown hgrow (by simp at hs7 ⊢;omega) (λk hk=>(e3.lt k hk).1)
       have HN:=zaa (uh Hout w6 W3 v' _ _ (uh Hc8) (uh Hf8) (e1.of_block (hb3.block bb hbb5)) (by
         obtain⟨D,h1,h2⟩:=zcU e2 (hb3.block lb hlb5);refine⟨D,h1,λr=>?_⟩;rw[h2 r];show (if r=lfN G q then false else _)=(_ && decide (upZ (chL (lfN G) (rs.take i) c) (lfN G q) q r<0));by_cases e:r=lfN G q
         · subst e;rw[if_pos rfl,zbK,show decide ((q:Int)<0)=false from decide_eq_false (by omega),Bool.and_false]
         · rw[if_neg e,zf4 e]) (by
         have e5:zag (fnL (lfN G) (rs.take i) c ++ [lfN G q])=zag (fnL (lfN G) (rs.take i) c) ++ [(lfN G q:Int)]:=by unfold zag;rw[List.map_append];rfl
         rw[e5,<- zaX,zsI];exact hown') (fr_hi e4 hb3 (zsG _)))
       clear hown' hgrow hb3 e1 e2 e3 e4;go_wp2;go_roundw
       case rel=>exact⟨i+1,by go_num,by omega,uh HN⟩
       case measure=>simp[intOf];omega
     · rw[decide_eq_false hneg] at HT;have Hc8:Hid (chL (lfN G) (rs.take i) c=chL (lfN G) (rs.take (i+1)) c):=zaa (by rw[uh HTs,uh Hcs,if_neg hneg]);have Hf8:Hid (fnL (lfN G) (rs.take i) c=fnL (lfN G) (rs.take (i+1)) c):=zaa (by rw[uh HTs,uh Hfs,if_neg hneg,List.append_nil]);have Hneg:Hid (decide (chL (lfN G) (rs.take i) c (lfN G q)<0)=false):=zaa (decide_eq_false hneg);clear hI hneg;go_wp2_with fail;refine(uh HT).mono ?_;rintro e w6 ⟨rfl,hleft6,hf6⟩;have hI:=uh HI
       have HN:=zaa (uh Hout w6 w6 _ _ _ (uh Hc8) (uh Hf8) (hI.by_.of_block (hf6.2.1 bb hbl2 hne)) (by
         obtain⟨D,h1,h2⟩:=hleft6;refine⟨D,h1,λr=>?_⟩;rw[h2 r];show (if r=lfN G q then false else _)=_;by_cases e:r=lfN G q
         · subst e;rw[if_pos rfl];show false=(_ && decide (chL (lfN G) (rs.take i) c (lfN G q)<0));rw[uh Hneg,Bool.and_false]
         · rw[if_neg e]) (zcZ hI.fd (λk hk=>hf6.2.1 k (hI.fd.lt k hk).2 (λe=>by have e:k=lb:=e;have:=(hI.fd.lt k hk).1;omega))) (zcQ hI.fr (zai hf6 (λk _ h=>.inr h))))
       clear hleft6 hf6 hI;go_wp2;go_roundw
       case rel=>exact⟨i+1,by go_num,by omega,uh HN⟩
       case measure=>simp[intOf];omega
    ·obtain rfl:i=nd:=by omega
     have e1:rs.take i=rs:=by rw[<- hsl'];exact zsN
     rw[e1] at hI ⊢;obtain⟨hms5,hfr5,hinv⟩:=uh HB;have hb5:=hI.fr;have hmsW:=zcZ hms5 (λk hk=>hI.fr.2.1 k (by have:=(hMw k hk).2;have:=hfr5.1;omega) (λh=>by have:=(hMw k hk).2;rcases h with h | h <;> omega));have hfrW:Fr (λk=>(Value.slice ma ml.length mc).ownBlock=some k) w wr:=⟨zsy hfr5.1 hI.fr.1,λk hk ho=>(hI.fr.2.1 k (by have:=hfr5.1;omega) (λh=>by rcases h with h | h <;> omega)).trans (hfr5.2.1 k hk ho),hI.fr.2.2.1.trans hfr5.2.2.1,hI.fr.2.2.2.1.trans hfr5.2.2.2.1,hI.fr.2.2.2.2.trans hfr5.2.2.2.2⟩;have hgW:=uh HKg wr hfrW;obtain⟨_,_,hfe,hfn⟩:=zb5 hI.fd
     cases hfe
     have hfr':∀ r,r ∈ fnL (lfN G) rs c->r<G.rules.length:=λr hr=>by
      obtain⟨_,k,hk,rfl⟩:=zd3 _ _ _ _ hr;have:=hG.pl _ (zan (uh Hrsl k hk));unfold Gm.nr at this;unfold lfN;omega
     have hfl:(fnL (lfN G) rs c).length<=2048:=by
      have h1:=List.Nodup.length_le_of_subset (zd0 (lfN G) rs c) (l₂:=List.range G.rules.length) (λr hr=>List.mem_range.2 (hfr' r hr));rw[List.length_range] at h1;omega
     have hmb':∀ q,-1048576<=atZ ml' q/\atZ ml' q<=1048576:=λq=>by
      by_cases hq:q<G.prods.length
      ·rw[hinv.mi q hq];have h1:=hmb q;have h2:(rlN G q).countP (fd c)<=(rlN G q).length:=List.countP_le_length;have h3:(rlN G q).length<=64:=by
        unfold rlN;rw[List.length_map];have h4:=za2 (nk:=G.nk) (G.prods.getD q pd0).right;have h5:=hG.pr _ (zan hq);omega
       omega
      ·rw[hz' q (by omega)];omega
     have hl'':ml'.length=G.prods.length:=by rw[hl'];exact uh Hml
     have hfb:∀ x,va=some x->(Value.slice ma ml.length mc).ownBlock≠some x.block:=λx hx h=>by
      have h1:=(hMw _ h).2;have h2:=(hI.fd.lt x.block (by rw[hx];rfl)).1;have:=hfr5.1;omega
     have HRB:=zaa (zli G hG ka pa ra qa kc pc rc qc gb ob ub M va vc (fnL (lfN G) rs c) hfl hfr' (.slice ma ml.length mc) ml' hl'' hmb' wr (by have:=hfrW.1;omega) hgW hfn hmsW hfb);have HI:=zaa hI;have HC:=zaa (And.intro hfrW hinv);rw[zam] at *;clear hI hms5 hfr5 hinv hmsW hfrW hgW hfn hb5;go_wp2_with fail;refine(uh HRB).mono ?_;rintro e w7 ⟨v7,rfl,hrd7,⟨ml7,hl7,hd7,hms7⟩,hfr7⟩;have hI:=uh HI;obtain⟨hfrW,hinv⟩:=uh HC;have hbW:=hI.by_.lt;have hlW:=zi7 hI.left;have hby7:=hI.by_.of_block (hfr7.2.1 bb hbW (λh=>by have:=(hMw _ h).2;omega));have hinv2:=zpm hm0 (λq r hq=>zhT (G:=G) (r:=r) hq) (λq r h=>zgK (G:=G) (r:=r) h) (zpn hinv hsn hsm);have hc2:=zmn hinv hup hsm;have hR7:RoI G M w (.slice ma ml.length mc) ml bb lb (chL (lfN G) rs c) (dcR ((fnL (lfN G) rs c).flatMap (ze0 G)) (atZ ml')) v7 w7:=by
      refine⟨hby7,zcU hI.left (hfr7.2.1 lb hlW (λh=>by have:=(hMw _ h).2;omega)),⟨ml7,hl7.trans hl',by rw[hd7];exact hinv2,hms7,λq hq=>?_⟩,⟨wr.heap.size,hbW,hlW,hfrW.1,hfr7.1,hrd7⟩,⟨n+1,?_⟩,znc rs c hcl,zcQ hfrW hfr7⟩
      ·rw[hd7,zm5,hz' q hq]
       have:((fnL (lfN G) rs c).flatMap (ze0 G)).count q=0:=List.count_eq_zero.2 (λhm=>by
        obtain⟨r,_,hr⟩:=List.mem_flatMap.1 hm
        have:=zgK hr;omega)
       rw[this];rfl
      ·rw[hc2];show _=stT _ _ _ _ (stN _ _ _ _ n);rw[<- uh Hst]
     obtain⟨ga,gc,rfl⟩:=zaf hrd7;have hcnt7:zci (zxD w7 bb) G.rules.length=zci (chL (lfN G) rs c) G.rules.length:=zd7 _ (λr hr=>zpJ hby7 r hr);have hup2:∀ r,r<G.rules.length->0<=c r->0<=chL (lfN G) rs c r:=λr _ h=>by rw[zcV _ _ _ _ h];exact h
     have Hme:Hid (2 * zci (zxD w7 bb) G.rules.length+(if (zag (dcR ((fnL (lfN G) rs c).flatMap (ze0 G)) (atZ ml'))).length=0 then 0 else 1)<2 * zci c G.rules.length+1):=zaa (by
      rw[hcnt7];by_cases hfe:fnL (lfN G) rs c=[]
      ·rw[hfe];have h1:=zht (f:=c) (g:=chL (lfN G) rs c) G.rules.length hup2;rw[if_pos (by rfl)];omega
      ·obtain⟨r,hr⟩:=List.exists_mem_of_ne_nil _ hfe;have h0:=(zd3 _ _ _ _ hr).1;have h1:=(zhu (lfN G) rs c r h0).2 hr;have h2:=zkI G.rules.length hup2 r (hfr' r hr) h0 h1
       split <;> omega)
     have HR7:=zaa hR7;clear hrd7 hms7 hd7 hfr7 hI hfrW hinv hby7 hinv2 hc2 hR7 hcnt7;go_wp2;go_roundw
     case rel=>exact⟨_,_,uh HR7⟩
     case measure =>
      have h:=uh Hme;have hb1:(if lenV (Value.slice ua (zag rd).length uc)=0 then 0 else 1)=1:=if_neg (by show ¬ (zag rd).length=0;rw[zam];omega);rw[hcnt,hb1];exact h
theorem rlN_mem:r ∈ rlN G q↔∃ x,x ∈ (G.prods.getD q pd0).right/\(G.nk:Int)<=x/\(x - G.nk).toNat=r:=by
 unfold rlN zaA;simp only[List.mem_map,List.mem_flatMap];constructor
 ·rintro⟨y,⟨x,hx,hy⟩,rfl⟩
  split at hy
  ·rename_i h;simp at hy;subst hy;exact⟨x,hx,h,rfl⟩
  ·simp at hy
 ·rintro⟨x,hx,h,rfl⟩;exact⟨x - G.nk,⟨x,hx,by rw[if_pos h];simp⟩,rfl⟩
theorem zh1{nk:Nat}:∀ {row:List Int},(zaA nk row).length=row.length↔∀ x,x ∈ row->(nk:Int)<=x
 | []=>by simp[zaA]
 | y::row=>by
   have ih:=zh1 (nk:=nk) (row:=row);have hl:=za2 (nk:=nk) row;have e:zaA nk (y::row)=(if (nk:Int)<=y then[y - nk] else[]) ++ zaA nk row:=rfl;rw[e,zsI,List.length_cons];by_cases h:(nk:Int)<=y
   ·rw[if_pos h];constructor
    ·intro h1 x hx;rcases List.mem_cons.1 hx with rfl | hx
     ·exact h
     ·exact ih.1 (by simp at h1;omega) x hx
    ·intro h1;have:=ih.2 (λx hx=>h1 x (by simp[hx]));simp;omega
   ·rw[if_neg h];constructor
    ·intro h1;simp at h1;omega
    ·intro h1;exact absurd (h1 y (by simp)) h
theorem zo3{lf:Nat->Nat}{c:Nat->Int}(h:0<=stT lf rl el np c r):0<=c r\/∃ q,q<np/\lf q=r/\el q=true/\∀ x,x ∈ rl q->0<=c x:=by
 by_cases h0:0<=c r
 ·exact .inl h0
 ·right;have h1:=(zhu lf _ c r (by omega)).1 h;obtain⟨-,k,hk,e⟩:=zd3 lf _ c r h1;rw[List.mem_filter] at hk;have h2:=hk.2;unfold okR at h2;simp only[Bool.and_eq_true] at h2;exact⟨k,List.mem_range.1 hk.1,e,h2.1,λx hx=>by have:=List.all_eq_true.1 h2.2 x hx;unfold fd at this;simpa using this⟩
theorem zmc{lf:Nat->Nat}{c:Nat->Int}(h:stT lf rl el np c=c)(hq:q<np)(he:el q=true)(ha:∀ x,x ∈ rl q->0<=c x):0<=c (lf q):=by
 have h1:=zlU lf ((List.range np).filter (okR rl el c)) c q (by
  rw[List.mem_filter];refine⟨List.mem_range.2 hq,?_⟩;unfold okR;rw[he,Bool.true_and]
  exact List.all_eq_true.2 λx hx=>by unfold fd;simpa using ha x hx)
 have h2:stT lf rl el np c (lf q)=c (lf q):=by rw[h]
 have h3:0<=stT lf rl el np c (lf q):=h1;rw[h2] at h3;exact h3
theorem zo5{lf:Nat->Nat}{rl:Nat->List Nat}{el:Nat->Bool}{np:Nat}:∀ n r,-1<=stN lf rl el np n r
 | 0,r=>by simp[stN]
 | n+1,r=>znc _ _ (zo5 n) r
theorem zlr{c:Nat->Int}(hm:∀ q,q<G.prods.length->m0 q=((G.prods.getD q pd0).right.length:Int))
 (hc:c=stN (lfN G) (rlN G) (λq=>decide (m0 q=(rlN G q).length)) G.prods.length n) (hs:stT (lfN G) (rlN G) (λq=>decide (m0 q=(rlN G q).length)) G.prods.length c=c):(λr=>decide (0<=c r))=zat G:=by
 have hel:∀ q,q<G.prods.length->(m0 q=(rlN G q).length↔∀ x,x ∈ (G.prods.getD q pd0).right->(G.nk:Int)<=x):=λq hq=>by
  rw[hm q hq,<- zh1];unfold rlN;rw[List.length_map];omega
 refine zpL ?_ ?_
 ·have key:∀ k r,0<=stN (lfN G) (rlN G) (λq=>decide (m0 q=(rlN G q).length)) G.prods.length k r->Null G r:=by
   intro k
   induction k with
   | zero=>intro r h;simp[stN] at h
   | succ k ih =>
     intro r h;rcases zo3 h with h | ⟨q,hq,rfl,he,ha⟩
     ·exact ih r h
     ·have he:=(hel q hq).1 (of_decide_eq_true he);exact Null.mk _ (zan hq) he (λx hx=>ih _ (ha _ (rlN_mem.2 ⟨x,hx,he x hx,rfl⟩)))
  intro r h;exact key n r (by rw[<- hc];simpa using h)
 ·intro q hq;unfold ziW
  cases hb:zar G.nk (λr=>decide (0<=c r)) (G.prods.getD q pd0).right
  ·simp
  ·have h1:=emptyB_iff.1 hb
   have h2:=zmc hs hq (decide_eq_true ((hel q hq).2 (λx hx=>(h1 x hx).1))) (λr hr=>by
    obtain⟨x,hx,hx2,rfl⟩:=rlN_mem.1 hr
    simpa using (h1 x hx).2)
   have h3:decide (0<=c (G.prods.getD q pd0).left.toNat)=true:=decide_eq_true h2;show (!decide (0<=c (G.prods.getD q pd0).left.toNat) && true)=false;rw[h3];rfl
theorem znK{c:Nat->Int}(hm:∀ q,q<G.prods.length->m0 q=((rlN G q).length:Int))
 (hc:c=stN (lfN G) (rlN G) (λq=>decide (m0 q=(rlN G q).length)) G.prods.length n) (hs:stT (lfN G) (rlN G) (λq=>decide (m0 q=(rlN G q).length)) G.prods.length c=c):(λr=>decide (0<=c r))=zsn G:=by
 refine zsm ?_ ?_
 ·have key:∀ k r,0<=stN (lfN G) (rlN G) (λq=>decide (m0 q=(rlN G q).length)) G.prods.length k r->Prdv G r:=by
   intro k
   induction k with
   | zero=>intro r h;simp[stN] at h
   | succ k ih =>
     intro r h;rcases zo3 h with h | ⟨q,hq,rfl,he,ha⟩
     ·exact ih r h
     ·exact Prdv.mk _ (zan hq) (λx hx hk=>ih _ (ha _ (rlN_mem.2 ⟨x,hx,hk,rfl⟩)))
  intro r h;exact key n r (by rw[<- hc];simpa using h)
 ·intro q hq;unfold zlk
  cases hb:zjK G.nk (λr=>decide (0<=c r)) (G.prods.getD q pd0).right
  ·simp
  ·have h1:=wholeB_iff.1 hb
   have h2:=zmc hs hq (decide_eq_true (hm q hq)) (λr hr=>by
    obtain⟨x,hx,hx2,rfl⟩:=rlN_mem.1 hr
    simpa using h1 x hx hx2)
   have h3:decide (0<=c (G.prods.getD q pd0).left.toNat)=true:=decide_eq_true h2;show (!decide (0<=c (G.prods.getD q pd0).left.toNat) && true)=false;rw[h3];rfl
theorem zvn{w:World}(h:w.rowIs b 3 n (λi=>.int .i64 (f i)))(hB:B<=b)(hn:n<=1048576):w.ownsRow B 3 1 (.slice (some ⟨b,0,none⟩) n n) ((List.range n).map f).length (zao ((List.range n).map f)):=by
 obtain⟨cs,h1,h2,h3⟩:=h;have hl:((List.range n).map f).length=n:=by simp
 rw[hl];refine⟨by rw[zbj,hl];omega,.inr ⟨b,n,cs,rfl,hB,h1,zsG _,by unfold maxLen;omega,by omega,?_⟩⟩;refine List.ext_getElem? λj=>?_;by_cases hj:j<n
 ·rw[List.getElem?_take_of_lt (by omega),Array.getElem?_toList,h3 j hj];unfold zao;simp[hj]
 ·rw[List.getElem?_eq_none (by simp;omega),List.getElem?_eq_none (by rw[zbj];simp;omega)]
theorem zj5{w:World}(h:w.rowIs b 3 n (λi=>.int .i64 (f i))):NRow w.heap.size w (some ⟨b,0,none⟩) ((List.range n).map f):=by
 by_cases h0:n=0
 ·subst h0;exact .inl rfl
 ·refine .inr ⟨b,0,rfl,h.lt,λj hj=>?_⟩;have hj':j<n:=by simpa using hj
  rw[Nat.zero_add,h.cell hj'];simp[List.getD_eq_getElem?_getD,hj']
theorem zon(hG:GOk G)(hq:q<G.prods.length):((List.range G.rules.length).flatMap (ze0 G)).count q=(rlN G q).length:=by
 rw[zdA];have h1:(List.range G.rules.length).map (λr=>(ze0 G r).count q)=(List.range G.rules.length).map (λr=>(rlN G q).count r):=List.map_congr_left λr _=>zhT hq;rw[h1,zeW _ _ List.nodup_range,List.countP_eq_length.2];intro r hr;obtain⟨x,hx,hk,rfl⟩:=rlN_mem.1 hr;have h:=hG.py _ (zan hq) x hx;have hk':(G.kinds.length:Int)<=x:=hk;have h':x<((G.kinds.length+G.rules.length:Nat):Int):=h.2;refine decide_eq_true (List.mem_range.2 ?_);show (x - (G.kinds.length:Int)).toNat<G.rules.length;omega
theorem zhI(G:Gm)(hG:GOk G)(ka pa ra qa:Option Addr)(kc pc rc qc gb ob ub:Nat)(M:Nat)(w:World)(hM:M<=w.heap.size)(hg:GrAt M w G ka kc pa pc ra rc qa qc gb ob ub) :
 Calls Tryz.prog 158 #[.pointer (some ⟨gb,0,none⟩)] w λe w'=>∃ (b:Nat) (ml:List Int),e=.returned (.slice (some ⟨b,0,none⟩) G.prods.length G.prods.length)/\ml.length=G.prods.length/\(∀ q,q<G.prods.length->atZ ml q=((rlN G q).length:Int))/\w'.ownsRow w.heap.size 3 1 (.slice (some ⟨b,0,none⟩) G.prods.length G.prods.length) ml.length (zao ml)/\Below w.heap.size w w':=by
 have hps:=hG.ps;have hmk:=λw=>run_make_row' (P:=Tryz.prog) 50 3 (.int .i64 0) 8 Tryz.underlying50 zdL rfl .i64 .i64 G.prods.length (by omega) (by omega) w;have c3:w.cell? ⟨gb,3,none⟩=some (.slice qa G.prods.length qc):=by unfold World.cell?;rw[hg.box];rfl
 have c6:w.cell? ⟨gb,6,none⟩=some (.slice (some ⟨ub,0,none⟩) G.rules.length G.rules.length):=by unfold World.cell?;rw[hg.box];rfl
 have hgl:gb<w.heap.size:=by have:=hg.lt;omega
 have Hg:=zaa hg;clear hg;go_enter Tryz.func158,Tryz.ntmps158;have Hz:=zaa (World.rowIs_made w (.int .i64 0) G.prods.length 3);have hr2:=hG.r2;unfold Gm.nr at hr2;go_wp2
 go_loopw [20] (λx W=>∃ i:Nat,x=.int .i64 i/\i<=G.rules.length/\W.rowIs w.heap.size 3 G.prods.length (λq=>.int .i64 (((List.range i).flatMap (ze0 G)).count q:Nat))/\Below w.heap.size w W) (λx _=>G.rules.length - (intOf x).toNat)
 case atStart=>exact⟨0,rfl,zsK _,(uh Hz).congr (λq _=>by simp),(zsY _ _).alloc (zsG _) _⟩
 case round =>
  clear Hz c3 c6;obtain⟨i,rfl,hi,hrow,hb⟩:=hrel;have hs:=hb.size;by_cases hlt:i<G.rules.length
  ·have hlt':(i:Int)<G.rules.length:=by omega
   have hgr:=za0 (uh Hg) (zab hb hM);obtain⟨Ou,htu,-⟩:=hgr.uses;obtain⟨xa,xc,tcu,hxn⟩:=zoY htu hlt;rw[zeF] at tcu hxn;rw[zam] at tcu;have hul:=ziD hG i
   have Hxn:Hid (∀ W,Below w.heap.size w W->Below w.heap.size wr W->NRow W.heap.size W xa (zag (ze0 G i))):=zaa (λW hb1 hb2=>by
    obtain⟨Ou2,⟨V,hV⟩,hOu⟩:=hgr.uses;obtain⟨a1,c1,e1,e2,-,e3⟩:=za8 hV hlt;have hV2:=ze8 hV (O':=λk=>w.heap.size<=k) ⟨hb2.size,λk _ hk=>hb2.block k (by omega),hb2.os,hb2.tape,hb2.output⟩ (λk hk hk2=>by have:=hOu k hk;omega);obtain⟨a2,c2,e4,e5,-,e6⟩:=za8 hV2 hlt;rw[e1] at e4;cases e4;rw[zeF,zam] at e2;rw[zeF] at e6;rw[tcu] at e2;cases e2
    exact e6)
   have hPl:((List.range i).flatMap (ze0 G)).length<=i * 262144:=by
    have h:=zhr hG (List.range G.rules.length) i (by simp;omega);have e:(List.range G.rules.length).take i=List.range i:=by rw[List.take_range];congr 1;omega
    unfold zbU at h;rw[e] at h;exact h
   have hPs:(List.range (i+1)).flatMap (ze0 G)=(List.range i).flatMap (ze0 G) ++ ze0 G i:=by rw[List.range_succ,List.flatMap_append];simp
   have hux:∀ q,q ∈ ze0 G i->q<G.prods.length:=λq hq=>zgK hq;have HPs:=zaa hPs;have Hux:=zaa hux;have Hb:=zaa hb;have Hrow:=zaa hrow;generalize (List.range i).flatMap (ze0 G)=P at *;generalize ze0 G i=L at *;clear hgr htu hxn hPs hux hrow hb;go_wp2
   go_loopw [26] (λx W=>∃ j:Nat,x=.int .i64 j/\j<=L.length/\W.rowIs w.heap.size 3 G.prods.length (λq=>.int .i64 ((P ++ L.take j).count q:Nat))/\Below w.heap.size w W/\Below w.heap.size wr W) (λx _=>L.length - (intOf x).toNat)
   case atStart=>exact⟨0,rfl,zsK _,by simpa using uh Hrow,uh Hb,zsY _ _⟩
   case round =>
    clear tcu;obtain⟨j,rfl,hj,hrow,hb,hb2⟩:=hrel;have hnx:=uh Hxn wr hb hb2;by_cases hjl:j<L.length
    ·have hjl':(j:Int)<L.length:=by omega
     obtain⟨xb,xo,rfl,hxb,hcx⟩:=zbg hnx (k:=j) (by rw[zam];exact hjl);rw[zbS hjl] at hcx;have hq:=uh Hux _ (zfq hjl);have HTs:=zaa (zed L j hjl);generalize L.getD j 0=q at *;have hq':(q:Int)<G.prods.length:=by omega
     have hcell:=hrow.cell hq;have hfz:=hrow.frozen q;have hcl:(P ++ L.take j).count q<=2048 * 262144+262144:=by
      have h1:(P ++ L.take j).count q<=(P ++ L.take j).length:=List.count_le_length;rw[zsI,zsV] at h1;omega
     have Hr2:=zaa (show (wr.setCell ⟨w.heap.size,q,none⟩ (.int .i64 (((P ++ L.take j).count q:Nat)+1))).rowIs w.heap.size 3 G.prods.length (λq=>.int .i64 ((P ++ L.take (j+1)).count q:Nat)) from(hrow.set q _).congr (λr _=>by
      rw[uh HTs,<- List.append_assoc,List.count_append (l₁:=P ++ L.take j)];by_cases e:r=q
      ·subst e;rw[if_pos rfl];simp
      ·rw[if_neg e];have:List.count r [q]=0:=by rw[List.count_eq_zero];simp;omega
       rw[this];rfl))
     have Hb3:=zaa (And.intro (hb.setCell (p:=⟨w.heap.size,q,none⟩) (zsG _) (.int .i64 (((P ++ L.take j).count q:Nat)+1))) (hb2.setCell (p:=⟨w.heap.size,q,none⟩) (zsG _) (.int .i64 (((P ++ L.take j).count q:Nat)+1))));generalize (P ++ L.take j).count q=K at *;have hwk:IntKind.i64.wrap ((K:Int)+1)=K+1:=by rw[IntKind.wrap_i64];omega
     clear hrow hb hb2 hnx;go_wp2;go_roundw
     case rel=>exact⟨j+1,by go_num,by omega,uh Hr2,(uh Hb3).1,(uh Hb3).2⟩
     case measure=>simp[intOf];omega
    ·obtain rfl:j=L.length:=by omega
     have Hr2:=zaa (show wr.rowIs w.heap.size 3 G.prods.length (λq=>.int .i64 (((List.range (i+1)).flatMap (ze0 G)).count q:Nat)) by rw[uh HPs];rw[zsN] at hrow;exact hrow);have Hb3:=zaa hb;clear hrow hb hb2 hnx;go_wp2;go_roundw
     case rel=>exact⟨i+1,by go_num,by omega,uh Hr2,uh Hb3⟩
     case measure=>simp[intOf];omega
  ·obtain rfl:i=G.rules.length:=by omega
   have hfin:=zvn (B:=w.heap.size) hrow (zsG _) (by omega);have Hfin:=zaa hfin;have Hb:=zaa hb;clear hrow hb hfin;go_wp2;go_ret;refine⟨w.heap.size,_,rfl,by simp,λq hq=>?_,uh Hfin,uh Hb⟩;unfold atZ;rw[zsE,List.getElem?_map,List.getElem?_range hq];show ((((List.range G.rules.length).flatMap (ze0 G)).count q:Nat):Int)=_;rw[zon hG hq]
theorem zeO(G:Gm)(hG:GOk G)(ka pa ra qa:Option Addr)(kc pc rc qc gb ob ub:Nat)(M:Nat)(w:World)(hM:M<=w.heap.size)(hg:GrAt M w G ka kc pa pc ra rc qa qc gb ob ub) :
 Calls Tryz.prog 109 #[.pointer (some ⟨gb,0,none⟩)] w λe w'=>∃ b:Nat,e=.returned (.slice (some ⟨b,0,none⟩) G.rules.length G.rules.length)/\w'.rowIs b 4 G.rules.length (λr=>.bool (zsn G r))/\w.heap.size<=b/\Below w.heap.size w w':=by
 have HR:=zaa (zhI G hG ka pa ra qa kc pc rc qc gb ob ub M w hM hg);have hr2:=hG.r2;unfold Gm.nr at hr2;go_enter Tryz.func109,Tryz.ntmps109;go_wp2_with fail;refine(uh HR).mono ?_;rintro e w2 ⟨mb,ml,rfl,hml,hmv,hown,hb2⟩;have hs2:=hb2.size;have hrl:∀ q,q<G.prods.length->(rlN G q).length<=64:=λq hq=>by
  unfold rlN;rw[List.length_map];have h4:=za2 (nk:=G.nk) (G.prods.getD q pd0).right;have h5:=hG.pr _ (zan hq);omega
 have HRo:=zaa (zh3 G hG ka pa ra qa kc pc rc qc gb ob ub M (.slice (some ⟨mb,0,none⟩) G.prods.length G.prods.length) ml hml (λq hq=>.inl (hmv q hq)) (λq=>by
  by_cases hq:q<G.prods.length
  ·rw[hmv q hq];have:=hrl q hq;omega
  ·have:atZ ml q=0:=by unfold atZ;rw[zsE,List.getElem?_eq_none (by omega)];rfl
   omega) w2 (by omega) (za0 hg (zab hb2 hM)) (zaO hown hM))
 have Hmv:=zaa hmv;have hmb:w.heap.size<=mb:=(hown.lt mb rfl).1;have Hb2:=zaa hb2;clear hmv hown hg hb2 hml hrl HR;go_wp2_with fail;refine(uh HRo).mono ?_;rintro e w3 ⟨b3,n,c,rfl,hrow3,hc,hs,hbl,hfr3⟩;have hb3:Below w.heap.size w w3:=(uh Hb2).trans (zau hfr3 hs2 (λk hk=>by simp[Value.ownBlock] at hk;omega));have hs3:=hb3.size;have hll:((List.range G.rules.length).map c).length=G.rules.length:=by simp
 have HF:=zaa (zgc (some ⟨b3,0,none⟩) G.rules.length ((List.range G.rules.length).map c) (by rw[hll];omega) w3 (zj5 hrow3));rw[hll] at HF;have Hpr:=zaa (znK (uh Hmv) hc hs);have hcl:∀ r,-1<=c r:=λr=>by rw[hc];exact zo5 n r
 have Hcl:=zaa hcl;have Hb3:=zaa hb3;clear hrow3 hc hs hfr3 hb3 hcl HRo;go_wp2_with fail;refine(uh HF).mono ?_;rintro e w4 ⟨b4,rfl,hrow4,hbl4,hb4⟩;have Hb4:=zaa ((uh Hb3).trans (zab hb4 hs3));have Hrow4:=zaa hrow4;clear hrow4 hb4;go_wp2;go_ret;refine⟨b4,rfl,(uh Hrow4).congr (λr hr=>?_),by omega,uh Hb4⟩;rw[<- uh Hpr];unfold fdM;have e1:((List.range G.rules.length).map c).getD r 0=c r:=by rw[zsE,List.getElem?_map,List.getElem?_range hr];rfl
 rw[e1]
 congr 1
 rw[decide_eq_decide];have:=uh Hcl r;omega
def zce(G:Gm)(k:Nat):List Int:=(List.range k).map λq=>((G.prods.getD q pd0).right.length:Int)
theorem zlz(G:Gm)(k:Nat):zce G (k+1)=zce G k ++ [((G.prods.getD k pd0).right.length:Int)]:=by unfold zce;rw[List.range_succ,List.map_append];rfl
theorem zfR(G:Gm)(k:Nat):(zce G k).length=k:=by simp[zce]
theorem zfN(G:Gm)(hG:GOk G)(ka pa ra qa:Option Addr)(kc pc rc qc gb ob ub:Nat)(M:Nat)(w:World)(hM:M<=w.heap.size)(hg:GrAt M w G ka kc pa pc ra rc qa qc gb ob ub) :
 Calls Tryz.prog 147 #[.pointer (some ⟨gb,0,none⟩)] w λe w'=>∃ b:Nat,e=.returned (.slice (some ⟨b,0,none⟩) G.rules.length G.rules.length)/\w'.rowIs b 4 G.rules.length (λr=>.bool (zat G r))/\w.heap.size<=b/\Below w.heap.size w w':=by
 obtain⟨i3,hi3,hz30,hz31,hz32⟩:=zak zdL;have hr2:=hG.r2;unfold Gm.nr at hr2;have hps:=hG.ps;have c3:w.cell? ⟨gb,3,none⟩=some (.slice qa G.prods.length qc):=by unfold World.cell?;rw[hg.box];rfl
 have hgl:gb<w.heap.size:=by have:=hg.lt;omega
 have Hg:=zaa hg;clear hg;go_enter Tryz.func147,Tryz.ntmps147;go_wp2
 go_loopw [3,12] (λu x W=>∃ k:Nat,x=.int .i64 k/\k<=G.prods.length/\W.ownsRow w.heap.size 3 1 u (zce G k).length (zao (zce G k))/\Below w.heap.size w W) (λ_ x _=>G.prods.length - (intOf x).toNat)
 case atStart=>exact⟨0,rfl,zsK _,World.ownsRow_nil _ _ _ _,zsY _ _⟩
 case round =>
  clear c3;obtain⟨k,rfl,hk,hown,hb⟩:=hrel;obtain⟨ua,uc,rfl⟩:=zaf hown;have hsz:=hb.size;have hll:=zfR G k;have hgr:=za0 (uh Hg) (zab hb hM);have Hown:=zaa hown;have Hb:=zaa hb;clear hown hb;by_cases hlt:k<G.prods.length
  ·have hlt':(k:Int)<G.prods.length:=by omega
   obtain⟨b,off,rfl,hbB,rr,rrc,x3,x4,x5,x6,n6,c6,-,-,q0,q1,q2,q3,q4,q5,q6⟩:=zdu hgr.gin.prods hlt;have Hs:=zaa (zlz G k);have Hll:=zaa hll;generalize G.prods.getD k pd0=p at *;obtain⟨pl,prt,plv,pac⟩:=p;simp only at q0 q1 q2 Hs;have hacc:(zce G k).length<=4096:=by omega
   generalize zce G k=acc at *;clear hgr hll;go_wp2_with (at_builtin;refine wpList_append_own _ rfl _ _ 50 rfl w.heap.size 3 i3 (.int .i64 0) 1 8 Tryz.underlying50 hi3 hz30 hz31 hz32 rfl (by decide) _ _ _ rfl (((uh Hown).alloc _).alloc _) ⟨wr.heap.size+1,0,none⟩ 1 1 [.int .i64 (prt.length:Int)] rfl rfl ?zc1 ?zc2 ?zc3 ?zc4 ?zc5 ?_)
   case zc1=>intro j u hu;have h:=zpV (wr.alloc (.cells #[.int .i64 pl,.slice rr prt.length rrc,.int .i64 plv,.int .i64 x3,.int .i64 x4,.string x5,.slice x6 n6 c6] 116)) (.int .i64 (prt.length:Int)) 3 j u hu;simpa using h
   case zc2=>intro u hu;simp at hu;rcases hu with rfl;rfl
   case zc3=>unfold maxLen;omega
   case zc4=>omega
   case zc5=>simp;omega
   intro v' W3 hown' hgrow _;have Hb4:=zaa ((((uh Hb).alloc hsz _).alloc (by simp;omega) _).grown hgrow (by simp;omega) (λj hj=>((uh Hown).lt j hj).1));have Ho4:=zaa (show W3.ownsRow w.heap.size 3 1 v' (zce G (k+1)).length (zao (zce G (k+1))) by rw[uh Hs,<- zaX,zsI];exact hown');clear hown' hgrow;go_wp2;go_roundw
   case rel=>exact⟨k+1,by go_num,by omega,uh Ho4,uh Hb4⟩
   case measure=>simp[intOf];omega
  ·obtain rfl:k=G.prods.length:=by omega
   have hmv:∀ q,q<G.prods.length->atZ (zce G G.prods.length) q=((G.prods.getD q pd0).right.length:Int):=λq hq=>by
    unfold atZ zce;rw[zsE,List.getElem?_map,List.getElem?_range hq];rfl
   have HRo:=zaa (zh3 G hG ka pa ra qa kc pc rc qc gb ob ub M (.slice ua (zce G G.prods.length).length uc) (zce G G.prods.length) (zfR G _) (λq hq=>by
    rw[hmv q hq];have h4:=za2 (nk:=G.nk) (G.prods.getD q pd0).right;have h5:(rlN G q).length=(zaA G.nk (G.prods.getD q pd0).right).length:=by unfold rlN;rw[List.length_map]
    omega) (λq=>by
    by_cases hq:q<G.prods.length
    ·rw[hmv q hq];have:=hG.pr _ (zan hq);omega
    ·have:atZ (zce G G.prods.length) q=0:=by unfold atZ;rw[zsE,List.getElem?_eq_none (by rw[zfR];omega)];rfl
     omega) wr (by omega) hgr (zaO (uh Hown) hM))
   have Hmv:=zaa hmv;have hmb:∀ j,(Value.slice ua (zce G G.prods.length).length uc).ownBlock=some j->w.heap.size<=j:=λj hj=>((uh Hown).lt j hj).1;rw[hll] at HRo hmb ⊢;clear hmv hgr;go_wp2_with fail;refine(uh HRo).mono ?_;rintro e w3 ⟨b3,n,c,rfl,hrow3,hc,hs,hbl,hfr3⟩;have hb3:Below w.heap.size w w3:=(uh Hb).trans (zau hfr3 hsz hmb);have hs3:=hb3.size;have hll3:((List.range G.rules.length).map c).length=G.rules.length:=by simp
   have HF:=zaa (zgc (some ⟨b3,0,none⟩) G.rules.length ((List.range G.rules.length).map c) (by rw[hll3];omega) w3 (zj5 hrow3));rw[hll3] at HF;have Hpr:=zaa (zlr (uh Hmv) hc hs);have hcl:∀ r,-1<=c r:=λr=>by rw[hc];exact zo5 n r
   have Hcl:=zaa hcl;have Hb3:=zaa hb3;clear hrow3 hc hs hfr3 hb3 hcl HRo;go_wp2_with fail;refine(uh HF).mono ?_;rintro e w4 ⟨b4,rfl,hrow4,hbl4,hb4⟩;have Hb4:=zaa ((uh Hb3).trans (zab hb4 hs3));have Hrow4:=zaa hrow4;clear hrow4 hb4;go_wp2;go_ret;refine⟨b4,rfl,(uh Hrow4).congr (λr hr=>?_),by omega,uh Hb4⟩;rw[<- uh Hpr];unfold fdM;have e1:((List.range G.rules.length).map c).getD r 0=c r:=by rw[zsE,List.getElem?_map,List.getElem?_range hr];rfl
   rw[e1]
   congr 1
   rw[decide_eq_decide];have:=uh Hcl r;omega
def zfh(G:Gm)(ok:Nat->Bool)(l:List Nat):List Int:=l.flatMap λq=>if ok q then zaA G.nk (G.prods.getD q pd0).right else[]
def zdH(G:Gm)(r:Nat):List Nat:=(List.range G.prods.length).filter λi=>decide ((G.prods.getD i pd0).left.toNat=r)
theorem zvJ(G:Gm)(r:Nat):zbE G G.prods.length r=zag (zdH G r):=rfl
theorem zpH(G:Gm)(ok:Nat->Bool)(l:List Nat)(k:Nat)(h:k<l.length):zfh G ok (l.take (k+1))=zfh G ok (l.take k) ++ (if ok (l.getD k 0) then zaA G.nk (G.prods.getD (l.getD k 0) pd0).right else[]):=by
 unfold zfh;have e:l.take (k+1)=l.take k ++ [l.getD k 0]:=by rw[zsU,zsE,zsF h];rfl
 rw[e,List.flatMap_append];simp
theorem zmE(G:Gm)(hG:GOk G)(ok:Nat->Bool)(l:List Nat)(hl:∀ q,q ∈ l->q<G.prods.length):(zfh G ok l).length<=64 * l.length:=by
 induction l with
 | nil=>simp[zfh]
 | cons q l ih =>
   have h1:=ih (λx hx=>hl x (List.mem_cons_of_mem _ hx));have h2:=hG.pr _ (zan (hl q List.mem_cons_self));have h3:=za2 (nk:=G.nk) (G.prods.getD q pd0).right;have e:zfh G ok (q::l)=(if ok q then zaA G.nk (G.prods.getD q pd0).right else[]) ++ zfh G ok l:=by simp[zfh]
   rw[e,zsI,List.length_cons];by_cases hq:ok q=true
   ·rw[if_pos hq];omega
   ·rw[if_neg hq];simp;omega
theorem ziS(h:q ∈ zdH G r):q<G.prods.length:=by unfold zdH at h;simp at h;exact h.1
theorem zmz(G:Gm)(r:Nat):(zdH G r).length<=G.prods.length:=by unfold zdH;have:=List.length_filter_le (λi=>decide ((G.prods.getD i pd0).left.toNat=r)) (List.range G.prods.length);simpa using this
theorem zs4(G:Gm)(hG:GOk G)(ka pa ra qa:Option Addr)(kc pc rc qc gb ob ub:Nat)(M:Nat)(F:Nat)(cap:Array Value)(ok:Nat->Bool)(hcf:∀ args W,Sem.run Tryz.prog (callFunc F args) W=.ok (.enter F args) W)(r:Nat)(hr:r<G.rules.length)(w:World)(hM:M<=w.heap.size)(hg:GrAt M w G ka kc pa pc ra rc qa qc gb ob ub)
 (hF:∀ W q,q<G.prods.length->Below w.heap.size w W->Calls Tryz.prog F (#[.int .i64 (q:Nat)] ++ cap) W λe W'=>e=.returned (.bool (ok q))/\Below W.heap.size W W') :
 Calls Tryz.prog 155 #[.pointer (some ⟨gb,0,none⟩),.int .i64 (r:Int),.func (.func F) #[] cap] w λe w'=>∃ v,e=.returned v/\w'.ownsRow w.heap.size 3 1 v (zfh G ok (zdH G r)).length (zao (zfh G ok (zdH G r)))/\Below w.heap.size w w':=by
 obtain⟨i3,hi3,hz30,hz31,hz32⟩:=zak zdL;have hps:=hG.ps;have hr2:=hG.r2;unfold Gm.nr at hr2;have c5:w.cell? ⟨gb,5,none⟩=some (.slice (some ⟨ob,0,none⟩) G.rules.length G.rules.length):=by unfold World.cell?;rw[hg.box];rfl
 obtain⟨Oo,hto,-⟩:=hg.own;obtain⟨xa,xc,tco,hxn⟩:=zoY hto hr;rw[zvJ] at tco hxn;rw[zam] at tco;have hr':(r:Int)<G.rules.length:=by omega
 have Hg:=zaa hg;have HF:=zaa hF;clear hg hF;go_enter Tryz.func155,Tryz.ntmps155;go_wp2
 go_loopw [7,18] (λu x W=>∃ k:Nat,x=.int .i64 k/\k<=(zdH G r).length/\W.ownsRow w.heap.size 3 1 u (zfh G ok ((zdH G r).take k)).length (zao (zfh G ok ((zdH G r).take k)))/\Below w.heap.size w W) (λ_ x _=>(zdH G r).length - (intOf x).toNat)
 case atStart=>exact⟨0,rfl,zsK _,World.ownsRow_nil _ _ _ _,zsY _ _⟩
 case round =>
  obtain⟨k,rfl,hk,hown,hb⟩:=hrel;obtain⟨ua,uc,rfl⟩:=zaf hown;have hsz:=hb.size;have hgr:=za0 (uh Hg) (zab hb hM);have hlen:=zmE G hG ok ((zdH G r).take k) (λq hq=>ziS (List.mem_of_mem_take hq));have hon:=zmz G r;rw[zsV] at hlen;by_cases hlt:k<(zdH G r).length
  ·have hlt':(k:Int)<(zdH G r).length:=by omega
   have hq:=ziS (G:=G) (r:=r) (show (zdH G r).getD k 0 ∈ zdH G r by rw[zsE,zsF hlt];exact List.getElem_mem hlt);have hxr:=zg2 hxn hb;obtain⟨xb,xo,rfl,hxb,hxe⟩:=zbg hxr (k:=k) (by rw[zam];exact hlt);rw[zbS hlt] at hxe;have Hs:=zaa (zpH G ok (zdH G r) k hlt);have HC:=zaa ((uh HF) wr ((zdH G r).getD k 0) hq hb);have hacc:(zfh G ok ((zdH G r).take k)).length<=262144:=by omega
   have Hown:=zaa hown;have Hb:=zaa hb;have Hgr:=zaa hgr;generalize (zdH G r).getD k 0=q at *;generalize zfh G ok ((zdH G r).take k)=acc at *;clear hxr hxn tco hto hown hb hgr hlen;go_wp2_with fail;refine(uh HC).mono ?_;rintro e w2 ⟨rfl,hb2⟩;have hs2:=hb2.size;have hown2:=zaW (uh Hown) hb2;have hbb:=(uh Hb).trans (zab hb2 hsz);by_cases hk2:ok q=true
   · rw [hk2];have hgr2:=za0 (uh Hgr) (zab hb2 (by omega));obtain⟨pb,off,rfl,hbB,rr,rrc,x3,x4,x5,x6,n6,c6,hrr,-,q0,q1,q2,q3,q4,q5,q6⟩:=zdu hgr2.gin.prods hq;have hgb:gb<w2.heap.size:=by have:=hgr2.lt;omega
     have c0:w2.cell? ⟨gb,0,none⟩=some (.slice ka G.kinds.length kc):=by unfold World.cell?;rw[hgr2.box];rfl
     have c3:w2.cell? ⟨gb,3,none⟩=some (.slice (some ⟨pb,off,none⟩) G.prods.length qc):=by unfold World.cell?;rw[hgr2.box];rfl
     have hq':(q:Int)<G.prods.length:=by omega
     have hpr:=hG.pr _ (zan hq);have hpy:=hG.py _ (zan hq);have hrl:=za2 (nk:=G.nk) (G.prods.getD q pd0).right;rw[hk2,if_pos rfl] at Hs;generalize G.prods.getD q pd0=p at *;obtain⟨pl,prt,plv,pac⟩:=p;simp only at q0 q1 q2 Hs hpr hpy hrl hrr;have Hown2:=zaa hown2;have Hbb:=zaa hbb;have hb0:pb<w2.heap.size:=by omega
     have Hrl:=zaa (zds gb G.kinds.length ka kc hG.k3 rr rrc prt (by omega) (λx hx=>by have:=hpy x hx;have:=hG.k3;have:=hG.r2;unfold Gm.nk Gm.nr at *;omega) w2 c0 hgb (zel (by omega) hrr));clear hgr2 hrr hown2 hbb hpy;go_wp2_with fail;refine(uh Hrl).mono ?_;rintro e w5 ⟨v5,rfl,how5,hb5⟩;have hs5:=hb5.size;have ho5:=zaW (uh Hown2) hb5;have hbb5:=(uh Hbb).trans (zab hb5 (by omega));obtain⟨va,vc,rfl⟩:=zaf how5;obtain⟨_,_,he5,hn5⟩:=zb5 how5
     cases he5
     have Ho5:=zaa ho5;have Hbb5:=zaa hbb5;have hrl':(zaA G.kinds.length prt).length<=64:=by unfold Gm.nk at hrl;omega
     rcases hn5 with h | ⟨b5,o5,rfl,h2,h3⟩
     · have Ho3:=zaa (show w5.ownsRow w.heap.size 3 1 (.slice ua acc.length uc) (zfh G ok ((zdH G r).take (k+1))).length (zao (zfh G ok ((zdH G r).take (k+1)))) by rw[uh Hs,show zaA G.nk prt=[] from h];simpa using ho5);rw[h] at how5 ⊢;clear ho5 hbb5;rcases how5.2 with ⟨h1,-⟩ | ⟨g5,cap5,x5',h1,h2⟩
       · cases h1
         go_wp2_with (at_builtin;refine wpList_append_own_none rfl _ _ 50 rfl w.heap.size 3 i3 1 Tryz.underlying50 hi3 _ _ _ rfl (uh Ho3) rfl ?_);go_wp2;go_roundw
         case rel=>exact⟨k+1,by go_num,by omega,uh Ho3,uh Hbb5⟩
         case measure=>simp[intOf];omega
       · cases h1
         go_wp2_with (at_builtin;refine wpList_append_own _ rfl _ _ 50 rfl w.heap.size 3 i3 (.int .i64 0) 1 8 Tryz.underlying50 hi3 hz30 hz31 hz32 rfl (by decide) _ _ _ rfl (uh Ho5) ⟨g5,0,none⟩ 0 _ [] rfl rfl (by simp) (by simp) (by unfold maxLen;omega) (by omega) (by omega) ?_);intro v' W3 hown' hgrow _;have Hb3:=zaa ((uh Hbb5).grown hgrow (by omega) (λj hj=>((uh Ho5).lt j hj).1));have Ho3':=zaa (show W3.ownsRow w.heap.size 3 1 v' (zfh G ok ((zdH G r).take (k+1))).length (zao (zfh G ok ((zdH G r).take (k+1)))) by rw[uh Hs,show zaA G.nk prt=[] from h];simpa using hown');clear hown' hgrow;go_wp2;go_roundw
         case rel=>exact⟨k+1,by go_num,by omega,uh Ho3',uh Hb3⟩
         case measure=>simp[intOf];omega
     · have Hnw:=zaa (show ∀ j u,(zao (zaA G.kinds.length prt))[j]? = some u->w5.cell? (Addr.add ⟨b5,o5,none⟩ j)=some u by
         intro j u hu;unfold zao at hu;rw[List.getElem?_map] at hu;obtain⟨x,hx,rfl⟩:=Option.map_eq_some_iff.1 hu;have hj:=(zsP.1 hx).1;rw[show Addr.add ⟨b5,o5,none⟩ j=⟨b5,o5+j,none⟩ by cases j <;> simp[Addr.add],h3 j hj,zsE,hx]
         rfl)
       clear h3 how5 ho5 hbb5;generalize zaA G.kinds.length prt=rl at *;go_wp2_with (at_builtin;refine wpList_append_own _ rfl _ _ 50 rfl w.heap.size 3 i3 (.int .i64 0) 1 8 Tryz.underlying50 hi3 hz30 hz31 hz32 rfl (by decide) _ _ _ rfl (uh Ho5) ⟨b5,o5,none⟩ rl.length vc (zao rl) rfl (by rw[zbj,Nat.mul_one]) (uh Hnw) (zjL _) (by unfold maxLen;omega) (by omega) (by omega) ?_);intro v' W3 hown' hgrow _;have Hb3:=zaa ((uh Hbb5).grown hgrow (by omega) (λj hj=>((uh Ho5).lt j hj).1));have Ho3:=zaa (show W3.ownsRow w.heap.size 3 1 v' (zfh G ok ((zdH G r).take (k+1))).length (zao (zfh G ok ((zdH G r).take (k+1)))) by rw[uh Hs,zsI,zjM];exact hown');clear hown' hgrow;go_wp2;go_roundw
       case rel=>exact⟨k+1,by go_num,by omega,uh Ho3,uh Hb3⟩
       case measure=>simp[intOf];omega
   · have hk3:ok q=false:=by simpa using hk2
     rw[hk3];rw[hk3] at Hs;have Ho3:=zaa (show w2.ownsRow w.heap.size 3 1 (.slice ua acc.length uc) (zfh G ok ((zdH G r).take (k+1))).length (zao (zfh G ok ((zdH G r).take (k+1)))) by rw[uh Hs];simpa using hown2);have Hb3:=zaa hbb;clear hown2 hbb;go_wp2;go_roundw
     case rel=>exact⟨k+1,by go_num,by omega,uh Ho3,uh Hb3⟩
     case measure=>simp[intOf];omega
  ·obtain rfl:k=(zdH G r).length:=by omega
   rw[List.take_of_length_le (zsG _)] at hown ⊢;have Hown:=zaa hown;have Hb:=zaa hb;clear hown hb hgr hxn tco;go_wp2;go_ret;exact⟨_,rfl,uh Hown,uh Hb⟩
theorem rulesL_mem:y ∈ zaA nk row↔∃ x,x ∈ row/\(nk:Int)<=x/\y=x - nk:=by
 unfold zaA;rw[List.mem_flatMap];constructor
 ·rintro⟨x,h1,h2⟩
  split at h2
  ·rename_i h;simp at h2;exact⟨x,h1,by first | omega | (simp at h;omega),h2⟩
  ·simp at h2
 ·rintro⟨x,h1,h2,rfl⟩;exact⟨x,h1,by rw[if_pos (by first | omega | (simp;omega))];simp⟩
theorem nxtL_mem:y ∈ zfh G ok (zdH G r)↔∃ q,q<G.prods.length/\(G.prods.getD q pd0).left.toNat=r/\ok q=true/\y ∈ zaA G.nk (G.prods.getD q pd0).right:=by
 unfold zfh zdH;rw[List.mem_flatMap];constructor
 ·rintro⟨q,h1,h2⟩;simp only[List.mem_filter,List.mem_range,decide_eq_true_eq] at h1
  split at h2
  ·rename_i h;exact⟨q,h1.1,h1.2,h,h2⟩
  ·simp at h2
 ·rintro⟨q,h1,h2,h3,h4⟩;exact⟨q,by simp only[List.mem_filter,List.mem_range,decide_eq_true_eq];exact⟨h1,h2⟩,by rw[if_pos h3];exact h4⟩
structure RcI (G:Gm) (ok:Nat->Bool) (okP:Pd->Bool) (fs:List Nat) (a:Nat):Prop where
 nd:fs.Nodup
 lt:∀ x,x ∈ fs->x<G.rules.length
 st:G.start.toNat ∈ fs
 snd:∀ x,x ∈ fs->Rchd G okP x
 le:a<=fs.length
 shut:∀ j,j<a->∀ y,y ∈ zfh G ok (zdH G (fs.getD j 0))->y.toNat ∈ fs
theorem ztB{l:List Nat}{y:Nat}(h:j<l.length):(l ++ [y]).getD j 0=l.getD j 0:=by
 rw[zsE,List.getElem?_append_left h,<- zsE]
theorem zse(hG:GOk G)(ok:Nat->Bool)(okP:Pd->Bool):RcI G ok okP [G.start.toNat] 0:=by
 have h0:=hG.s0;have h1:=hG.s1;unfold Gm.nr at h1;exact⟨by simp,λx hx=>by simp at hx;subst hx;omega,by simp,λx hx=>by simp at hx;subst hx;exact .start,zsK _,λj hj=>by omega⟩
theorem zvq{a y:Nat}(h:RcI G ok okP fs a)(hy:y<G.rules.length)(hr:Rchd G okP y)(hn:y ∉ fs):RcI G ok okP (fs ++ [y]) a:=by
 refine⟨?_,λx hx=>?_,List.mem_append_left _ h.st,λx hx=>?_,by have:=h.le;simp;omega,λj hj z hz=>?_⟩
 ·rw[List.nodup_append];exact⟨h.nd,by simp,λx hx z hz=>by simp at hz;subst hz;intro e;subst e;exact hn hx⟩
 ·rcases List.mem_append.1 hx with h1 | h1
  ·exact h.lt x h1
  ·simp at h1;subst h1;exact hy
 ·rcases List.mem_append.1 hx with h1 | h1
  ·exact h.snd x h1
  ·simp at h1;subst h1;exact hr
 ·rw[ztB (by have:=h.le;omega)] at hz;exact List.mem_append_left _ (h.shut j hj z hz)
theorem zvr{a:Nat}(h:RcI G ok okP fs a)(ha:a<fs.length)(hs:∀ y,y ∈ zfh G ok (zdH G (fs.getD a 0))->y.toNat ∈ fs):RcI G ok okP fs (a+1) :=
 ⟨h.nd,h.lt,h.st,h.snd,ha,λj hj y hy=>by
  by_cases e:j=a
  ·subst e;exact hs y hy
  ·exact h.shut j (by omega) y hy⟩
theorem zsf(hok:∀ q,q<G.prods.length->ok q=okP (G.prods.getD q pd0))(hG:GOk G)(hr:Rchd G okP r)(hy:y ∈ zfh G ok (zdH G r)):Rchd G okP y.toNat/\0<=y/\y.toNat<G.rules.length:=by
 obtain⟨q,h1,h2,h3,h4⟩:=nxtL_mem.1 hy;obtain⟨x,h5,h6,rfl⟩:=rulesL_mem.1 h4;have h7:=hG.py _ (zan h1) x h5;unfold Gm.nr at h7;refine⟨.step (G.prods.getD q pd0) (zan h1) (by rw[<- hok q h1];exact h3) (by rw[h2];exact hr) x h5 h6,by omega,by omega⟩
theorem zuv{a:Nat}(h:RcI G ok okP fs a):fs.length<=G.rules.length:=by
 have:=Wk.nodup_bound G.rules.length (zag fs) (by
  unfold zag
  refine List.Pairwise.map (R:=(·≠·)) _ (λa b hab e=>hab (by omega)) h.nd) (λx hx=>by
  obtain⟨y,hy,rfl⟩:=castL_mem.1 hx;have:=h.lt y hy
  omega)
 rwa [zam] at this
theorem rc_end(hok:∀ q,q<G.prods.length->ok q=okP (G.prods.getD q pd0))(h:RcI G ok okP fs fs.length):(λr=>decide (r ∈ fs))=zxB G okP:=by
 refine zsd ⟨by simpa using h.st,λr hr=>h.snd r (by simpa using hr)⟩ (λi hi hl ho x hx hk=>?_);simp only[decide_eq_true_eq] at hl ⊢;obtain⟨j,hj,e⟩:=List.getElem_of_mem hl;have:=h.shut j hj (x - G.nk) (nxtL_mem.2 ⟨i,hi,by rw[show fs.getD j 0=fs[j] by rw[zsE,zsF hj];rfl];exact e.symm,by rw[hok i hi];exact ho,rulesL_mem.2 ⟨x,hx,hk,rfl⟩⟩);exact this
structure RhI (G:Gm) (ok:Nat->Bool) (okP:Pd->Bool) (w:World) (bb lb base:Nat) (fs:List Nat) (a m g cap:Nat) (W:World):Prop where
 mrk:W.rowIs bb 4 G.rules.length (λr=>.bool (decide (r ∈ fs.take m)))
 lf:zeD W lb G.rules.length (λi=>decide (i<G.rules.length) && !decide (i ∈ fs))
 fd:W.ownsRow base 3 1 (.slice (some ⟨g,0,none⟩) (zag fs).length cap) (zag fs).length (zao (zag fs))
 rc:RcI G ok okP fs a
 bl:Below w.heap.size w W
 le:base<=W.heap.size
theorem zlj(G:Gm)(hG:GOk G)(ka pa ra qa:Option Addr)(kc pc rc qc gb ob ub:Nat)(M:Nat)(F:Nat)(cap:Array Value)(ok:Nat->Bool)(okP:Pd->Bool)(hok:∀ q,q<G.prods.length->ok q=okP (G.prods.getD q pd0))(hcf:∀ args W,Sem.run Tryz.prog (callFunc F args) W=.ok (.enter F args) W)(w:World)(hM:M<=w.heap.size)(hg:GrAt M w G ka kc pa pc ra rc qa qc gb ob ub)
 (hF:∀ W q,q<G.prods.length->Below w.heap.size w W->Calls Tryz.prog F (#[.int .i64 (q:Nat)] ++ cap) W λe W'=>e=.returned (.bool (ok q))/\Below W.heap.size W W') :
 Calls Tryz.prog 107 #[.pointer (some ⟨gb,0,none⟩),.func (.func F) #[] cap] w λe w'=>∃ b:Nat,e=.returned (.slice (some ⟨b,0,none⟩) G.rules.length G.rules.length)/\w'.rowIs b 4 G.rules.length (λr=>.bool (zxB G okP r))/\w.heap.size<=b/\Below w.heap.size w w':=by
 obtain⟨i3,hi3,hz30,hz31,hz32⟩:=zak zdL;have hr2:=hG.r2;unfold Gm.nr at hr2;have hs0:=hG.s0;have hs1:=hG.s1;unfold Gm.nr at hs1;obtain⟨st,hst⟩:∃ st:Nat,G.start=st:=⟨G.start.toNat,by omega⟩;have c2:w.cell? ⟨gb,2,none⟩=some (.slice ra G.rules.length rc):=by unfold World.cell?;rw[hg.box];rfl
 have c4:w.cell? ⟨gb,4,none⟩=some (.int .i64 (st:Int)):=by unfold World.cell?;rw[hg.box,<- hst];rfl
 have hgl:gb<w.heap.size:=by have:=hg.lt;omega
 have hmk:=λw=>run_make_row' (P:=Tryz.prog) 69 4 (.bool false) 1 Tryz.underlying69 zts rfl .i64 .i64 G.rules.length (by omega) (by omega) w;have hrs:=zse hG ok okP;have est:G.start.toNat=st:=by omega
 rw[est] at hrs;have Hg:=zaa hg;have HF:=zaa hF;have Hrs:=zaa hrs;have Hok:=zaa hok;clear hg hF hrs hok;go_enter Tryz.func107,Tryz.ntmps107;go_wp2_with fail;have hz1:=World.rowIs_made w (.bool false) G.rules.length 4;have hb1:Below w.heap.size w (w.alloc (Obj.cells (madeCells #[Value.bool false] G.rules.length) 4)):=(zsY _ _).alloc (zsG _) _;generalize hw1:w.alloc (Obj.cells (madeCells #[Value.bool false] G.rules.length) 4)=w1 at *;have hsz1:w1.heap.size=w.heap.size+1:=by rw[<- hw1];simp
 clear hw1;refine(zhz gb G.rules.length ra rc hr2 w1 (by omega) ((hb1.cell (by simpa using hgl)).trans c2)).mono ?_;rintro e w2 ⟨lb,rfl,hlf2,hlb1,hlb2,hb2⟩;have hs2:=hb2.size;have hb12:=hb1.trans (zab hb2 (by omega));have hz2:=hz1.of_block (hb2.block w.heap.size (by omega));have c4':=(hb12.cell (p:=⟨gb,4,none⟩) (by simpa using hgl)).trans c4;have HT:=zaa (ziI lb G.rules.length st _ (by omega) w2 hlf2);clear hlf2 hz1 c2 c4;have Hb12:=zaa hb12;have Hz2:=zaa hz2;clear hb12 hz2 hb1 hb2;go_wp2_with fail;refine(uh HT).mono ?_;rintro e w3 ⟨rfl,hlf3,hf3⟩;have hs3:w2.heap.size<=w3.heap.size:=hf3.1;have hb3:Below w.heap.size w w3:=(uh Hb12).trans (zau hf3 (by omega) (λk hk=>by omega));have hz3:=(uh Hz2).of_block (hf3.2.1 w.heap.size (by omega) (by omega));have c4'':=(hb3.cell (p:=⟨gb,4,none⟩) (by simpa using hgl)).trans ((uh Hb12).cell (p:=⟨gb,4,none⟩) (by simpa using hgl)▸c4')
 have HR0:Hid (RhI G ok okP w w.heap.size lb w3.heap.size [st] 0 0 w3.heap.size 1 (w3.alloc (.cells #[.int .i64 (st:Int)] 3))):=zaa (by
  refine⟨?_,?_,?_,uh Hrs,hb3.alloc hb3.size _,by simp⟩
  ·refine((hz3.of_block (w':=w3.alloc _) ?_)).congr (λr _=>by simp);exact((zsY w3.heap.size w3).alloc (zsG _) _).block _ (by omega)
  ·refine zcU (W:=w3) ?_ (((zsY w3.heap.size w3).alloc (zsG _) _).block _ (by omega));obtain⟨D,h1,h2⟩:=hlf3;exact⟨D,h1,λi=>by rw[h2 i];by_cases e:i=st <;> simp[e]⟩
  ·have:=World.ownsRow_lit (base:=w3.heap.size) (e:=3) (size:=1) w3 #[.int .i64 (st:Int)] 1 (zsG _) (by unfold maxLen;omega) rfl
   simpa [zag,zao] using this)
 clear hlf3 hf3 hz3 hb3 HT Hb12 Hz2;have hlb3:lb<w3.heap.size:=by omega
 go_wp2
 go_loopw [7,8] (λu x W=>∃ (fs:List Nat) (a g cp:Nat),u=.slice (some ⟨g,0,none⟩) (zag fs).length cp/\x=.int .i64 a/\RhI G ok okP w w.heap.size lb w3.heap.size fs a a g cp W) (λ_ x _=>G.rules.length - (intOf x).toNat)
 case atStart=>exact⟨[st],0,w3.heap.size,1,rfl,rfl,uh HR0⟩
 case round =>
  clear HR0 c4'' c4';obtain⟨fs,a,g,cp,rfl,rfl,hR⟩:=hrel;have hlen:=zuv hR.rc;have hcl:=zam fs;by_cases hlt:a<fs.length
  ·have hlt':(a:Int)<(zag fs).length:=by omega
   obtain⟨_,_,he,hgl2,hca,hcf2⟩:=zmy hR.fd (i:=a) (by omega)
   cases he
   rw[zbS hlt] at hca;have hrm:fs.getD a 0 ∈ fs:=by rw[zsE,zsF hlt];exact List.getElem_mem hlt
   have hrl:=hR.rc.lt _ hrm;have hrl':((fs.getD a 0:Nat):Int)<G.rules.length:=by omega
   have hmc:=hR.mrk.cell hrl;have hmf:=hR.mrk.frozen (fs.getD a 0);have hset:Fr (· = w.heap.size) wr (wr.setCell ⟨w.heap.size,fs.getD a 0,none⟩ (.bool true)):=zaE (zax _ _) (by rfl) _;have hR1:RhI G ok okP w w.heap.size lb w3.heap.size fs a (a+1) g cp (wr.setCell ⟨w.heap.size,fs.getD a 0,none⟩ (.bool true)):=by
    have hg3:=(hR.fd.lt g rfl).1;have hle:=hR.le;refine⟨(hR.mrk.set (fs.getD a 0) _).congr (λr _=>?_),zcU hR.lf (hset.2.1 lb (by omega) (by omega)),zcZ hR.fd (λk hk=>hset.2.1 k (hR.fd.lt k hk).2 (by have:=(hR.fd.lt k hk).1;omega)),hR.rc,hR.bl.trans (zau hset hR.bl.size (λk hk=>by omega)),by have:=hset.1;omega⟩;have e:fs.take (a+1)=fs.take a ++ [fs.getD a 0]:=by rw[zsU,zsE,zsF hlt];rfl
    rw[e];by_cases e2:r=fs.getD a 0
    ·subst e2;simp
    ·rw[if_neg e2];congr 1;rw[decide_eq_decide];simp only[List.mem_append,List.mem_singleton];exact⟨Or.inl,λh=>h.resolve_right e2⟩
   have HN:Hid _:=zaa (zs4 G hG ka pa ra qa kc pc rc qc gb ob ub M F cap ok hcf (fs.getD a 0) hrl (wr.setCell ⟨w.heap.size,fs.getD a 0,none⟩ (.bool true)) (by have:=hR1.bl.size;omega) (za0 (uh Hg) (zab hR1.bl hM)) (λW q hq hb=>uh HF W q hq (hR1.bl.trans (zab hb hR1.bl.size))));have hrch:=hR1.rc.snd _ hrm;have Hnx:=zaa (λy hy=>zsf (uh Hok) hG hrch (y:=y) hy);have hgl3:g<(wr.setCell ⟨w.heap.size,fs.getD a 0,none⟩ (.bool true)).heap.size:=(hR1.fd.lt g rfl).2;have HR1:=zaa hR1;have hgb3:w3.heap.size<=g:=(hR.fd.lt g rfl).1;have hrd:=zaa (show (wr.setCell ⟨w.heap.size,fs.getD a 0,none⟩ (.bool true)).cell? ⟨g,a,none⟩=some (.int .i64 (fs.getD a 0:Nat)) from(zsL (hset.2.1 g hgl2 (by omega))).trans hca);clear hR hR1 hset hrch;generalize hrr:fs.getD a 0=rr at *;go_wp2_with fail;generalize wr.setCell ⟨w.heap.size,rr,none⟩ (.bool true)=W1 at *;refine(uh HN).mono ?_;rintro e W5 ⟨v5,rfl,how5,hb5⟩;obtain⟨va,vc,rfl⟩:=zaf how5;have hs5:=hb5.size;have hR1:=uh HR1;have hs1w:=hR1.le;have hl1:=zi7 hR1.lf;have hm1:=hR1.mrk.lt;have hR5:RhI G ok okP w w.heap.size lb w3.heap.size fs a (a+1) g cp W5:=⟨hR1.mrk.of_block (hb5.block _ hm1),zcU hR1.lf (hb5.block _ hl1),zcZ hR1.fd (λk hk=>hb5.block k (hR1.fd.lt k hk).2),hR1.rc,hR1.bl.trans (zab hb5 hR1.bl.size),by omega⟩;have hln:(zfh G ok (zdH G rr)).length<=262144:=by
    have h1:=zmE G hG ok (zdH G rr) (λq hq=>ziS hq);have h2:=zmz G rr;have h3:=hG.ps;omega
   have HR5:=zaa hR5;have How5:=zaa how5;clear hR5 hR1 how5 hb5 HR1 HN hca hcf2 hmc hmf hrd;generalize hL:zfh G ok (zdH G rr)=L at *;go_wp2
   go_loopw [7,53] (λu x W=>∃ (fs':List Nat) (j g' cp':Nat),u=.slice (some ⟨g',0,none⟩) (zag fs').length cp'/\x=.int .i64 j/\j<=L.length/\RhI G ok okP w w.heap.size lb w3.heap.size fs' a (a+1) g' cp' W/\(∃ t,fs'=fs ++ t)/\(∀ i,i<j->(L.getD i 0).toNat ∈ fs')/\W.ownsRow W1.heap.size 3 1 (.slice va L.length vc) L.length (zao L)/\(Value.slice va L.length vc).ownBlock≠some g') (λ_ x _=>L.length - (intOf x).toNat)
   case atStart=>exact⟨fs,0,g,cp,by rw[hcl],rfl,zsK _,uh HR5,⟨[],by simp⟩,λi hi=>by omega,uh How5,λe=>by have:=((uh How5).lt g e).1;omega⟩
   case round =>
    clear HR5 How5;obtain⟨fs',j,g',cp',rfl,rfl,hj,hR,hpre,hin,hown,hne⟩:=hrel;by_cases hjl:j<L.length
    ·have hjl':(j:Int)<L.length:=by omega
     obtain⟨_,_,he,hglL,hcL,-⟩:=zmy hown hjl
     cases he
     have hym:L.getD j 0 ∈ L:=by rw[zsE,zsF hjl];exact List.getElem_mem hjl
     obtain⟨hyr,hy0,hyl⟩:=uh Hnx _ hym;obtain⟨y,hy⟩:∃ y:Nat,L.getD j 0=y:=⟨(L.getD j 0).toNat,by omega⟩;have hin':∀ F:List Nat,(∃ t,F=fs' ++ t)->y ∈ F->∀ i,i<j+1->(L.getD i 0).toNat ∈ F:=λF ⟨t,ht⟩ hyF i hi=>by
      by_cases e:i=j
      ·subst e;rw[hy];simpa using hyF
      ·rw[ht];exact List.mem_append_left _ (hin i (by omega))
     rw[hy] at hcL hyr hyl;simp only[zsS] at hyr hyl;have HT:=zaa (ziI lb G.rules.length y _ (by omega) wr hR.lf);have hfl:=zuv hR.rc;have hcl':=zaa (zam fs');have HR:=zaa hR;have Hpre:=zaa hpre;have Hin:=zaa hin';have Hown:=zaa hown;clear hR hpre hin hin' hown;go_wp2_with fail;refine(uh HT).mono ?_;rintro e w6 ⟨rfl,hlf6,hf6⟩;have hR:=uh HR;have hgg:=hR.fd.lt g' rfl;have hmm:=hR.mrk.lt;have hs6:wr.heap.size<=w6.heap.size:=hf6.1;have hmk6:=hR.mrk.of_block (hf6.2.1 _ hmm (by omega));have hfd6:=zcZ hR.fd (λk hk=>hf6.2.1 k (hR.fd.lt k hk).2 (by have:=(hR.fd.lt k hk).1;omega));have hb6:=hR.bl.trans (zau hf6 hR.bl.size (λk hk=>by omega));have ho6:=zcZ (uh Hown) (λk hk=>hf6.2.1 k ((uh Hown).lt k hk).2 (by have:=((uh Hown).lt k hk).1;omega));have hle:=hR.le;by_cases hyf:y ∈ fs'
     ·have e1:(decide (y<G.rules.length) && !decide (y ∈ fs'))=false:=by simp[hyf]
      rw[e1]
      have HR6:Hid (RhI G ok okP w w.heap.size lb w3.heap.size fs' a (a+1) g' cp' w6):=zaa (by
       refine⟨hmk6,?_,hfd6,hR.rc,hb6,by omega⟩;obtain⟨D,h1,h2⟩:=hlf6
       exact⟨D,h1,λi=>by rw[h2 i];by_cases e:i=y <;> simp[e,hyf]⟩)
      have Ho6:=zaa ho6;clear hlf6 hf6 hR hmk6 hfd6 hb6 ho6 HR;go_wp2;go_roundw
      case rel=>exact⟨fs',j+1,g',cp',by rw[uh hcl'],by go_num,by omega,uh HR6,uh Hpre,uh Hin fs' ⟨[],by simp⟩ hyf,uh Ho6,hne⟩
      case measure=>simp[intOf];omega
     ·have e1:(decide (y<G.rules.length) && !decide (y ∈ fs'))=true:=by simp[hyf,hyl]
      rw[e1];have HA:=zaa (And.intro hmk6 (And.intro hlf6 (And.intro hb6 (And.intro ho6 hR.rc))));have Hfd6:=zaa hfd6;clear hlf6 hf6 hR hmk6 hfd6 hb6 ho6 HR;have hcl2:=uh hcl';rw[hcl2] at Hfd6;go_wp2_with (at_builtin;refine wpList_append_lies _ rfl _ _ 50 rfl w3.heap.size 3 i3 (.int .i64 0) 1 8 Tryz.underlying50 hi3 hz30 hz31 hz32 rfl (by decide) _ _ _ rfl ((uh Hfd6).alloc _) ⟨w6.heap.size,0,none⟩ 1 1 [.int .i64 (y:Int)] rfl rfl (zpV _ _ _) ?zc2 (by decide) ?zc3 ?zc4 ?zc5 (w6.heap.size+1) (by simp) ?_)
      case zc2=>intro u hu;simp at hu;rcases hu with rfl;rfl
      case zc3=>unfold maxLen;omega
      case zc4=>omega
      case zc5=>simp;omega
      intro g7 cap7 W7 hown7 hgrow hg7 hl7;obtain⟨hmk6,hlf6,hb6,ho6,hrc⟩:=uh HA;have hal:Below w6.heap.size w6 (w6.alloc (.cells #[.int .i64 (y:Int)] 3)):=(zsY _ _).alloc (zsG _) _;have hkp:∀ k,k<w6.heap.size->k≠g'->W7.heap[k]? = w6.heap[k]?:=λk hk hne'=>(hgrow.block k (by have:=hal.size;omega) (λe=>hne' (by simpa [Value.ownBlock,eq_comm] using e))).trans (hal.block k hk);have hs7:w6.heap.size<=W7.heap.size:=zsy hal.size hgrow.size
      have HR7:Hid (RhI G ok okP w w.heap.size lb w3.heap.size (fs' ++ [y]) a (a+1) g7 cap7 W7):=zaa (by
       refine⟨(hmk6.of_block (hkp _ (by omega) (by omega))).congr (λr _=>?_),?_,?_,zvq hrc hyl hyr hyf,?_,by omega⟩
       ·have hpl:a+1<=fs'.length:=by obtain⟨t,ht⟩:=uh Hpre;rw[ht,zsI];omega
        rw[List.take_append_of_le_length hpl]
       ·refine zcU (W:=w6) ?_ (hkp _ (by omega) (by omega));obtain⟨D,h1,h2⟩:=hlf6;exact⟨D,h1,λi=>by rw[h2 i];by_cases e:i=y <;> simp[e,hyl]⟩
       ·have e2:zag (fs' ++ [y])=zag fs' ++ [(y:Int)]:=by simp[zag]
        rw[zam,zsI,e2,<- zaX];exact hown7
       ·have hga:∀ k,(Value.slice (some ⟨g',0,none⟩) fs'.length cp').ownBlock=some k->w.heap.size<=k:=λk hk=>by
         have e3:g'=k:=by simpa [Value.ownBlock] using hk
         omega
        exact(hb6.alloc hb6.size _).grown hgrow (zsy hb6.size hal.size) hga)
      have Ho7:=zaa (zcZ ho6 (λk hk=>hkp k (ho6.lt k hk).2 (λe=>hne (by rw[<- e];exact hk))))
      have Hne7:Hid (∀ k,some k=some g7->(Value.slice (some ⟨_,0,none⟩) L.length _).ownBlock≠some k):=zaa (λk hk e=>by
       cases hk
       rcases hg7 with h | h
       ·exact hne (e.trans h.symm)
       ·have:=(ho6.lt g7 e).2
        omega)
      clear hown7 hgrow hmk6 hlf6 hb6 ho6 hrc HA hkp;go_wp2;go_roundw
      case rel=>exact⟨fs' ++ [y],j+1,g7,cap7,by rw[zam,zsI];rfl,by go_num,by omega,uh HR7,(uh Hpre).elim λt ht=>⟨t ++ [y],by rw[ht,List.append_assoc]⟩,uh Hin _ ⟨[y],rfl⟩ (by simp),uh Ho7,uh Hne7 _ rfl⟩
      case measure=>simp[intOf];omega
    ·obtain rfl:j=L.length:=by omega
     have HR:=zaa hR;have Hpre:=zaa hpre;have Hin:=zaa hin;clear hR hpre hin hown;go_wp2;go_roundw
     case rel =>
      obtain⟨t,ht⟩:=uh Hpre;have hR:=uh HR;refine⟨fs',a+1,g',cp',rfl,by go_num,hR.mrk,hR.lf,hR.fd,zvr hR.rc (by rw[ht,zsI];omega) (λy hy=>?_),hR.bl,hR.le⟩;have e1:fs'.getD a 0=rr:=by rw[ht,zsE,List.getElem?_append_left hlt,<- zsE];exact hrr
      rw[e1,hL] at hy;obtain⟨i,hi,e2⟩:=List.getElem_of_mem hy;have:=uh Hin i hi;rw[zsE,zsF hi] at this;simpa [e2] using this
     case measure=>simp[intOf];omega
  ·obtain rfl:a=fs.length:=by have:=hR.rc.le;omega
   have Hend:=zaa (rc_end (uh Hok) hR.rc);have HR:=zaa hR;clear hR;go_wp2;go_ret;refine⟨w.heap.size,rfl,(uh HR).mrk.congr (λr _=>?_),zsG _,(uh HR).bl⟩;rw[List.take_of_length_le (zsG _),<- uh Hend]
open Classical in
noncomputable def zdr(W:Nat->List Nat):Nat->Bool:=λr=>decide (∃ y,y ∈ W r/\Rh W y r)
theorem zsc(hR:Rings W n made){x:Nat}{a:List Nat}(ha:made[i]? = some a)(hx:x ∈ a):zdr W x=(decide (1<a.length) || decide (x ∈ W x)):=by
 have h:=zpo hR ha hx;have h1:zdr W x=true↔∃ y,y ∈ W x/\Rh W y x:=by unfold zdr;simp
 rw[Bool.eq_iff_iff,h1,h];simp
theorem zu5{B':Nat}{w:World}(h:zjD B w tb n W)(hB:B<=B'):zjD B' w tb n W:=by
 refine⟨by have:=h.1;omega,λr hr=>?_⟩;obtain⟨a,c,h1,h2⟩:=h.2 r hr;refine⟨a,c,h1,?_⟩;rcases h2 with h2 | ⟨b,off,h3,h4,h5⟩
 ·exact .inl h2
 ·exact .inr ⟨b,off,h3,by omega,h5⟩
theorem zkH(a:Option Addr)(c:Nat)(l:List Nat)(x:Nat)(hl:l.length<=1048576)(B:Nat)(w:World)(h:NRow B w a (zag l)):Calls Tryz.prog 199 #[.slice a l.length c,.int .i64 (x:Nat)] w λe w'=>e=.returned (.bool (decide (x ∈ l)))/\w'=w:=by
 have e1:(zag l).length=l.length:=zam l;rcases h with h | ⟨b,off,rfl,h1,h2⟩
 ·have:l=[]:=by
   cases l with
   | nil=>rfl
   | cons y l=>simp[zag] at h
  subst this;exact Tryz.slices_Contains_int_empty a c x w
 ·have h3:=Tryz.slices_Contains_int b off l.length c (zag l) x w (by omega) (by omega) h2;rw[List.take_of_length_le (by omega)] at h3;have e2:(zag l).contains (x:Int)=decide (x ∈ l):=by
   rw[Bool.eq_iff_iff,decide_eq_true_eq,List.contains_iff_mem];unfold zag;rw[List.mem_map]
   exact ⟨fun ⟨y, h4, h5⟩ => by have : y = x := by omega
                                exact this▸h4,λh4=>⟨x,h4,rfl⟩⟩
  rw[e2] at h3;exact h3
theorem zge(W:Nat->List Nat)(n wb wcp:Nat)(hn:n<=2048)(hW:∀ r,r<n->∀ y,y ∈ W r->y<n)(hWl:∀ r,(W r).length<=1048576)(w:World)(hWay:zjD w.heap.size w wb n W) :
 Calls Tryz.prog 160 #[.slice (some ⟨wb,0,none⟩) n wcp] w λe w'=>∃ b:Nat,e=.returned (.slice (some ⟨b,0,none⟩) n n)/\w'.rowIs b 4 n (λr=>.bool (zdr W r))/\w.heap.size<=b/\Below w.heap.size w w':=by
 have hmb:=λw=>run_make_row' (P:=Tryz.prog) 69 4 (.bool false) 1 Tryz.underlying69 zts rfl .i64 .i64 n (by omega) (by omega) w;have hal:Below w.heap.size w (w.alloc (.cells (madeCells #[.bool false] n) 4)):=(zsY _ _).alloc (zsG _) _;have HR:=zaa (zjZ W n wb wcp hn hW hWl _ (zu5 (ze4 hWay hal) hal.size));have Hrow:=zaa (World.rowIs_made w (.bool false) n 4);have HW:=zaa hWay;have Hal:=zaa hal;have hszA:(w.alloc (.cells (madeCells #[.bool false] n) 4)).heap.size=w.heap.size+1:=by simp
 clear hWay hal;go_enter Tryz.func160,Tryz.ntmps160;go_wp2_with fail;generalize w.alloc (.cells (madeCells #[.bool false] n) 4)=w0 at *;refine(uh HR).mono ?_;rintro e w1 ⟨v1,made,rfl,hRi,hml,hRa,hb1⟩;obtain⟨ra,rc,rfl⟩:=(show ∃ a c,v1=.slice a made.length c by obtain⟨vs,h1,-⟩:=hRa.form;exact zaf h1);have hrow1:=(uh Hrow).of_block (hb1.block _ (uh Hrow).lt);have Hrow1:=zaa hrow1;have Hb1:=zaa ((uh Hal).trans (zab hb1 (by omega)));have HRi:=zaa hRi;have HRa:=zaa hRa;have hs1:=hb1.size;clear hb1 hRi hRa HR hrow1;go_wp2
 go_loopw [14] (λx V=>∃ (i:Nat) (f:Nat->Bool),x=.int .i64 i/\i<=made.length/\V.rowIs w.heap.size 4 n (λr=>.bool (f r))/\(∀ (j:Nat) (a:List Nat) (x:Nat),j<i->made[j]? = some a->x ∈ a->f x=zdr W x)/\Fr (· = w.heap.size) w1 V) (λx _=>made.length - (intOf x).toNat)
 case atStart=>exact⟨0,λ_=>false,rfl,zsK _,uh Hrow1,λj a x h=>by omega,zax _ _⟩
 case round =>
  obtain⟨i,f,rfl,hi,hrow,hf,hF⟩:=hrel;have hkeep:∀ V,Fr (· = w.heap.size) w1 V->RingsAt w0.heap.size V (.slice ra made.length rc) made:=λV hV=>zgV (uh HRa) (λq cs t hq _ hge=>hV.2.1 q (zsO.1 hq).1 (λe=>by have e:q=w.heap.size:=e;omega));by_cases hlt:i<made.length
  ·have hlt':(i:Int)<made.length:=by omega
   obtain⟨a,ha⟩:∃ a,made[i]? = some a:=⟨made[i],zsF hlt⟩;obtain⟨va,vc,g,c,hv,hc1,hc2⟩:=ziO (hkeep _ hF) ha
   cases hv
   have hal:a.length<=2048:=by
    have:=zmH ((uh HRi).nd i _ ha) (λx hx=>(uh HRi).lt i _ x ha hx);omega
   have Hc2:Hid (∀ V',Fr (· = w.heap.size) w1 V'->∀ j x:Nat,a[j]? = some x->V'.cell? ⟨g,j,none⟩=some (.int .i64 (x:Nat))):=zaa (λV' hV' j x hx=>by
    obtain⟨va',vc',g',c',hv',d1,d2⟩:=ziO (hkeep V' hV') ha
    cases hv'
    have e1:V'.cell? ⟨va,i,none⟩=wr.cell? ⟨va,i,none⟩:=by
     obtain⟨vs,q1,-⟩:=(uh HRa).form;obtain⟨cs,q2⟩:=zcI q1 rfl;have hge:=(q1.lt va rfl).1;have hl:=(q1.lt va rfl).2;exact zsL ((hV'.2.1 va hl (λe=>by have e:va=w.heap.size:=e;omega)).trans (hF.2.1 va hl (λe=>by have e:va=w.heap.size:=e;omega)).symm)
    rw[d1,hc1] at e1
    cases e1
    exact d2 j x hx)
   have Hsf:=zaa (λx (hx:x ∈ a)=>zsc (uh HRi) ha hx);have Hrow:=zaa hrow;have Hf:=zaa hf;have HF:=zaa hF;have Hha:=zaa ha;clear hrow hf hF ha hc2 hkeep;go_wp2
   go_loopw [20] (λx V=>∃ (p:Nat) (f:Nat->Bool),x=.int .i64 p/\p<=a.length/\V.rowIs w.heap.size 4 n (λr=>.bool (f r))/\(∀ (j:Nat) (b:List Nat) (x:Nat),j<i->made[j]? = some b->x ∈ b->f x=zdr W x)/\(∀ x,x ∈ a.take p->f x=zdr W x)/\Fr (· = w.heap.size) w1 V) (λx _=>a.length - (intOf x).toNat)
   case atStart=>exact⟨0,f,rfl,zsK _,uh Hrow,uh Hf,λx hx=>by simp at hx,uh HF⟩
   case round =>
    clear Hrow Hf HF;obtain⟨p,f,rfl,hp,hrow,hf,hfa,hF⟩:=hrel;by_cases hpl:p<a.length
    ·have hpl':(p:Int)<a.length:=by omega
     have hxa:a[p]? = some (a.getD p 0):=by rw[zsE,zsF hpl];rfl
     have hxm:=List.mem_of_getElem? hxa;have hxn:=(uh HRi).lt i _ _ (uh Hha) hxm;have hcx:=uh Hc2 wr hF p _ hxa;have hsx:=uh Hsf _ hxm;have hbV:Below w.heap.size w wr:=(uh Hb1).trans (zau hF (by omega) (λk hk=>by have hk:k=w.heap.size:=hk;omega));obtain⟨xa,xc,hwc,hwr⟩:=(ze4 (uh HW) hbV).2 _ hxn;have HC:=zaa (zkH xa xc (W (a.getD p 0)) (a.getD p 0) (hWl _) _ wr hwr);have mc:=hrow.cell hxn;have mf:=hrow.frozen (a.getD p 0);have Hrs:Hid ((wr.setCell ⟨w.heap.size,a.getD p 0,none⟩ (.bool (zdr W (a.getD p 0)))).rowIs w.heap.size 4 n (λr=>.bool (upB f (a.getD p 0) (zdr W (a.getD p 0)) r))):=zaa ((hrow.set _ _).congr (λq _=>by unfold upB;split <;> rfl))
     have Hf2:=zaa (show ∀ (j:Nat) (b:List Nat) (x:Nat),j<i->made[j]? = some b->x ∈ b->upB f (a.getD p 0) (zdr W (a.getD p 0)) x=zdr W x from λj b x h1 h2 h3=>by
      by_cases e:x=a.getD p 0
      ·rw[e,zec]
      ·rw[zeA e];exact hf j b x h1 h2 h3)
     have Hfa2:=zaa (show ∀ x,x ∈ a.take (p+1)->upB f (a.getD p 0) (zdr W (a.getD p 0)) x=zdr W x from λx hx=>by
      by_cases e:x=a.getD p 0
      ·rw[e,zec]
      ·rw[zeA e];exact hfa x (((zbw hpl x).1 hx).resolve_right e))
     have HFs:=zaa (show Fr (· = w.heap.size) w1 (wr.setCell ⟨w.heap.size,a.getD p 0,none⟩ (.bool (zdr W (a.getD p 0)))) from zaE hF (by rfl) _);generalize hxe:a.getD p 0=x at *;have hxn':(x:Int)<n:=by omega
     have hwl:=hWl x;clear hrow hf hfa hF hxa hxm hbV hwr;by_cases h1:1<a.length
     ·have h1':(1:Int)<a.length:=by omega
      rw[decide_eq_true h1,Bool.true_or] at hsx;rw[hsx] at Hrs HFs Hf2 Hfa2;go_wp2;go_roundw
      case rel=>exact⟨p+1,_,by go_num,by omega,uh Hrs,uh Hf2,uh Hfa2,uh HFs⟩
      case measure=>simp[intOf];omega
     ·have h1':¬ (1:Int)<a.length:=by omega
      rw[decide_eq_false h1,Bool.false_or] at hsx;rw[hsx] at Hrs HFs Hf2 Hfa2;generalize decide (x ∈ W x)=bx at *;go_wp2_with fail;refine(uh HC).mono ?_;rintro e w9 ⟨rfl,rfl⟩;go_wp2;go_roundw
      case rel=>exact⟨p+1,_,by go_num,by omega,uh Hrs,uh Hf2,uh Hfa2,uh HFs⟩
      case measure=>simp[intOf];omega
    ·obtain rfl:p=a.length:=by omega
     rw[zsN] at hfa
     have Hf3:=zaa (show ∀ (j:Nat) (b:List Nat) (x:Nat),j<i+1->made[j]? = some b->x ∈ b->f x=zdr W x from λj b x h1 h2 h3=>by
      by_cases e:j=i
      ·subst e;rw[uh Hha] at h2;cases h2;exact hfa x h3
      ·exact hf j b x (by omega) h2 h3)
     have Hrow:=zaa hrow;have HF:=zaa hF;clear hrow hf hfa hF;go_wp2;go_roundw
     case rel=>exact⟨i+1,f,by go_num,by omega,uh Hrow,uh Hf3,uh HF⟩
     case measure=>simp[intOf];omega
  ·obtain rfl:i=made.length:=by omega
   have Hrw:Hid (wr.rowIs w.heap.size 4 n (λr=>.bool (zdr W r))):=zaa (hrow.congr (λr hr=>by
    obtain⟨j,a,h1,h2⟩:=(uh HRi).cov r hr
    rw[hf j a r (zsP.1 h1).1 h1 h2]))
   have HbV:=zaa ((uh Hb1).trans (zau hF (by omega) (λk hk=>by have hk:k=w.heap.size:=hk;omega)));clear hrow hf hF hkeep;go_wp2;go_ret;exact⟨w.heap.size,rfl,uh Hrw,zsG _,uh HbV⟩
end Go.Proofs.YtieciibnajeibaaGreatDoor

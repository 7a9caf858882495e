import Derived.Test.YtieciibnajeibaaGreatDoorTW
import Derived.Test.YtieciibnajeibaaGreatDoorSP
import Derived.Test.YtieciibnajeibaaGreatDoorSX
set_option maxHeartbeats 8000000
set_option maxRecDepth 100000
namespace Go.Proofs.YtieciibnajeibaaGreatDoor
open Go.RowKit
variable{B i n tb:Nat}{S:Nat->Bool}{W W' a b c w:World}{l:List Nat}{made:List (List Nat)}{v:Value}{x:Int}
theorem ziB(h:RingsAt B w v made){a:List Nat}(ha:made[i]? = some a):∃ va vc g c,v=.slice (some ⟨va,0,none⟩) made.length vc/\w.cell? ⟨va,i,none⟩=some (.slice (some ⟨g,0,none⟩) a.length c)/\∀ j x:Nat,a[j]? = some x->w.cell? ⟨g,j,none⟩=some (.int .i64 (x:Nat)):=by
 obtain⟨vs,h1,h2⟩:=h.form;obtain⟨g,c,cs,h3,h4,h5,h6⟩:=h2 i a ha;have hi:i<made.length:=(zsP.1 ha).1;obtain⟨va,vc,hv,-⟩:=Wk.own_pos h1 (by omega);subst hv;refine⟨va,vc,g,c,rfl,?_,λj x hx=>?_⟩
 ·rw[Wk.own_cell h1 rfl i (by have:=h1.1;omega),zsE,h3];rfl
 ·unfold World.cell?;rw[h5];exact h6 j x hx
def GaB(B tb:Nat)(w:World)(k:Nat):Prop:=k=tb\/zxs B w k
theorem zqq(h:Fr (GaB B tb a) a b)(k:Fr (GaB B tb b) b c):Fr (GaB B tb a) a c :=
 ⟨zsy h.1 k.1,λi hi ho=>by
  have e1:=h.2.1 i hi ho
  exact(k.2.1 i (zsJ hi h.1) (λhs=>ho (hs.imp id (λhs=>⟨hs.1,(zg5 e1).1 hs.2⟩)))).trans e1,k.2.2.1.trans h.2.2.1,k.2.2.2.1.trans h.2.2.2.1,k.2.2.2.2.trans h.2.2.2.2⟩
theorem zqr(h:Fr (GaB B tb a) a b)(k:Fr (zxs B b) b c):Fr (GaB B tb a) a c:=zqq h (zaj k (λ_ _ h=>.inr h))
theorem zgt{W:Nat->List Nat}{S:Nat->Int->Bool}{h:Nat}{X X':Nat->Prop}{Y Y':Nat->Nat->Prop}{acc:Int->Bool}(hr:GaR W S made i h X Y acc)(hX:∀ x,X' x->X x)(hY:∀ x y,Y' x y->Y x y):GaR W S made i h X' Y' acc :=
 ⟨hr.snd,hr.hd,λx m hx=>hr.own x m (hX x hx),λx y j b m hy=>hr.to x y j b m (hY x y hy)⟩
theorem zhU{R:Nat}(h:RingsAt R a v made)(hf:Fr (GaB B tb a) a b)(ht:∃ cs,a.heap[tb]? = some (.cells cs 110 (0,0))):RingsAt R b v made :=
 zgM h (λk cs t hk h3 _=>hf.2.1 k (zsO.1 hk).1 (λho=>by
  obtain⟨ds,hd⟩:=ht;rcases ho with e | ⟨-,hs⟩
  ·subst e;rw[hk] at hd;simp only[Option.some.injEq,Obj.cells.injEq] at hd;rcases h3 with rfl | rfl <;> simp at hd
  ·rcases h3 with rfl | rfl
   ·exact zaq hk (by decide) (by decide) hs
   ·exact zaq hk (by decide) (by decide) hs))
theorem zmA(hnd:l.Nodup)(hl:∀ x,x ∈ l->x<n):l.length<=n:=by
 have:=Wk.nodup_bound n (zag l) (by
  unfold zag
  refine List.Pairwise.map (R:=(·≠·)) _ (λa b hab e=>hab (by omega)) hnd) (λx hx=>by
  unfold zag at hx;obtain⟨y,hy,rfl⟩:=List.mem_map.1 hx;have:=hl y hy
  omega)
 rwa [zam] at this
theorem zbv{p:Nat}(h:p<l.length)(z:Nat):z ∈ l.take (p+1)↔z ∈ l.take p\/z=l.getD p 0:=by
 have e:l.take (p+1)=l.take p ++ [l.getD p 0]:=by rw[zsU,zsE,zsF h];rfl
 rw[e];simp
theorem zh7(B:Nat)(W:Nat->List Nat)(S:Nat->Int->Bool)(n wb wcp tb tc:Nat)(A:Nat->Nat)(OO:Nat->Nat->Prop)(hn:n<=2048)(hW:∀ r,r<n->∀ y,y ∈ W r->y<n)(hWl:∀ r,(W r).length<=1048576)(w:World)(hB:B<=w.heap.size)(hWay:zjs w.heap.size w wb n W)(hwn:∀ r a c b o,r<n->w.cell? ⟨wb,r,none⟩=some (.slice (some ⟨b,o,none⟩) a c)->¬ zcr w b/\b≠tb)(hwb:¬ zcr w wb/\wb≠tb)(hS:SetsV B w tb n A OO id S) :
 Calls Tryz.prog 151 #[.slice (some ⟨wb,0,none⟩) n wcp,.slice (some ⟨tb,0,none⟩) n tc] w λe w'=>(∃ v,e=.returned v)/\(∃ OO' rep C,SetsV B w' tb n A OO' rep C/\∀ x,x<n->∀ m,C (rep x) m=true↔Uw W S x m)/\Fr (GaB B tb w) w w':=by
 have HR:=zaa (zjO W n wb wcp hn hW hWl w hWay);have HS:=zaa hS;have HW:=zaa hWay;have Hwn:=zaa hwn;have Hwb:=zaa hwb;clear hS hWay hwn hwb;go_enter Tryz.func151,Tryz.ntmps151;go_wp2_with fail;refine(uh HR).mono ?_;rintro e w1 ⟨v1,made,rfl,hRi,hml,hRa,hb1⟩;obtain⟨ra,rc,rfl⟩:=(show ∃ a c,v1=.slice a made.length c by obtain⟨vs,h1,-⟩:=hRa.form;exact zaf h1);have hS1:=zaZ (uh HS) hb1;have hs1:=hb1.size;have hB1:B<=w1.heap.size:=by omega
 obtain⟨tcs,htc,-⟩:=hS1.row;have Htc:Hid (∃ cs,w1.heap[tb]? = some (.cells cs 110 (0,0))):=zaa ⟨tcs,htc⟩
 have HWK:Hid (∀ r,r<n->∃ a c,∀ V,Fr (GaB B tb w1) w1 V->V.cell? ⟨wb,r,none⟩=some (.slice a (W r).length c)/\NRow V.heap.size V a (zag (W r))):=zaa (λr hr=>by
  obtain⟨a,c,h1,h2⟩:=(uh HW).2 r hr;refine⟨a,c,λV hV=>?_⟩;have kp:∀ k,k<w.heap.size->¬ zcr w k->k≠tb->V.heap[k]? = w.heap[k]?:=λk hk h3 h4=>(hV.2.1 k (by omega) (λho=>ho.elim h4 (λho=>h3 ((zg5 (hb1.block k hk)).1 ho.2)))).trans (hb1.block k hk);have hwl:=(uh HW).1;refine⟨(zsL (kp wb hwl (uh Hwb).1 (uh Hwb).2)).trans h1,?_⟩;rcases h2 with h2 | ⟨b,off,rfl,h3,h4⟩
  ·exact .inl h2
  ·obtain⟨n1,n2⟩:=uh Hwn r _ c b off hr h1
   exact .inr ⟨b,off,rfl,zsJ h3 (by have:=hV.1;omega),λj hj=>(zsL (kp b h3 n1 n2)).trans (h4 j hj)⟩)
 have Hb1:=zaa hb1;have HRi:=zaa hRi;have HRa:=zaa hRa;have HS1:=zaa hS1;clear hb1 hRi hRa HR hS1 htc HS HW;go_wp2
 go_loopw [16] (λx V=>∃ (i:Nat) (rep:Nat->Nat) (C:Nat->Int->Bool) (OO':Nat->Nat->Prop),x=.int .i64 i/\i<=made.length/\GaI W S made i rep C/\SetsV B V tb n A OO' rep C/\Fr (GaB B tb w1) w1 V) (λx _=>made.length - (intOf x).toNat)
 case atStart=>exact⟨0,id,S,OO,rfl,zsK _,ztD W S made,uh HS1,zax _ _⟩
 case round =>
  obtain⟨i,rep,C,OO1,rfl,hi,hI,hV,hF⟩:=hrel;by_cases hlt:i<made.length
  ·have hlt':(i:Int)<made.length:=by omega
   obtain⟨a,ha⟩:∃ a,made[i]? = some a:=⟨made[i],zsF hlt⟩;obtain⟨va,vc,g,c,hv,hc1,hc2⟩:=ziB (zhU (uh HRa) hF (uh Htc)) ha
   cases hv
   have hne:=(uh HRi).ne i a ha;obtain⟨h,a',rfl⟩:∃ h a',a=h::a':=by cases a with
    | nil=>exact absurd rfl hne
    | cons h a'=>exact⟨h,a',rfl⟩
   have hhm:h ∈ h::a':=List.mem_cons_self;have hhn:=(uh HRi).lt i _ h ha hhm;obtain⟨hrh,hch⟩:=hI.new i _ h (zsG _) ha hhm;have hc0:=hc2 0 h rfl;have hcs:=(zbP hV hhn).1;rw[hrh] at hcs;have hhn':(h:Int)<n:=by omega
   have hal:(h::a').length<=2048:=by
    have hnd:=(uh HRi).nd i _ ha;have:=zmA hnd (λx hx=>(uh HRi).lt i _ x ha hx);omega
   have hap:(0:Int)<((h::a').length:Nat):=by simp
   have Hc2:Hid (∀ V',Fr (GaB B tb w1) w1 V'->∀ j x:Nat,(h::a')[j]? = some x->V'.cell? ⟨g,j,none⟩=some (.int .i64 (x:Nat))):=zaa (λV' hV' j x hx=>by
    obtain⟨va',vc',g',c',hv',d1,d2⟩:=ziB (zhU (uh HRa) hV' (uh Htc)) ha
    cases hv'
    have e1:V'.cell? ⟨va,i,none⟩=wr.cell? ⟨va,i,none⟩:=by
     obtain⟨vs,q1,-⟩:=(uh HRa).form;obtain⟨cs,q2⟩:=zcC q1 rfl;have nk:¬ GaB B tb w1 va:=λho=>by
      obtain⟨ds,hd⟩:=uh Htc;rcases ho with e | ⟨-,hs⟩
      ·subst e;rw[q2] at hd;simp at hd
      ·exact zaq q2 (by decide) (by decide) hs
     have hl:=(zsO.1 q2).1;exact zsL ((hV'.2.1 va hl nk).trans (hF.2.1 va hl nk).symm)
    rw[d1,hc1] at e1
    cases e1
    exact d2 j x hx)
   have Hst:=zaa (zqp W S made i h);have HI:=zaa hI;have HV:=zaa hV;have HF:=zaa hF;have Hha:=zaa ha;have Hch:=zaa hch;clear hI hV hF ha hne hch hc2;generalize hav:h::a'=a at *;go_wp2
   go_loopw [28] (λx V=>∃ (p:Nat) (acc:Int->Bool) (OO':Nat->Nat->Prop),x=.int .i64 p/\p<=a.length/\GaR W S made i h (λz=>z=h\/z ∈ a.take p) (λz u=>z ∈ a.take p/\u ∈ W z) acc/\SetsV B V tb n A OO' rep (upC C h acc)/\Fr (GaB B tb w1) w1 V) (λx _=>a.length - (intOf x).toNat)
   case atStart=>exact⟨0,S h,OO1,rfl,zsK _,zgt (uh Hst) (λx hx=>by simpa using hx) (λx y hy=>by simp at hy),by rw[<- uh Hch,zur];exact uh HV,uh HF⟩
   case round =>
    obtain⟨p,acc,OO2,rfl,hp,hG,hV,hF⟩:=hrel;have hBr:B<=wr.heap.size:=by have:=hF.1;omega
    by_cases hpl:p<a.length
    ·have hpl':(p:Int)<a.length:=by omega
     have hxa:a[p]? = some (a.getD p 0):=by rw[zsE,zsF hpl];rfl
     have hxm:a.getD p 0 ∈ a:=List.mem_of_getElem? hxa;have hxn:=(uh HRi).lt i _ _ (uh Hha) hxm;have hcx:=uh Hc2 wr hF p _ hxa;have hcp:=(zbP hV hxn).1;have HJ:=zaa (zjL hV hBr hhn (hV.rp _ hxn));have hGo:=zwo (uh HRi) (uh HI) (uh Hha) hhm hxm hG;rw[zuq,zbc] at HJ;have Htk:=zaa (λz=>zbv hpl z);have Hxm:=zaa hxm;have HGo:=zaa hGo;have HF:=zaa hF;generalize a.getD p 0=x at *;have hxn':(x:Int)<n:=by omega
     clear hG hV hF hGo hxa;generalize hacc:orF acc (upC C h acc (rep x))=acc1 at *;go_wp2_with fail;refine(uh HJ).mono ?_;rintro e W2 ⟨⟨c2,rfl⟩,⟨OO3,hV3⟩,hF3⟩;have hF3':=zqr (uh HF) hF3;obtain⟨xa,xc,hxw⟩:=uh HWK x hxn;obtain⟨hwc,-⟩:=hxw W2 hF3';have hxl:=hWl x;have HV3:=zaa hV3;have HF3:=zaa hF3';have Hxw:=zaa hxw;have Hwx:=zaa (hW x hxn);clear hV3 hF3 hF3' hxw;go_wp2
     go_loopw [43] (λy V=>∃ (q:Nat) (acc:Int->Bool) (OO':Nat->Nat->Prop),y=.int .i64 q/\q<=(W x).length/\GaR W S made i h (λz=>(z=h\/z ∈ a.take p)\/z=x) (λz u=>(z ∈ a.take p/\u ∈ W z)\/z=x/\u ∈ (W x).take q) acc/\SetsV B V tb n A OO' rep (upC C h acc)/\Fr (GaB B tb w1) w1 V) (λy _=>(W x).length - (intOf y).toNat)
     case atStart=>exact⟨0,acc1,OO3,rfl,zsK _,zgt (uh HGo) (λz hz=>hz) (λz u hu=>by simpa using hu),uh HV3,uh HF3⟩
     case round =>
      obtain⟨q,acc2,OO4,rfl,hq,hG,hV,hF⟩:=hrel;have hBr2:B<=wr.heap.size:=by have:=hF.1;omega
      by_cases hql:q<(W x).length
      ·have hql':(q:Int)<(W x).length:=by omega
       have hya:(W x)[q]? = some ((W x).getD q 0):=by rw[zsE,zsF hql];rfl
       have hym:(W x).getD q 0 ∈ W x:=List.mem_of_getElem? hya;have hyn:=uh Hwx _ hym;obtain⟨b9,o9,rfl,hb9,hc9⟩:=zbf (uh Hxw wr hF).2 (k:=q) (by rw[zam];exact hql);rw[zbV hql] at hc9;have hcp2:=(zbP hV hyn).1;have HJ2:=zaa (zjL hV hBr2 hhn (hV.rp _ hyn));have hGo2:=gar_to (uh HRi) (uh HI) (uh Hha) hhm (uh Hxm) hym hG;rw[zuq,zbc] at HJ2;have Htk2:=zaa (λz=>zbv hql z);have HGo2:=zaa hGo2;have HF5:=zaa hF;generalize (W x).getD q 0=y at *;have hyn':(y:Int)<n:=by omega
       clear hG hV hF hGo2 hya hym;generalize orF acc2 (upC C h acc2 (rep y))=acc3 at *;go_wp2_with fail;refine(uh HJ2).mono ?_;rintro e W3 ⟨⟨c3,rfl⟩,⟨OO5,hV5⟩,hF6⟩;have HV5:=zaa hV5;have HF6:=zaa (zqr (uh HF5) hF6);clear hV5 hF6;go_wp2;go_roundw
       case rel=>exact⟨q+1,acc3,OO5,by go_num,by omega,zgt (uh HGo2) (λz hz=>hz) (λz u hu=>by
        rcases hu with hu | ⟨rfl,hu⟩
        ·exact .inl (.inl hu)
        ·rcases(uh Htk2 u).1 hu with hu | hu
         ·exact .inl (.inr ⟨rfl,hu⟩)
         ·exact .inr ⟨rfl,hu⟩),uh HV5,uh HF6⟩
       case measure=>simp[intOf];omega
      ·obtain rfl:q=(W x).length:=by omega
       have HG:=zaa hG;have HV:=zaa hV;have HF4:=zaa hF;clear hG hV hF;go_wp2;go_roundw
       case rel=>exact⟨p+1,acc2,OO4,by go_num,by omega,zgt (uh HG) (λz hz=>by
        rcases hz with hz | hz
        ·exact .inl (.inl hz)
        ·exact((uh Htk z).1 hz).imp .inr id) (λz u hu=>by
        rcases(uh Htk z).1 hu.1 with hz | hz
        ·exact .inl ⟨hz,hu.2⟩
        ·subst hz;exact .inr ⟨rfl,by rw[zsN];exact hu.2⟩),uh HV,uh HF4⟩
       case measure=>simp[intOf];omega
    ·obtain rfl:p=a.length:=by omega
     rw[zsN] at hG;have Hnx:=zaa (zwp (uh HRi) (uh HI) (uh Hha) hhm hG (λx hx=>.inr hx) (λx y hx hy=>⟨hx,hy⟩));have HV:=zaa hV;have HF:=zaa hF;clear hG hV hF;go_wp2
     go_loopw [57] (λx V=>∃ (p:Nat),x=.int .i64 p/\p<=a.length/\SetsV B V tb n A OO2 (λr=>if r ∈ a.take p then h else rep r) (upC C h acc)/\Fr (GaB B tb w1) w1 V) (λx _=>a.length - (intOf x).toNat)
     case atStart=>exact⟨0,rfl,zsK _,by simpa using uh HV,uh HF⟩
     case round =>
      obtain⟨p,rfl,hp,hV,hF⟩:=hrel;by_cases hpl:p<a.length
      ·have hpl':(p:Int)<a.length:=by omega
       have hxa:a[p]? = some (a.getD p 0):=by rw[zsE,zsF hpl];rfl
       have hxn:=(uh HRi).lt i _ _ (uh Hha) (List.mem_of_getElem? hxa);have hcx:=uh Hc2 wr hF p _ hxa;obtain⟨hcp,hfp⟩:=zbP hV hxn;have hVs:=znw hV (r:=a.getD p 0) hhn;have e1:upN (λr=>if r ∈ a.take p then h else rep r) (a.getD p 0) h=λr=>if r ∈ a.take (p+1) then h else rep r:=by
        funext r;unfold upN;by_cases e:r=a.getD p 0
        ·rw[if_pos e,if_pos ((zbv hpl r).2 (.inr e))]
        ·rw[if_neg e];show (if r ∈ a.take p then h else rep r)=_;by_cases e2:r ∈ a.take p
         ·rw[if_pos e2,if_pos ((zbv hpl r).2 (.inl e2))]
         ·rw[if_neg e2,if_neg (λe3=>((zbv hpl r).1 e3).elim e2 e)]
       rw[e1] at hVs;have hFs:Fr (GaB B tb w1) w1 (wr.setCell ⟨tb,a.getD p 0,none⟩ (.pointer (some ⟨A h,0,none⟩))):=zaD hF (.inl rfl) _;have HVs:=zaa hVs;have HFs:=zaa hFs;generalize a.getD p 0=x at *;generalize (if x ∈ a.take p then h else rep x)=rx at *;have hxn':(x:Int)<n:=by omega
       clear hV hF hVs hFs hxa e1;go_wp2;go_roundw
       case rel=>exact⟨p+1,by go_num,by omega,uh HVs,uh HFs⟩
       case measure=>simp[intOf];omega
      ·obtain rfl:p=a.length:=by omega
       rw[zsN] at hV;have HV:=zaa hV;have HF:=zaa hF;clear hV hF;go_wp2;go_roundw
       case rel=>exact⟨i+1,_,_,OO2,by go_num,by omega,uh Hnx,uh HV,uh HF⟩
       case measure=>simp[intOf];omega
  ·obtain rfl:i=made.length:=by omega
   have Hen:=zaa (λx hx m=>ga_end (uh HRi) hI x hx m);have HV:=zaa hV;have HF:=zaa hF;clear hI hV hF;go_wp2
   go_end0
   refine⟨⟨_,rfl⟩,⟨_,rep,C,uh HV,uh Hen⟩,?_⟩;have hb1:=uh Hb1;have hF:=uh HF;exact⟨zsy hb1.size hF.1,λk hk ho=>(hF.2.1 k (by omega) (λh=>ho (h.imp id (λh=>⟨h.1,(zg5 (hb1.block k hk)).1 h.2⟩)))).trans (hb1.block k hk),hF.2.2.1.trans hb1.os,hF.2.2.2.1.trans hb1.tape,hF.2.2.2.2.trans hb1.output⟩
theorem zmD(z:Value)(n:Nat):madeCells #[z] n=(List.replicate n z).toArray:=by
 refine Array.ext (by simp[madeCells]) λi h1 h2=>?_;simp[madeCells,Nat.mod_one]
theorem zgo(z y:Value)(m k r:Nat):Wk.over (List.replicate m y ++ List.replicate (k+r) z) m (List.replicate k y)=List.replicate (m+k) y ++ List.replicate r z:=by
 unfold Wk.over;have h1:(List.replicate m y ++ List.replicate (k+r) z).take m=List.replicate m y:=by rw[List.take_append_of_le_length (by simp)];simp
 have h2:(List.replicate m y ++ List.replicate (k+r) z).drop (m+(List.replicate k y).length)=List.replicate r z:=by
  rw[List.length_replicate,List.drop_append];simp
 rw[h1,h2,<- List.append_assoc,List.replicate_append_replicate]
theorem zma(g n m:Nat)(h:m<n)(w:World):(Instr.slice 50 (.slice (some ⟨g,0,none⟩) n n) (some (.int .i64 (m:Int))) none none).run Tryz.prog w=.ok (.slice (some ⟨g,m,none⟩) (n - m) (n - m)) w:=by
 rw[run_slice_l w 50 (some ⟨g,0,none⟩) n n Tryz.underlying50 .i64 (m:Int) (by omega) (by omega)];have e:((m:Int)).toNat=m:=by omega
 rw[e];simp[go_sem,Addr.add];rw[if_neg (by omega)]
 split
 ·rename_i h0;subst h0;rfl
 ·rfl
theorem zr8:(Tryz.prog.info? 3).map (·.size)=some 1:=by kernel_rfl
theorem znA(xb n:Nat)(x:Int)(hn0:1<=n)(hn:n<=2048)(w:World)(hx:w.heap[xb]? = some (.cells #[.int .i64 x] 3)) :
 Calls Tryz.prog 134 #[.slice (some ⟨xb,0,none⟩) 1 1,.int .i64 (n:Int)] w λe w'=>∃ b,e=.returned (.slice (some ⟨b,0,none⟩) n n)/\w'.heap[b]? = some (.cells (List.replicate n (Value.int .i64 x)).toArray 3)/\w.heap.size<=b/\Below w.heap.size w w':=by
 have hmk:=λw=>run_make_row' (P:=Tryz.prog) 50 3 (.int .i64 0) 8 Tryz.underlying50 zdB rfl .i64 .i64 n (by omega) (by omega) w;have HM:=zaa (Tryz.bits_Mul 1 n (by omega) (by omega) w);have h1:(1 * n / 18446744073709551616:Nat)=0:=by omega
 have h2:(1 * n % 18446744073709551616:Nat)=n:=by omega
 rw[h1,h2] at HM;have hn':¬ (n:Int)<0:=by omega
 have hc:(IntKind.u64.wrap (n:Int))=n:=by rw[IntKind.wrap_u64];omega
 go_enter Tryz.func134,Tryz.ntmps134;go_wp2_with fail;refine(uh HM).mono ?_;rintro e w2 ⟨rfl,rfl⟩;have hxl:xb<w2.heap.size:=(zsO.1 hx).1;have hA:(w2.alloc (.cells (madeCells #[.int .i64 0] n) 3)).heap[w2.heap.size]? = some (.cells (List.replicate n (Value.int .i64 0)).toArray 3 (0,0)):=by rw[zmD];exact zsH _ _
 have hb1:Below w2.heap.size w2 (w2.alloc (.cells (madeCells #[.int .i64 0] n) 3)):=(zsY _ _).alloc (zsG _) _
 have hcp:=Wk.run_copy_rows (P:=Tryz.prog) (w2.alloc (.cells (madeCells #[.int .i64 0] n) 3)) 50 50 3 3 1 w2.heap.size 0 n n ⟨xb,0,none⟩ 1 1 (List.replicate n (Value.int .i64 0)) 3 [.int .i64 x] Tryz.underlying50 zr8 hA (by simp[Nat.min_def];omega) (λj v hv=>by
  rcases j with _ | j
  ·cases hv
   rw[zhp];exact(hb1.cell (p:=⟨xb,0,none⟩) hxl).trans (by unfold World.cell?;rw[hx];rfl)
  ·cases hv) (by simp;omega) (λv hv=>by simp at hv;subst hv;rfl)
 have hmin:Nat.min 1 n=1:=by simp[Nat.min_def];omega
 rw[hmin] at hcp;have hov:=zgo (.int .i64 0) (.int .i64 x) 0 1 (n - 1);simp only[List.replicate_zero,List.nil_append,Nat.zero_add,show 1+(n - 1)=n by omega] at hov;have hov':Wk.over (List.replicate n (Value.int .i64 0)) 0 [.int .i64 x]=.int .i64 x::List.replicate (n - 1) (.int .i64 0):=hov;rw[hov'] at hcp;have hW:((w2.alloc (.cells (madeCells #[.int .i64 0] n) 3)).setRow w2.heap.size (Value.int .i64 x::List.replicate (n - 1) (Value.int .i64 0)).toArray).heap[w2.heap.size]? = some (.cells (Value.int .i64 x::List.replicate (n - 1) (Value.int .i64 0)).toArray 3 (0,0)):=setRow_heap _ _ _ _ _ _ hA;have hbW:Below w2.heap.size w2 ((w2.alloc (.cells (madeCells #[.int .i64 0] n) 3)).setRow w2.heap.size (Value.int .i64 x::List.replicate (n - 1) (Value.int .i64 0)).toArray):=Wk.below_row hb1 _ (zsG _) _;have Hst:=zaa (And.intro hW hbW);clear hA hov hov' hW hbW;go_wp2_with (at_builtin;refine Wk.wpList_copy_known _ rfl _ _ 50 50 rfl _ _ rfl rfl hcp ?_);generalize (w2.alloc (.cells (madeCells #[.int .i64 0] n) 3)).setRow w2.heap.size (Value.int .i64 x::List.replicate (n - 1) (Value.int .i64 0)).toArray=W0 at *
 go_loopw [8] (λy W=>∃ m:Nat,y=.int .i64 m/\1<=m/\m<=n/\W.heap[w2.heap.size]? = some (.cells (List.replicate m (Value.int .i64 x) ++ List.replicate (n - m) (Value.int .i64 0)).toArray 3 (0,0))/\Below w2.heap.size w2 W) (λy _=>n - (intOf y).toNat)
 case atStart=>exact⟨1,rfl,zsG _,hn0,(uh Hst).1,(uh Hst).2⟩
 case round =>
  clear Hst hcp hb1;obtain⟨m,rfl,hm1,hmn,hW,hb⟩:=hrel;by_cases hlt:m<n
  ·have hlt':(m:Int)<n:=by omega
   obtain⟨k,hk⟩:∃ k,k=Nat.min m (n - m):=⟨_,rfl⟩;have hk1:1<=k/\k<=n - m/\k<=m:=by rw[hk];simp only[Nat.min_def];split <;> omega
   have hs1:=λw=>zma w2.heap.size n m hlt w;have hs2:=λw=>zmb w2.heap.size 0 n n m hmn w
   have HC:=zaa (λ(W':World) (hW':W'.heap[w2.heap.size]? = some (.cells (List.replicate m (Value.int .i64 x) ++ List.replicate (n - m) (Value.int .i64 0)).toArray 3 (0,0)))=>Wk.run_copy_rows (P:=Tryz.prog) W' 50 50 3 3 1 w2.heap.size m (n - m) (n - m) ⟨w2.heap.size,0,none⟩ m n (List.replicate m (Value.int .i64 x) ++ List.replicate (n - m) (Value.int .i64 0)) 3 (List.replicate k (.int .i64 x)) Tryz.underlying50 zr8 hW' (by rw[<- hk];simp) (λj v hv=>by
    have hj:j<k:=by
     rcases Nat.lt_or_ge j k with h | h
     ·exact h
     ·rw[List.getElem?_eq_none (by simp;omega)] at hv;cases hv
    rw[List.getElem?_replicate,if_pos hj] at hv
    cases hv
    have:=World.news_of_block hW' j (.int .i64 x) (by
     rw[List.getElem?_append_left (by simp;omega),List.getElem?_replicate,if_pos (by omega)])
    exact this) (by simp;omega) (λv hv=>by rw[(List.mem_replicate.1 hv).2];rfl))
   rw[<- hk] at HC;have hov:Wk.over (List.replicate m (Value.int .i64 x) ++ List.replicate (n - m) (Value.int .i64 0)) m (List.replicate k (.int .i64 x))=List.replicate (m+k) (.int .i64 x) ++ List.replicate (n - (m+k)) (.int .i64 0):=by
    have h:=zgo (.int .i64 0) (.int .i64 x) m k (n - (m+k))
    rwa [show k+(n - (m+k))=n - m by omega] at h
   rw[hov] at HC;clear hov hk;have hwk:IntKind.i64.wrap ((m:Int)+k)=m+k:=by rw[IntKind.wrap_i64];omega
   go_wp2
   go_region_law (refine Wk.step_copy_known rfl (.tmp 41) (.tmp 44) 50 50 rfl (.slice (some ⟨w2.heap.size,m,none⟩) (n - m) (n - m)) (.slice (some ⟨w2.heap.size,0,none⟩) m n) (by simp[Act.eval,Act.put]) (by simp[Act.eval,Act.put]) (uh HC _ hW) ?_)
   all_goals
    go_simp;go_wp2;go_roundw
    case rel=>exact⟨m+k,by go_num,by omega,by omega,setRow_heap _ _ _ _ _ _ hW,Wk.below_row hb.drew _ (zsG _) _⟩
    case measure=>simp[intOf];omega
  ·obtain rfl:m=n:=by omega
   have hW2:wr.heap[w2.heap.size]? = some (.cells (List.replicate m (Value.int .i64 x)).toArray 3):=by rw[hW];simp
   go_wp2;go_ret;exact⟨w2.heap.size,rfl,hW2,zsG _,hb⟩
theorem castL_mem:x ∈ zag l↔∃ y,y ∈ l/\(y:Int)=x:=by unfold zag;simp
theorem zr6(rd:List Nat)(hnd:rd.Nodup):∃ rs,(zag rd).mergeSort (λx y=>decide (x<=y))=zag rs/\rs.Pairwise (· < ·)/\rs.Nodup/\(∀ x,x ∈ rs↔x ∈ rd)/\rs.length=rd.length:=by
 have hp:((zag rd).mergeSort (λx y=>decide (x<=y))).Perm (zag rd):=List.mergeSort_perm _ _;have hs:((zag rd).mergeSort (λx y=>decide (x<=y))).Pairwise (λx y=>decide (x<=y)=true):=List.pairwise_mergeSort (λa b c h1 h2=>by simp at *;omega) (λa b=>by simp;omega) _;generalize (zag rd).mergeSort (λx y=>decide (x<=y))=L at *;have hpos:∀ x,x ∈ L->0<=x:=λx hx=>by
  obtain⟨y,_,rfl⟩:=castL_mem.1 (hp.mem_iff.1 hx);omega
 have hL:L=zag (L.map Int.toNat):=by
  have h1:L.map ((λ(r:Nat)=>(r:Int)) ∘ Int.toNat)=L.map id:=List.map_congr_left λx hx=>by
   have:=hpos x hx;simp[Function.comp];omega
  unfold zag;rw[List.map_map,h1,List.map_id]
 generalize L.map Int.toNat=R at *;subst hL;have hn1:∀ l:List Nat,l.Nodup↔(zag l).Nodup:=λl=>by
  unfold List.Nodup zag;rw[List.pairwise_map];exact⟨λh=>h.imp (λh e=>h (by omega)),λh=>h.imp (λh e=>h (by omega))⟩
 have hR:R.Nodup:=(hn1 R).2 (hp.nodup_iff.2 ((hn1 rd).1 hnd));refine⟨R,rfl,?_,hR,λx=>?_,by have:=hp.length_eq;rwa [zam,zam] at this⟩
 ·unfold zag at hs;rw[List.pairwise_map] at hs;have h2:=List.Pairwise.and hs hR
  exact h2.imp (fun {a b} h=>by
   have h1:=h.1;have h2:=h.2
   simp at h1;omega)
 ·constructor
  ·intro hx;obtain⟨y,hy,e⟩:=castL_mem.1 (hp.mem_iff.1 (castL_mem.2 ⟨x,hx,rfl⟩));have:y=x:=by omega
   subst this;exact hy
  ·intro hx;obtain⟨y,hy,e⟩:=castL_mem.1 (hp.mem_iff.2 (castL_mem.2 ⟨x,hx,rfl⟩));have:y=x:=by omega
   subst this;exact hy
def zch(f:Nat->Int):Nat->Nat
 | 0=>0
 | n+1=>zch f n+if f n<0 then 1 else 0
theorem zdX{f g:Nat->Int}:∀ n,(∀ i,i<n->f i=g i)->zch f n=zch g n
 | 0,_=>rfl
 | n+1,h=>by unfold zch;rw[zdX n (λi hi=>h i (by omega)),h n (by omega)]
theorem zhk{f g:Nat->Int}:∀ n,(∀ i,i<n->0<=f i->0<=g i)->zch g n<=zch f n
 | 0,_=>zsG _
 | n+1,h=>by
   have ih:=zhk n (λi hi=>h i (by omega));have hn:=h n (by omega);unfold zch
   split <;> split <;> omega
theorem zkx{f g:Nat->Int}:∀ n,(∀ i,i<n->0<=f i->0<=g i)->∀ i,i<n->f i<0->0<=g i->zch g n<zch f n
 | 0,_,i,hi,_,_=>by omega
 | n+1,h,i,hi,h0,h1=>by
   unfold zch;by_cases e:i=n
   ·subst e;have:=zhk i (λj hj=>h j (by omega));rw[if_neg (by omega),if_pos h0];omega
   ·have:=zkx n (λj hj=>h j (by omega)) i (by omega) h0 h1;have hn:=h n (by omega)
    split <;> split <;> omega
theorem zm4{lf:Nat->Nat}:∀ (l:List Nat) (c:Nat->Int),(∀ r,-1<=c r)->∀ r,-1<=chL lf l c r
 | [],c,h=>h
 | k::l,c,h=>by
   show ∀ r,-1<=chL lf l (if c (lf k)<0 then upZ c (lf k) k else c) r;refine zm4 l _ λr=>?_
   split
   ·unfold upZ;split
    ·omega
    ·exact h r
   ·exact h r
def lenV:Value->Nat
 | .slice _ n _=>n
 | _=>0
theorem zt6(lf:Nat->Nat)(l:List Nat)(q:Nat)(c:Nat->Int):chL lf (l ++ [q]) c=if chL lf l c (lf q)<0 then upZ (chL lf l c) (lf q) q else chL lf l c:=by rw[zii];rfl
theorem ztF(lf:Nat->Nat)(l:List Nat)(q:Nat)(c:Nat->Int):fnL lf (l ++ [q]) c=fnL lf l c ++ if chL lf l c (lf q)<0 then[lf q] else[]:=by rw[zh8];simp[fnL]
def lfN(G:Gm)(q:Nat):Nat:=(G.prods.getD q pd0).left.toNat
def rlN(G:Gm)(q:Nat):List Nat:=(zaA G.nk (G.prods.getD q pd0).right).map Int.toNat
theorem zny{nk:Nat}{row:List Int}(h:x ∈ zaA nk row):0<=x:=by
 obtain⟨y,_,h2⟩:=List.mem_flatMap.1 h
 split at h2
 ·simp at h2;omega
 ·simp at h2
theorem zhj(r:Nat):∀ (l:List Int),(∀ x,x ∈ l->0<=x)->(l.map Int.toNat).count r=l.count (r:Int)
 | [],_=>by simp
 | x::l,h=>by
   rw[List.map_cons,List.count_cons,List.count_cons,zhj r l (λy hy=>h y (by simp[hy]))];have hx:=h x (by simp);have e:(x.toNat == r)=(x == (r:Int)):=by rw[Bool.eq_iff_iff];simp;omega
   rw[e]
theorem zhJ{G:Gm}{q r:Nat}(hq:q<G.prods.length):(zeW G r).count q=(rlN G q).count r:=by
 unfold rlN;rw[zhj r _ (λx hx=>zny hx)];unfold zeW;have key:∀ n,((List.range n).flatMap λi=>List.replicate ((zaA G.nk (G.prods.getD i pd0).right).count (r:Int)) i).count q=if q<n then(zaA G.nk (G.prods.getD q pd0).right).count (r:Int) else 0:=by
  intro n
  induction n with
  | zero=>simp
  | succ n ih =>
    rw[List.range_succ,List.flatMap_append,List.count_append,ih];simp only[List.flatMap_cons,List.flatMap_nil,List.append_nil,List.count_replicate];by_cases e:n=q
    ·subst e;simp
    ·have:(n == q)=false:=by simpa using e
     by_cases h:q<n
     ·have h2:q<n+1:=by omega
      simp only[this,h,h2,if_true,Bool.false_eq_true,if_false,Nat.add_zero]
     ·have h2:¬ q<n+1:=by omega
      simp only[this,h,h2,Bool.false_eq_true,if_false,Nat.add_zero]
 rw[key,if_pos hq]
structure RoI (G:Gm) (M:Nat) (w:World) (mv:Value) (ml:List Int) (bb lb:Nat) (c:Nat->Int) (rd:List Nat) (u:Value) (W:World):Prop where
 by_:W.rowIs bb 3 G.rules.length (λr=>.int .i64 (c r))
 left:zez W lb G.rules.length (λr=>decide (r<G.rules.length) && decide (c r<0))
 ms:∃ ml',ml'.length=ml.length/\RInv (lfN G) (rlN G) (atZ ml) G.prods.length c (atZ ml') rd/\W.ownsRow M 3 1 mv ml'.length (zao ml')/\∀ q,G.prods.length<=q->atZ ml' q=0
 rd:∃ base,bb<base/\lb<base/\w.heap.size<=base/\base<=W.heap.size/\W.ownsRow base 3 1 u (zag rd).length (zao (zag rd))
 st:∃ n,c=stN (lfN G) (rlN G) (λq=>decide (atZ ml q=(rlN G q).length)) G.prods.length n
 cl:∀ r,-1<=c r
 fr:Fr (λk=>mv.ownBlock=some k) w W
theorem zpe{b t:Nat}(h:w.heap[b]? = some (.cells (List.replicate n v).toArray t)):w.rowIs b t n (λ_=>v) :=
 ⟨_,h,by simp,λi hi=>by simp[hi]⟩
theorem fr_hi{O:Nat->Prop}(h:Fr O a b)(k:Below B b c)(hB:a.heap.size<=B):Fr O a c:=⟨zsy h.1 k.size,λj hj ho=>(k.block j (by omega)).trans (h.2.1 j hj ho),k.os.trans h.2.2.1,k.tape.trans h.2.2.2.1,k.output.trans h.2.2.2.2⟩
theorem zcW{e s:Nat}{xs:List Value}(h:W.ownsRow B e s v n xs)(hk:∀ k,v.ownBlock=some k->W'.heap[k]? = W.heap[k]?):W'.ownsRow B e s v n xs:=by
 refine⟨h.1,?_⟩;rcases h.2 with h1 | ⟨g,cap,cur,hv,hb,hh,rest⟩
 ·exact .inl h1
 ·exact .inr ⟨g,cap,cur,hv,hb,(hk g (by rw[hv];rfl)).trans hh,rest⟩
theorem zcP{b:Nat}(h:zez W b n S)(hk:W'.heap[b]? = W.heap[b]?):zez W' b n S:=by
 obtain⟨D,⟨es,cc,h3,h4⟩,h2⟩:=h;exact⟨D,⟨es,cc,hk.trans h3,h4⟩,h2⟩
theorem ziY{b:Nat}(h:zez W b n S):b<W.heap.size:=by obtain⟨D,h1,_⟩:=h;exact h1.lt
structure InI (G:Gm) (w5:World) (bb lb:Nat) (c:Nat->Int) (l:List Nat) (v:Value) (W:World):Prop where
 by_:W.rowIs bb 3 G.rules.length (λr=>.int .i64 (chL (lfN G) l c r))
 left:zez W lb G.rules.length (λr=>decide (r<G.rules.length) && decide (chL (lfN G) l c r<0))
 fd:W.ownsRow w5.heap.size 3 1 v (zag (fnL (lfN G) l c)).length (zao (zag (fnL (lfN G) l c)))
 fr:Fr (λk=>k=bb\/k=lb) w5 W
theorem zhT(G:Gm)(hG:GOk G)(ka pa ra qa:Option Addr)(kc pc rc qc gb ob ub:Nat)(M:Nat)(mv:Value)(ml:List Int)(hml:ml.length=G.prods.length)(hm0:∀ q,q<G.prods.length->atZ ml q=(rlN G q).length\/((rlN G q).length:Int)<atZ ml q\/atZ ml q<0)(hmb:∀ q,-1048<=atZ ml q/\atZ ml q<=1048)
 (w:World) (hM:M<=w.heap.size) (hg:GrAt M w G ka kc pa pc ra rc qa qc gb ob ub) (hm:w.ownsRow M 3 1 mv ml.length (zao ml)) :
 Calls Tryz.prog 157 #[.pointer (some ⟨gb,0,none⟩),mv] w λe w'=>∃ (b n:Nat) (c:Nat->Int),e=.returned (.slice (some ⟨b,0,none⟩) G.rules.length G.rules.length)/\w'.rowIs b 3 G.rules.length (λr=>.int .i64 (c r))/\c=stN (lfN G) (rlN G) (λq=>decide (atZ ml q=(rlN G q).length)) G.prods.length n/\stT (lfN G) (rlN G) (λq=>decide (atZ ml q=(rlN G q).length)) G.prods.length c=c/\w.heap.size<=b/\Fr (λk=>mv.ownBlock=some k) w w':=by
 obtain⟨ma,mc,hmv⟩:=zaf hm;subst hmv;have c2:w.cell? ⟨gb,2,none⟩=some (.slice ra G.rules.length rc):=by unfold World.cell?;rw[hg.box];rfl
 have hgl:gb<w.heap.size:=by have:=hg.lt;omega
 have hr1:=hG.r1;have hr2:=hG.r2;unfold Gm.nr at hr1 hr2;have hml4:ml.length<=4096:=by have:=hG.ps;omega
 have Hml:=zaa hml;clear hml;go_enter Tryz.func157,Tryz.ntmps157;go_wp2_with fail;have hb1:Below w.heap.size w (w.alloc (.cells #[.int .i64 (-1)] 3)):=(zsY _ _).alloc (zsG _) _;have hs1:(w.alloc (.cells #[.int .i64 (-1)] 3)).heap.size=w.heap.size+1:=by simp
 refine(znA w.heap.size G.rules.length (-1) hr1 hr2 _ (zsH _ _)).mono ?_;rintro e w2 ⟨bb,rfl,hbb,hbl,hb2⟩;have hbw2:Below w.heap.size w w2:=hb1.trans (zab hb2 (by omega));have hs2:=hb2.size;have hbb2:bb<w2.heap.size:=(zsO.1 hbb).1;have c2b:=(hbw2.cell (p:=⟨gb,2,none⟩) hgl).trans c2;have HL:=zaa (zho gb G.rules.length ra rc hr2 w2 (by omega) c2b);have Hg:=zaa hg;have Hm:=zaa hm;clear hb1 hb2 hg hm c2;go_wp2_with fail;refine(uh HL).mono ?_;rintro e w3 ⟨lb,rfl,hlf,hlb,hlb3,hb3⟩;have hbw3:=hbw2.trans (zab hb3 (by omega));have hs3:=hb3.size;have hm3:=zaR (zaW (uh Hm) hbw3) (zsG _);obtain⟨_,_,he,hmn⟩:=zb4 hm3
 cases he
 have HP:=zaa (znC ma mc ml 0 (by omega) w3 hmn);clear HL;go_wp2_with fail;refine(uh HP).mono ?_;rintro e w4 ⟨v4,rfl,how4,hb4⟩;obtain⟨va,vc,rfl⟩:=zaf how4;have hbw4:=hbw3.trans (zab hb4 (by omega));have hs4:=hb4.size;have hplc:zdK ml 0 ml.length=zag ((List.range G.prods.length).filter λq=>decide (atZ ml q=0)):=by rw[zmo,uh Hml];rfl
 have hR0:RoI G M w (.slice ma ml.length mc) ml bb lb (λ_ => -1) ((List.range G.prods.length).filter λq=>decide (atZ ml q=0)) (.slice va (zdK ml 0 ml.length).length vc) w4:=by
  refine⟨?_,?_,⟨ml,rfl,znz hm0 rfl,zaR (zaW (uh Hm) hbw4) (zsG _),λq hq=>?_⟩,⟨w3.heap.size,by omega,hlb3,by omega,by omega,?_⟩,⟨0,rfl⟩,λ_=>by omega,zae hbw4⟩
  ·exact(zpe (zep (zep hbb hb3) hb4))
  ·obtain⟨D,h1,h2⟩:=hlf;have hl3:=h1.lt;obtain⟨es,cc,h3,h4⟩:=h1;exact⟨D,⟨es,cc,(hb4.block lb hl3).trans h3,h4⟩,λi=>by rw[h2 i];simp⟩
  ·unfold atZ;rw[zsE,List.getElem?_eq_none (by have:=uh Hml;omega)];rfl
  ·rw[<- hplc];exact how4
 have hlen4:=zgO ml 0 ml.length;have HR0:=zaa hR0;have Hplc:=zaa hplc;have hbbw:w.heap.size<=bb:=by omega
 have hlbw:w.heap.size<=lb:=by omega
 clear hR0 how4 hbb hlf hm3 hmn HP hb3 hb4 hplc c2b hbw2 hbw3;have HKg:Hid (∀ W,Fr (λk=>(Value.slice ma ml.length mc).ownBlock=some k) w W->GrAt M W G ka kc pa pc ra rc qa qc gb ob ub):=zaa (λW hF=>za1 (uh Hg) (zau hF hM (λk hk=>((uh Hm).lt k hk).1)));have hMw:∀ k,(Value.slice ma ml.length mc).ownBlock=some k->M<=k/\k<w.heap.size:=λk hk=>(uh Hm).lt k hk;go_wp2
 go_loopw [7] (λu W=>∃ c rd,RoI G M w (.slice ma ml.length mc) ml bb lb c rd u W) (λu W=>2 * zch (zxD W bb) G.rules.length+if lenV u=0 then 0 else 1)
 case atStart=>exact⟨_,_,uh HR0⟩
 case round =>
  clear HR0 hbw4 hs4 hs3 hs2 hlen4;obtain⟨c,rd,hR⟩:=hrel;obtain⟨hby,hleft,⟨ml',hl',hinv,hms,hz'⟩,⟨base,hbs1,hbs2,hbs3,hbs4,hrd⟩,⟨n,hst⟩,hcl,hfr⟩:=hR;obtain⟨ua,uc,rfl⟩:=zaf hrd;have hcnt:zch (zxD wr bb) G.rules.length=zch c G.rules.length:=zdX _ (λr hr=>zpF hby r hr);have hrl:(zag rd).length=rd.length:=zam rd;by_cases hz:rd=[]
  ·subst hz;have hend:=zpf hinv;have Hfin:=zaa (And.intro hby (And.intro hst (And.intro hend hfr)));clear hby hleft hinv hms hrd hst hfr hend;go_wp2;go_ret;obtain⟨h1,h2,h3,h4⟩:=uh Hfin;exact⟨bb,n,c,rfl,h1,h2,h3,hbbw,h4⟩
  ·have Hst:=zaa hst;clear hst;have hpos:0<rd.length:=List.length_pos_iff.2 hz;obtain⟨rs,hsort,hup,hsn,hsm,hsl⟩:=zr6 rd hinv.nd;have hrdl:rd.length<=4096:=by
    have h1:=List.Nodup.length_le_of_subset hinv.nd (l₂:=List.range G.prods.length) (λq hq=>List.mem_range.2 (hinv.lt q hq));have:=hG.ps;rw[List.length_range] at h1;omega
   have HSo:=zaa (zo3 base ua uc (zag rd) (by rw[zam];omega) wr hrd);rw[hsort] at HSo;have hpos':(0:Int)<(zag rd).length:=by rw[hrl];omega
   have HA:=zaa (And.intro hby (And.intro hleft (And.intro hms (And.intro hfr hinv))));clear hby hleft hinv hms hfr hrd;rw[hrl] at HSo;go_wp2_with fail;refine(uh HSo).mono ?_;rintro e w5 ⟨rfl,how5,hb5⟩;obtain⟨hby,hleft,hms,hfr,hinv⟩:=uh HA;have hs5:=hb5.size;have hby5:=hby.of_block (hb5.block bb hbs1);have hleft5:=zcP hleft (hb5.block lb hbs2);have hms5:=zcW hms (λk hk=>hb5.block k (by have:=(hMw k hk).2;omega));have hfr5:=fr_hi hfr hb5 hbs3;have hsl':rs.length=rd.length:=hsl;rw[<- hsl',<- zam rs] at how5;obtain⟨_,_,he5,hn5⟩:=zb4 how5;rw[zam,hsl'] at he5
   cases he5
   have hrb:∀ k,(Value.slice ua rd.length uc).ownBlock=some k->k≠bb/\k≠lb:=λk hk=>by
    have h1:=how5;rw[zam,hsl'] at h1;have:=(h1.lt k hk).1;omega
   have hne:bb≠lb:=λe=>by
    subst e;obtain⟨D,⟨es,cc,h3,_⟩,_⟩:=hleft5;obtain⟨cs,h5,_⟩:=hby5;rw[h3] at h5;cases h5
   have HI0:Hid (InI G w5 bb lb c [] (.slice none 0 0) w5):=zaa ⟨hby5,hleft5,World.ownsRow_nil _ _ _ _,zax _ _⟩
   have Hn5:Hid (∀ W,Fr (λk=>k=bb\/k=lb) w5 W->NRow W.heap.size W ua (zag rs)):=zaa (λW hF=>by
    rcases hn5 with h | ⟨b,o,h1,h2,h3⟩
    ·exact .inl h
    ·refine .inr ⟨b,o,h1,by have:=hF.1;omega,λj hj=>(zsL (hF.2.1 b h2 (λh=>?_))).trans (h3 j hj)⟩;have:=hrb b (by rw[h1];rfl)
     rcases h with h | h <;> omega)
   have Hq5:Hid (∀ W,Fr (λk=>k=bb\/k=lb) w5 W->GIn M W G ka pa ra qa/\W.cell? ⟨gb,3,none⟩=some (.slice qa G.prods.length qc)):=zaa (λW hF=>by
    have hg5:=uh HKg w5 hfr5;have hg6:=za1 hg5 (zau hF (by omega) (λk hk=>by rcases hk with hk | hk <;> omega))
    exact⟨hg6.gin,by unfold World.cell?;rw[hg6.box];rfl⟩)
   have hrsl:∀ q,q ∈ rs->q<G.prods.length:=λq hq=>hinv.lt q ((hsm q).1 hq);have HB:=zaa (And.intro hms5 (And.intro hfr5 hinv));have hbb5:=hby5.lt;have hlb5:=ziY hleft5;have Hrsl:=zaa hrsl;clear hby hleft hms hfr hinv hby5 hleft5 hms5 hfr5 how5 hn5 hb5 HSo HA hrsl;generalize hrdlen:rd.length=nd at *;go_wp2
   go_loopw [8,31] (λv x W=>∃ i:Nat,x=.int .i64 i/\i<=nd/\InI G w5 bb lb c (rs.take i) v W) (λ_ x _=>nd - (intOf x).toNat)
   case atStart=>exact⟨0,rfl,zsK _,by simpa using uh HI0⟩
   case round =>
    clear HI0;obtain⟨i,rfl,hi,hI⟩:=hrel;obtain⟨va,vc,rfl⟩:=zaf hI.fd;have hnr:=uh Hn5 wr hI.fr;obtain⟨hgin,c3⟩:=uh Hq5 wr hI.fr;by_cases hlt:i<nd
    ·have hlt':(i:Int)<nd:=by omega
     have hir:i<rs.length:=by omega
     obtain⟨xb,xo,rfl,hxb,hcx⟩:=zbf hnr (k:=i) (by rw[zam];exact hir);rw[zbV hir] at hcx;have hq:=uh Hrsl _ (zfl hir);have HTs:=zaa (zd7 rs i hir);generalize rs.getD i 0=q at *;obtain⟨b,off,rfl,hbB,rr,rrc,x3,x4,x5,x6,n6,c6,-,-,q0,-⟩:=zdm hgin.prods hq;have hpl:=hG.pl _ (zan hq);unfold Gm.nr at hpl;have hll:(G.prods.getD q pd0).left=((lfN G q:Nat):Int):=by unfold lfN;omega
     have hl:lfN G q<G.rules.length:=by unfold lfN;omega
     rw[hll] at q0;have Hcs:=zaa (zt6 (lfN G) (rs.take i) q c);have Hfs:=zaa (ztF (lfN G) (rs.take i) q c);have HT:=zaa (ziv lb G.rules.length (lfN G q) _ (by omega) wr hI.left);rw[decide_eq_true hl,Bool.true_and] at HT;have hnq:(q:Int)<G.prods.length:=by omega
     have hcl2:=zm4 (lf:=lfN G) (rs.take i) c hcl (lfN G q);have HI:=zaa hI;have hbl2:=hI.by_.lt;have hs6:=hI.fr.1;have hfl:(zag (fnL (lfN G) (rs.take i) c)).length<=2048:=by
      rw[zam]
      have h1:=List.Nodup.length_le_of_subset (zdS (lfN G) (rs.take i) c) (l₂:=List.range G.rules.length) (λr hr=>by
       obtain⟨_,k,hk,rfl⟩:=zdT _ _ _ _ hr;have:=hG.pl _ (zan (uh Hrsl k (List.mem_of_mem_take hk)));unfold Gm.nr at this
       exact List.mem_range.2 (by unfold lfN;omega))
      rw[List.length_range] at h1;omega
     clear hnr hgin hpl hll
     have Hout:Hid (∀ (w6 W8:World) (v8:Value) (c8:Nat->Int) (f8:List Nat),c8=chL (lfN G) (rs.take (i+1)) c->f8=fnL (lfN G) (rs.take (i+1)) c->W8.rowIs bb 3 G.rules.length (λr=>.int .i64 (c8 r))->zez W8 lb G.rules.length (λr=>decide (r<G.rules.length) && decide (c8 r<0))->W8.ownsRow w5.heap.size 3 1 v8 (zag f8).length (zao (zag f8))->Fr (λk=>k=bb\/k=lb) w5 W8->InI G w5 bb lb c (rs.take (i+1)) v8 W8):=zaa (by
      rintro w6 W8 v8 _ _ rfl rfl h1 h2 h3 h4
      exact⟨h1,h2,h3,h4⟩)
     by_cases hneg:chL (lfN G) (rs.take i) c (lfN G q)<0
     · rw [decide_eq_true hneg] at HT;have Hc8:Hid (upZ (chL (lfN G) (rs.take i) c) (lfN G q) q=chL (lfN G) (rs.take (i+1)) c):=zaa (by rw[uh HTs,uh Hcs,if_pos hneg]);have Hf8:Hid (fnL (lfN G) (rs.take i) c ++ [lfN G q]=fnL (lfN G) (rs.take (i+1)) c):=zaa (by rw[uh HTs,uh Hfs,if_pos hneg]);clear Hcs Hfs HTs hI;obtain⟨i3,hi3,hz30,hz31,hz32⟩:=zah zdB;have Hneg:=zaa hneg;clear hneg;go_wp2_with fail;refine(uh HT).mono ?_;rintro e w6 ⟨rfl,hleft6,hf6⟩;have hI:=uh HI;have hby6:=hI.by_.of_block (hf6.2.1 bb hbl2 hne);have hfd6:=zcW hI.fd (λk hk=>hf6.2.1 k (hI.fd.lt k hk).2 (λe=>by have e:k=lb:=e;have:=(hI.fd.lt k hk).1;omega));have hF6:=zcK hI.fr (zaj hf6 (λk _ h=>.inr h));have hfz:=hby6.frozen (lfN G q);have hcz:=hby6.cell hl;have hbl6:=hby6.lt;have hset:Fr (· = bb) w6 (w6.setCell ⟨bb,lfN G q,none⟩ (.int .i64 (q:Int))):=zaD (zax _ _) (by rfl) _;have hby7:(w6.setCell ⟨bb,lfN G q,none⟩ (.int .i64 (q:Int))).rowIs bb 3 G.rules.length (λr=>.int .i64 (upZ (chL (lfN G) (rs.take i) c) (lfN G q) q r)):=(hby6.set (lfN G q) _).congr (λr _=>by unfold upZ;split <;> rfl);have hleft7:=zcP hleft6 (hset.2.1 lb (ziY hleft6) (λe=>hne e.symm));have hfd7:=zcW hfd6 (λk hk=>hset.2.1 k (hfd6.lt k hk).2 (λe=>by have e:k=bb:=e;have:=(hfd6.lt k hk).1;omega));have hF7:Fr (λk=>k=bb\/k=lb) w5 (w6.setCell ⟨bb,lfN G q,none⟩ (.int .i64 (q:Int))):=zcK hF6 (zaj hset (λk _ h=>.inl h));have hs7:=hF7.1;have HE:=zaa (And.intro hby7 (And.intro hleft7 (And.intro hfd7 hF7)));clear hby6 hleft6 hfd6 hF6 hf6 hset hby7 hleft7 hfd7 hF7 hI;go_wp2_with (at_builtin;refine wpList_append_own _ rfl _ _ 50 rfl w5.heap.size 3 i3 (.int .i64 0) 1 8 Tryz.underlying50 hi3 hz30 hz31 hz32 rfl (by decide) _ _ _ rfl ((uh HE).2.2.1.alloc _) ⟨w6.heap.size,0,none⟩ 1 1 [.int .i64 (lfN G q:Int)] rfl rfl ?zc1 ?zc2 ?zc3 ?zc4 ?zc5 ?_)
       case zc1=>intro j u hu;have h:=zpR (w6.setCell ⟨bb,lfN G q,none⟩ (.int .i64 (q:Int))) (.int .i64 (lfN G q:Int)) 3 j u hu;simpa using h
       case zc2=>intro u hu;simp at hu;rcases hu with rfl;rfl
       case zc3=>unfold maxLen;omega
       case zc4=>omega
       case zc5=>simp at hs7 ⊢;omega
       intro v' W3 hown' hgrow _;obtain⟨e1,e2,e3,e4⟩:=uh HE;have hb3:Below w5.heap.size (w6.setCell ⟨bb,lfN G q,none⟩ (.int .i64 (q:Int))) W3:=((zsY _ _).alloc (by simp at hs7 ⊢;omega) _).grown hgrow (by simp at hs7 ⊢;omega) (λk hk=>(e3.lt k hk).1)
       have HN:=zaa (uh Hout w6 W3 v' _ _ (uh Hc8) (uh Hf8) (e1.of_block (hb3.block bb hbb5)) (by
         obtain⟨D,h1,h2⟩:=zcP e2 (hb3.block lb hlb5);refine⟨D,h1,λr=>?_⟩;rw[h2 r];show (if r=lfN G q then false else _)=(_ && decide (upZ (chL (lfN G) (rs.take i) c) (lfN G q) q r<0));by_cases e:r=lfN G q
         · subst e;rw[if_pos rfl,zbL,show decide ((q:Int)<0)=false from decide_eq_false (by omega),Bool.and_false]
         · rw[if_neg e,zf0 e]) (by
         have e5:zag (fnL (lfN G) (rs.take i) c ++ [lfN G q])=zag (fnL (lfN G) (rs.take i) c) ++ [(lfN G q:Int)]:=by unfold zag;rw[List.map_append];rfl
         rw[e5,<- zaY,zsI];exact hown') (fr_hi e4 hb3 (zsG _)))
       clear hown' hgrow hb3 e1 e2 e3 e4;go_wp2;go_roundw
       case rel=>exact⟨i+1,by go_num,by omega,uh HN⟩
       case measure=>simp[intOf];omega
     · rw[decide_eq_false hneg] at HT;have Hc8:Hid (chL (lfN G) (rs.take i) c=chL (lfN G) (rs.take (i+1)) c):=zaa (by rw[uh HTs,uh Hcs,if_neg hneg]);have Hf8:Hid (fnL (lfN G) (rs.take i) c=fnL (lfN G) (rs.take (i+1)) c):=zaa (by rw[uh HTs,uh Hfs,if_neg hneg,List.append_nil]);have Hneg:Hid (decide (chL (lfN G) (rs.take i) c (lfN G q)<0)=false):=zaa (decide_eq_false hneg);clear hI hneg;go_wp2_with fail;refine(uh HT).mono ?_;rintro e w6 ⟨rfl,hleft6,hf6⟩;have hI:=uh HI
       have HN:=zaa (uh Hout w6 w6 _ _ _ (uh Hc8) (uh Hf8) (hI.by_.of_block (hf6.2.1 bb hbl2 hne)) (by
         obtain⟨D,h1,h2⟩:=hleft6;refine⟨D,h1,λr=>?_⟩;rw[h2 r];show (if r=lfN G q then false else _)=_;by_cases e:r=lfN G q
         · subst e;rw[if_pos rfl];show false=(_ && decide (chL (lfN G) (rs.take i) c (lfN G q)<0));rw[uh Hneg,Bool.and_false]
         · rw[if_neg e]) (zcW hI.fd (λk hk=>hf6.2.1 k (hI.fd.lt k hk).2 (λe=>by have e:k=lb:=e;have:=(hI.fd.lt k hk).1;omega))) (zcK hI.fr (zaj hf6 (λk _ h=>.inr h))))
       clear hleft6 hf6 hI;go_wp2;go_roundw
       case rel=>exact⟨i+1,by go_num,by omega,uh HN⟩
       case measure=>simp[intOf];omega
    ·obtain rfl:i=nd:=by omega
     have e1:rs.take i=rs:=by rw[<- hsl'];exact zsN
     rw[e1] at hI ⊢;obtain⟨hms5,hfr5,hinv⟩:=uh HB;have hb5:=hI.fr;have hmsW:=zcW hms5 (λk hk=>hI.fr.2.1 k (by have:=(hMw k hk).2;have:=hfr5.1;omega) (λh=>by have:=(hMw k hk).2;rcases h with h | h <;> omega));have hfrW:Fr (λk=>(Value.slice ma ml.length mc).ownBlock=some k) w wr:=⟨zsy hfr5.1 hI.fr.1,λk hk ho=>(hI.fr.2.1 k (by have:=hfr5.1;omega) (λh=>by rcases h with h | h <;> omega)).trans (hfr5.2.1 k hk ho),hI.fr.2.2.1.trans hfr5.2.2.1,hI.fr.2.2.2.1.trans hfr5.2.2.2.1,hI.fr.2.2.2.2.trans hfr5.2.2.2.2⟩;have hgW:=uh HKg wr hfrW;obtain⟨_,_,hfe,hfn⟩:=zb4 hI.fd
     cases hfe
     have hfr':∀ r,r ∈ fnL (lfN G) rs c->r<G.rules.length:=λr hr=>by
      obtain⟨_,k,hk,rfl⟩:=zdT _ _ _ _ hr;have:=hG.pl _ (zan (uh Hrsl k hk));unfold Gm.nr at this;unfold lfN;omega
     have hfl:(fnL (lfN G) rs c).length<=2048:=by
      have h1:=List.Nodup.length_le_of_subset (zdS (lfN G) rs c) (l₂:=List.range G.rules.length) (λr hr=>List.mem_range.2 (hfr' r hr));rw[List.length_range] at h1;omega
     have hmb':∀ q,-1048576<=atZ ml' q/\atZ ml' q<=1048576:=λq=>by
      by_cases hq:q<G.prods.length
      ·rw[hinv.mi q hq];have h1:=hmb q;have h2:(rlN G q).countP (fd c)<=(rlN G q).length:=List.countP_le_length;have h3:(rlN G q).length<=64:=by
        unfold rlN;rw[List.length_map];have h4:=za2 (nk:=G.nk) (G.prods.getD q pd0).right;have h5:=hG.pr _ (zan hq);omega
       omega
      ·rw[hz' q (by omega)];omega
     have hl'':ml'.length=G.prods.length:=by rw[hl'];exact uh Hml
     have hfb:∀ x,va=some x->(Value.slice ma ml.length mc).ownBlock≠some x.block:=λx hx h=>by
      have h1:=(hMw _ h).2;have h2:=(hI.fd.lt x.block (by rw[hx];rfl)).1;have:=hfr5.1;omega
     have HRB:=zaa (zla G hG ka pa ra qa kc pc rc qc gb ob ub M va vc (fnL (lfN G) rs c) hfl hfr' (.slice ma ml.length mc) ml' hl'' hmb' wr (by have:=hfrW.1;omega) hgW hfn hmsW hfb);have HI:=zaa hI;have HC:=zaa (And.intro hfrW hinv);rw[zam] at *;clear hI hms5 hfr5 hinv hmsW hfrW hgW hfn hb5;go_wp2_with fail;refine(uh HRB).mono ?_;rintro e w7 ⟨v7,rfl,hrd7,⟨ml7,hl7,hd7,hms7⟩,hfr7⟩;have hI:=uh HI;obtain⟨hfrW,hinv⟩:=uh HC;have hbW:=hI.by_.lt;have hlW:=ziY hI.left;have hby7:=hI.by_.of_block (hfr7.2.1 bb hbW (λh=>by have:=(hMw _ h).2;omega));have hinv2:=zpi hm0 (λq r hq=>zhJ (G:=G) (r:=r) hq) (λq r h=>zgC (G:=G) (r:=r) h) (zpj hinv hsn hsm);have hc2:=zmh hinv hup hsm;have hR7:RoI G M w (.slice ma ml.length mc) ml bb lb (chL (lfN G) rs c) (dcR ((fnL (lfN G) rs c).flatMap (zeW G)) (atZ ml')) v7 w7:=by
      refine⟨hby7,zcP hI.left (hfr7.2.1 lb hlW (λh=>by have:=(hMw _ h).2;omega)),⟨ml7,hl7.trans hl',by rw[hd7];exact hinv2,hms7,λq hq=>?_⟩,⟨wr.heap.size,hbW,hlW,hfrW.1,hfr7.1,hrd7⟩,⟨n+1,?_⟩,zm4 rs c hcl,zcK hfrW hfr7⟩
      ·rw[hd7,zmV,hz' q hq]
       have:((fnL (lfN G) rs c).flatMap (zeW G)).count q=0:=List.count_eq_zero.2 (λhm=>by
        obtain⟨r,_,hr⟩:=List.mem_flatMap.1 hm
        have:=zgC hr;omega)
       rw[this];rfl
      ·rw[hc2];show _=stT _ _ _ _ (stN _ _ _ _ n);rw[<- uh Hst]
     obtain⟨ga,gc,rfl⟩:=zaf hrd7;have hcnt7:zch (zxD w7 bb) G.rules.length=zch (chL (lfN G) rs c) G.rules.length:=zdX _ (λr hr=>zpF hby7 r hr);have hup2:∀ r,r<G.rules.length->0<=c r->0<=chL (lfN G) rs c r:=λr _ h=>by rw[zcR _ _ _ _ h];exact h
     have Hme:Hid (2 * zch (zxD w7 bb) G.rules.length+(if (zag (dcR ((fnL (lfN G) rs c).flatMap (zeW G)) (atZ ml'))).length=0 then 0 else 1)<2 * zch c G.rules.length+1):=zaa (by
      rw[hcnt7];by_cases hfe:fnL (lfN G) rs c=[]
      ·rw[hfe];have h1:=zhk (f:=c) (g:=chL (lfN G) rs c) G.rules.length hup2;rw[if_pos (by rfl)];omega
      ·obtain⟨r,hr⟩:=List.exists_mem_of_ne_nil _ hfe;have h0:=(zdT _ _ _ _ hr).1;have h1:=(zhl (lfN G) rs c r h0).2 hr;have h2:=zkx G.rules.length hup2 r (hfr' r hr) h0 h1
       split <;> omega)
     have HR7:=zaa hR7;clear hrd7 hms7 hd7 hfr7 hI hfrW hinv hby7 hinv2 hc2 hR7 hcnt7;go_wp2;go_roundw
     case rel=>exact⟨_,_,uh HR7⟩
     case measure =>
      have h:=uh Hme;have hb1:(if lenV (Value.slice ua (zag rd).length uc)=0 then 0 else 1)=1:=if_neg (by show ¬ (zag rd).length=0;rw[zam];omega);rw[hcnt,hb1];exact h
end Go.Proofs.YtieciibnajeibaaGreatDoor

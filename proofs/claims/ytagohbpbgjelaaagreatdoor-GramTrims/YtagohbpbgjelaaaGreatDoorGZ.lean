/- The code's toThemselves: which rules lead to themselves. -/
import Derived.Test.YtagohbpbgjelaaaGreatDoorTW
import Derived.Test.YtagohbpbgjelaaaGreatDoorGV
import Derived.Test.YtagohbpbgjelaaaGreatDoorJA
import Derived.Test.YtagohbpbgjelaaaGreatDoorGC
import Derived.Deep.AppendLies
namespace Go.Proofs.YtagohbpbgjelaaaGreatDoor
open Go.RowKit

open Classical in
noncomputable def zdk (W:Nat→List Nat):Nat→Bool:=fun r=>decide (∃ y,y ∈ W r∧Rh W y r)
theorem zoJ {W:Nat→List Nat} {n:Nat} {made:List (List Nat)} (hR:Rings W n made) {i x:Nat} {a:List Nat} (ha:made[i]? = some a) (hx:x ∈ a):zdk W x=(decide (1<a.length) || decide (x ∈ W x)):=by
 have h:=zmz hR ha hx
 have h1:zdk W x=true↔∃ y,y ∈ W x∧Rh W y x:=by unfold zdk;simp
 rw[Bool.eq_iff_iff,h1,h]
 simp
theorem zqr {B B':Nat} {w:World} {tb n:Nat} {W:Nat→List Nat} (h:zib B w tb n W) (hB:B≤B'):zib B' w tb n W:=by
 refine⟨by have:=h.1;omega,fun r hr=>?_⟩
 obtain⟨a,c,h1,h2⟩:=h.2 r hr
 refine⟨a,c,h1,?_⟩
 rcases h2 with h2 | ⟨b,off,h3,h4,h5⟩
 ·exact .inl h2
 ·exact .inr ⟨b,off,h3,by omega,h5⟩
theorem ziT (a:Option Addr) (c:Nat) (l:List Nat) (x:Nat) (hl:l.length≤1048576) (B:Nat) (w:World) (h:NRow B w a (zai l)):Calls Tryz.prog 126 #[.slice a l.length c,.int .i64 (x:Nat)] w fun e w'=>e=.returned (.bool (decide (x ∈ l)))∧w'=w:=by
 have e1:(zai l).length=l.length:=zak l
 rcases h with h | ⟨b,off,rfl,h1,h2⟩
 ·have:l=[]:=by
   cases l with
   | nil=>rfl
   | cons y l=>simp[zai] at h
  subst this
  exact Tryz.slices_Contains_int_empty a c x w
 ·have h3:=Tryz.slices_Contains_int b off l.length c (zai l) x w (by omega) (by omega) h2
  rw[List.take_of_length_le (by omega)] at h3
  have e2:(zai l).contains (x:Int)=decide (x ∈ l):=by
   rw[Bool.eq_iff_iff,decide_eq_true_eq,List.contains_iff_mem]
   unfold zai
   rw[List.mem_map]
   exact ⟨fun ⟨y, h4, h5⟩ => by have : y = x := by omega
                                exact this▸h4,fun h4=>⟨x,h4,rfl⟩⟩
  rw[e2] at h3
  exact h3
set_option maxHeartbeats 2000000 in
set_option maxRecDepth 100000 in
theorem zfv (W:Nat→List Nat) (n wb wcp:Nat) (hn:n≤2048) (hW:∀ r,r<n→∀ y,y ∈ W r→y<n) (hWl:∀ r,(W r).length≤1048576) (w:World) (hWay:zib w.heap.size w wb n W) :
 Calls Tryz.prog 89 #[.slice (some ⟨wb,0,none⟩) n wcp] w fun e w'=>∃ b:Nat,e=.returned (.slice (some ⟨b,0,none⟩) n n)∧w'.rowIs b 4 n (fun r=>.bool (zdk W r))∧w.heap.size≤b∧Below w.heap.size w w':=by
 have hmb:=fun w=>run_make_row' (P:=Tryz.prog) 28 4 (.bool false) 1 Tryz.underlying28 zlx rfl .i64 .i64 n (by omega) (by omega) w
 have hal:Below w.heap.size w (w.alloc (.cells (madeCells #[.bool false] n) 4)):=(Below.refl _ _).alloc (Nat.le_refl _) _
 have HR:=zaa (zin W n wb wcp hn hW hWl _ (zqr (zeC hWay hal) hal.size))
 have Hrow:=zaa (World.rowIs_made w (.bool false) n 4)
 have HW:=zaa hWay;have Hal:=zaa hal
 have hszA:(w.alloc (.cells (madeCells #[.bool false] n) 4)).heap.size=w.heap.size+1:=by simp
 clear hWay hal
 go_enter Tryz.func89,Tryz.ntmps89
 go_wp2_with fail
 generalize w.alloc (.cells (madeCells #[.bool false] n) 4)=w0 at *
 refine(uh HR).mono ?_
 rintro e w1 ⟨v1,made,rfl,hRi,hml,hRa,hb1⟩
 obtain⟨ra,rc,rfl⟩:=(show ∃ a c,v1=.slice a made.length c by obtain⟨vs,h1,-⟩:=hRa.form;exact zad h1)
 have hrow1:=(uh Hrow).of_block (hb1.block _ (uh Hrow).lt)
 have Hrow1:=zaa hrow1
 have Hb1:=zaa ((uh Hal).trans (zab hb1 (by omega)));have HRi:=zaa hRi;have HRa:=zaa hRa
 have hs1:=hb1.size
 clear hb1 hRi hRa HR hrow1
 go_wp2
 go_loopw [14] (fun x V=>∃ (i:Nat) (f:Nat→Bool),x=.int .i64 i∧i≤made.length∧V.rowIs w.heap.size 4 n (fun r=>.bool (f r))∧(∀ (j:Nat) (a:List Nat) (x:Nat),j<i→made[j]? = some a→x ∈ a→f x=zdk W x)∧Fr (· = w.heap.size) w1 V) (fun x _=>made.length - (intOf x).toNat)
 case atStart=>exact⟨0,fun _=>false,rfl,Nat.zero_le _,uh Hrow1,fun j a x h=>by omega,zav _ _⟩
 case round =>
  obtain⟨i,f,rfl,hi,hrow,hf,hF⟩:=hrel
  have hkeep:∀ V,Fr (· = w.heap.size) w1 V→RingsAt w0.heap.size V (.slice ra made.length rc) made:=fun V hV=>zf3 (uh HRa) (fun q cs t hq _ hge=>hV.2.1 q (Array.getElem?_eq_some_iff.1 hq).1 (fun e=>by have e:q=w.heap.size:=e;omega))
  by_cases hlt:i<made.length
  ·have hlt':(i:Int)<made.length:=by omega
   obtain⟨a,ha⟩:∃ a,made[i]? = some a:=⟨made[i],List.getElem?_eq_getElem hlt⟩
   obtain⟨va,vc,g,c,hv,hc1,hc2⟩:=zhr (hkeep _ hF) ha
   cases hv
   have hal:a.length≤2048:=by
    have:=zkw ((uh HRi).nd i _ ha) (fun x hx=>(uh HRi).lt i _ x ha hx)
    omega
   have Hc2:Hid (∀ V',Fr (· = w.heap.size) w1 V'→∀ j x:Nat,a[j]? = some x→V'.cell? ⟨g,j,none⟩=some (.int .i64 (x:Nat))):=zaa (fun V' hV' j x hx=>by
    obtain⟨va',vc',g',c',hv',d1,d2⟩:=zhr (hkeep V' hV') ha
    cases hv'
    have e1:V'.cell? ⟨va,i,none⟩=wr.cell? ⟨va,i,none⟩:=by
     obtain⟨vs,q1,-⟩:=(uh HRa).form
     obtain⟨cs,q2⟩:=zcJ q1 rfl
     have hge:=(q1.lt va rfl).1
     have hl:=(q1.lt va rfl).2
     exact World.cell?_of_block ((hV'.2.1 va hl (fun e=>by have e:va=w.heap.size:=e;omega)).trans (hF.2.1 va hl (fun e=>by have e:va=w.heap.size:=e;omega)).symm)
    rw[d1,hc1] at e1
    cases e1
    exact d2 j x hx)
   have Hsf:=zaa (fun x (hx:x ∈ a)=>zoJ (uh HRi) ha hx)
   have Hrow:=zaa hrow;have Hf:=zaa hf;have HF:=zaa hF;have Hha:=zaa ha
   clear hrow hf hF ha hc2 hkeep
   go_wp2
   go_loopw [20] (fun x V=>∃ (p:Nat) (f:Nat→Bool),x=.int .i64 p∧p≤a.length∧V.rowIs w.heap.size 4 n (fun r=>.bool (f r))∧(∀ (j:Nat) (b:List Nat) (x:Nat),j<i→made[j]? = some b→x ∈ b→f x=zdk W x)∧(∀ x,x ∈ a.take p→f x=zdk W x)∧Fr (· = w.heap.size) w1 V) (fun x _=>a.length - (intOf x).toNat)
   case atStart=>exact⟨0,f,rfl,Nat.zero_le _,uh Hrow,uh Hf,fun x hx=>by simp at hx,uh HF⟩
   case round =>
    clear Hrow Hf HF
    obtain⟨p,f,rfl,hp,hrow,hf,hfa,hF⟩:=hrel
    by_cases hpl:p<a.length
    ·have hpl':(p:Int)<a.length:=by omega
     have hxa:a[p]? = some (a.getD p 0):=by rw[List.getD_eq_getElem?_getD,List.getElem?_eq_getElem hpl];rfl
     have hxm:=List.mem_of_getElem? hxa
     have hxn:=(uh HRi).lt i _ _ (uh Hha) hxm
     have hcx:=uh Hc2 wr hF p _ hxa
     have hsx:=uh Hsf _ hxm
     have hbV:Below w.heap.size w wr:=(uh Hb1).trans (zah hF (by omega) (fun k hk=>by have hk:k=w.heap.size:=hk;omega))
     obtain⟨xa,xc,hwc,hwr⟩:=(zeC (uh HW) hbV).2 _ hxn
     have HC:=zaa (ziT xa xc (W (a.getD p 0)) (a.getD p 0) (hWl _) _ wr hwr)
     have mc:=hrow.cell hxn
     have mf:=hrow.frozen (a.getD p 0)
     have Hrs:Hid ((wr.setCell ⟨w.heap.size,a.getD p 0,none⟩ (.bool (zdk W (a.getD p 0)))).rowIs w.heap.size 4 n (fun r=>.bool (upB f (a.getD p 0) (zdk W (a.getD p 0)) r))):=zaa ((hrow.set _ _).congr (fun q _=>by unfold upB;split <;> rfl))
     have Hf2:=zaa (show ∀ (j:Nat) (b:List Nat) (x:Nat),j<i→made[j]? = some b→x ∈ b→upB f (a.getD p 0) (zdk W (a.getD p 0)) x=zdk W x from fun j b x h1 h2 h3=>by
      by_cases e:x=a.getD p 0
      ·rw[e,zdW]
      ·rw[zek e];exact hf j b x h1 h2 h3)
     have Hfa2:=zaa (show ∀ x,x ∈ a.take (p+1)→upB f (a.getD p 0) (zdk W (a.getD p 0)) x=zdk W x from fun x hx=>by
      by_cases e:x=a.getD p 0
      ·rw[e,zdW]
      ·rw[zek e];exact hfa x (((zbJ hpl x).1 hx).resolve_right e))
     have HFs:=zaa (show Fr (· = w.heap.size) w1 (wr.setCell ⟨w.heap.size,a.getD p 0,none⟩ (.bool (zdk W (a.getD p 0)))) from zaz hF (by rfl) _)
     generalize hxe:a.getD p 0=x at *
     have hxn':(x:Int)<n:=by omega
     have hwl:=hWl x
     clear hrow hf hfa hF hxa hxm hbV hwr
     by_cases h1:1<a.length
     ·have h1':(1:Int)<a.length:=by omega
      rw[decide_eq_true h1,Bool.true_or] at hsx
      rw[hsx] at Hrs HFs Hf2 Hfa2
      go_wp2
      go_roundw
      case rel=>exact⟨p+1,_,by go_num,by omega,uh Hrs,uh Hf2,uh Hfa2,uh HFs⟩
      case measure=>simp[intOf];omega
     ·have h1':¬ (1:Int)<a.length:=by omega
      rw[decide_eq_false h1,Bool.false_or] at hsx
      rw[hsx] at Hrs HFs Hf2 Hfa2
      generalize decide (x ∈ W x)=bx at *
      go_wp2_with fail
      refine(uh HC).mono ?_
      rintro e w9 ⟨rfl,rfl⟩
      go_wp2
      go_roundw
      case rel=>exact⟨p+1,_,by go_num,by omega,uh Hrs,uh Hf2,uh Hfa2,uh HFs⟩
      case measure=>simp[intOf];omega
    ·obtain rfl:p=a.length:=by omega
     rw[List.take_length] at hfa
     have Hf3:=zaa (show ∀ (j:Nat) (b:List Nat) (x:Nat),j<i+1→made[j]? = some b→x ∈ b→f x=zdk W x from fun j b x h1 h2 h3=>by
      by_cases e:j=i
      ·subst e;rw[uh Hha] at h2;cases h2;exact hfa x h3
      ·exact hf j b x (by omega) h2 h3)
     have Hrow:=zaa hrow;have HF:=zaa hF
     clear hrow hf hfa hF
     go_wp2
     go_roundw
     case rel=>exact⟨i+1,f,by go_num,by omega,uh Hrow,uh Hf3,uh HF⟩
     case measure=>simp[intOf];omega
  ·obtain rfl:i=made.length:=by omega
   have Hrw:Hid (wr.rowIs w.heap.size 4 n (fun r=>.bool (zdk W r))):=zaa (hrow.congr (fun r hr=>by
    obtain⟨j,a,h1,h2⟩:=(uh HRi).cov r hr
    rw[hf j a r (List.getElem?_eq_some_iff.1 h1).1 h1 h2]))
   have HbV:=zaa ((uh Hb1).trans (zah hF (by omega) (fun k hk=>by have hk:k=w.heap.size:=hk;omega)))
   clear hrow hf hF hkeep
   go_wp2
   go_ret
   exact⟨w.heap.size,rfl,uh Hrw,Nat.le_refl _,uh HbV⟩
end Go.Proofs.YtagohbpbgjelaaaGreatDoor

namespace Go.Proofs.YtagohbpbgjelaaaGreatDoor
open Go.RowKit

mutual
def AcO (P:Nat→Prop) (w:World):Ac→Value→Value→Value→Value→Prop
 | .mk k p n ks,v0,v1,v2,v3=>v0=.int .i64 k∧v1=.int .i64 p∧v2=.string (bs n)∧∃ a c vs,v3=.slice a ks.length c∧zfI P w ks vs∧(ks=[]∨∃ b off,a=some ⟨b,off,none⟩∧P b∧∀ j u,vs[j]? = some u→w.cell? ⟨b,off+j,none⟩=some u)
def zfI (P:Nat→Prop) (w:World):List Ac→List Value→Prop
 | [],vs=>vs=[]
 | t::ts,vs=>∃ u0 u1 u2 u3 rest,vs=u0::u1::u2::u3::rest∧AcO P w t u0 u1 u2 u3∧zfI P w ts rest
end
mutual
theorem zeo {P P':Nat→Prop} {w w':World} (hP:∀ b,P b→P' b) (hb:∀ b,P b→w'.heap[b]? = w.heap[b]?):∀ (t:Ac) (v0 v1 v2 v3:Value),AcO P w t v0 v1 v2 v3→AcO P' w' t v0 v1 v2 v3
 | .mk k p n ks,v0,v1,v2,v3,h=>by
   unfold AcO at h ⊢
   obtain⟨h0,h1,h2,a,c,vs,h3,hts,hc⟩:=h
   refine⟨h0,h1,h2,a,c,vs,h3,zgF hP hb ks vs hts,?_⟩
   rcases hc with h | ⟨b,off,h,hlt,hcs⟩
   ·exact .inl h
   ·exact .inr ⟨b,off,h,hP b hlt,fun j u hj=>(World.cell?_of_block (a:=⟨b,off+j,none⟩) (hb b hlt)).trans (hcs j u hj)⟩
theorem zgF {P P':Nat→Prop} {w w':World} (hP:∀ b,P b→P' b) (hb:∀ b,P b→w'.heap[b]? = w.heap[b]?):∀ (ts:List Ac) (vs:List Value),zfI P w ts vs→zfI P' w' ts vs
 | [],vs,h=>by unfold zfI at h ⊢;exact h
 | t::ts,vs,h=>by
   unfold zfI at h ⊢
   obtain⟨u0,u1,u2,u3,rest,rfl,h1,h2⟩:=h
   exact⟨u0,u1,u2,u3,rest,rfl,zeo hP hb t _ _ _ _ h1,zgF hP hb ts rest h2⟩
end
mutual
theorem zql {P:Nat→Prop} {B:Nat} {w:World} (hP:∀ b,P b→b<B):∀ (t:Ac) (v0 v1 v2 v3:Value),AcO P w t v0 v1 v2 v3→zdh B w t v0 v1 v2 v3
 | .mk k p n ks,v0,v1,v2,v3,h=>by
   unfold AcO at h
   unfold zdh
   obtain⟨h0,h1,h2,a,c,vs,h3,hts,hc⟩:=h
   refine⟨h0,h1,h2,a,c,vs,h3,zog hP ks vs hts,?_⟩
   rcases hc with h | ⟨b,off,h,hlt,hcs⟩
   ·exact .inl h
   ·exact .inr ⟨b,off,h,hP b hlt,hcs⟩
theorem zog {P:Nat→Prop} {B:Nat} {w:World} (hP:∀ b,P b→b<B):∀ (ts:List Ac) (vs:List Value),zfI P w ts vs→zgI B w ts vs
 | [],vs,h=>by unfold zfI at h;unfold zgI;exact h
 | t::ts,vs,h=>by
   unfold zfI at h
   unfold zgI
   obtain⟨u0,u1,u2,u3,rest,rfl,h1,h2⟩:=h
   exact⟨u0,u1,u2,u3,rest,rfl,zql hP t _ _ _ _ h1,zog hP ts rest h2⟩
end
theorem zi5 {P:Nat→Prop} {w:World} {t:Ac} {u0 u1 u2 u3:Value} (h:AcO P w t u0 u1 u2 u3):∀ (ts:List Ac) (vs:List Value),zfI P w ts vs→zfI P w (ts ++ [t]) (vs ++ [u0,u1,u2,u3])
 | [],vs,hs=>by
   unfold zfI at hs
   rw[hs]
   show zfI P w [t] [u0,u1,u2,u3]
   unfold zfI
   exact⟨u0,u1,u2,u3,[],rfl,h,by unfold zfI;rfl⟩
 | x::xs,vs,hs=>by
   unfold zfI at hs
   obtain⟨y0,y1,y2,y3,rest,rfl,h1,h2⟩:=hs
   show zfI P w (x::(xs ++ [t])) _
   unfold zfI
   exact⟨y0,y1,y2,y3,rest ++ [u0,u1,u2,u3],rfl,h1,zi5 h xs rest h2⟩
theorem zej {P:Nat→Prop} {w:World} {t:Ac} {v0 v1 v2 v3:Value} (h:AcO P w t v0 v1 v2 v3):∃ (k p:Int) (s:ByteArray) (a:Option Addr) (n c:Nat),v0=.int .i64 k∧v1=.int .i64 p∧v2=.string s∧v3=.slice a n c:=by
 obtain⟨k,p,n,ks⟩:=t
 unfold AcO at h
 obtain⟨h0,h1,h2,a,c,vs,h3,-,-⟩:=h
 exact⟨k,p,bs n,a,ks.length,c,h0,h1,h2,h3⟩

mutual
def acS:Ac→Prop
 | .mk _ _ _ ks=>ks.length≤256∧zrN ks
def zrN:List Ac→Prop
 | []=>True
 | t::ts=>acS t∧zrN ts
end
theorem zir:∀ (ts:List Ac) (sy l:Int),zbh ts sy l≤l
 | [],sy,l=>by unfold zbh;exact Int.le_refl _
 | t::ts,sy,l=>by
   unfold zbh
   split
   ·exact Int.le_refl _
   ·rename_i h
    have h1:=zd7 t sy l (by omega)
    have h2:=zir ts sy (zaU t sy l)
    omega
mutual
theorem zqk:∀ (t:Ac) (sy l:Int),l≤256→0≤zaU t sy l→acS t
 | .mk k p n ks,sy,l,hl,h=>by
   unfold zaU at h
   unfold acS
   split at h
   ·omega
   ·split at h
    ·obtain⟨h1,h2⟩:=zof ks sy (l - 1) (by omega) (by omega) h
     exact⟨by omega,h1⟩
    ·omega
theorem zof:∀ (ts:List Ac) (sy l:Int),0≤l→l≤256→0≤zbh ts sy l→zrN ts∧(ts.length:Int)≤l
 | [],sy,l,h0,hl,h=>by unfold zrN;exact⟨trivial,by simpa using h0⟩
 | t::ts,sy,l,h0,hl,h=>by
   unfold zbh at h
   unfold zrN
   rw[if_neg (by omega)] at h
   have h1:=zd7 t sy l h0
   have h2:=zir ts sy (zaU t sy l)
   have h3:=zqk t sy l hl (by omega)
   obtain⟨h4,h5⟩:=zof ts sy (zaU t sy l) (by omega) (by omega) h
   exact⟨⟨h3,h4⟩,by rw[List.length_cons];omega⟩
end
theorem info87:(Tryz.prog.info? 87).map (fun i=>(i.zero,i.size,i.bytes))=some (some (.agg #[.int .i64 0,.int .i64 0,.string ⟨#[]⟩,.slice none 0 0]),4,56):=by kernel_rfl
theorem zpL:∀ args W,Sem.run Tryz.prog (callFunc 130 args) W=.ok (.enter 130 args) W:=fun _ _=>by simp[callFunc,Tryz.func130,Tryz.f130,go_sem,Result.andThen]

def CpC (t:Ac):Prop:=∀ (w:World) (v0 v1 v2 v3:Value),zdh w.heap.size w t v0 v1 v2 v3→Calls Tryz.prog 130 #[.agg #[v0,v1,v2,v3]] w fun e w'=>∃ v3',e=.returned (.agg #[v0,v1,v2,v3'])∧AcO (fun b=>w.heap.size≤b∧b<w'.heap.size) w' t v0 v1 v2 v3'∧Below w.heap.size w w'
theorem zms {ks:List Ac} {i:Nat} (hi:i<ks.length):ks.take (i+1)=ks.take i ++ [ks.getD i ac0]:=by
 rw[List.take_add_one,List.getD_eq_getElem?_getD,List.getElem?_eq_getElem hi];rfl

set_option maxHeartbeats 2000000 in
set_option maxRecDepth 100000 in
theorem zpF (ks:List Ac) (hA:∀ t,t ∈ ks→CpC t) (hlen:ks.length≤256) (a:Option Addr) (cap:Nat) (vs:List Value) (w:World) (hts:zgI w.heap.size w ks vs) (hcs:ks=[]∨∃ b off,a=some ⟨b,off,none⟩∧b<w.heap.size∧∀ j u,vs[j]? = some u→w.cell? ⟨b,off+j,none⟩=some u) :
 Calls Tryz.prog 151 #[.slice a ks.length cap,.func (.func 130) #[] #[]] w fun e w'=>∃ a' c' vs',e=.returned (.slice a' ks.length c')∧zfI (fun b=>w.heap.size≤b∧b<w'.heap.size) w' ks vs'∧(ks=[]∨∃ b off,a'=some ⟨b,off,none⟩∧(w.heap.size≤b∧b<w'.heap.size)∧∀ j u,vs'[j]? = some u→w'.cell? ⟨b,off+j,none⟩=some u)∧Below w.heap.size w w':=by
 obtain⟨i87,hi,hz0,hz1,hz2⟩:=zao info87
 have HA:=zaa hA;have Hts:=zaa hts;have Hcs:=zaa hcs
 have hcf:=zpL
 clear hA hts hcs
 go_enter Tryz.func151,Tryz.ntmps151
 go_wp2
 go_loopw [5,10] (fun o x W=>∃ (i:Nat) (vs':List Value),x=.int .i64 i∧i≤ks.length∧W.ownsRow w.heap.size 87 4 o i vs'∧zfI (fun b=>(w.heap.size≤b∧b<W.heap.size)∧o.ownBlock≠some b) W (ks.take i) vs'∧Below w.heap.size w W) (fun _ x _=>ks.length - (intOf x).toNat)
 case atStart=>exact⟨0,[],rfl,Nat.zero_le _,World.ownsRow_nil _ _ _ _,by show zfI _ _ [] [];unfold zfI;rfl,Below.refl _ _⟩
 case round =>
  obtain⟨i,vs',rfl,hi',hown,hacs,hb⟩:=hrel
  obtain⟨ua,uc,rfl⟩:=zad hown
  have hsz:=hb.size
  by_cases hlt:i<ks.length
  ·have hlt':(i:Int)<ks.length:=by omega
   obtain⟨u0,u1,u2,u3,e0,e1,e2,e3,hu⟩:=zei ks vs (uh Hts) i hlt
   rcases uh Hcs with h | ⟨b,off,rfl,hbB,hcs⟩
   ·rw[h] at hlt;simp at hlt
   have c0:=(hb.cell (p:=⟨b,off+i * 4,none⟩) hbB).trans (hcs _ _ e0)
   have c1:=(hb.cell (p:=⟨b,off+i * 4+1,none⟩) hbB).trans (hcs _ _ e1)
   have c2:=(hb.cell (p:=⟨b,off+i * 4+2,none⟩) hbB).trans (hcs _ _ e2)
   have c3:=(hb.cell (p:=⟨b,off+i * 4+3,none⟩) hbB).trans (hcs _ _ e3)
   have hu2:=zfl hb hu
   obtain⟨y0,y1,y2,y3,m3,d3,rfl,rfl,rfl,rfl⟩:=zdg hu2
   have hm:ks.getD i ac0 ∈ ks:=by rw[List.getD_eq_getElem?_getD,List.getElem?_eq_getElem hlt];exact List.getElem_mem hlt
   have Hsn:=zaa (zms hlt)
   generalize ks.getD i ac0=t at *
   have hb2:Below wr.heap.size wr (wr.alloc (.cells #[.int .i64 y0,.int .i64 y1,.string y2,.slice y3 m3 d3] 87)):=(Below.refl _ _).alloc (Nat.le_refl _) _
   have hs2:(wr.alloc (.cells #[.int .i64 y0,.int .i64 y1,.string y2,.slice y3 m3 d3] 87)).heap.size=wr.heap.size+1:=by simp
   have HC:=zaa (uh HA t hm _ _ _ _ _ (zfl hb2 hu2))
   have Hbl:=zaa (fun k hk=>(hown.lt k hk).2)
   have Hown2:=zaa (zas hown hb2)
   have Hacs:=zaa hacs;have Hb:=zaa hb;have Hb2:=zaa hb2
   clear hu hu2 e0 e1 e2 e3 hcs hb2 hown hacs hb hm
   go_wp2_with fail
   refine(uh HC).mono ?_
   rintro e w3 ⟨v3',rfl,hac3,hb3⟩
   obtain⟨_,_,_,z3,n3,q3,-,-,-,rfl⟩:=zej hac3
   rw[hs2] at hb3
   have hs3:=hb3.size
   have Hb23:=zaa ((uh Hb2).trans (zab hb3 (by omega)))
   have Hown3:=zaa (zas (uh Hown2) (zab hb3 (by omega)))
   rw[hs2] at hac3
   have Hac3:=zaa hac3
   clear hac3 hb3 HC Hown2 Hb2 c0 c1 c2 c3
   go_wp2_with (at_builtin;refine wpList_append_lies _ rfl _ _ 85 rfl w.heap.size 87 i87 (.agg #[.int .i64 0,.int .i64 0,.string ⟨#[]⟩,.slice none 0 0]) 4 56 Tryz.underlying85 hi hz0 hz1 hz2 rfl (by decide) _ _ _ rfl ((uh Hown3).alloc _) ⟨w3.heap.size,0,none⟩ 1 1 [.int .i64 y0,.int .i64 y1,.string y2,.slice z3 n3 q3] rfl rfl ?zc1 ?zc2 (by decide) ?zc3 ?zc4 ?zc5 _ rfl ?_)
   case zc1=>exact fun j u hu=>ziU (cs:=#[.int .i64 y0,.int .i64 y1,.string y2,.slice z3 n3 q3]) _ _ hu
   case zc2=>intro u hu;simp at hu;rcases hu with rfl | rfl | rfl | rfl <;> rfl
   case zc3=>unfold maxLen;omega
   case zc4=>omega
   case zc5=>simp;omega
   intro g cap' W4 hown' hgrow hat hlt4
   have hb3':Below w.heap.size w w3:=(uh Hb).trans (zab (uh Hb23) (by omega))
   have Hb4:=zaa ((hb3'.alloc (by omega) (.cells #[.int .i64 y0,.int .i64 y1,.string y2,.slice z3 n3 q3] 87)).grown hgrow (by simp;omega) (fun j hj=>((uh Hown3).lt j hj).1))
   have hs4:=hgrow.size
   rw[show (w3.alloc (.cells #[.int .i64 y0,.int .i64 y1,.string y2,.slice z3 n3 q3] 87)).heap.size=w3.heap.size+1 by simp] at hs4
   have hmem:∀ b,b<w3.heap.size→(Value.slice ua i uc).ownBlock≠some b→W4.heap[b]? = w3.heap[b]?:=fun b hb hne=>(hgrow.block b (by simp;omega) (fun e=>hne e.symm)).trans (Below.heap_alloc _ _ _ hb)
   have hk1:zfI (fun b=>(w.heap.size≤b∧b<W4.heap.size)∧(Value.slice (some ⟨g,0,none⟩) (i+1) cap').ownBlock≠some b) W4 (ks.take i) vs':=zgF (fun b hP=>⟨⟨hP.1.1,by have:=hP.1.2;omega⟩,fun e=>by
    have e:some g=some b:=e
    rcases hat with h | h
    ·exact hP.2 (h.trans e)
    ·have h9:=hP.1.2
     injection e with e
     omega⟩) (fun b hP=>(hmem b (by have:=hP.1.2;omega) hP.2).trans ((uh Hb23).block b hP.1.2)) _ _ (uh Hacs)
   have hk2:AcO (fun b=>(w.heap.size≤b∧b<W4.heap.size)∧(Value.slice (some ⟨g,0,none⟩) (i+1) cap').ownBlock≠some b) W4 t (.int .i64 y0) (.int .i64 y1) (.string y2) (.slice z3 n3 q3):=zeo (fun b hP=>⟨⟨by have:=hP.1;omega,by have:=hP.2;omega⟩,fun e=>by
    have e:some g=some b:=e
    injection e with e
    obtain⟨h8,h9⟩:=hP
    rcases hat with h | h
    ·have:=uh Hbl g h
     omega
    ·omega⟩) (fun b hP=>hmem b hP.2 (fun e=>by have:=uh Hbl b e;have:=hP.1;omega)) _ _ _ _ _ (uh Hac3)
   have Hk:=zaa (zi5 hk2 _ _ hk1)
   rw[← uh Hsn] at Hk
   have Hown':=zaa hown'
   clear hown' hgrow hat hmem hk1 hk2 hb3'
   go_wp2
   go_roundw
   case rel=>exact⟨i+1,_,by go_num,by omega,uh Hown',uh Hk,uh Hb4⟩
   case measure=>simp[intOf];omega
  ·obtain rfl:i=ks.length:=by omega
   rw[List.take_of_length_le (Nat.le_refl _)] at hacs
   have Hfin:Hid (zfI (fun b=>w.heap.size≤b∧b<wr.heap.size) wr ks vs'∧(ks=[]∨∃ b off,ua=some ⟨b,off,none⟩∧(w.heap.size≤b∧b<wr.heap.size)∧∀ j u,vs'[j]? = some u→wr.cell? ⟨b,off+j,none⟩=some u)∧Below w.heap.size w wr):=zaa ⟨zgF (fun b h=>h.1) (fun _ _=>rfl) _ _ hacs,by
    rcases hown.2 with ⟨-,h0⟩ | ⟨g,cap',cur,hv,hg1,-⟩
    ·exact .inl (List.length_eq_zero_iff.1 h0)
    ·cases hv
     refine .inr ⟨g,0,rfl,?_,fun j u hu=>?_⟩
     ·exact hown.lt g rfl
     ·have:=hown.cells (g:=g) rfl j u hu
      rw[zi3] at this
      exact this,hb⟩
   clear hacs hown hb
   go_wp2
   go_ret
   exact⟨ua,uc,vs',rfl,(uh Hfin).1,(uh Hfin).2.1,(uh Hfin).2.2⟩
end Go.Proofs.YtagohbpbgjelaaaGreatDoor

namespace Go.Proofs.YtagohbpbgjelaaaGreatDoor
open Go.RowKit

theorem set4 {w:World} {b:Nat} {t:TypeId} {a0 a1 a2 a3:Value} (h:w.heap[b]? = some (.cells #[a0,a1,a2,a3] t)) (v0 v1 v2 v3:Value) :
 ((((w.setCell ⟨b,0,none⟩ v0).setCell ⟨b,1,none⟩ v1).setCell ⟨b,2,none⟩ v2).setCell ⟨b,3,none⟩ v3).heap[b]? = some (.cells #[v0,v1,v2,v3] t)∧Fr (· = b) w ((((w.setCell ⟨b,0,none⟩ v0).setCell ⟨b,1,none⟩ v1).setCell ⟨b,2,none⟩ v2).setCell ⟨b,3,none⟩ v3) :=
 ⟨zaI (zaI (zaI (zaI h v0) v1) v2) v3,zaz (zaz (zaz (zaz (zav (· = b) w) (by rfl) _) (by rfl) _) (by rfl) _) (by rfl) _⟩
theorem zef {w:World} {b:Nat} {t:TypeId} {a0 a1 a2 a3:Value} (h:w.heap[b]? = some (.cells #[a0,a1,a2,a3] t)):w.cell? ⟨b,0,none⟩=some a0∧w.cell? ⟨b,1,none⟩=some a1∧w.cell? ⟨b,2,none⟩=some a2∧w.cell? ⟨b,3,none⟩=some a3∧w.frozen? ⟨b,0,none⟩=false∧w.frozen? ⟨b,1,none⟩=false∧w.frozen? ⟨b,2,none⟩=false∧w.frozen? ⟨b,3,none⟩=false:=by
 refine⟨?_,?_,?_,?_,?_,?_,?_,?_⟩ <;> (first | (unfold World.cell?;rw[h];rfl) | (unfold World.frozen?;rw[h];rfl))

set_option maxHeartbeats 1000000 in
set_option maxRecDepth 100000 in
theorem zrq (k p:Int) (n:List UInt8) (ks:List Ac) (hE:∀ t,t ∈ ks→CpC t) (hlen:ks.length≤256):CpC (.mk k p n ks):=by
 intro w v0 v1 v2 v3 hA
 unfold zdh at hA
 obtain⟨rfl,rfl,rfl,ka,kc,vs,rfl,hts,hkc⟩:=hA
 obtain⟨w0,hw0⟩:∃ w0,w0=w.alloc (.cells #[.int .i64 k,.int .i64 p,.string (bs n),.slice ka ks.length kc] 87):=⟨_,rfl⟩
 have hb0:Below w.heap.size w w0:=by rw[hw0];exact(Below.refl _ _).alloc (Nat.le_refl _) _
 have hs0:w0.heap.size=w.heap.size+1:=by rw[hw0];simp
 have hbx0:w0.heap[w.heap.size]? = some (.cells #[.int .i64 k,.int .i64 p,.string (bs n),.slice ka ks.length kc] 87):=by rw[hw0];exact Go.Deep.blk_alloc_new _ _
 obtain⟨w1,hw1⟩:∃ w1,w1=w0.alloc (.cells #[.int .i64 0,.int .i64 0,.string ⟨#[]⟩,.slice none 0 0] 87):=⟨_,rfl⟩
 have hb01:Below w0.heap.size w0 w1:=by rw[hw1];exact(Below.refl _ _).alloc (Nat.le_refl _) _
 have hs1:w1.heap.size=w.heap.size+1+1:=by rw[hw1];simp;exact hs0
 have hbx:w1.heap[w.heap.size]? = some (.cells #[.int .i64 k,.int .i64 p,.string (bs n),.slice ka ks.length kc] 87):=(hb01.block _ (by omega)).trans hbx0
 have hbr:w1.heap[w.heap.size+1]? = some (.cells #[.int .i64 0,.int .i64 0,.string ⟨#[]⟩,.slice none 0 0] 87):=by rw[hw1,← hs0];exact Go.Deep.blk_alloc_new _ _
 have hb1:Below w.heap.size w w1:=hb0.trans (zab hb01 (by omega))
 have Hbr:=zaa hbr;have Hw0:=zaa hw0
 clear hw0 hbx0 hb01 hbr hb0
 have HE:=zaa (zpF ks hE hlen ka kc vs w1 (zia (by omega) _ _ (zdT hb1 _ _ hts)) (hkc.imp id (fun⟨b,off,h1,h2,h3⟩=>⟨b,off,h1,by omega,fun j u hu=>(hb1.cell (p:=⟨b,off+j,none⟩) h2).trans (h3 j u hu)⟩)))
 have Hb1:=zaa hb1;have Hbx:=zaa hbx;have Hw1:=zaa hw1
 clear hts hkc hE hb1 hbx hw1
 go_enter Tryz.func130,Tryz.ntmps130
 go_wp2_with fail
 rw[← uh Hw0,← uh Hw1]
 clear Hw1 Hw0
 refine(uh HE).mono ?_
 rintro e w2 ⟨a',c',vs',rfl,hac,hrow,hb2⟩
 have hs2:=hb2.size
 have hbx2:=(hb2.block w.heap.size (by omega)).trans (uh Hbx)
 have hbr2:=(hb2.block (w.heap.size+1) (by omega)).trans (uh Hbr)
 obtain⟨w3,hw3⟩:∃ w3,w3=w2.setCell ⟨w.heap.size,3,none⟩ (.slice a' ks.length c'):=⟨_,rfl⟩
 have hbx3:w3.heap[w.heap.size]? = some (.cells #[.int .i64 k,.int .i64 p,.string (bs n),.slice a' ks.length c'] 87):=by rw[hw3];exact zaI hbx2 _
 have hf3:Fr (· = w.heap.size) w2 w3:=by rw[hw3];exact zaz (zav _ _) (by rfl) _
 have hbr3:=(hf3.2.1 (w.heap.size+1) (by omega) (by show ¬ _=_;omega)).trans hbr2
 obtain⟨-,-,-,c3,-,-,-,f3⟩:=zef hbx2
 obtain⟨d0,d1,d2,d3,-,-,-,-⟩:=zef hbx3
 obtain⟨r0,r1,r2,r3,g0,g1,g2,g3⟩:=zef hbr3
 have hs4:=set4 hbr3 (.int .i64 k) (.int .i64 p) (.string (bs n)) (.slice a' ks.length c')
 have Hs4:=zaa hs4;have Hac:=zaa hac;have Hrow:=zaa hrow;have Hb12:=zaa ((uh Hb1).trans (zab hb2 (by omega)));have Hf3:=zaa hf3
 clear hs4 hac hrow hb2 hf3 hbx2 hbr2 hbx3 hbr3
 rw[hw3] at d0 d1 d2 d3 r0 r1 r2 r3 g0 g1 g2 g3
 go_wp2
 rw[← hw3]
 obtain⟨hbF,hfF⟩:=uh Hs4
 obtain⟨WF,hWF⟩:∃ WF,WF=(((w3.setCell ⟨w.heap.size+1,0,none⟩ (.int .i64 k)).setCell ⟨w.heap.size+1,1,none⟩ (.int .i64 p)).setCell ⟨w.heap.size+1,2,none⟩ (.string (bs n))).setCell ⟨w.heap.size+1,3,none⟩ (.slice a' ks.length c'):=⟨_,rfl⟩
 rw[← hWF] at hbF hfF ⊢
 obtain⟨y0,y1,y2,y3,-,-,-,-⟩:=zef hbF
 have hF1:=(uh Hf3).1;have hF2:=hfF.1
 have hmem:∀ b,w1.heap.size≤b→b<w2.heap.size→WF.heap[b]? = w2.heap[b]?:=fun b h1 h2=>(hfF.2.1 b (by omega) (by show ¬ _=_;omega)).trans ((uh Hf3).2.1 b h2 (by show ¬ _=_;omega))
 refine bodyPost_ret (v:=.agg #[.int .i64 k,.int .i64 p,.string (bs n),.slice a' ks.length c']) ?zz9 rfl ⟨.slice a' ks.length c',rfl,?_,?_⟩
 case zz9=>simp[results,Tryz.results130,go_sem,y0,y1,y2,y3]
 ·unfold AcO
  refine⟨rfl,rfl,rfl,a',c',vs',rfl,zgF (fun b hb=>by omega) (fun b hb=>hmem b hb.1 hb.2) _ _ (uh Hac),?_⟩
  rcases uh Hrow with h | ⟨b,off,h1,h2,h3⟩
  ·exact .inl h
  ·exact .inr ⟨b,off,h1,by omega,fun j u hu=>(World.cell?_of_block (a:=⟨b,off+j,none⟩) (hmem b h2.1 h2.2)).trans (h3 j u hu)⟩
 ·exact(uh Hb12).trans ((zah (uh Hf3) (by omega) (fun j hj=>by have hj:j=w.heap.size:=hj;omega)).trans (zah hfF (by omega) (fun j hj=>by have hj:j=w.heap.size+1:=hj;omega)))
mutual
theorem znT:∀ (t:Ac),acS t→CpC t
 | .mk k p n ks,h=>by
   unfold acS at h
   exact zrq k p n ks (zkO ks h.2) h.1
theorem zkO:∀ (ts:List Ac),zrN ts→∀ t,t ∈ ts→CpC t
 | [],_,t,ht=>by simp at ht
 | x::xs,h,t,ht=>by
   unfold zrN at h
   have h1:=znT x h.1
   rcases List.mem_cons.1 ht with e | ht
   ·rw[e];exact h1
   ·exact zkO xs h.2 t ht
end
end Go.Proofs.YtagohbpbgjelaaaGreatDoor

namespace Go.Proofs.YtagohbpbgjelaaaGreatDoor
open Go.RowKit

theorem zeZ {P:Program} {w:World} {ops:Array Oper} {rest:List Oper} {o:Oper} {a:Act} {Q:Exit→Act→World→Prop} (hgd:o.guard=none) (s x:Operand) (t:TypeId)
 (ho:o.op=.call { callee:=.builtin .append,args:=#[s,x],argTypes:=#[t,t] })
 (base:Nat) (e:TypeId) (i:TypeInfo) (z:Value) (size bytes:Nat) (ht:P.underlying t=some (.slice e)) (hi:P.info? e=some i) (hz:i.zero=some z)
 (hsize:i.size=size) (hby:i.bytes=bytes) (hzs:z.cells.size=size) (hsz:0<size)
 (v:Value) (n:Nat) (xs:List Value) (hs:a.eval s=v) (hown:w.ownsRow base e size v n xs)
 (la:Option Addr) (m c:Nat) (vs:List Value) (hx:a.eval x=.slice la m c) (hl:vs.length=m * size) (hv:zol w la m vs) (h1:∀ u ∈ vs,u.oneCell'=true)
 (h63:n+m≤maxLen) (hbytes:(n+m) * bytes≤140737488355328) (hbase:base≤w.heap.size)
 (h:∀ v' w',w'.ownsRow base e size v' (n+m) (xs ++ vs)→w.grownBy w' v.ownBlock→wpList P ops Q rest (a.put o.dst v') w'):wpList P ops Q (o::rest) a w :=
 wpList_plain hgd fun _ hK=>zeB s x t ho base e i z size bytes ht hi hz hsize hby hzs hsz v n xs hs hown la m c vs hx hl hv h1 h63 hbytes hbase fun v' w' h2 h3=>hK _ _ (h v' w' h2 h3)
theorem zmq {B:Nat} {w:World} {a:Option Addr} {l:List (List UInt8)} (h:zez B w a l):zol w a l.length (zaY l):=by
 rcases h with rfl | ⟨b,off,h1,-,h3⟩
 ·exact .inl ⟨rfl,rfl⟩
 ·refine .inr ⟨b,off,h1,fun j u hu=>?_⟩
  unfold zaY at hu
  rw[List.getElem?_map] at hu
  obtain⟨x,hx,rfl⟩:=Option.map_eq_some_iff.1 hu
  rw[h3 j (List.getElem?_eq_some_iff.1 hx).1,List.getD_eq_getElem?_getD,hx]
  rfl
theorem zng {B:Nat} {w:World} {a:Option Addr} {l:List (Int × Int)} (h:zpY B w a l):zol w a l.length (zaH l):=by
 rcases h with rfl | ⟨b,off,h1,-,h3⟩
 ·exact .inl ⟨rfl,rfl⟩
 ·refine .inr ⟨b,off,h1,fun j u hu=>?_⟩
  have hj:=(List.getElem?_eq_some_iff.1 hu).1
  rw[zaE] at hj
  obtain⟨k,hk⟩:∃ k,j=k * 2∨j=k * 2+1:=⟨j / 2,by omega⟩
  have hkl:k<l.length:=by omega
  obtain⟨g1,g2⟩:=zdU l k hkl
  obtain⟨c1,c2⟩:=h3 k hkl
  rcases hk with rfl | rfl
  ·rw[g1] at hu;injection hu with hu;rw[← hu];exact c1
  ·rw[g2] at hu;injection hu with hu;rw[← hu];exact c2
set_option maxHeartbeats 1000000 in
set_option maxRecDepth 100000 in
theorem zlT (a:Option Addr) (c:Nat) (l:List (List UInt8)) (hl:l.length≤4096) (w:World) (hrow:zez w.heap.size w a l) :
 Calls Tryz.prog 101 #[.slice a l.length c] w fun e w'=>∃ v,e=.returned v∧w'.ownsRow w.heap.size 9 1 v l.length (zaY l)∧Below w.heap.size w w':=by
 obtain⟨i9,hi,hz0,hz1,hz2⟩:=zao znv
 have Hrow:=zaa (zmq hrow)
 clear hrow
 go_enter Tryz.func101,Tryz.ntmps101
 go_wp2_with (at_builtin;refine zeZ rfl _ _ 22 rfl w.heap.size 9 i9 (.string ⟨#[]⟩) 1 16 Tryz.underlying22 hi hz0 hz1 hz2 rfl (by decide) _ 0 [] rfl (World.ownsRow_nil _ _ _ _) a l.length c (zaY l) rfl (by simp[zaY]) (uh Hrow) (zbu l) ?zc3 ?zc4 (Nat.le_refl _) ?_)
 case zc3=>unfold maxLen;omega
 case zc4=>omega
 intro v' w2 hown' hgrow
 have Hb:=zaa ((Below.refl w.heap.size w).grown hgrow (Nat.le_refl _) (fun j hj=>by simp[Value.ownBlock] at hj))
 have Hown:=zaa hown'
 obtain⟨va,vc,rfl⟩:=zad hown'
 clear hown' hgrow
 go_wp2
 go_ret
 exact⟨_,rfl,uh Hown,uh Hb⟩
end Go.Proofs.YtagohbpbgjelaaaGreatDoor

namespace Go.Proofs.YtagohbpbgjelaaaGreatDoor
open Go.RowKit

theorem set7 {w:World} {b:Nat} {t:TypeId} {a0 a1 a2 a3 a4 a5 a6:Value} (h:w.heap[b]? = some (.cells #[a0,a1,a2,a3,a4,a5,a6] t)) (v0 v1 v2 v3 v4 v5 v6:Value) :
 (((((((w.setCell ⟨b,0,none⟩ v0).setCell ⟨b,1,none⟩ v1).setCell ⟨b,2,none⟩ v2).setCell ⟨b,3,none⟩ v3).setCell ⟨b,4,none⟩ v4).setCell ⟨b,5,none⟩ v5).setCell ⟨b,6,none⟩ v6).heap[b]? = some (.cells #[v0,v1,v2,v3,v4,v5,v6] t)∧Fr (· = b) w (((((((w.setCell ⟨b,0,none⟩ v0).setCell ⟨b,1,none⟩ v1).setCell ⟨b,2,none⟩ v2).setCell ⟨b,3,none⟩ v3).setCell ⟨b,4,none⟩ v4).setCell ⟨b,5,none⟩ v5).setCell ⟨b,6,none⟩ v6) :=
 by
 have h0:(w.setCell ⟨b,0,none⟩ v0).heap[b]? = some (.cells #[v0,a1,a2,a3,a4,a5,a6] t):=zaI h v0
 have h1:((w.setCell ⟨b,0,none⟩ v0).setCell ⟨b,1,none⟩ v1).heap[b]? = some (.cells #[v0,v1,a2,a3,a4,a5,a6] t):=zaI h0 v1
 generalize hx1:(w.setCell ⟨b,0,none⟩ v0).setCell ⟨b,1,none⟩ v1=x1 at *
 have f1:Fr (· = b) w x1:=by rw[← hx1];exact zaz (zaz (zav (· = b) w) (by rfl) _) (by rfl) _
 have h2:(x1.setCell ⟨b,2,none⟩ v2).heap[b]? = some (.cells #[v0,v1,v2,a3,a4,a5,a6] t):=zaI h1 v2
 have h3:((x1.setCell ⟨b,2,none⟩ v2).setCell ⟨b,3,none⟩ v3).heap[b]? = some (.cells #[v0,v1,v2,v3,a4,a5,a6] t):=zaI h2 v3
 generalize hx2:(x1.setCell ⟨b,2,none⟩ v2).setCell ⟨b,3,none⟩ v3=x2 at *
 have f2:Fr (· = b) w x2:=by rw[← hx2];exact zaz (zaz f1 (by rfl) _) (by rfl) _
 have h4:(x2.setCell ⟨b,4,none⟩ v4).heap[b]? = some (.cells #[v0,v1,v2,v3,v4,a5,a6] t):=zaI h3 v4
 have h5:((x2.setCell ⟨b,4,none⟩ v4).setCell ⟨b,5,none⟩ v5).heap[b]? = some (.cells #[v0,v1,v2,v3,v4,v5,a6] t):=zaI h4 v5
 generalize hx3:(x2.setCell ⟨b,4,none⟩ v4).setCell ⟨b,5,none⟩ v5=x3 at *
 have f3:Fr (· = b) w x3:=by rw[← hx3];exact zaz (zaz f2 (by rfl) _) (by rfl) _
 exact⟨zaI h5 v6,zaz f3 (by rfl) _⟩
theorem zeE {w:World} {b:Nat} {t:TypeId} {a0 a1 a2 a3 a4 a5 a6:Value} (h:w.heap[b]? = some (.cells #[a0,a1,a2,a3,a4,a5,a6] t)):w.frozen? ⟨b,0,none⟩=false∧w.frozen? ⟨b,1,none⟩=false∧w.frozen? ⟨b,2,none⟩=false∧w.frozen? ⟨b,3,none⟩=false∧w.frozen? ⟨b,4,none⟩=false∧w.frozen? ⟨b,5,none⟩=false∧w.frozen? ⟨b,6,none⟩=false:=by
 refine⟨?_,?_,?_,?_,?_,?_,?_⟩ <;> (unfold World.frozen?;rw[h];rfl)
structure Mv0 (w1 W:World) (mb:Nat) (cs:Array Value) (t:Ac) (v3 v4 v5 v6:Value):Prop where
 lo:w1.heap.size≤mb
 hi:mb<W.heap.size
 bx:W.heap[mb]? = some (.cells cs 89)
 ac:AcO (fun b=>w1.heap.size≤b∧b<W.heap.size∧b≠mb) W t v3 v4 v5 v6
 bl:Below w1.heap.size w1 W
theorem mv_b {w1 W:World} {t:Ac} {v0 v1 v2 v3 v4 v5 v6:Value} (hb:Below w1.heap.size w1 W) (hac:AcO (fun b=>w1.heap.size≤b∧b<W.heap.size) W t v3 v4 v5 v6) :
 Mv0 w1 (W.alloc (.cells #[v0,v1,v2,v3,v4,v5,v6] 89)) W.heap.size #[v0,v1,v2,v3,v4,v5,v6] t v3 v4 v5 v6:=by
 have hba:Below W.heap.size W (W.alloc (.cells #[v0,v1,v2,v3,v4,v5,v6] 89)):=(Below.refl _ _).alloc (Nat.le_refl _) _
 have hs:(W.alloc (.cells #[v0,v1,v2,v3,v4,v5,v6] 89)).heap.size=W.heap.size+1:=by simp
 have hle:=hb.size
 exact⟨hle,by omega,Go.Deep.blk_alloc_new _ _,zeo (fun b h=>⟨h.1,by have:=h.2;omega,by have:=h.2;omega⟩) (fun b h=>hba.block b h.2) _ _ _ _ _ hac,hb.trans (zab hba hle)⟩
theorem mv_a {w1 W:World} {t:Ac} {v0 v1 v2 v3 v4 v5 v6 z0 z1 z2 z3 z4 z5 z6:Value} (hb:Below (w1.alloc (.cells #[z0,z1,z2,z3,z4,z5,z6] 89)).heap.size (w1.alloc (.cells #[z0,z1,z2,z3,z4,z5,z6] 89)) W) (hac:AcO (fun b=>(w1.alloc (.cells #[z0,z1,z2,z3,z4,z5,z6] 89)).heap.size≤b∧b<W.heap.size) W t v3 v4 v5 v6) :
 Mv0 w1 (((((((W.setCell ⟨w1.heap.size,0,none⟩ v0).setCell ⟨w1.heap.size,1,none⟩ v1).setCell ⟨w1.heap.size,2,none⟩ v2).setCell ⟨w1.heap.size,3,none⟩ v3).setCell ⟨w1.heap.size,4,none⟩ v4).setCell ⟨w1.heap.size,5,none⟩ v5).setCell ⟨w1.heap.size,6,none⟩ v6) w1.heap.size #[v0,v1,v2,v3,v4,v5,v6] t v3 v4 v5 v6:=by
 have hba:Below w1.heap.size w1 (w1.alloc (.cells #[z0,z1,z2,z3,z4,z5,z6] 89)):=(Below.refl _ _).alloc (Nat.le_refl _) _
 have hs:(w1.alloc (.cells #[z0,z1,z2,z3,z4,z5,z6] 89)).heap.size=w1.heap.size+1:=by simp
 rw[hs] at hac
 have hbx:W.heap[w1.heap.size]? = some (.cells #[z0,z1,z2,z3,z4,z5,z6] 89):=(hb.block _ (by omega)).trans (Go.Deep.blk_alloc_new _ _)
 obtain⟨h1,h2⟩:=set7 hbx v0 v1 v2 v3 v4 v5 v6
 have hsz:=h2.1
 have hle:=hb.size
 exact⟨Nat.le_refl _,(Array.getElem?_eq_some_iff.1 h1).1,h1,zeo (fun b h=>⟨by have:=h.1;omega,by have:=h.2;omega,by have:=h.1;omega⟩) (fun b h=>h2.2.1 b h.2 (by have:=h.1;show ¬ _=_;omega)) _ _ _ _ _ hac,
  hba.trans ((zab hb (by omega)).trans (zah h2 (by omega) (fun j hj=>by have hj:j=w1.heap.size:=hj;omega)))⟩

set_option maxHeartbeats 1000000 in
set_option maxRecDepth 100000 in
theorem zna (G:Gm) (hG:GOk G) (ka pa ra qa:Option Addr) (kc pc rc qc gb ob ub M pb:Nat) (l:Nat) (hl:l<G.rules.length) (prt:List Int) (hpr:prt.length≤64) (hpy:∀ x,x ∈ prt→1≤x∧x<((G.kinds.length+G.rules.length:Nat):Int)) (plv:Int) (pac:Ac) (hpa:acS pac) (rr:Option Addr) (rrc:Nat) (x3 x4:Int) (x5:ByteArray) (x6:Option Addr) (n6 c6:Nat) (w:World) (hM:M≤w.heap.size) (hg:GrAt M w G ka kc pa pc ra rc qa qc gb ob ub)
 (hrr:NRow w.heap.size w rr prt) (hac:zdh w.heap.size w pac (.int .i64 x3) (.int .i64 x4) (.string x5) (.slice x6 n6 c6)) (hpl:w.rowIs pb 3 G.rules.length (fun r=>.int .i64 (zaZ G r:Int))) :
 Calls Tryz.prog 102 #[.pointer (some ⟨gb,0,none⟩),.agg #[.int .i64 (l:Int),.slice rr prt.length rrc,.int .i64 plv,.int .i64 x3,.int .i64 x4,.string x5,.slice x6 n6 c6],.slice (some ⟨pb,0,none⟩) G.rules.length G.rules.length] w fun e w'=>∃ (L:Nat) (ca:Option Addr) (cc:Nat) (v6:Value),e=.returned (.agg #[.int .i64 (zaZ G l:Int),.slice ca prt.length cc,.int .i64 plv,.int .i64 x3,.int .i64 x4,.string x5,v6])∧(w.heap.size≤L∧L≤w'.heap.size)∧w'.ownsRow L 3 1 (.slice ca prt.length cc) prt.length (zal (prt.map (zda G)))∧AcO (fun b=>w.heap.size≤b∧b<L) w' pac (.int .i64 x3) (.int .i64 x4) (.string x5) v6∧Below w.heap.size w w':=by
 obtain⟨i3,hi3,hz30,hz31,hz32⟩:=zao zc0
 have hnr:=hG.r2;have hnk:=hG.k3
 unfold Gm.nr at hnr
 unfold Gm.nk at hnk
 have hl1:(l:Int)<G.rules.length:=by omega
 obtain⟨w0,hw0⟩:∃ w0,w0=w.alloc (.cells #[.int .i64 (l:Int),.slice rr prt.length rrc,.int .i64 plv,.int .i64 x3,.int .i64 x4,.string x5,.slice x6 n6 c6] 89):=⟨_,rfl⟩
 have hb0:Below w.heap.size w w0:=by rw[hw0];exact(Below.refl _ _).alloc (Nat.le_refl _) _
 have hs0:w0.heap.size=w.heap.size+1:=by rw[hw0];simp
 have hbx0:w0.heap[w.heap.size]? = some (.cells #[.int .i64 (l:Int),.slice rr prt.length rrc,.int .i64 plv,.int .i64 x3,.int .i64 x4,.string x5,.slice x6 n6 c6] 89):=by rw[hw0];exact Go.Deep.blk_alloc_new _ _
 obtain⟨w1,hw1⟩:∃ w1,w1=w0.alloc (.cells #[.int .i64 0,.slice none 0 0,.int .i64 0,.int .i64 0,.int .i64 0,.string ⟨#[]⟩,.slice none 0 0] 89):=⟨_,rfl⟩
 have hb01:Below w0.heap.size w0 w1:=by rw[hw1];exact(Below.refl _ _).alloc (Nat.le_refl _) _
 have hs1:w1.heap.size=w.heap.size+1+1:=by rw[hw1];simp;exact hs0
 have hbx:w1.heap[w.heap.size]? = some (.cells #[.int .i64 (l:Int),.slice rr prt.length rrc,.int .i64 plv,.int .i64 x3,.int .i64 x4,.string x5,.slice x6 n6 c6] 89):=(hb01.block _ (by omega)).trans hbx0
 have hbr:w1.heap[w.heap.size+1]? = some (.cells #[.int .i64 0,.slice none 0 0,.int .i64 0,.int .i64 0,.int .i64 0,.string ⟨#[]⟩,.slice none 0 0] 89):=by rw[hw1,← hs0];exact Go.Deep.blk_alloc_new _ _
 have hb1:Below w.heap.size w w1:=hb0.trans (zab hb01 (by omega))
 have hpl1:=zaw hpl hb1
 obtain⟨p0,p1,p2,p3,p4,p5,p6⟩:=za7 hbx
 have HS:Hid (∀ W:World,Below w1.heap.size w1 W→W.cell? ⟨w.heap.size,0,none⟩=some (.int .i64 (l:Int))∧W.cell? ⟨w.heap.size,2,none⟩=some (.int .i64 plv)∧W.cell? ⟨w.heap.size,3,none⟩=some (.int .i64 x3)∧W.cell? ⟨w.heap.size,4,none⟩=some (.int .i64 x4)∧W.cell? ⟨w.heap.size,5,none⟩=some (.string x5)∧W.cell? ⟨w.heap.size,6,none⟩=some (.slice x6 n6 c6)∧W.cell? ⟨pb,l,none⟩=some (.int .i64 (zaZ G l:Int))):=zaa (fun W hW=>by
  have hx:w.heap.size<w1.heap.size:=by omega
  exact⟨(hW.cell (p:=⟨w.heap.size,0,none⟩) hx).trans p0,(hW.cell (p:=⟨w.heap.size,2,none⟩) hx).trans p2,(hW.cell (p:=⟨w.heap.size,3,none⟩) hx).trans p3,(hW.cell (p:=⟨w.heap.size,4,none⟩) hx).trans p4,(hW.cell (p:=⟨w.heap.size,5,none⟩) hx).trans p5,(hW.cell (p:=⟨w.heap.size,6,none⟩) hx).trans p6,(zaw hpl1 hW).cell hl⟩)
 have HC:=zaa (fun(W:World) (hW:Below w1.heap.size w1 W)=>znT pac hpa W _ _ _ _ (zfl (hb1.trans (zab hW (by omega))) hac))
 have Hb1:=zaa hb1;have Hbr:=zaa hbr;have Hbx:=zaa hbx;have Hpl:=zaa hpl1;have Hg:=zaa hg;have Hrr:=zaa hrr;have Hpy:=zaa hpy
 have Hw0:=zaa hw0;have Hw1:=zaa hw1
 have hS:Below w1.heap.size w1 w1:=Below.refl _ _
 have hS2:Below w1.heap.size w1 (w1.alloc (.cells #[.int .i64 0,.slice none 0 0,.int .i64 0,.int .i64 0,.int .i64 0,.string ⟨#[]⟩,.slice none 0 0] 89)):=(Below.refl _ _).alloc (Nat.le_refl _) _
 clear hw0 hw1 hbx0 hb01 hbr hb0 hbx hpl hpl1 p0 p1 p2 p3 p4 p5 p6 hac hg hrr hb1 hpy
 have Hs1:=zaa hs1
 clear hs1 hs0
 go_enter Tryz.func102,Tryz.ntmps102
 go_wp2_with fail
 rw[← uh Hw0,← uh Hw1]
 clear Hw0 Hw1
 go_cut [7] (fun v W=>∃ mb v6,v=.pointer (some ⟨mb,0,none⟩)∧Mv0 w1 W mb #[.int .i64 (zaZ G l:Int),.slice none 0 0,.int .i64 plv,.int .i64 x3,.int .i64 x4,.string x5,v6] pac (.int .i64 x3) (.int .i64 x4) (.string x5) v6)
 case first =>
  go_region_held3 (fun W:World=>W.cell? ⟨w.heap.size,0,none⟩=some (.int .i64 (l:Int))∧W.cell? ⟨w.heap.size,2,none⟩=some (.int .i64 plv)∧W.cell? ⟨w.heap.size,3,none⟩=some (.int .i64 x3)∧W.cell? ⟨w.heap.size,4,none⟩=some (.int .i64 x4)∧W.cell? ⟨w.heap.size,5,none⟩=some (.string x5)∧W.cell? ⟨w.heap.size,6,none⟩=some (.slice x6 n6 c6)∧W.cell? ⟨pb,l,none⟩=some (.int .i64 (zaZ G l:Int)))
   (first | (refine uh HS _ ?_;repeat (first | with_reducible exact hS | with_reducible exact hS2 | with_reducible refine Below.drew ?_ | with_reducible refine Below.setCell ?_ (by first | exact Nat.le_refl _ | exact hS.size | (have:=hS.size;simp;omega)) _ | with_reducible refine Below.alloc ?_ (by first | exact Nat.le_refl _ | exact hS.size | (have:=hS.size;simp;omega)) _)) | fail)
   (first
    | (go_at_call 130;first
       | (refine(uh HC w1.drew hS.drew).mono ?_;rintro e W3 ⟨v6,rfl,hac3,hb3⟩;obtain⟨_,_,_,z3,n3,q3,-,-,-,rfl⟩:=zej hac3;have hb3:Below w1.heap.size w1 W3:=⟨hb3.os,hb3.tape,hb3.output,hb3.size,hb3.block⟩;have HMv:=zaa (mv_b (v0:=.int .i64 (zaZ G l:Int)) (v1:=.slice none 0 0) (v2:=.int .i64 plv) hb3 hac3);have hS:=hb3;clear hac3 hb3)
       | (refine(uh HC (w1.alloc (.cells #[.int .i64 0,.slice none 0 0,.int .i64 0,.int .i64 0,.int .i64 0,.string ⟨#[]⟩,.slice none 0 0] 89)).drew hS2.drew).mono ?_;rintro e W3 ⟨v6,rfl,hac3,hb3⟩;obtain⟨_,_,_,z3,n3,q3,-,-,-,rfl⟩:=zej hac3;have hb3:Below (w1.alloc (.cells #[.int .i64 0,.slice none 0 0,.int .i64 0,.int .i64 0,.int .i64 0,.string ⟨#[]⟩,.slice none 0 0] 89)).heap.size (w1.alloc (.cells #[.int .i64 0,.slice none 0 0,.int .i64 0,.int .i64 0,.int .i64 0,.string ⟨#[]⟩,.slice none 0 0] 89)) W3:=⟨hb3.os,hb3.tape,hb3.output,hb3.size,hb3.block⟩;have hbx3:W3.heap[w1.heap.size]? = some (.cells #[.int .i64 0,.slice none 0 0,.int .i64 0,.int .i64 0,.int .i64 0,.string ⟨#[]⟩,.slice none 0 0] 89):=(hb3.block _ (by simp)).trans (Go.Deep.blk_alloc_new _ _);have⟨m0,m1,m2,m3,m4,m5,m6⟩:=za7 hbx3;have⟨f0,f1,f2,f3,f4,f5,f6⟩:=zeE hbx3;have HMv:=zaa (mv_a (v0:=.int .i64 (zaZ G l:Int)) (v1:=.slice none 0 0) (v2:=.int .i64 plv) hb3 hac3);have hS:=hS2.trans (zab hb3 (by simp));clear hac3 hb3 hbx3)
       | fail)
    | fail)
  all_goals
   go_wp2_with fail
   go_meet
   exact⟨_,_,rfl,uh HMv⟩
 case rest =>
  obtain⟨mb,v6,rfl,hmv⟩:=hcut
  obtain⟨z3,n3,q3,rfl⟩:∃ a n c,v6=.slice a n c:=by
   obtain⟨_,_,_,a,n,c,-,-,-,h⟩:=zej hmv.ac
   exact⟨a,n,c,h⟩
  have q1:=(hmv.bl.cell (p:=⟨w.heap.size,1,none⟩) (by show w.heap.size<_;have:=uh Hs1;omega)).trans (za7 (uh Hbx)).2.1
  have Hmv:=zaa hmv
  clear hS hS2 HS HC hmv
  have hwc:=(uh Hmv).bl.size
  have hMb:w.heap.size+1<mb:=by have:=(uh Hmv).lo;have:=uh Hs1;omega
  have hs1':=uh Hs1
  go_wp2
  go_loopw [9,26] (fun _ x W=>∃ (j:Nat) (rv:Value),x=.int .i64 j∧j≤prt.length∧W.heap[mb]? = some (.cells #[.int .i64 (zaZ G l:Int),rv,.int .i64 plv,.int .i64 x3,.int .i64 x4,.string x5,.slice z3 n3 q3] 89)∧W.ownsRow wc.heap.size 3 1 rv j (zal ((prt.take j).map (zda G)))∧Fr (· = mb) wc W) (fun _ x _=>prt.length - (intOf x).toNat)
  case atStart=>exact⟨0,_,rfl,Nat.zero_le _,(uh Hmv).bx,World.ownsRow_nil _ _ _ _,zav _ _⟩
  case round =>
   clear q1
   obtain⟨j,rv,rfl,hj,hbx,hown,hf⟩:=hrel
   obtain⟨va,vc,rfl⟩:=zad hown
   have hsW:=hf.1
   have hbw:Below w.heap.size w wr:=(uh Hb1).trans ((zab (uh Hmv).bl (by omega)).trans (zah hf (by omega) (fun k hk=>by have hk:k=mb:=hk;omega)))
   by_cases hjt:j<prt.length
   ·have hjt':(j:Int)<prt.length:=by omega
    obtain⟨b,off,rfl,hbB,hcx⟩:=za3 (zau hbw (uh Hrr)) hjt
    have hx:=uh Hpy _ (za5 hjt)
    have hgr:=zaJ (uh Hg) (zab hbw hM)
    have hgbl:=hgr.lt
    have c0:wr.cell? ⟨gb,0,none⟩=some (.slice ka G.kinds.length kc):=by unfold World.cell?;rw[hgr.box];rfl
    have hbw1:Below w1.heap.size w1 wr:=(uh Hmv).bl.trans (zah hf hwc (fun k hk=>by have hk:k=mb:=hk;have:=(uh Hmv).lo;omega))
    have hplr:=zaw (uh Hpl) hbw1
    have Hsn:Hid (zal ((prt.take (j+1)).map (zda G))=zal ((prt.take j).map (zda G)) ++ [.int .i64 (zda G (prt.getD j 0))]):=zaa (by rw[zbf _ _ 0 hjt,List.map_append];simp[zal])
    generalize prt.getD j 0=x at *
    obtain⟨hx1,hx2⟩:=hx
    have hR:=zeF gb x G.kinds.length ka kc hnk ⟨by omega,by omega⟩ wr c0
    have m1:=(za7 hbx).2.1
    have Hbx2:=zaa hbx;have Hown:=zaa hown;have Hf:=zaa hf
    generalize (prt.take j).map (zda G)=acc at *
    clear hbx hown hf hgr hbw hbw1
    by_cases hxk:(G.kinds.length:Int)≤x
    ·obtain⟨r,hxr⟩:∃ r:Nat,x - (G.kinds.length:Int)=r:=⟨(x - G.kinds.length).toNat,by omega⟩
     have hr2:(r:Int)<G.rules.length:=by omega
     have cp:=hplr.cell (i:=r) (by omega)
     have hnm:=zm1 G r
     have hwr:=wN (G.kinds.length+zaZ G r) (by omega)
     have hsy:zda G x=((G.kinds.length+zaZ G r:Nat):Int):=by
      unfold zda Gm.nk
      rw[if_pos hxk,hxr,Int.toNat_natCast]
      omega
     rw[hsy] at Hsn
     rw[if_pos hxk,decide_eq_true hxk,hxr] at hR
     have HR:=zaa hR
     clear hR hplr hsy
     generalize zaZ G r=nm at *
     rw[show ((G.kinds.length+nm:Nat):Int)=(G.kinds.length:Int)+(nm:Int) by omega] at Hsn hwr
     go_wp2_with fail
     refine(uh HR).mono ?_
     rintro e w2 ⟨rfl,rfl⟩
     go_wp2
     go_quiet (fail)
     have m1':(wr.drewN nq).cell? ⟨mb,1,none⟩=some (.slice va j vc):=m1
     have Hown':=zaa (show (wr.drewN nq).ownsRow wc.heap.size 3 1 (.slice va j vc) j (zal acc) from uh Hown)
     have Hbx':=zaa (show (wr.drewN nq).heap[mb]? = some (.cells #[.int .i64 (zaZ G l:Int),.slice va j vc,.int .i64 plv,.int .i64 x3,.int .i64 x4,.string x5,.slice z3 n3 q3] 89) from uh Hbx2)
     have Hf':=zaa (show Fr (· = mb) wc (wr.drewN nq) from⟨(uh Hf).1,(uh Hf).2.1,(uh Hf).2.2.1,(uh Hf).2.2.2.1,(uh Hf).2.2.2.2⟩)
     have hsW':wc.heap.size≤(wr.drewN nq).heap.size:=hsW
     clear Hown Hbx2 Hf hsW m1 c0 cp hcx
     generalize wr.drewN nq=wd at *
     go_wp2_with (at_builtin;refine wpList_append_own _ rfl _ _ 27 rfl wc.heap.size 3 i3 (.int .i64 0) 1 8 Tryz.underlying27 hi3 hz30 hz31 hz32 rfl (by decide) _ _ _ rfl ((uh Hown').alloc _) ⟨wd.heap.size,0,none⟩ 1 1 [.int .i64 ((G.kinds.length:Int)+(nm:Int))] rfl rfl ?zc1 ?zc2 ?zc3 ?zc4 ?zc5 ?_)
     case zc1=>exact ziC _ _ _
     case zc2=>intro u hu;simp at hu;rcases hu with rfl;rfl
     case zc3=>unfold maxLen;omega
     case zc4=>omega
     case zc5=>simp;omega
     intro v' W3 hown' hgrow _
     have c9:=(uh Hown').alloc (.cells #[.int .i64 ((G.kinds.length:Int)+(nm:Int))] 3)
     have bx3:=zaD (zaS (uh Hbx') (.cells #[.int .i64 ((G.kinds.length:Int)+(nm:Int))] 3)) c9 hgrow (by decide)
     have f3:=zb4 (zbR (uh Hf') (.cells #[.int .i64 ((G.kinds.length:Int)+(nm:Int))] 3)) hgrow (fun i hi=>(c9.lt i hi).1)
     have ho3:W3.ownsRow wc.heap.size 3 1 v' (j+1) (zal acc ++ [.int .i64 ((G.kinds.length:Int)+(nm:Int))]):=hown'
     obtain⟨v9,c99,rfl⟩:=zad ho3
     have fz:=(zeE bx3).2.1
     have s1:=(za7 bx3).2.1
     have fr4:Fr (· = mb) W3 (W3.setCell ⟨mb,1,none⟩ (.slice v9 (j+1) c99)):=zaz (zav _ _) (by rfl) _
     have Hx1:=zaa (zfr f3 fr4)
     have Hx2:=zaa (zaI (i:=1) bx3 (.slice v9 (j+1) c99))
     have Hx3:=zaa (zaV ho3 bx3 fr4 (by decide))
     clear hown' hgrow c9 bx3 f3 ho3 fr4
     go_wp2
     go_roundw
     case rel=>exact⟨j+1,_,by go_num,by omega,uh Hx2,by rw[uh Hsn];exact uh Hx3,uh Hx1⟩
     case measure=>simp[intOf];omega
    ·have hsy:zda G x=x:=by unfold zda Gm.nk;rw[if_neg hxk]
     rw[hsy] at Hsn
     rw[if_neg hxk,decide_eq_false hxk] at hR
     have HR:=zaa hR
     clear hR hplr hsy
     go_wp2_with fail
     refine(uh HR).mono ?_
     rintro e w2 ⟨rfl,rfl⟩
     go_wp2_with (at_builtin;refine wpList_append_own _ rfl _ _ 27 rfl wc.heap.size 3 i3 (.int .i64 0) 1 8 Tryz.underlying27 hi3 hz30 hz31 hz32 rfl (by decide) _ _ _ rfl ((uh Hown).alloc _) ⟨wr.heap.size,0,none⟩ 1 1 [.int .i64 x] rfl rfl ?zc1 ?zc2 ?zc3 ?zc4 ?zc5 ?_)
     case zc1=>exact ziC _ _ _
     case zc2=>intro u hu;simp at hu;rcases hu with rfl;rfl
     case zc3=>unfold maxLen;omega
     case zc4=>omega
     case zc5=>simp;omega
     intro v' W3 hown' hgrow _
     have c9:=(uh Hown).alloc (.cells #[.int .i64 x] 3)
     have bx3:=zaD (zaS (uh Hbx2) (.cells #[.int .i64 x] 3)) c9 hgrow (by decide)
     have f3:=zb4 (zbR (uh Hf) (.cells #[.int .i64 x] 3)) hgrow (fun i hi=>(c9.lt i hi).1)
     have ho3:W3.ownsRow wc.heap.size 3 1 v' (j+1) (zal acc ++ [.int .i64 x]):=hown'
     obtain⟨v9,c99,rfl⟩:=zad ho3
     have fz:=(zeE bx3).2.1
     have s1:=(za7 bx3).2.1
     have fr4:Fr (· = mb) W3 (W3.setCell ⟨mb,1,none⟩ (.slice v9 (j+1) c99)):=zaz (zav _ _) (by rfl) _
     have Hx1:=zaa (zfr f3 fr4)
     have Hx2:=zaa (zaI (i:=1) bx3 (.slice v9 (j+1) c99))
     have Hx3:=zaa (zaV ho3 bx3 fr4 (by decide))
     clear hown' hgrow c9 bx3 f3 ho3 fr4
     go_wp2
     go_roundw
     case rel=>exact⟨j+1,_,by go_num,by omega,uh Hx2,by rw[uh Hsn];exact uh Hx3,uh Hx1⟩
     case measure=>simp[intOf];omega
   ·obtain rfl:j=prt.length:=by omega
    rw[List.take_length] at hown
    have hbxr:=(hf.2.1 (w.heap.size+1) (by omega) (by show ¬ _=_;omega)).trans (((uh Hmv).bl.block (w.heap.size+1) (by omega)).trans (uh Hbr))
    obtain⟨m0,m1,m2,m3,m4,m5,m6⟩:=za7 hbx
    obtain⟨r0,r1,r2,r3,r4,r5,r6⟩:=za7 hbxr
    obtain⟨z0,z1,z2,z4,z5,z6,z7⟩:=zeE hbxr
    have h7:=set7 hbxr (.int .i64 (zaZ G l:Int)) (.slice va prt.length vc) (.int .i64 plv) (.int .i64 x3) (.int .i64 x4) (.string x5) (.slice z3 n3 q3)
    have H7:=zaa h7;have Hown:=zaa hown;have Hf:=zaa hf;have Hbw:=zaa hbw
    clear h7 hown hf hbw hbxr hbx
    go_wp2
    obtain⟨WF,hWF⟩:∃ WF,WF=((((((wr.setCell ⟨w.heap.size+1,0,none⟩ (.int .i64 (zaZ G l:Int))).setCell ⟨w.heap.size+1,1,none⟩ (.slice va prt.length vc)).setCell ⟨w.heap.size+1,2,none⟩ (.int .i64 plv)).setCell ⟨w.heap.size+1,3,none⟩ (.int .i64 x3)).setCell ⟨w.heap.size+1,4,none⟩ (.int .i64 x4)).setCell ⟨w.heap.size+1,5,none⟩ (.string x5)).setCell ⟨w.heap.size+1,6,none⟩ (.slice z3 n3 q3):=⟨_,rfl⟩
    have h7:=uh H7
    rw[← hWF] at h7 ⊢
    clear hWF H7
    obtain⟨hbF,hFr⟩:=h7
    obtain⟨y0,y1,y2,y3,y4,y5,y6⟩:=za7 hbF
    have hsF:=hFr.1
    refine bodyPost_ret (v:=.agg #[.int .i64 (zaZ G l:Int),.slice va prt.length vc,.int .i64 plv,.int .i64 x3,.int .i64 x4,.string x5,.slice z3 n3 q3]) ?zz9 rfl ⟨wc.heap.size,va,vc,.slice z3 n3 q3,rfl,⟨by omega,by omega⟩,zbA (uh Hown) hFr (by omega),?_,?_⟩
    case zz9=>simp[results,Tryz.results102,go_sem,y0,y1,y2,y3,y4,y5,y6]
    ·exact zeo (fun b hb=>⟨by have:=hb.1;omega,hb.2.1⟩) (fun b hb=>(hFr.2.1 b (by have:=hb.2.1;omega) (by have:=hb.1;show ¬ _=_;omega)).trans ((uh Hf).2.1 b hb.2.1 (by show ¬ _=_;exact hb.2.2))) _ _ _ _ _ (uh Hmv).ac
    ·exact(uh Hbw).trans (zah hFr (by have:=(uh Hbw).size;omega) (fun k hk=>by have hk:k=w.heap.size+1:=hk;omega))
end Go.Proofs.YtagohbpbgjelaaaGreatDoor

namespace Go.Proofs.YtagohbpbgjelaaaGreatDoor
open Go.RowKit

def PqO (P:Nat→Prop) (L:Nat) (W:World) (p:Pd) (v0 v1 v2 v3 v4 v5 v6:Value):Prop :=
 v0=.int .i64 p.left∧W.ownsRow L 3 1 v1 p.right.length (zal p.right)∧v2=.int .i64 p.level∧AcO P W p.act v3 v4 v5 v6
def PqS (P:Nat→Prop) (L:Nat) (W:World):List Pd→List Value→Prop
 | [],vs=>vs=[]
 | p::ps,vs=>∃ v0 v1 v2 v3 v4 v5 v6 rest,vs=v0::v1::v2::v3::v4::v5::v6::rest∧PqO P L W p v0 v1 v2 v3 v4 v5 v6∧PqS P L W ps rest
theorem zkf {P:Nat→Prop} {L:Nat} {W:World} {p:Pd} {v0 v1 v2 v3 v4 v5 v6:Value} (hp:PqO P L W p v0 v1 v2 v3 v4 v5 v6):∀ (ps:List Pd) (vs:List Value),PqS P L W ps vs→PqS P L W (ps ++ [p]) (vs ++ [v0,v1,v2,v3,v4,v5,v6])
 | [],vs,h=>by
   unfold PqS at h
   subst h
   show PqS P L W [p] [v0,v1,v2,v3,v4,v5,v6]
   unfold PqS
   exact⟨_,_,_,_,_,_,_,[],rfl,hp,by unfold PqS;rfl⟩
 | q::qs,vs,h=>by
   unfold PqS at h
   obtain⟨u0,u1,u2,u3,u4,u5,u6,rest,rfl,h1,h2⟩:=h
   show PqS P L W (q::(qs ++ [p])) _
   unfold PqS
   exact⟨_,_,_,_,_,_,_,_,rfl,h1,zkf hp qs rest h2⟩
theorem zke {P P':Nat→Prop} {L:Nat} {W W':World} (ho:∀ v n xs,W.ownsRow L 3 1 v n xs→W'.ownsRow L 3 1 v n xs) (hP:∀ b,P b→P' b) (hb:∀ b,P b→W'.heap[b]? = W.heap[b]?):∀ (ps:List Pd) (vs:List Value),PqS P L W ps vs→PqS P' L W' ps vs
 | [],vs,h=>by unfold PqS at h ⊢;exact h
 | q::qs,vs,h=>by
   unfold PqS at h ⊢
   obtain⟨u0,u1,u2,u3,u4,u5,u6,rest,rfl,⟨e0,e1,e2,e3⟩,h2⟩:=h
   exact⟨_,_,_,_,_,_,_,_,rfl,⟨e0,ho _ _ _ e1,e2,zeo hP hb _ _ _ _ _ e3⟩,zke ho hP hb qs rest h2⟩
theorem zp8 {P:Nat→Prop} {B L:Nat} {W:World} (hP:∀ b,P b→b<B):∀ (ps:List Pd) (vs:List Value),PqS P L W ps vs→zfy B L W ps vs
 | [],vs,h=>by unfold PqS at h;unfold zfy;exact h
 | q::qs,vs,h=>by
   unfold PqS at h
   unfold zfy
   obtain⟨u0,u1,u2,u3,u4,u5,u6,rest,rfl,⟨e0,e1,e2,e3⟩,h2⟩:=h
   exact⟨_,_,_,_,_,_,_,_,rfl,⟨e0,e1,e2,zql hP _ _ _ _ _ e3⟩,zp8 hP qs rest h2⟩
structure PqR (N:Nat) (W:World) (v:Value) (ps:List Pd) (vs:List Value):Prop where
 ow:W.ownsRow N 89 7 v ps.length vs
 pq:PqS (fun b=>(N≤b∧b<W.heap.size)∧v.ownBlock≠some b) N W ps vs
theorem zcn {N:Nat} {W W':World} {v:Value} {ps:List Pd} {vs:List Value} (h:PqR N W v ps vs) (hb:Below W.heap.size W W'):PqR N W' v ps vs :=
 ⟨zas h.ow hb,zke (fun _ _ _ h=>zas h hb) (fun b h=>⟨⟨h.1.1,by have:=h.1.2;have:=hb.size;omega⟩,h.2⟩) (fun b h=>hb.block b h.1.2) _ _ h.pq⟩
theorem zdD {N b:Nat} {W W':World} {v:Value} {ps:List Pd} {vs:List Value} (h:PqR N W v ps vs) (hf:Fr (· = b) W W') (hb:b<N):PqR N W' v ps vs :=
 ⟨zbA h.ow hf hb,zke (fun _ _ _ h=>zbA h hf hb) (fun c h=>⟨⟨h.1.1,by have:=h.1.2;have:=hf.1;omega⟩,h.2⟩) (fun c h=>hf.2.1 c h.1.2 (by have:=h.1.1;show ¬ _=_;omega)) _ _ h.pq⟩
theorem zhy {N H g cap:Nat} {W W':World} {a:Option Addr} {c:Nat} {ps:List Pd} {vs:List Value} {p:Pd} {v0 v1 v2 v3 v4 v5 v6:Value} (h:PqR N W (.slice a ps.length c) ps vs) (hH:W.heap.size=H)
 (hp:PqO (fun b=>(N≤b∧b<W.heap.size)∧(Value.slice a ps.length c).ownBlock≠some b) N W p v0 v1 v2 v3 v4 v5 v6)
 (ho:W'.ownsRow N 89 7 (.slice (some ⟨g,0,none⟩) (ps.length+1) cap) (ps.length+1) (vs ++ [v0,v1,v2,v3,v4,v5,v6])) (hg:W.grownBy W' (Value.slice a ps.length c).ownBlock) (hat:(Value.slice a ps.length c).ownBlock=some g∨g=H) :
 PqR N W' (.slice (some ⟨g,0,none⟩) (ps ++ [p]).length cap) (ps ++ [p]) (vs ++ [v0,v1,v2,v3,v4,v5,v6]):=by
 have hl:(ps ++ [p]).length=ps.length+1:=by simp
 rw[hl]
 have hs:=hg.size
 have hP:∀ b,((N≤b∧b<W.heap.size)∧(Value.slice a ps.length c).ownBlock≠some b)→((N≤b∧b<W'.heap.size)∧(Value.slice (some ⟨g,0,none⟩) (ps.length+1) cap).ownBlock≠some b):=fun b hb=>⟨⟨hb.1.1,by have:=hb.1.2;omega⟩,fun e=>by
  have e:some g=some b:=e
  rcases hat with h | h
  ·exact hb.2 (h.trans e)
  ·have h9:=hb.1.2
   injection e with e
   omega⟩
 have hm:∀ b,((N≤b∧b<W.heap.size)∧(Value.slice a ps.length c).ownBlock≠some b)→W'.heap[b]? = W.heap[b]?:=fun b hb=>hg.block b hb.1.2 (fun e=>hb.2 e.symm)
 have hrow:∀ v n xs,W.ownsRow N 3 1 v n xs→W'.ownsRow N 3 1 v n xs:=fun v n xs h1=>zat h1 h.ow hg (by decide)
 refine⟨by rw[hl];exact ho,zkf ⟨hp.1,hrow _ _ _ hp.2.1,hp.2.2.1,zeo hP hm _ _ _ _ _ hp.2.2.2⟩ _ _ (zke hrow hP hm _ _ h.pq)⟩
end Go.Proofs.YtagohbpbgjelaaaGreatDoor

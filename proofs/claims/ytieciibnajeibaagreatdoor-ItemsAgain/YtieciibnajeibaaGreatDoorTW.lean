import Derived.Test.YtieciibnajeibaaGreatDoorGJ
import Derived.Test.YtieciibnajeibaaGreatDoorSH
set_option maxHeartbeats 8000000
set_option maxRecDepth 100000
namespace Go.Proofs.YtieciibnajeibaaGreatDoor
open Go.RowKit
def zxC(f:Nat->Bool)(l:List Nat):Nat->Bool:=λx=>f x && !l.contains x
theorem zsM(f:Nat->Bool):zxC f []=f:=by funext x;simp[zxC]
theorem zpC(f:Nat->Bool)(l:List Nat)(k:Nat)(h:k<l.length):zxC f (l.take (k+1))=upB (zxC f (l.take k)) (l.getD k 0) false:=by
 have e:l.take (k+1)=l.take k ++ [l.getD k 0]:=by rw[zsU,zsE,zsF h];rfl
 funext x;unfold zxC upB;rw[e];by_cases hx:x=l.getD k 0
 ·rw[if_pos hx];simp[hx]
 ·rw[if_neg hx];have hx':(x == l.getD k 0)=false:=by simpa using hx
  rw[List.contains_append];simp only[List.contains_cons,List.contains_nil,Bool.or_false,hx']
theorem zqZ(B:Nat)(vb:Nat)(wv:Value)(n mb lb ib:Nat)(ov mv:Value)(vs:List Value)(s:Ts)(p:Nat)(hp:p<s.opn.length)(hol:s.opn.length<=2048)(hml:s.made.length<=2048)(hlt:∀ x,x ∈ s.opn->x<n)(w:World)(hB:B<=w.heap.size)(h:TsV B w vb wv n mb lb ib ov mv vs s) :
 Calls Tryz.prog 245 #[.pointer (some ⟨vb,0,none⟩),.int .i64 (p:Nat)] w λe w'=>(∃ v,e=.returned v)/\(∃ ov' mv' vs',TsV B w' vb wv n mb lb ib ov' mv' vs' (zgD s p))/\Below B w w':=by
 obtain⟨g,c,hv,-,hgl,hnc,hcm⟩:=Wk.own_pos h.opn (by omega);subst hv;obtain⟨ma,mc,rfl⟩:=zaf h.made;have hbx:=h.box;have c4:w.cell? ⟨vb,4,none⟩=some (.slice (some ⟨g,0,none⟩) s.opn.length c):=by unfold World.cell?;rw[hbx];rfl
 have hcl:∀ j,j<(zag (s.opn.drop p)).length->w.cell? ⟨g,p+j,none⟩=some (.int .i64 ((zag (s.opn.drop p)).getD j 0)):=λj hj=>by
  rw[zam,List.length_drop] at hj;have hpj:p+j<s.opn.length:=by omega
  have:=Wk.own_cell h.opn rfl (p+j) (by rw[zbh,zam];exact hpj);rw[this];have e1:(zag (s.opn.drop p)).getD j 0=((s.opn.getD (p+j) 0:Nat):Int):=by
   rw[zbV (by rw[List.length_drop];omega)];simp[List.getD_eq_getElem?_getD,List.getElem?_drop]
  have e2:(zao (zag s.opn)).getD (p+j) undef=.int .i64 ((s.opn.getD (p+j) 0:Nat):Int):=by
   unfold zao zag;rw[zsE,List.getElem?_map,List.getElem?_map,zsE,zsF hpj];rfl
  rw[e1,e2]
 have hdl:(zag (s.opn.drop p)).length=s.opn.length - p:=by rw[zam,List.length_drop]
 have HCl:=zaa (Tryz.slices_Clone_int g p (s.opn.length - p) (c - p) (zag (s.opn.drop p)) w (by omega) (by omega) hcl);have hpc:¬ c=p:=by omega
 have hp1:(p:Int)<=s.opn.length:=by omega
 have hp2:(s.opn.length:Int)<=c:=by omega
 have Hh:=zaa h;clear h hcl hbx;go_enter Tryz.func245,Tryz.ntmps245;go_wp2_with fail;refine(uh HCl).mono ?_;rintro e w1 ⟨v1,rfl,how,hvn,hb1⟩;have hs1:=hb1.size;obtain⟨q,qc,rfl,hqB,hql,-,-⟩:=Wk.own_pos how (by omega);obtain⟨qs,hqs⟩:=zcC how rfl;have hh1:=zaV (uh Hh) hb1;have hqc:∀ j x:Nat,(s.opn.drop p)[j]? = some x->qs[j]? = some (Value.int .i64 (x:Nat)):=λj x hx=>by
  have hj:j<s.opn.length - p:=by have:=(zsP.1 hx).1;rw[List.length_drop] at this;exact this
  have h1:=how.cellAt j (by omega);unfold World.cell? at h1;rw[hqs] at h1;simp only[Option.isSome_none,Bool.false_eq_true,if_false] at h1;rw[h1,List.take_of_length_le (by omega)];unfold zag;rw[List.getElem?_map,List.getElem?_map,hx];rfl
 have Hqs:=zaa hqs;have Hqc:=zaa hqc;have Hh1:=zaa hh1;have Hb1:=zaa hb1;clear how hvn hqs hqc hh1 hb1;obtain⟨i27,hi27,hz0,hz1,hz2⟩:=zah zf1;go_wp2
 go_loopw [16] (λx W=>∃ k:Nat,x=.int .i64 k/\k<=s.opn.length - p/\TsV B W vb wv n mb lb ib (.slice (some ⟨g,0,none⟩) s.opn.length c) (.slice ma s.made.length mc) vs { s with isO:=zxC s.isO ((s.opn.drop p).take k) }/\W.heap[q]? = some (.cells qs 3 (0,0))/\Below B w1 W) (λx _=>s.opn.length - p - (intOf x).toNat)
 case atStart=>exact⟨0,rfl,zsK _,by rw[List.take_zero,zsM];exact uh Hh1,uh Hqs,zsY _ _⟩
 case round =>
  obtain⟨k,rfl,hk,hT,hq,hb⟩:=hrel;have hbx:=hT.box;obtain⟨is,his⟩:=zaB hT.isO;by_cases hkl:k<s.opn.length - p
  ·have hkl':(k:Int)<((s.opn.length - p:Nat):Int):=by omega
   have hdk:k<(s.opn.drop p).length:=by rw[List.length_drop];exact hkl
   have hxk:(s.opn.drop p)[k]? = some ((s.opn.drop p).getD k 0):=by rw[zsE,zsF hdk];rfl
   have hcq:wr.cell? ⟨q,k,none⟩=some (.int .i64 ((s.opn.drop p).getD k 0:Nat)):=by unfold World.cell?;rw[hq];exact uh Hqc _ _ hxk
   have hxn:(s.opn.drop p).getD k 0<n:=hlt _ (List.mem_of_mem_drop (List.mem_of_getElem? hxk));have Hs:=zaa (zpC s.isO (s.opn.drop p) k hdk);have c5:wr.cell? ⟨vb,5,none⟩=some (.slice (some ⟨ib,0,none⟩) n n):=by unfold World.cell?;rw[hbx];rfl
   have hT2:=zoO hT ((s.opn.drop p).getD k 0) false;have hq2:=(zal (o:=(s.opn.drop p).getD k 0) (v:=.bool false) wr (zav hq his (by decide))).trans hq;have ci:=hT.isO.cell hxn;have fi:=hT.isO.frozen ((s.opn.drop p).getD k 0);have hbI:=hT.b4;generalize (s.opn.drop p).getD k 0=x at *;have hxn':(x:Int)<n:=by omega
   have HT2:=zaa hT2;have Hq2:=zaa hq2;have Hb:=zaa hb;clear hT hq hb hT2 hq2 hbx his;go_wp2;go_roundw
   case rel=>exact⟨k+1,by go_num,by omega,by rw[uh Hs];exact uh HT2,uh Hq2,(uh Hb).setCell hbI _⟩
   case measure=>simp[intOf];omega
  ·obtain rfl:k=s.opn.length - p:=by omega
   have c4':wr.cell? ⟨vb,4,none⟩=some (.slice (some ⟨g,0,none⟩) s.opn.length c):=by unfold World.cell?;rw[hbx];rfl
   have c6':wr.cell? ⟨vb,6,none⟩=some (.slice ma s.made.length mc):=by unfold World.cell?;rw[hbx];rfl
   have f4:wr.frozen? ⟨vb,4,none⟩=false:=by unfold World.frozen?;rw[hbx];rfl
   have f6:wr.frozen? ⟨vb,6,none⟩=false:=by unfold World.frozen?;rw[hbx];rfl
   have Hb:=zaa hb;have hT3:=zvc hT rfl (show p<=s.opn.length by omega);have hb3:Below B w1 (wr.setCell ⟨vb,4,none⟩ (.slice (some ⟨g,0,none⟩) p c)):=hb.setCell hT.b1 _;have hq3:(wr.setCell ⟨vb,4,none⟩ (.slice (some ⟨g,0,none⟩) p c)).heap[q]? = some (.cells qs 3 (0,0)):=(zal wr (zav hq hbx (by decide))).trans hq;have HT3:=zaa hT3;have Hb3:=zaa hb3;have Hq3:=zaa hq3;clear hq hb hbx hT his hT3 hb3 hq3;have hBr:B<=wr.heap.size:=by have:=(uh Hb).size;have:=(uh Hb1).size;omega
   have hszs:(wr.setCell ⟨vb,4,none⟩ (.slice (some ⟨g,0,none⟩) p c)).heap.size=wr.heap.size:=by simp
   go_wp2_with (at_builtin;refine wpList_append_own _ rfl _ _ 43 rfl B 50 i27 (.slice none 0 0) 1 24 Tryz.underlying43 hi27 hz0 hz1 hz2 rfl (by decide) _ _ _ rfl ((uh HT3).made.alloc _) ⟨wr.heap.size,0,none⟩ 1 1 [.slice (some ⟨q,0,none⟩) (s.opn.length - p) qc] rfl rfl ?zc1 ?zc2 ?zc3 ?zc4 ?zc5 ?_)
   case zc2=>rfl
   case zc3=>unfold maxLen;omega
   case zc4=>omega
   case zc5=>omega
   intro v' W3 hown' hgrow _;obtain⟨va',vc',rfl⟩:=zaf hown';have hT3:=uh HT3;have hbA:Below (wr.setCell ⟨vb,4,none⟩ (.slice (some ⟨g,0,none⟩) p c)).heap.size (wr.setCell ⟨vb,4,none⟩ (.slice (some ⟨g,0,none⟩) p c)) ((wr.setCell ⟨vb,4,none⟩ (.slice (some ⟨g,0,none⟩) p c)).alloc (.cells #[.slice (some ⟨q,0,none⟩) (s.opn.length - p) qc] 50)):=(zsY _ _).alloc (zsG _) _;have e1:s.opn.length - p=(s.opn.drop p).length:=by rw[List.length_drop]
   have hbx3:=(zaV hT3 hbA).box;have hmb:=za0 (zaV hT3 hbA).made (zaV hT3 hbA).box (by decide);have hbw:W3.heap[vb]? = _:=(hgrow.block vb (zsO.1 hbx3).1 (λe=>hmb e.symm)).trans hbx3;have c6w:W3.cell? ⟨vb,6,none⟩=some (.slice ma s.made.length mc):=by unfold World.cell?;rw[hbw];rfl
   have f6w:W3.frozen? ⟨vb,6,none⟩=false:=by unfold World.frozen?;rw[hbw];rfl
   have hqn:∀ k cs,w.heap[k]? = some (Obj.cells cs 3 (0,0))->q≠k:=λk cs hk e=>by have:=(zsO.1 hk).1;omega
   obtain⟨m1,hm⟩:=zaB (uh Hh).met;obtain⟨l1,hl⟩:=zaB (uh Hh).low;have hfin:=zrW hT3 (uh Hq3) (a:=s.opn.drop p) (qc:=qc) (by omega) (hqn _ _ hm) (hqn _ _ hl) (λe=>by simp only[Value.ownBlock,Option.some.injEq] at e;omega) (uh Hqc) hbA hgrow (by rw[<- e1];exact hown');have hbf:Below B w W3:=(zab (uh Hb1) hB).trans (((uh Hb3).trans (zab hbA (by have:=(uh Hb3).size;have:=(uh Hb1).size;omega))).grown hgrow (by have:=(uh Hb3).size;have:=hbA.size;omega) (λj hj=>(hT3.made.lt j hj).1));have hbv:=hT3.b1;rw[<- e1] at hfin;have Hf:=zaa hfin;have Hbf:=zaa hbf;clear hown' hgrow hT3 hbA hbx3 hmb hbw hfin hbf hqn;go_wp2
   go_end0
   have h9:=uh Hf;have e9:(s.opn.drop p).take (s.opn.length - p)=s.opn.drop p:=List.take_of_length_le (by rw[List.length_drop];omega);rw[e9] at h9;exact⟨⟨_,rfl⟩,⟨_,_,_,h9⟩,(uh Hbf).setCell hbv _⟩
def unm(f:Nat->Nat):Nat->Nat
 | 0=>0
 | k+1=>unm f k+if f k=0 then 1 else 0
theorem zoJ(f:Nat->Nat)(r v:Nat):∀ k,k<=r->unm (upN f r v) k=unm f k
 | 0,_=>rfl
 | k+1,h=>by
   unfold unm;rw[zoJ f r v k (by omega),zbM (by omega)]
theorem zus(f:Nat->Nat)(r v:Nat)(hr:f r=0)(hv:v≠0):∀ k,r<k->unm (upN f r v) k+1=unm f k
 | 0,h=>by omega
 | k+1,h=>by
   unfold unm;by_cases e:k=r
   ·subst e;rw[zoJ f k v k (zsG _),zbu,if_neg hv,if_pos hr]
   ·have:=zus f r v hr hv k (by omega);rw[zbM e];omega
theorem zoI(f:Nat->Nat)(r:Nat)(hr:f r=0):∀ k,r<k->0<unm f k
 | 0,h=>by omega
 | k+1,h=>by
   unfold unm;by_cases e:k=r
   ·subst e;rw[if_pos hr];omega
   ·have:=zoI f r hr k (by omega);omega
theorem zl3:∀ k,unm (λ_=>0) k=k
 | 0=>rfl
 | k+1=>by unfold unm;rw[zl3 k];simp
structure TCnt (n:Nat) (s:Ts):Prop where
 un:s.count+unm s.met n=n
 op:s.opn.length<=s.count
 md:s.made.length<=s.count
def zjs(B:Nat)(w:World)(tb n:Nat)(W:Nat->List Nat):Prop:=tb<B/\∀ r,r<n->∃ a c,w.cell? ⟨tb,r,none⟩=some (.slice a (W r).length c)/\NRow B w a (zag (W r))
variable{B n:Nat}{W w w':World}
theorem zeY{tb:Nat}{W:Nat->List Nat}(h:zjs B w tb n W)(hb:Below B w w'):zjs B w' tb n W:=by
 refine⟨h.1,λr hr=>?_⟩;obtain⟨a,c,h1,h2⟩:=h.2 r hr;exact⟨a,c,(hb.cell (p:=⟨tb,r,none⟩) h.1).trans h1,zaS hb h2⟩
def zkN(B:Nat)(W:Nat->List Nat)(vb:Nat)(wv:Value)(n mb lb ib:Nat)(s:Ts)(r:Nat)(w w':World):Prop:=∃ t ov mv vs,TPost W n s r t/\TsV B w' vb wv n mb lb ib ov mv vs t/\TCnt n t/\s.count+t.made.length<=t.count+s.made.length/\s.count<=t.count/\Below B w w'
theorem zib(B:Nat)(W:Nat->List Nat)(vb:Nat)(wv:Value)(n mb lb ib:Nat)(ov mv:Value)(vs:List Value)(s:Ts)(r:Nat)(hr:r<n)(hI:TInv W n s)(hC:TCnt n s)(hm:0<s.met r)(w:World)(h:TsV B w vb wv n mb lb ib ov mv vs s) :
 Calls Tryz.prog 224 #[.pointer (some ⟨vb,0,none⟩),.int .i64 (r:Nat)] w λe w'=>(∃ v,e=.returned v)/\zkN B W vb wv n mb lb ib s r w w':=by
 have hbx:=h.box;have c2:w.cell? ⟨vb,2,none⟩=some (.slice (some ⟨mb,0,none⟩) n n):=by unfold World.cell?;rw[hbx];rfl
 have cm:=h.met.cell hr;have hr':(r:Int)<n:=by omega
 have hpos:(0:Int)<(s.met r:Nat):=by omega
 have Hh:=zaa h;have HI:=zaa hI;have HC:=zaa hC;have Hm:=zaa hm;clear h hI hC hbx hm;generalize hq:s.met r=q at *;go_enter Tryz.func224,Tryz.ntmps224;go_wp2;refine bodyPost_ret (results_none rfl _ _ _) rfl ?_;exact⟨⟨_,rfl⟩,s,_,mv,vs,znp (uh HI) (by rw[hq];exact uh Hm),uh Hh,uh HC,zsG _,zsG _,zsY _ _⟩
theorem zhg(B:Nat)(W:Nat->List Nat)(vb:Nat)(n mb lb ib tb wc:Nat)(hn:n<=2048)(hW:∀ r,r<n->∀ y,y ∈ W r->y<n)(hWl:∀ r,(W r).length<=1048576):∀ (m:Nat) (ov mv:Value) (vs:List Value) (s:Ts) (r:Nat) (w:World),n - s.count<=m->r<n->TInv W n s->TCnt n s->B<=w.heap.size->zjs B w tb n W->TsV B w vb (.slice (some ⟨tb,0,none⟩) n wc) n mb lb ib ov mv vs s ->
 Calls Tryz.prog 224 #[.pointer (some ⟨vb,0,none⟩),.int .i64 (r:Nat)] w λe w'=>(∃ v,e=.returned v)/\zkN B W vb (.slice (some ⟨tb,0,none⟩) n wc) n mb lb ib s r w w':=by
 intro m
 induction m with
 | zero =>
   intro ov mv vs s r w hm hr hI hC hB hWay h;refine zib B W vb _ n mb lb ib _ mv vs s r hr hI hC ?_ w h;rcases Nat.eq_zero_or_pos (s.met r) with h0 | h0
   ·have:=zoI s.met r h0 n hr;have:=hC.un;omega
   ·exact h0
 | succ m ih =>
 intro ov mv vs s r w hm hr hI hC hB hWay h;obtain⟨i3,hi3,hz30,hz31,hz32⟩:=zah zdB;obtain⟨oa,oc,rfl⟩:=zaf h.opn;have hbx:=h.box;have c1:w.cell? ⟨vb,1,none⟩=some (.int .i64 (s.count:Nat)):=by unfold World.cell?;rw[hbx];rfl
 have c2:w.cell? ⟨vb,2,none⟩=some (.slice (some ⟨mb,0,none⟩) n n):=by unfold World.cell?;rw[hbx];rfl
 have f1:w.frozen? ⟨vb,1,none⟩=false:=by unfold World.frozen?;rw[hbx];rfl
 have cm:=h.met.cell hr;have hr':(r:Int)<n:=by omega
 have hcn:=hC.un;by_cases h0:s.met r=0
 · rw [h0] at cm;have hsc:((s.count:Nat):Int)<=2048:=by omega
   have hC':=hC;have Hh:=zaa h;have HI:=zaa hI;have HC:=zaa hC;have HW:=zaa hWay;clear h hI hC hWay hbx;go_enter Tryz.func224,Tryz.ntmps224;go_wp2_with fail;have hT1:=zvd (uh Hh) (i:=1) (c:=s.count+1) (u:=.int .i64 ((s.count:Nat)+1:Int)) ⟨rfl,by simp,rfl⟩;have hB1:B<=(w.setCell ⟨vb,1,none⟩ (.int .i64 ((s.count:Nat)+1:Int))).heap.size:=by simp;exact hB
   have hbb1:Below B w (w.setCell ⟨vb,1,none⟩ (.int .i64 ((s.count:Nat)+1:Int))):=(zsY _ _).setCell (uh Hh).b1 _;have hbx:=hT1.box;generalize w.setCell ⟨vb,1,none⟩ (.int .i64 ((s.count:Nat)+1:Int))=W1 at *;have d1:W1.cell? ⟨vb,1,none⟩=some (.int .i64 ((s.count:Nat)+1:Int)):=by unfold World.cell?;rw[hbx];simp
   have d2:W1.cell? ⟨vb,2,none⟩=some (.slice (some ⟨mb,0,none⟩) n n):=by unfold World.cell?;rw[hbx];rfl
   have d3:W1.cell? ⟨vb,3,none⟩=some (.slice (some ⟨lb,0,none⟩) n n):=by unfold World.cell?;rw[hbx];rfl
   have d5:W1.cell? ⟨vb,5,none⟩=some (.slice (some ⟨ib,0,none⟩) n n):=by unfold World.cell?;rw[hbx];rfl
   have em:=hT1.met.cell hr;have el:=hT1.low.cell hr;have ei:=hT1.isO.cell hr;have fm:=hT1.met.frozen r;have fl:=hT1.low.frozen r;have fi:=hT1.isO.frozen r;obtain⟨m9,hm9⟩:=zaB hT1.met;obtain⟨l9,hl9⟩:=zaB hT1.low;obtain⟨i9,hi9⟩:=zaB hT1.isO;have n1:¬ lb=mb:=λe=>hT1.ml e.symm;have n2:¬ ib=mb:=zav hi9 hm9 (by decide);have n3:¬ ib=lb:=zav hi9 hl9 (by decide);have n4:¬ mb=lb:=hT1.ml;have n5:¬ mb=ib:=λe=>n2 e.symm;have n6:¬ lb=ib:=λe=>n3 e.symm;clear hm9 hl9 hi9;have HT1:=zaa hT1;have Hbb1:=zaa hbb1;clear hT1 hbb1 hbx c1 c2 f1 cm
   go_region
   have hT2:=zaV (zoO (zoN (zvb (uh HT1) r (s.count+1)) r (s.count+1)) r true) (zsY _ _).drew;have hb2:Below B w (((W1.setCell ⟨mb,r,none⟩ (.int .i64 ((s.count:Nat)+1:Int))).setCell ⟨lb,r,none⟩ (.int .i64 ((s.count:Nat)+1:Int))).setCell ⟨ib,r,none⟩ (.bool true)).drew:=((((uh Hbb1).setCell (uh HT1).b2 _).setCell (uh HT1).b3 _).setCell (uh HT1).b4 _).drew;have hB2:B<=(((W1.setCell ⟨mb,r,none⟩ (.int .i64 ((s.count:Nat)+1:Int))).setCell ⟨lb,r,none⟩ (.int .i64 ((s.count:Nat)+1:Int))).setCell ⟨ib,r,none⟩ (.bool true)).drew.heap.size:=by simp;exact hB1
   have ec:(((s.count+1:Nat):Nat):Int)=(s.count:Nat)+1:=by simp
   rw[ec] at hT2;generalize (((W1.setCell ⟨mb,r,none⟩ (.int .i64 ((s.count:Nat)+1:Int))).setCell ⟨lb,r,none⟩ (.int .i64 ((s.count:Nat)+1:Int))).setCell ⟨ib,r,none⟩ (.bool true)).drew=W2 at *;have hbx2:=hT2.box;have g4:W2.cell? ⟨vb,4,none⟩=some (.slice oa s.opn.length oc):=by unfold World.cell?;rw[hbx2];rfl
   have hop:=hC'.op;have HT2:=zaa hT2;have Hb2:=zaa hb2;clear hT2 hb2 hbx2 d1 d2 d3 d5 em el ei fm fl fi n1 n2 n3 n4 n5 n6 HT1 Hbb1;go_wp2_with (at_builtin;refine wpList_append_lies _ rfl _ _ 50 rfl B 3 i3 (.int .i64 0) 1 8 Tryz.underlying50 hi3 hz30 hz31 hz32 rfl (by decide) _ _ _ rfl ((uh HT2).opn.alloc _) ⟨W2.heap.size,0,none⟩ 1 1 [.int .i64 (r:Nat)] rfl rfl (zpR _ _ _) ?zc2 (by decide) ?zc3 ?zc4 ?zc5 (W2.heap.size+1) (by simp) ?_)
   case zc2=>rfl
   case zc3=>unfold maxLen;omega
   case zc4=>omega
   case zc5=>omega
   intro g7 cap7 W7 hown7 hgrow hg7 hl7;have hal:Below W2.heap.size W2 (W2.alloc (.cells #[.int .i64 (r:Nat)] 3)):=(zsY _ _).alloc (zsG _) _;have hT7:=zrV (uh HT2) hal hgrow hown7 (hg7.imp id (λe=>by rw[e];simp));have hbn:(Value.slice oa s.opn.length oc).ownBlock≠some vb:=za0 (uh HT2).opn (uh HT2).box (by decide);have hbx7:W7.heap[vb]? = _:=((hgrow.block vb (by have:=(zsO.1 (uh HT2).box).1;have:=hal.size;omega) (λe=>hbn e.symm)).trans (hal.block vb (zsO.1 (uh HT2).box).1)).trans (uh HT2).box;have k4:W7.cell? ⟨vb,4,none⟩=some (.slice oa s.opn.length oc):=by unfold World.cell?;rw[hbx7];rfl
   have q4:W7.frozen? ⟨vb,4,none⟩=false:=by unfold World.frozen?;rw[hbx7];rfl
   have hb7:Below B w (W7.setCell ⟨vb,4,none⟩ (.slice (some ⟨g7,0,none⟩) (s.opn.length+1) cap7)):=(((uh Hb2).trans (zab hal hB2)).grown hgrow (by have:=hal.size;omega) (λj hj=>((uh HT2).opn.lt j hj).1)).setCell hT7.b1 _
   have hcm:TCnt n (znr s r):=⟨by
     have:=zus s.met r (s.count+1) h0 (by omega) n hr;show s.count+1+unm (upN s.met r (s.count+1)) n=n;omega,by
     show (s.opn ++ [r]).length<=s.count+1;have:=hC'.op;simp;exact this,by
     show s.made.length<=s.count+1;have:=hC'.md
     omega⟩
   have hl0:=zk1 (uh HI) h0 hr;have HT7:=zaa (show TsV B _ vb _ n mb lb ib _ mv vs (znr s r) from hT7);have Hb7:=zaa hb7;have Hcm:=zaa hcm;have Hl0:=zaa hl0;have hs7:B<=(W7.setCell ⟨vb,4,none⟩ (.slice (some ⟨g7,0,none⟩) (s.opn.length+1) cap7)).heap.size:=by have:=hb7.size;omega
   obtain⟨ra,rc,hrc0,hrn⟩:=(uh HW).2 r hr;have hrc:=(hb7.cell (p:=⟨tb,r,none⟩) (uh HW).1).trans hrc0;have k0:(W7.setCell ⟨vb,4,none⟩ (.slice (some ⟨g7,0,none⟩) (s.opn.length+1) cap7)).cell? ⟨vb,0,none⟩=some (.slice (some ⟨tb,0,none⟩) n wc):=by unfold World.cell?;rw[hT7.box];rfl
   have Hrn:=zaa hrn;clear hT7 hb7 hcm hl0 hbn hbx7 hal hown7 hgrow hg7 hl7 HT2 Hb2 g4 hrn hrc0;go_wp2;generalize W7.setCell ⟨vb,4,none⟩ (.slice (some ⟨g7,0,none⟩) (s.opn.length+1) cap7)=W8 at *;have hlr:=hWl r
   go_loopw [71] (λx V=>∃ (k:Nat) (t:Ts) (ov mv:Value) (vs:List Value),x=.int .i64 k/\k<=(W r).length/\TLoop W n s r k t/\TsV B V vb (.slice (some ⟨tb,0,none⟩) n wc) n mb lb ib ov mv vs t/\TCnt n t/\s.count+1+t.made.length<=t.count+s.made.length/\s.count+1<=t.count/\Below B w V) (λx _=>(W r).length - (intOf x).toNat)
   case atStart=>exact⟨0,znr s r,_,_,_,rfl,zsK _,uh Hl0,uh HT7,uh Hcm,zsG _,zsG _,uh Hb7⟩
   case round =>
     obtain⟨k,t,ov',mv',vs',rfl,hk,hL,hT,hc,hmd,hct,hb⟩:=hrel;have hBr:B<=wr.heap.size:=by have:=hb.size;omega
     by_cases hkl:k<(W r).length
     · have hkl':(k:Int)<(W r).length:=by omega
       have hwy:(W r)[k]? = some ((W r).getD k 0):=by rw[zsE,zsF hkl];rfl
       have hyn:(W r).getD k 0<n:=hW r hr _ (List.mem_of_getElem? hwy);have hrk:=zaS hb (uh Hrn);obtain⟨b9,o9,rfl,hb9,hc9⟩:=zbf hrk (k:=k) (by rw[zam];exact hkl);rw[zbV hkl] at hc9;have HE:=zaa (ih ov' mv' vs' t ((W r).getD k 0) wr (by omega) hyn hL.inv hc hBr (zeY (uh HW) hb) hT);have Hst:=zaa (λt' (hp:TPost W n t ((W r).getD k 0) t')=>zns hL hwy hp);have Hb:=zaa hb;generalize (W r).getD k 0=y at *;clear hL hT hc hb hrk hwy;go_wp2_with fail;refine(uh HE).mono ?_;rintro e W9 ⟨⟨v9,rfl⟩,t',ov9,mv9,vs9,hp,hT9,hc9',hmd9,hct9,hb9'⟩;have hbx9:=hT9.box;have a3:W9.cell? ⟨vb,3,none⟩=some (.slice (some ⟨lb,0,none⟩) n n):=by unfold World.cell?;rw[hbx9];rfl
       have a5:W9.cell? ⟨vb,5,none⟩=some (.slice (some ⟨ib,0,none⟩) n n):=by unfold World.cell?;rw[hbx9];rfl
       have al:=hT9.low.cell hr;have ay:=hT9.low.cell hyn;have ai:=hT9.isO.cell hyn;have fl:=hT9.low.frozen r;have hyn':(y:Int)<n:=by omega
       have hls:=uh Hst t' hp;unfold zkP at hls;have hb99:=(uh Hb).trans hb9';have hlo:∀ x,x<n->t'.isO x=true->t'.low x<=2048:=λx hx ho=>by
         have h1:=(hp.inv.o3 x ho).2;have h2:=hp.inv.o4 x;have h3:=hc9'.un;omega
       have hir:t'.isO r=true:=by
         have h1:=hls.ir
         split at h1 <;> exact h1
       have hlr2:=hlo r hr hir
       cases hio:t'.isO y with
       | false =>
         rw[hio] at ai hls;rw[if_neg (by decide)] at hls;have Hls:=zaa hls;have HT9:=zaa hT9;have Hc9:=zaa hc9';have Hb99:=zaa hb99;clear hls hT9 hc9' hb99 hp hbx9 hlo;go_wp2;go_roundw
         case rel=>exact⟨k+1,t',ov9,mv9,vs9,by go_num,by omega,uh Hls,uh HT9,uh Hc9,by omega,by omega,uh Hb99⟩
         case measure=>simp[intOf];omega
       | true =>
         have hly:=hlo y hyn hio;rw[hio] at ai hls;rw[if_pos rfl] at hls;have hT10:=zoN hT9 r (min (t'.low r) (t'.low y));have hb10:Below B w (W9.setCell ⟨lb,r,none⟩ (.int .i64 ((min (t'.low r) (t'.low y):Nat):Int))):=hb99.setCell hT9.b3 _;have hc10:TCnt n { t' with low:=upN t'.low r (min (t'.low r) (t'.low y)) }:=⟨hc9'.un,hc9'.op,hc9'.md⟩;have Hls:=zaa hls;have HT10:=zaa hT10;have Hc10:=zaa hc10;have Hb10:=zaa hb10;have hmin:min ((t'.low r:Nat):Int) ((t'.low y:Nat):Int)=((min (t'.low r) (t'.low y):Nat):Int):=by omega
         clear hls hT9 hc9' hb99 hp hbx9 hT10 hb10 hc10 hlo;generalize hlrr:t'.low r=lr at *;generalize hlyy:t'.low y=ly at *;go_wp2_with fail
         go_region
         go_wp2;go_roundw
         case rel=>exact⟨k+1,_,ov9,mv9,vs9,by go_num,by omega,uh Hls,zaV (uh HT10) (zsY _ _).drew,uh Hc10,(show s.count+1+t'.made.length<=t'.count+s.made.length by omega),(show s.count+1<=t'.count by omega),(uh Hb10).drew⟩
         case measure=>simp[intOf];omega
     · obtain rfl:k=(W r).length:=by omega
       have hbx9:=hT.box;have a2:wr.cell? ⟨vb,2,none⟩=some (.slice (some ⟨mb,0,none⟩) n n):=by unfold World.cell?;rw[hbx9];rfl
       have a3:wr.cell? ⟨vb,3,none⟩=some (.slice (some ⟨lb,0,none⟩) n n):=by unfold World.cell?;rw[hbx9];rfl
       have al:=hT.low.cell hr;have am:=hT.met.cell hr;by_cases he:t.low r=t.met r
       · have hpc:=zk0 (uh HI) hL he;obtain⟨rest,ho,-⟩:=hL.opn;have hol:t.opn.length=s.opn.length+1+rest.length:=by rw[ho];simp;omega
         have hcop:=hc.op;have hcmd:=hc.md;have hcun:=hc.un;have HCl:=zaa (zqZ B vb (.slice (some ⟨tb,0,none⟩) n wc) n mb lb ib ov' mv' vs' t s.opn.length (by omega) (by omega) (by omega) (λx hx=>hL.inv.o5 x (hL.inv.o3 x ((hL.inv.o1 x).1 hx)).1) wr.drew hBr (zaV hT (zsY _ _).drew));have Hpc:=zaa hpc;have Hc:=zaa hc;have Hb:=zaa hb;clear hL hT hc hb hpc hbx9;rw[he] at al;generalize t.met r=q at *;go_wp2_with fail
         go_region
         go_wp2_with fail;refine(uh HCl).mono ?_;rintro e W9 ⟨⟨v9,rfl⟩,⟨ov9,mv9,vs9,hT9⟩,hb9⟩;have hT9:=zaa hT9;have hbf:=zaa ((uh Hb).drew.trans hb9);clear hb9;go_wp2
         go_end0
         refine⟨⟨_,rfl⟩,zgD t s.opn.length,ov9,mv9,vs9,uh Hpc,uh hT9,⟨(uh Hc).un,?_,?_⟩,?_,?_,uh hbf⟩
         · show (t.opn.take s.opn.length).length<=t.count;rw[zsV];omega
         · show (t.made ++ [t.opn.drop s.opn.length]).length<=t.count;simp;have:=hC'.md;omega
         · show s.count+(t.made ++ [t.opn.drop s.opn.length]).length<=t.count+s.made.length;simp;omega
         · show s.count<=t.count;omega
       · have hpo:=znq hL he;have he':¬ ((t.low r:Nat):Int)=(t.met r:Nat):=by omega
         have Hpo:=zaa hpo;have HT:=zaa hT;have Hc:=zaa hc;have Hb:=zaa hb;clear hL hT hc hb hpo hbx9;generalize t.met r=q at *;generalize t.low r=l at *;go_wp2_with fail
         go_region
         go_wp2
         go_end0
         exact⟨⟨_,rfl⟩,t,ov',mv',vs',uh Hpo,zaV (uh HT) (zsY _ _).drew,uh Hc,by omega,by omega,(uh Hb).drew⟩
 · exact zib B W vb _ n mb lb ib _ mv vs s r hr hI hC (by omega) w h
structure RingsAt (B:Nat) (w:World) (v:Value) (made:List (List Nat)):Prop where
 form:∃ vs,w.ownsRow B 50 1 v made.length vs/\∀ (i:Nat) (a:List Nat),made[i]? = some a->∃ (g c:Nat) (cs:Array Value),vs[i]? = some (.slice (some ⟨g,0,none⟩) a.length c)/\B<=g/\w.heap[g]? = some (.cells cs 3 (0,0))/\∀ j x:Nat,a[j]? = some x->cs[j]? = some (Value.int .i64 (x:Nat))
theorem zgM{v:Value}{made:List (List Nat)}(h:RingsAt B w v made)(hk:∀ k cs t,w.heap[k]? = some (.cells cs t (0,0))->(t=3\/t=50)->B<=k->w'.heap[k]? = w.heap[k]?):RingsAt B w' v made:=by
 obtain⟨vs,h1,h2⟩:=h.form;refine⟨vs,⟨h1.1,?_⟩,λi a ha=>?_⟩
 ·rcases h1.2 with h3 | ⟨g,cap,cur,hv,hg,hh,rest⟩
  ·exact .inl h3
  ·exact .inr ⟨g,cap,cur,hv,hg,(hk g _ _ hh (.inr rfl) hg).trans hh,rest⟩
 ·obtain⟨g,c,cs,h3,h4,h5,h6⟩:=h2 i a ha;exact⟨g,c,cs,h3,h4,(hk g _ _ h5 (.inl rfl) h4).trans h5,h6⟩
theorem zxE(w:World)(a b c d:Obj):((((w.alloc a).alloc b).alloc c).alloc d).heap[w.heap.size]? = some a/\((((w.alloc a).alloc b).alloc c).alloc d).heap[w.heap.size+1]? = some b/\((((w.alloc a).alloc b).alloc c).alloc d).heap[w.heap.size+1+1]? = some c/\((((w.alloc a).alloc b).alloc c).alloc d).heap[w.heap.size+1+1+1]? = some d/\Below w.heap.size w ((((w.alloc a).alloc b).alloc c).alloc d):=by
 have s1:(w.alloc a).heap.size=w.heap.size+1:=by simp
 have s2:((w.alloc a).alloc b).heap.size=w.heap.size+1+1:=by simp
 have s3:(((w.alloc a).alloc b).alloc c).heap.size=w.heap.size+1+1+1:=by simp
 have h1:=zsH w a;have h2:=zsH (w.alloc a) b;have h3:=zsH ((w.alloc a).alloc b) c;have h4:=zsH (((w.alloc a).alloc b).alloc c) d;rw[s1] at h2;rw[s2] at h3;rw[s3] at h4;refine⟨?_,?_,?_,h4,((((zsY _ _).alloc (zsG _) _).alloc (by omega) _).alloc (by omega) _).alloc (by omega) _⟩
 ·rw[zsZ _ _ _ (by omega),zsZ _ _ _ (by omega),zsZ _ _ _ (by omega)];exact h1
 ·rw[zsZ _ _ _ (by omega),zsZ _ _ _ (by omega)];exact h2
 ·rw[zsZ _ _ _ (by omega)];exact h3
theorem ziW{b t:Nat}{z:Value}(h:W.heap[b]? = some (.cells (madeCells #[z] n) t (0,0))):W.rowIs b t n (λ_=>z):=by
 obtain⟨c,h1,h2,h3⟩:=World.rowIs_made W z n t;have h4:=zsH W (.cells (madeCells #[z] n) t);rw[h1] at h4
 cases h4
 exact⟨_,h,h2,h3⟩
theorem zhN{vb mb lb ib:Nat}{wv:Value}(hx:W.heap[vb]? = some (.cells #[wv,.int .i64 0,.slice (some ⟨mb,0,none⟩) n n,.slice (some ⟨lb,0,none⟩) n n,.slice none 0 0,.slice (some ⟨ib,0,none⟩) n n,.slice none 0 0] 316 (0,0)))(hm:W.heap[mb]? = some (.cells (madeCells #[.int .i64 0] n) 3 (0,0)))(hl:W.heap[lb]? = some (.cells (madeCells #[.int .i64 0] n) 3 (0,0)))(hi:W.heap[ib]? = some (.cells (madeCells #[.bool false] n) 4 (0,0)))(hml:mb≠lb)(b1:B<=vb)(b2:B<=mb)(b3:B<=lb)(b4:B<=ib):TsV B W vb wv n mb lb ib (.slice none 0 0) (.slice none 0 0) [] ts0 :=
 ⟨hx,ziW hm,ziW hl,ziW hi,World.ownsRow_nil _ _ _ _,World.ownsRow_nil _ _ _ _,λi a h=>by simp[ts0] at h,hml,by simp[Value.ownBlock],by simp[Value.ownBlock],b1,b2,b3,b4⟩
theorem zjO(W:Nat->List Nat)(n tb wcp:Nat)(hn:n<=2048)(hW:∀ r,r<n->∀ y,y ∈ W r->y<n)(hWl:∀ r,(W r).length<=1048576)(w:World)(hWay:zjs w.heap.size w tb n W) :
 Calls Tryz.prog 196 #[.slice (some ⟨tb,0,none⟩) n wcp] w λe w'=>∃ v made,e=.returned v/\Rings W n made/\made.length<=n/\RingsAt w.heap.size w' v made/\Below w.heap.size w w':=by
 have hmk:=λw=>run_make_row' (P:=Tryz.prog) 50 3 (.int .i64 0) 8 Tryz.underlying50 zdB rfl .i64 .i64 n (by omega) (by omega) w;have hmb:=λw=>run_make_row' (P:=Tryz.prog) 69 4 (.bool false) 1 Tryz.underlying69 zts rfl .i64 .i64 n (by omega) (by omega) w;have HW:=zaa hWay;clear hWay;go_enter Tryz.func196,Tryz.ntmps196;go_wp2_with fail
 go_cut [3] (λs V=>∃ vb mb lb ib,s=.pointer (some ⟨vb,0,none⟩)/\TsV w.heap.size V vb (.slice (some ⟨tb,0,none⟩) n wcp) n mb lb ib (.slice none 0 0) (.slice none 0 0) [] ts0/\Below w.heap.size w V)
 case first =>
  go_region
  all_goals
   go_wp2_with fail
   go_meet
   first
    | (obtain ⟨x1, x2, x3, x4, x5⟩ := zxE w (.cells (madeCells #[.int .i64 0] n) 3) (.cells (madeCells #[.int .i64 0] n) 3) (.cells (madeCells #[.bool false] n) 4) (.cells #[.slice (some ⟨tb, 0, none⟩) n wcp, .int .i64 0, .slice (some ⟨w.heap.size, 0, none⟩) n n, .slice (some ⟨w.heap.size + 1, 0, none⟩) n n, .slice none 0 0, .slice (some ⟨w.heap.size + 1 + 1, 0, none⟩) n n, .slice none 0 0] 316)
       exact⟨w.heap.size+1+1+1,w.heap.size,w.heap.size+1,w.heap.size+1+1,rfl,zaV (zhN x4 x1 x2 x3 (by omega) (by omega) (by omega) (by omega) (by omega)) (zsY _ _).drew,x5.drew⟩)
    | (obtain ⟨x1, x2, x3, x4, x5⟩ := zxE w (.cells (madeCells #[.int .i64 0] n) 3) (.cells (madeCells #[.int .i64 0] n) 3) (.cells (madeCells #[.bool false] n) 4) (.cells #[.slice (some ⟨tb, 0, none⟩) n wcp, .int .i64 0, .slice (some ⟨w.heap.size + 1, 0, none⟩) n n, .slice (some ⟨w.heap.size, 0, none⟩) n n, .slice none 0 0, .slice (some ⟨w.heap.size + 1 + 1, 0, none⟩) n n, .slice none 0 0] 316)
       exact⟨w.heap.size+1+1+1,w.heap.size+1,w.heap.size,w.heap.size+1+1,rfl,zaV (zhN x4 x2 x1 x3 (by omega) (by omega) (by omega) (by omega) (by omega)) (zsY _ _).drew,x5.drew⟩)
    | (obtain ⟨x1, x2, x3, x4, x5⟩ := zxE w (.cells (madeCells #[.int .i64 0] n) 3) (.cells (madeCells #[.bool false] n) 4) (.cells (madeCells #[.int .i64 0] n) 3) (.cells #[.slice (some ⟨tb, 0, none⟩) n wcp, .int .i64 0, .slice (some ⟨w.heap.size, 0, none⟩) n n, .slice (some ⟨w.heap.size + 1 + 1, 0, none⟩) n n, .slice none 0 0, .slice (some ⟨w.heap.size + 1, 0, none⟩) n n, .slice none 0 0] 316)
       exact⟨w.heap.size+1+1+1,w.heap.size,w.heap.size+1+1,w.heap.size+1,rfl,zaV (zhN x4 x1 x3 x2 (by omega) (by omega) (by omega) (by omega) (by omega)) (zsY _ _).drew,x5.drew⟩)
    | (obtain ⟨x1, x2, x3, x4, x5⟩ := zxE w (.cells (madeCells #[.int .i64 0] n) 3) (.cells (madeCells #[.bool false] n) 4) (.cells (madeCells #[.int .i64 0] n) 3) (.cells #[.slice (some ⟨tb, 0, none⟩) n wcp, .int .i64 0, .slice (some ⟨w.heap.size + 1 + 1, 0, none⟩) n n, .slice (some ⟨w.heap.size, 0, none⟩) n n, .slice none 0 0, .slice (some ⟨w.heap.size + 1, 0, none⟩) n n, .slice none 0 0] 316)
       exact⟨w.heap.size+1+1+1,w.heap.size+1+1,w.heap.size,w.heap.size+1,rfl,zaV (zhN x4 x3 x1 x2 (by omega) (by omega) (by omega) (by omega) (by omega)) (zsY _ _).drew,x5.drew⟩)
    | (obtain ⟨x1, x2, x3, x4, x5⟩ := zxE w (.cells (madeCells #[.bool false] n) 4) (.cells (madeCells #[.int .i64 0] n) 3) (.cells (madeCells #[.int .i64 0] n) 3) (.cells #[.slice (some ⟨tb, 0, none⟩) n wcp, .int .i64 0, .slice (some ⟨w.heap.size + 1, 0, none⟩) n n, .slice (some ⟨w.heap.size + 1 + 1, 0, none⟩) n n, .slice none 0 0, .slice (some ⟨w.heap.size, 0, none⟩) n n, .slice none 0 0] 316)
       exact⟨w.heap.size+1+1+1,w.heap.size+1,w.heap.size+1+1,w.heap.size,rfl,zaV (zhN x4 x2 x3 x1 (by omega) (by omega) (by omega) (by omega) (by omega)) (zsY _ _).drew,x5.drew⟩)
    | (obtain ⟨x1, x2, x3, x4, x5⟩ := zxE w (.cells (madeCells #[.bool false] n) 4) (.cells (madeCells #[.int .i64 0] n) 3) (.cells (madeCells #[.int .i64 0] n) 3) (.cells #[.slice (some ⟨tb, 0, none⟩) n wcp, .int .i64 0, .slice (some ⟨w.heap.size + 1 + 1, 0, none⟩) n n, .slice (some ⟨w.heap.size + 1, 0, none⟩) n n, .slice none 0 0, .slice (some ⟨w.heap.size, 0, none⟩) n n, .slice none 0 0] 316)
       exact⟨w.heap.size+1+1+1,w.heap.size+1+1,w.heap.size+1,w.heap.size,rfl,zaV (zhN x4 x3 x2 x1 (by omega) (by omega) (by omega) (by omega) (by omega)) (zsY _ _).drew,x5.drew⟩)
 case rest =>
  clear hmk hmb;obtain⟨vb,mb,lb,ib,rfl,hT,hb⟩:=hcut;have HT:=zaa hT;have Hb:=zaa hb;clear hT hb;go_wp2
  go_loopw [19] (λx V=>∃ (k:Nat) (s:Ts) (ov mv:Value) (vs:List Value),x=.int .i64 k/\k<=n/\TTop W n k s/\TsV w.heap.size V vb (.slice (some ⟨tb,0,none⟩) n wcp) n mb lb ib ov mv vs s/\TCnt n s/\Below w.heap.size w V) (λx _=>n - (intOf x).toNat)
  case atStart=>exact⟨0,ts0,_,_,_,rfl,zsK _,znn W n,uh HT,⟨by show 0+unm (λ_=>0) n=n;rw[zl3];omega,zsG _,zsG _⟩,uh Hb⟩
  case round =>
   obtain⟨k,s,ov,mv,vs,rfl,hk,hP,hT,hc,hb⟩:=hrel;by_cases hlt:k<n
   ·have hlt':(k:Int)<n:=by omega
    have HE:=zaa (zhg w.heap.size W vb n mb lb ib tb wcp hn hW hWl n ov mv vs s k wr (by omega) hlt hP.inv hc hb.size (zeY (uh HW) hb) hT);have HP:=zaa hP;have Hbr:=zaa hb;clear hP hT hc hb HT Hb;go_wp2_with fail;refine(uh HE).mono ?_;rintro e W9 ⟨⟨v9,rfl⟩,t',ov9,mv9,vs9,hp,hT9,hc9,-,-,hb9⟩;have Hp:=zaa (zoM (uh HP) hp);have HT9:=zaa hT9;have Hc9:=zaa hc9;have Hb9:=zaa ((uh Hbr).trans hb9);clear hp hT9 hc9 hb9;go_wp2;go_roundw
    case rel=>exact⟨k+1,t',ov9,mv9,vs9,by go_num,by omega,uh Hp,uh HT9,uh Hc9,uh Hb9⟩
    case measure=>simp[intOf];omega
   ·obtain rfl:k=n:=by omega
    have hbx:=hT.box;have c6:wr.cell? ⟨vb,6,none⟩=some mv:=by unfold World.cell?;rw[hbx];rfl
    obtain⟨ma,mc,rfl⟩:=zaf hT.made;have Hend:=zaa (zrU hP);have hmd:=hc.md;have hun:=hc.un
    have Hr:Hid (RingsAt w.heap.size wr (.slice ma s.made.length mc) s.made):=zaa ⟨vs,hT.made,λi a ha=>by
     obtain⟨g,c,cs,h1,h2,-,-,-,h3,h4⟩:=hT.ring i a ha
     exact⟨g,c,cs,h1,h2,h3,h4⟩⟩
    have Hbr:=zaa hb;clear hP hT hc hb hbx HT Hb;go_wp2;go_ret;exact⟨_,s.made,rfl,uh Hend,by omega,uh Hr,uh Hbr⟩
end Go.Proofs.YtieciibnajeibaaGreatDoor

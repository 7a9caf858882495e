import Derived.Test.YtieciibnajeibaaGreatDoorKI
set_option maxHeartbeats 8000000
set_option maxRecDepth 100000
namespace Go.Proofs.YtieciibnajeibaaGreatDoor
open Go.RowKit Go.Maps
def byI(n:Int):List Int:=[n / 256,n % 256]
def txI(x:It):List Int:=byI x.1 ++ byI x.2.1 ++ byI x.2.2
def ziu(l:List It):List Int:=l.flatMap txI
theorem zoL(l:List It)(x:It):ziu (l ++ [x])=ziu l ++ txI x:=by unfold ziu;simp
theorem zgi(l:List It):(ziu l).length=l.length * 6:=by
 unfold ziu
 induction l with
 | nil=>rfl
 | cons x l ih=>rw[List.flatMap_cons,zsI,ih,List.length_cons];simp[txI,byI];omega
def smI(x:It):Prop:=(0<=x.1/\x.1<65536)/\(0<=x.2.1/\x.2.1<65536)/\(0<=x.2.2/\x.2.2<65536)
theorem info5:(Tryz.prog.info? 5).map (λi=>(i.zero,i.size,i.bytes))=some (some (.int .u8 0),1,1):=by kernel_rfl
theorem und5:Tryz.prog.underlying 5=some (.int .u8):=by kernel_rfl
theorem und9:Tryz.prog.underlying 9=some .string:=by kernel_rfl
theorem zoK:Tryz.prog.underlying 266=some (.array 3 3):=by kernel_rfl
theorem idx3(a b c:Int)(W:World):(Instr.index 266 (.agg #[.int .i64 a,.int .i64 b,.int .i64 c]) (.int .i64 0)).run Tryz.prog W=.ok (.int .i64 a) W/\(Instr.index 266 (.agg #[.int .i64 a,.int .i64 b,.int .i64 c]) (.int .i64 1)).run Tryz.prog W=.ok (.int .i64 b) W/\(Instr.index 266 (.agg #[.int .i64 a,.int .i64 b,.int .i64 c]) (.int .i64 2)).run Tryz.prog W=.ok (.int .i64 c) W :=
 ⟨by simp[Instr.index,run_underlying zoK,asIntOf,go_sem],by simp[Instr.index,run_underlying zoK,asIntOf,go_sem],by simp[Instr.index,run_underlying zoK,asIntOf,go_sem]⟩
def zdF(l:List Int):List Value:=l.map (Value.int .u8)
theorem znt(a:Option Addr)(c:Nat)(l:List It)(hl:l.length<=1000000000)(hs:∀ x,x ∈ l->smI x)(w:World)(h:zcy w.heap.size w a l) :
 Calls Tryz.prog 133 #[.slice a l.length c] w λe w'=>e=.returned (.string (strOfNums (ziu l)))/\Below w.heap.size w w':=by
 obtain⟨i0,hi0,hz0,hz1,hz2⟩:=zah info5;obtain⟨w1,hmk,hown,hg⟩:=run_make_own (P:=Tryz.prog) w w.heap.size 133 5 i0 (.int .u8 0) 1 Tryz.underlying133 hi0 hz0 hz1 .i64 .i64 (l.length * 6) (by rw[hz2];omega) (by unfold maxLen;omega) (zsG _)
 push_cast at hmk
 have hw:IntKind.i64.wrap (6 * (l.length:Int))=(l.length:Int) * 6:=by rw[IntKind.wrap_i64];omega
 have Hown:=zaa hown;have Hg:=zaa hg;have H:=zaa h;clear hown hg h;go_enter Tryz.func133,Tryz.ntmps133;go_wp2_with fail
 go_loopw [3,14] (λv x wr=>∃ (j:Nat),x=.int .i64 (j:Int)/\j<=l.length/\wr.ownsRow w.heap.size 5 1 v (j * 6) (zdF (ziu (l.take j)))/\Below w.heap.size w wr) (λ_ x _=>l.length - (intOf x).toNat)
 case atStart=>exact⟨0,rfl,zsK _,by simpa [ziu,zdF] using uh Hown,(zsY _ _).grown (uh Hg) (zsG _) (λj hj=>by cases hj)⟩
 case round =>
  obtain⟨j,rfl,hj,hrow,hb⟩:=hrel;have hsz:=hb.size;clear Hown Hg hmk;by_cases hjl:j<l.length
  ·have hjlI:(j:Int)<(l.length:Int):=by omega
   obtain⟨b,off,rfl,hbB,x0,x1,x2⟩:=zby (zaw hb (uh H)) hjl;have hsm:=hs _ (zbR hjl);have htk:ziu (l.take (j+1))=ziu (l.take j) ++ txI (l.getD j it0):=by
    rw[<- zoL,zsE,zsF hjl,zsU,zsF hjl];rfl
   have htl:(ziu (l.take j)).length=j * 6:=by rw[zgi,zsV];omega
   generalize ziu (l.take j)=T at *;generalize l.getD j it0=x at *;obtain⟨xp,xd,xk⟩:=x;obtain⟨⟨p0,p1⟩,⟨d0,d1⟩,⟨k0,k1⟩⟩:=hsm;simp only at p0 p1 d0 d1 k0 k1 x0 x1 x2;have Hrow:=zaa hrow;have Hb:=zaa hb;have Htk:=zaa htk;clear hrow hb htk;go_wp2_with fail
   go_loopw [3,25] (λv x wr'=>∃ (k:Nat),x=.int .i64 (k:Int)/\k<=3/\wr'.ownsRow w.heap.size 5 1 v (j * 6+2 * k) (zdF (T ++ (txI (xp,xd,xk)).take (2 * k)))/\Below w.heap.size w wr') (λ_ x _=>3 - (intOf x).toNat)
   case atStart=>exact⟨0,rfl,zsK _,by simpa using (uh Hrow).alloc _,(uh Hb).alloc hsz _⟩
   case round =>
    obtain⟨k,rfl,hk,hrow2,hb2⟩:=hrel;have hsz2:=hb2.size;clear Hrow Hb x0 x1 x2;by_cases hk3:k<3
    ·have hk3I:(k:Int)<3:=by omega
     have Hrow2:=zaa hrow2;have Hb2:=zaa hb2;clear hrow2 hb2;rcases(show k=0\/k=1\/k=2 by omega) with rfl | rfl | rfl
     ·have hsh:IntKind.u8.wrap (xp / 256)=xp / 256:=by rw[IntKind.wrap_u8];omega
      have hix:=λW=>(idx3 xp xd xk W).1;have hby:IntKind.u8.wrap xp=xp % 256:=IntKind.wrap_u8 _;go_wp2_with (at_builtin;refine wpList_append_own _ rfl _ _ 133 rfl w.heap.size 5 i0 (.int .u8 0) 1 1 Tryz.underlying133 hi0 hz0 hz1 hz2 rfl (by decide) _ _ _ rfl ((uh Hrow2).alloc (.cells #[.int .u8 (xp / 256),.int .u8 (xp % 256)] 5)) ⟨wr.heap.size,0,none⟩ 2 2 [.int .u8 (xp / 256),.int .u8 (xp % 256)] rfl rfl ?qc2 ?qc3 ?qc4 ?qc5 ?qc6 ?_)
      case qc2=>intro i u hi;exact World.news_of_block (zsH wr _) i u hi
      case qc3=>intro u hu;simp at hu;rcases hu with rfl | rfl <;> rfl
      case qc4=>unfold maxLen;omega
      case qc5=>omega
      case qc6=>simp;omega
      intro v' w3 hown3 hg3 hnil3;have hown4:w3.ownsRow w.heap.size 5 1 v' (j * 6+2 * (0+1)) (zdF (T ++ (txI (xp,xd,xk)).take (2 * (0+1)))):=by simpa [txI,byI,zdF] using hown3
      have hb3:=((uh Hb2).alloc hsz2 (.cells #[.int .u8 (xp / 256),.int .u8 (xp % 256)] 5)).grown hg3 (by simp;omega) (λi hi=>((uh Hrow2).lt i hi).1);have Hown3:=zaa hown4;have Hb3:=zaa hb3;clear hown3 hown4 hg3 hb3 Hrow2 Hb2 hnil3;go_wp2;go_roundw
      case rel=>exact⟨0+1,by go_num,by omega,uh Hown3 ,uh Hb3⟩
      case measure=>simp[intOf]
     ·have hsh:IntKind.u8.wrap (xd / 256)=xd / 256:=by rw[IntKind.wrap_u8];omega
      have hix:=λW=>(idx3 xp xd xk W).2.1;have hby:IntKind.u8.wrap xd=xd % 256:=IntKind.wrap_u8 _;go_wp2_with (at_builtin;refine wpList_append_own _ rfl _ _ 133 rfl w.heap.size 5 i0 (.int .u8 0) 1 1 Tryz.underlying133 hi0 hz0 hz1 hz2 rfl (by decide) _ _ _ rfl ((uh Hrow2).alloc (.cells #[.int .u8 (xd / 256),.int .u8 (xd % 256)] 5)) ⟨wr.heap.size,0,none⟩ 2 2 [.int .u8 (xd / 256),.int .u8 (xd % 256)] rfl rfl ?qc2 ?qc3 ?qc4 ?qc5 ?qc6 ?_)
      case qc2=>intro i u hi;exact World.news_of_block (zsH wr _) i u hi
      case qc3=>intro u hu;simp at hu;rcases hu with rfl | rfl <;> rfl
      case qc4=>unfold maxLen;omega
      case qc5=>omega
      case qc6=>simp;omega
      intro v' w3 hown3 hg3 hnil3;have hown4:w3.ownsRow w.heap.size 5 1 v' (j * 6+2 * (1+1)) (zdF (T ++ (txI (xp,xd,xk)).take (2 * (1+1)))):=by simpa [txI,byI,zdF] using hown3
      have hb3:=((uh Hb2).alloc hsz2 (.cells #[.int .u8 (xd / 256),.int .u8 (xd % 256)] 5)).grown hg3 (by simp;omega) (λi hi=>((uh Hrow2).lt i hi).1);have Hown3:=zaa hown4;have Hb3:=zaa hb3;clear hown3 hown4 hg3 hb3 Hrow2 Hb2 hnil3;go_wp2;go_roundw
      case rel=>exact⟨1+1,by go_num,by omega,uh Hown3 ,uh Hb3⟩
      case measure=>simp[intOf]
     ·have hsh:IntKind.u8.wrap (xk / 256)=xk / 256:=by rw[IntKind.wrap_u8];omega
      have hix:=λW=>(idx3 xp xd xk W).2.2;have hby:IntKind.u8.wrap xk=xk % 256:=IntKind.wrap_u8 _;go_wp2_with (at_builtin;refine wpList_append_own _ rfl _ _ 133 rfl w.heap.size 5 i0 (.int .u8 0) 1 1 Tryz.underlying133 hi0 hz0 hz1 hz2 rfl (by decide) _ _ _ rfl ((uh Hrow2).alloc (.cells #[.int .u8 (xk / 256),.int .u8 (xk % 256)] 5)) ⟨wr.heap.size,0,none⟩ 2 2 [.int .u8 (xk / 256),.int .u8 (xk % 256)] rfl rfl ?qc2 ?qc3 ?qc4 ?qc5 ?qc6 ?_)
      case qc2=>intro i u hi;exact World.news_of_block (zsH wr _) i u hi
      case qc3=>intro u hu;simp at hu;rcases hu with rfl | rfl <;> rfl
      case qc4=>unfold maxLen;omega
      case qc5=>omega
      case qc6=>simp;omega
      intro v' w3 hown3 hg3 hnil3;have hown4:w3.ownsRow w.heap.size 5 1 v' (j * 6+2 * (2+1)) (zdF (T ++ (txI (xp,xd,xk)).take (2 * (2+1)))):=by simpa [txI,byI,zdF] using hown3
      have hb3:=((uh Hb2).alloc hsz2 (.cells #[.int .u8 (xk / 256),.int .u8 (xk % 256)] 5)).grown hg3 (by simp;omega) (λi hi=>((uh Hrow2).lt i hi).1);have Hown3:=zaa hown4;have Hb3:=zaa hb3;clear hown3 hown4 hg3 hb3 Hrow2 Hb2 hnil3;go_wp2;go_roundw
      case rel=>exact⟨2+1,by go_num,by omega,uh Hown3 ,uh Hb3⟩
      case measure=>simp[intOf]
    ·obtain rfl:k=3:=by omega
     have hk3I:¬ ((3:Nat):Int)<3:=by omega
     have hfin:wr.ownsRow w.heap.size 5 1 u3 ((j+1) * 6) (zdF (ziu (l.take (j+1)))):=by
      rw[uh Htk];have e:(j+1) * 6=j * 6+2 * 3:=by omega
      rw[e];simpa [txI,byI] using hrow2
     have Hfin:=zaa hfin;have Hb2:=zaa hb2;clear hrow2 hb2 hfin;go_wp2;go_roundw
     case rel=>exact⟨j+1,by go_num,by omega,uh Hfin,uh Hb2⟩
     case measure=>simp[intOf];omega
  ·obtain rfl:j=l.length:=by omega
   rw[zsN] at hrow;have hjlI:¬ ((l.length:Nat):Int)<(l.length:Int):=by omega
   have Hb:=zaa hb;rcases hrow.2 with ⟨e,h0⟩ | ⟨g,cap,cur,e,hg1,hg2,hg3⟩
   ·obtain rfl:l=[]:=by cases l with
     | nil=>rfl
     | cons x l=>simp at h0
    subst e;have hcv:=run_convert_bytes_nil (P:=Tryz.prog) wr 133 5 Tryz.underlying133 und5 0 0 9 und9;clear hrow hb;go_wp2;go_ret;exact⟨rfl,uh Hb⟩
   ·have hcells:=hrow.cells (g:=g) (by rw[e];rfl);subst e
    have hcv:=run_convert_bytes_arg (P:=Tryz.prog) wr 133 5 Tryz.underlying133 und5 g 0 (l.length * 6) cap (ziu l) (zgi l) (λi hi=>by
     have:=hcells i (.int .u8 ((ziu l).getD i 0)) (by
      have:i<(ziu l).length:=by rw[zgi];exact hi
      simp[zdF,List.getD_eq_getElem?_getD,List.getElem?_eq_getElem this])
     rwa [show (⟨g,0,none⟩:Addr).add i=⟨g,0+i,none⟩ by unfold Addr.add;split <;> simp_all] at this) 9 und9
    clear hrow hb hg1 hg2 hg3 hcells;go_wp2;go_ret;exact⟨rfl,uh Hb⟩
def tbI(l:List It):List UInt8:=(ziu l).map λn=>UInt8.ofNat n.toNat
theorem zvf(l:List It):strOfNums (ziu l)=Wk.bs (tbI l):=rfl
theorem zgE(l:List It):(tbI l).length=l.length * 6:=by unfold tbI;rw[List.length_map,zgi]
theorem zlQ{a b:Int}(ha:0<=a/\a<65536)(hb:0<=b/\b<65536)(h:(byI a).map (λn=>UInt8.ofNat n.toNat)=(byI b).map (λn=>UInt8.ofNat n.toNat)):a=b:=by
 simp only[byI,List.map_cons,List.map_nil,List.cons.injEq,and_true] at h;obtain⟨h1,h2⟩:=h;have e1:=congrArg UInt8.toNat h1;have e2:=congrArg UInt8.toNat h2;simp only[UInt8.toNat_ofNat'] at e1 e2;omega
theorem zva{x y:It}(hx:smI x)(hy:smI y)(h:(txI x).map (λn=>UInt8.ofNat n.toNat)=(txI y).map (λn=>UInt8.ofNat n.toNat)):x=y:=by
 obtain⟨x1,x2,x3⟩:=x;obtain⟨y1,y2,y3⟩:=y;obtain⟨a1,a2,a3⟩:=hx;obtain⟨b1,b2,b3⟩:=hy;simp only at a1 a2 a3 b1 b2 b3;simp only[txI,byI,List.map_cons,List.map_nil,List.cons_append,List.nil_append,List.cons.injEq,and_true] at h;obtain⟨h1,h2,h3,h4,h5,h6⟩:=h;have e1:=zlQ a1 b1 (by simp[byI,h1,h2]);have e2:=zlQ a2 b2 (by simp[byI,h3,h4]);have e3:=zlQ a3 b3 (by simp[byI,h5,h6]);rw[e1,e2,e3]
theorem zk2:∀ {l m:List It},(∀ x,x ∈ l->smI x)->(∀ x,x ∈ m->smI x)->tbI l=tbI m->l=m
 | [],[],_,_,_=>rfl
 | [],y::m,_,_,h=>by have:=congrArg List.length h;rw[zgE,zgE] at this;simp at this
 | x::l,[],_,_,h=>by have:=congrArg List.length h;rw[zgE,zgE] at this;simp at this
 | x::l,y::m,h1,h2,h=>by
   have e:∀ (z:It) (k:List It),tbI (z::k)=(txI z).map (λn=>UInt8.ofNat n.toNat) ++ tbI k:=λz k=>by
    unfold tbI ziu;rw[List.flatMap_cons,List.map_append]
   rw[e,e] at h;obtain⟨e1,e2⟩:=List.append_inj h (by simp[txI,byI]);rw[zva (h1 x (by simp)) (h2 y (by simp)) e1,zk2 (λz hz=>h1 z (by simp[hz])) (λz hz=>h2 z (by simp[hz])) e2]
def TxM(w:World)(b:Nat)(ks:List (List UInt8)):Prop:=∃ D:DataW Unit,w.ownsMap Tryz.prog 9 (plainElem Tryz.prog 3) b ks.length D/\∀ s,Maps.has D (.string s)=decide (s ∈ ks)/\D.atKey (.string s) (.lit (.int .i64 0))=.lit (.int .i64 (Wk.posB ks s))
theorem zuu{w:World}{b:Nat}{ks:List (List UInt8)}(h:TxM w b ks):b<w.heap.size:=by obtain⟨D,h,-⟩:=h;exact h.lt
theorem zhM{w w':World}{b:Nat}{ks:List (List UInt8)}(h:TxM w b ks)(e:w'.heap[b]? = w.heap[b]?):TxM w' b ks:=by
 obtain⟨D,⟨es,c,hh,rr⟩,h2⟩:=h;exact⟨D,⟨es,c,e.trans hh,rr⟩,h2⟩
theorem zbG{w:World}{b:Nat}{ks:List (List UInt8)}(h:TxM w b ks){cs:Array Value}{t:TypeId}{f:Nat × Nat}:w.heap[b]?≠some (.cells cs t f):=by
 obtain⟨D,⟨es,c,hh,rr⟩,h2⟩:=h;rw[hh];intro e;cases e
theorem zrT{w:World}{b:Nat}{ks:List (List UInt8)}(h:TxM w b ks)(s:List UInt8)(hs:s.length<=maxLen):(Instr.lookup 89 (.map (some b)) (.string (Wk.bs s)) true).run Tryz.prog w=.ok (.tuple #[.int .i64 (Wk.posB ks s),.bool (decide (s ∈ ks))]) w:=by
 obtain⟨D,h1,h2⟩:=h;obtain⟨v,ps,hrun,hv⟩:=h1.look_ok Wk.law9 Tryz.underlying89 (Wk.zero3 _) (plainElem_int Tryz.underlying3 (by decide)) (Wk.keyS s hs);obtain⟨c,rfl,hc,hwc⟩:=plainElem_int_inv Tryz.underlying3 hv;rw[hrun];have:=(h2 s).2;simp only[Prod.mk.injEq] at hc;rw[hc.1] at this;rw[(h2 s).1];simp only[DataW.lit.injEq,Lit.int.injEq,true_and] at this;rw[this]
theorem zps{ks:List (List UInt8)}{s r:List UInt8}(hs:s ∉ ks):Wk.posB (ks ++ [s]) r=if r=s then(ks.length:Int) else Wk.posB ks r:=by
 unfold Wk.posB;by_cases e:r=s
 ·subst e;rw[if_pos rfl,if_pos (by simp),List.idxOf_append,if_neg hs];simp
 ·rw[if_neg e];by_cases hr:r ∈ ks
  ·rw[if_pos hr,if_pos (by simp[hr]),List.idxOf_append,if_pos hr]
  ·rw[if_neg hr,if_neg (by simp[hr,e])]
theorem zu8{w:World}{b:Nat}{ks:List (List UInt8)}(h:TxM w b ks)(hn:ks.length<1048576)(s:List UInt8)(hs:s.length<=maxLen)(hnew:s ∉ ks):∃ w',(Instr.mapUpdate 89 (.map (some b)) (.string (Wk.bs s)) (.int .i64 (ks.length:Int))).run Tryz.prog w=.ok () w'/\TxM w' b (ks ++ [s])/\w.grownBy w' (some b):=by
 obtain⟨D,h1,h2⟩:=h;obtain⟨w',hrun,hown,hg⟩:=h1.update Wk.law9 Tryz.underlying89 (by unfold maxLen;omega) (Wk.keyS s hs) (plainElem_int Tryz.underlying3 (a:=(ks.length:Int)) (WalkArith.wf_i64 (by omega)));refine⟨w',hrun,⟨_,by rw[zsI];exact hown,λr=>?_⟩,hg⟩;rw[zps hnew];by_cases e:r=s
 ·subst e;rw[if_pos rfl];refine⟨?_,atKey_put_same h1.isMap (show WideAt.IsKeyLit (.string r) from trivial) _ _⟩;rw[has_put_same h1.isMap (show WideAt.IsKeyLit (.string r) from trivial)];simp
 ·rw[if_neg e];have ne:(Lit.string r)≠.string s:=λe'=>e (by simpa using e');refine⟨?_,(atKey_put_other ne _ _).trans (h2 r).2⟩;rw[has_put_other ne,(h2 r).1];simp[e]
theorem zu9(w:World):TxM (w.alloc (.map #[] 0)) w.heap.size []:=⟨.map [],World.ownsMap_made _ _ _ _,λ_=>⟨rfl,rfl⟩⟩
def zhG(R:Nat->Prop)(w:World)(a:Option Addr)(l:List It):Prop :=
 l=[]\/∃ b off,a=some ⟨b,off,none⟩/\R b/\∀ j,j<l.length->w.cell? ⟨b,off+j * 3,none⟩=some (.int .i64 (l.getD j it0).1)/\w.cell? ⟨b,off+j * 3+1,none⟩=some (.int .i64 (l.getD j it0).2.1)/\w.cell? ⟨b,off+j * 3+2,none⟩=some (.int .i64 (l.getD j it0).2.2)
theorem zi5{R:Nat->Prop}{w w':World}{a:Option Addr}{l:List It}(h:zhG R w a l)(hf:Fr (λk=>¬ R k) w w'):zhG R w' a l:=by
 rcases h with h | ⟨b,off,h1,h2,h3⟩
 ·exact .inl h
 ·exact .inr ⟨b,off,h1,h2,λj hj=>⟨zbp hf h2 (h3 j hj).1,zbp hf h2 (h3 j hj).2.1,zbp hf h2 (h3 j hj).2.2⟩⟩
theorem znZ{R R':Nat->Prop}{w:World}{a:Option Addr}{l:List It}(h:zhG R w a l)(hR:∀ k,R k->R' k):zhG R' w a l:=by
 rcases h with h | ⟨b,off,h1,h2,h3⟩
 ·exact .inl h
 ·exact .inr ⟨b,off,h1,hR _ h2,h3⟩
theorem zn0{R:Nat->Prop}{w:World}{a:Option Addr}{l:List It}(h:zhG R w a l)(hR:∀ k,R k->k<w.heap.size):zcy w.heap.size w a l:=by
 rcases h with h | ⟨b,off,h1,h2,h3⟩
 ·exact .inl h
 ·exact .inr ⟨b,off,h1,hR _ h2,h3⟩
def zhs(R:Nat->Prop)(w:World)(vs:List Value)(sts:List (List It)):Prop:=vs.length=sts.length/\∀ i,i<sts.length->∃ a c,vs[i]? = some (.slice a (sts.getD i []).length c)/\zhG R w a (sts.getD i [])
def zht(R:Nat->Prop)(w:World)(vs:List Value)(nxs:List (List Int)):Prop:=vs.length=nxs.length/\∀ i,i<nxs.length->∃ a c,vs[i]? = some (.slice a (nxs.getD i []).length c)/\zkL R w a (nxs.getD i [])
theorem zeb{R:Nat->Prop}{w w':World}{vs:List Value}{sts:List (List It)}(h:zhs R w vs sts)(hf:Fr (λk=>¬ R k) w w'):zhs R w' vs sts:=⟨h.1,λi hi=>by
 obtain⟨a,c,h1,h2⟩:=h.2 i hi
 exact⟨a,c,h1,zi5 h2 hf⟩⟩
theorem zhP{R R':Nat->Prop}{w:World}{vs:List Value}{sts:List (List It)}(h:zhs R w vs sts)(hR:∀ k,R k->R' k):zhs R' w vs sts:=⟨h.1,λi hi=>by
 obtain⟨a,c,h1,h2⟩:=h.2 i hi
 exact⟨a,c,h1,znZ h2 hR⟩⟩
theorem zef{R:Nat->Prop}{w w':World}{vs:List Value}{nxs:List (List Int)}(h:zht R w vs nxs)(hf:Fr (λk=>¬ R k) w w'):zht R w' vs nxs:=⟨h.1,λi hi=>by
 obtain⟨a,c,h1,h2⟩:=h.2 i hi
 exact⟨a,c,h1,ziL h2 hf⟩⟩
theorem zhY{R R':Nat->Prop}{w:World}{vs:List Value}{nxs:List (List Int)}(h:zht R w vs nxs)(hR:∀ k,R k->R' k):zht R' w vs nxs:=⟨h.1,λi hi=>by
 obtain⟨a,c,h1,h2⟩:=h.2 i hi;refine⟨a,c,h1,?_⟩;rcases h2 with h2 | ⟨b,off,g1,g2,g3⟩
 ·exact .inl h2
 ·exact .inr ⟨b,off,g1,hR _ g2,g3⟩⟩
theorem znu{R:Nat->Prop}{w:World}{vs:List Value}{sts:List (List It)}(h:zhs R w vs sts){a:Option Addr}{c:Nat}{l:List It}(hl:zhG R w a l):zhs R w (vs ++ [.slice a l.length c]) (sts ++ [l]):=by
 refine⟨by simp[h.1],λi hi=>?_⟩;by_cases e:i<sts.length
 ·obtain⟨a',c',h1,h2⟩:=h.2 i e;have e2:(sts ++ [l]).getD i []=sts.getD i []:=by rw[zsE,zsE,List.getElem?_append_left e]
  rw[e2];exact⟨a',c',by rw[List.getElem?_append_left (by rw[h.1];exact e)];exact h1,h2⟩
 ·obtain rfl:i=sts.length:=by simp at hi;omega
  have e2:(sts ++ [l]).getD sts.length []=l:=by simp[List.getD_eq_getElem?_getD]
  rw[e2];exact⟨a,c,by rw[<- h.1];simp,hl⟩
structure BdS (R:Nat->Prop) (B0 B cb gb tb bb mb:Nat) (G:Gm) (kers sts:List (List It)) (nxs:List (List Int)) (cnt:Nat) (vS vN:Value) (svs nvs:List Value) (w:World):Prop where
 box:w.heap[bb]? = some (.cells #[.pointer (some ⟨cb,0,none⟩),vS,vN,.map (some mb),.int .i64 (cnt:Int)] 91 (0,0))
 cl:ClB R B w cb gb tb G
 rt:RsT R w G tb
 rl:∀ k,R k->k<w.heap.size
 met:TxM w mb (kers.map tbI)
 len:kers.length=sts.length
 rowS:w.ownsRow B0 27 1 vS sts.length svs
 stS:zhs R w svs sts
 rowN:w.ownsRow B0 50 1 vN nxs.length nvs
 stN:zht R w nvs nxs
 nS:∀ k,vS.ownBlock=some k->¬ R k
 nN:∀ k,vN.ownBlock=some k->¬ R k
 nR:¬ R bb/\¬ R mb
 lo:B0<=bb/\B0<=mb/\B0<=tb/\B0<=w.heap.size
def BdF(bb mb tb:Nat)(vS vN:Value)(k:Nat):Prop:=k=tb\/k=bb\/k=mb\/vS.ownBlock=some k\/vN.ownBlock=some k
section
variable {R:Nat->Prop} {B0 B cb gb tb bb mb:Nat} {G:Gm} {kers sts:List (List It)} {nxs:List (List Int)} {cnt:Nat} {vS vN:Value} {svs nvs:List Value} {w w':World}
theorem zaC{O:Nat->Prop}{e s n:Nat}{v:Value}{xs:List Value}(h:w.ownsRow B0 e s v n xs)(hf:Fr O w w')(hO:∀ k,v.ownBlock=some k->¬ O k):w'.ownsRow B0 e s v n xs:=by
 refine⟨h.1,?_⟩;rcases h.2 with h9 | ⟨g,cap,cur,e1,e2,e3,e4⟩
 ·exact .inl h9
 ·exact .inr ⟨g,cap,cur,e1,e2,(hf.2.1 g (zsO.1 e3).1 (hO g (by rw[e1];rfl))).trans e3,e4⟩
theorem zaH{e s n:Nat}{v:Value}{xs:List Value}(h:w.ownsRow B0 e s v n xs){k:Nat}(hk:v.ownBlock=some k):B0<=k/\∃ cs,w.heap[k]? = some (.cells cs e (0,0)):=by
 rcases h.2 with ⟨rfl,_⟩ | ⟨g,cap,cur,rfl,hg,hg2,_⟩
 ·simp[Value.ownBlock] at hk
 ·have e:g=k:=by simpa [Value.ownBlock] using hk
  subst e;exact⟨hg,cur,hg2⟩
theorem zuT(h:BdS R B0 B cb gb tb bb mb G kers sts nxs cnt vS vN svs nvs w)(hf:Fr (λk=>k=tb) w w'){R':Nat->Prop}(hcl:ClB R' B w' cb gb tb G)(hrt:RsT R' w' G tb)(h1:∀ k,R k->R' k)(h2:∀ k,R' k->R k\/w.heap.size<=k)(h3:∀ k,R' k->k<w'.heap.size):BdS R' B0 B cb gb tb bb mb G kers sts nxs cnt vS vN svs nvs w':=by
 obtain⟨hRt,tcs,htb,-⟩:=h.rt;have htl:=(zsO.1 htb).1;have hbl:=(zsO.1 h.box).1;have hml:=zuu h.met;have hfR:Fr (λk=>¬ R k) w w':=zaj hf (λk _ e hR=>hRt (e▸hR));have hbt:bb≠tb:=zav h.box htb (by decide);have hmt:mb≠tb:=λe=>zbG h.met (e▸htb);have hS:∀ k,vS.ownBlock=some k->k≠tb/\k<w.heap.size:=λk hk=>by
  obtain⟨-,cs,h9⟩:=zaH h.rowS hk;exact⟨zav h9 htb (by decide),(zsO.1 h9).1⟩
 have hN:∀ k,vN.ownBlock=some k->k≠tb/\k<w.heap.size:=λk hk=>by
  obtain⟨-,cs,h9⟩:=zaH h.rowN hk;exact⟨zav h9 htb (by decide),(zsO.1 h9).1⟩
 exact⟨(hf.2.1 bb hbl hbt).trans h.box,hcl,hrt,h3,zhM h.met (hf.2.1 mb hml hmt),h.len,zaC h.rowS hf (λk hk=>(hS k hk).1),zhP (zeb h.stS hfR) h1,zaC h.rowN hf (λk hk=>(hN k hk).1),zhY (zef h.stN hfR) h1,
  λk hk hR=>(h2 k hR).elim (h.nS k hk) (λh9=>by have:=(hS k hk).2;omega),λk hk hR=>(h2 k hR).elim (h.nN k hk) (λh9=>by have:=(hN k hk).2;omega),
  ⟨λhR=>(h2 _ hR).elim h.nR.1 (λh9=>by omega),λhR=>(h2 _ hR).elim h.nR.2 (λh9=>by omega)⟩,h.lo.1,h.lo.2.1,h.lo.2.2.1,zsy h.lo.2.2.2 hf.1⟩
theorem zfu(h:BdS R B0 B cb gb tb bb mb G kers sts nxs cnt vS vN svs nvs w)(hb:Below w.heap.size w w'):BdS R B0 B cb gb tb bb mb G kers sts nxs cnt vS vN svs nvs w' :=
 zuT h (zae hb) (zbb h.cl (zae hb)) (zbC h.rt (zae hb)) (λ_ h=>h) (λ_ h=>.inl h) (λk hk=>by have:=h.rl k hk;have:=hb.size;omega)
theorem zrm(h:BdS R B0 B cb gb tb bb mb G kers sts nxs cnt vS vN svs nvs w){b:Nat}(hlt:b<w.heap.size)(h1:b≠tb)(h2:b≠bb)(h3:b≠mb)(h4:vS.ownBlock≠some b)(h5:vN.ownBlock≠some b):BdS (λk=>R k\/k=b) B0 B cb gb tb bb mb G kers sts nxs cnt vS vN svs nvs w :=
 ⟨h.box,zgw h.cl (λ_ h=>.inl h),zmf h.rt (λ_ h=>.inl h) (λh9=>h9.elim h.rt.1 (λe=>h1 e.symm)),λk hk=>hk.elim (h.rl k) (λe=>e▸hlt),h.met,h.len,h.rowS,zhP h.stS (λ_ h=>.inl h),h.rowN,zhY h.stN (λ_ h=>.inl h),λk hk hR=>hR.elim (h.nS k hk) (λe=>h4 (e▸hk)),λk hk hR=>hR.elim (h.nN k hk) (λe=>h5 (e▸hk)),⟨λhR=>hR.elim h.nR.1 (λe=>h2 e.symm),λhR=>hR.elim h.nR.2 (λe=>h3 e.symm)⟩,h.lo⟩
end
end Go.Proofs.YtieciibnajeibaaGreatDoor

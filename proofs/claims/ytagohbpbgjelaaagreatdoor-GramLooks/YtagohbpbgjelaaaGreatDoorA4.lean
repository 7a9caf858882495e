/- The document's prod. -/
import Derived.Test.YtagohbpbgjelaaaGreatDoorA1
import Derived.Test.YtagohbpbgjelaaaGreatDoorP0
namespace Go.Proofs.YtagohbpbgjelaaaGreatDoor
open Go.RowKit

def symsTo (n:Nat) (row:List Int) (k:Nat):Prop:=∀ j,j<k→1≤row.getD j 0∧row.getD j 0<n
instance (n:Nat) (row:List Int) (k:Nat):Decidable (symsTo n row k):=by unfold symsTo;infer_instance
def prodB (nk nr:Nat) (p:Pd):Bool:=decide (0≤p.left∧p.left<nr∧p.right.length≤64∧0≤p.level∧symsTo (nk+nr) p.right p.right.length∧0≤partsA p.act p.right.length 256)

set_option maxHeartbeats 4000000 in
set_option maxRecDepth 100000 in
theorem rProd_any (ka pa ra qa : Option Addr) (nk kc pn pc nr rc qn qc : Nat) (st : Int) (hnk : nk ≤ 1024) (hnr : nr ≤ 2048) (p : Pd) (B : Nat) (w : World) (hB : B ≤ w.heap.size) (rr : Option Addr) (rrc : Nat) (x3 x4 : Int) (x5 : ByteArray) (x6 : Option Addr) (n6 c6 : Nat) (hrr : NRow B w rr p.right) (hac : AcAt B w p.act (.int .i64 x3) (.int .i64 x4) (.string x5) (.slice x6 n6 c6)) (hrl : p.right.length ≤ 281474976710656) :
   Calls Tryz.prog 54 #[.agg #[.slice ka nk kc,.slice pa pn pc,.slice ra nr rc,.slice qa qn qc,.int .i64 st],.agg #[.int .i64 p.left,.slice rr p.right.length rrc,.int .i64 p.level,.int .i64 x3,.int .i64 x4,.string x5,.slice x6 n6 c6]] w fun e w'=>e=.returned (.bool (prodB nk nr p))∧Below w.heap.size w w':=by
 obtain⟨pl,prt,plv,pac⟩:=p
 simp only at hrr hac hrl ⊢
 have Hyes:=hide (fun(h:(0≤pl∧pl<nr∧prt.length≤64∧0≤plv)∧symsTo (nk+nr) prt prt.length∧0≤partsA pac prt.length 256)=>show prodB nk nr ⟨pl,prt,plv,pac⟩=true from decide_eq_true ⟨h.1.1,h.1.2.1,h.1.2.2.1,h.1.2.2.2,h.2⟩)
 have Hno:=hide (fun(h:¬ ((0≤pl∧pl<nr∧prt.length≤64∧0≤plv)∧symsTo (nk+nr) prt prt.length∧0≤partsA pac prt.length 256))=>show prodB nk nr ⟨pl,prt,plv,pac⟩=false from decide_eq_false (fun k=>h ⟨⟨k.1,k.2.1,k.2.2.1,k.2.2.2.1⟩,k.2.2.2.2⟩))
 generalize prodB nk nr ⟨pl,prt,plv,pac⟩=R at *
 obtain⟨g0,-,g2,-,-,hwg,hbg⟩:=boxG w (.slice ka nk kc) (.slice pa pn pc) (.slice ra nr rc) (.slice qa qn qc) (.int .i64 st) 26
 obtain⟨p0,p1,p2,p3,p4,p5,p6,hwp,hbp⟩:=boxP (w.alloc (.cells #[.slice ka nk kc,.slice pa pn pc,.slice ra nr rc,.slice qa qn qc,.int .i64 st] 26)) (.int .i64 pl) (.slice rr prt.length rrc) (.int .i64 plv) (.int .i64 x3) (.int .i64 x4) (.string x5) (.slice x6 n6 c6) 89
 rw[hwg] at p0 p1 p2 p3 p4 p5 p6 hwp hbp
 have Hb1:=hide (hbg.trans (below_le hbp (by omega)))
 have G0:=hide ((hbp.cell (p:=⟨w.heap.size,0,none⟩) (Nat.lt_succ_self _)).trans g0)
 have G2:=hide ((hbp.cell (p:=⟨w.heap.size,2,none⟩) (Nat.lt_succ_self _)).trans g2)
 have P0:=hide p0;have P1:=hide p1;have P2:=hide p2;have P3:=hide p3;have P4:=hide p4;have P5:=hide p5;have P6:=hide p6
 have Hrr:=hide hrr;have Hac:=hide hac
 clear hrr hac g0 g2 hbg hbp p0 p1 p2 p3 p4 p5 p6
 by_cases hh:0≤pl∧pl<nr∧prt.length≤64∧0≤plv
 · have Hh := hide hh
   have h1:¬ pl<0:=by omega
   have h2:¬ (nr:Int)≤pl:=by omega
   have h3:¬ (64:Int)<prt.length:=by omega
   have h4:¬ plv<0:=by omega
   clear hh
   go_enter Tryz.func54,Tryz.ntmps54
   go_wp2
   generalize (w.alloc (.cells #[.slice ka nk kc,.slice pa pn pc,.slice ra nr rc,.slice qa qn qc,.int .i64 st] 26)).alloc (.cells #[.int .i64 pl,.slice rr prt.length rrc,.int .i64 plv,.int .i64 x3,.int .i64 x4,.string x5,.slice x6 n6 c6] 89)=w2 at *
   go_loopw [5] (fun x W=>∃ i:Nat,x=.int .i64 i∧i≤prt.length∧symsTo (nk+nr) prt i∧Below w2.heap.size w2 W) (fun x _=>prt.length - (intOf x).toNat)
   case atStart=>exact⟨0,rfl,Nat.zero_le _,fun j hj=>absurd hj (Nat.not_lt_zero _),Below.refl _ _⟩
   case round =>
     obtain⟨i,rfl,hi,hsy,hb⟩:=hrel
     have hk1:=fun(a:Nat) (j:Nat) (v:Value) (ha:a<w2.heap.size) (h:w2.cell? ⟨a,j,none⟩=some v)=>(hb.cell (p:=⟨a,j,none⟩) ha).trans h
     have g0:=hk1 _ _ _ (by omega) (uh G0)
     have g2:=hk1 _ _ _ (by omega) (uh G2)
     have p1:=hk1 _ _ _ (by omega) (uh P1)
     have hb2:=(uh Hb1).trans (below_le hb (by omega))
     have Hb2:=hide hb2;have Hsy:=hide hsy;have Hb:=hide hb
     clear hk1 hb2 hsy
     by_cases hlt:i<prt.length
     · have hlt':(i:Int)<prt.length:=by omega
       clear hb
       obtain⟨xb,xo,rfl,hxb,cx⟩:=nrow_at (nrow_kept (below_le (uh Hb2) hB) (uh Hrr)) hlt
       have Hs:=hide (fun(h:1≤prt.getD i 0∧prt.getD i 0<(nk+nr:Nat))=>show symsTo (nk+nr) prt (i+1) from fun j hj=>by
         by_cases e:j=i
         · subst e;exact h
         · exact uh Hsy j (by omega))
       have Hn:=hide (fun(h:¬ (1≤prt.getD i 0∧prt.getD i 0<(nk+nr:Nat)))=>uh Hno (fun k=>h (k.2.1 i hlt)))
       generalize prt.getD i 0=x at *
       have hww:IntKind.i64.wrap ((nk:Int)+nr)=(nk:Int)+nr:=by rw[IntKind.wrap_i64];omega
       by_cases hx1:x<1
       · have Hr:=hide (uh Hn (by omega))
         go_wp2
         go_quiet (fail)
         go_wp2
         go_ret
         rw[uh Hr]
         exact⟨rfl,below_drewN (uh Hb2) _⟩
       · by_cases hx2:(nk:Int)+nr≤x
         · have Hr:=hide (uh Hn (by omega))
           go_wp2
           go_quiet (fail)
           go_wp2
           go_ret
           rw[uh Hr]
           exact⟨rfl,below_drewN (uh Hb2) _⟩
         · have Hs2:=hide (uh Hs (by omega))
           have hx3:decide ((nk:Int)+nr≤x)=false:=by rw[decide_eq_false_iff_not];exact hx2
           go_wp2
           go_quiet (fail)
           go_wp2
           go_roundw
           case rel=>exact⟨i+1,by go_num,by omega,uh Hs2,below_drewN (uh Hb) _⟩
           case measure=>simp[intOf];omega
     · obtain rfl:i=prt.length:=by omega
       have hk1:=fun(a:Nat) (j:Nat) (v:Value) (ha:a<w2.heap.size) (h:w2.cell? ⟨a,j,none⟩=some v)=>(hb.cell (p:=⟨a,j,none⟩) ha).trans h
       have p3:=hk1 _ _ _ (by omega) (uh P3)
       have p4:=hk1 _ _ _ (by omega) (uh P4)
       have p5:=hk1 _ _ _ (by omega) (uh P5)
       have p6:=hk1 _ _ _ (by omega) (uh P6)
       have hszW:=hb.size
       clear hk1 hb
       have HC:=hide (rParts_any B prt.length 256 (Nat.le_refl _) pac 256 wr _ _ _ _ (by omega) (acAt_kept (below_le (uh Hb2) hB) _ _ _ _ _ (uh Hac)) (by omega) (by omega))
       have hbd:=parts_bd pac prt.length 256 (by omega)
       have HR:Hid (R=decide (0≤partsA pac prt.length 256)):=hide (by
         by_cases h:0≤partsA pac prt.length 256
         · rw[decide_eq_true h];exact uh Hyes ⟨uh Hh,uh Hsy,h⟩
         · rw[decide_eq_false h];exact uh Hno (fun k=>h k.2.2))
       generalize partsA pac prt.length 256=V at *
       go_wp2_with fail
       refine(uh HC).mono ?_
       rintro e w3 ⟨rfl,hb3⟩
       have Hb3:=hide ((uh Hb2).trans (below_le hb3 (uh Hb2).size))
       clear hb3
       go_wp2
       go_ret
       rw[uh HR]
       exact⟨rfl,uh Hb3⟩
 · have Hr:=hide (uh Hno (fun h=>hh h.1))
   clear Hno Hyes
   have Hx:=hide hh
   clear hh
   go_enter Tryz.func54,Tryz.ntmps54
   go_wp2
   all_goals first
     | (go_ret;rw[uh Hr];exact⟨rfl,((Below.refl _ _).alloc (Nat.le_refl _) _).alloc (by simp) _⟩)
     | (exfalso;have h1:=uh Hx;first | omega | (simp at *;omega))
end Go.Proofs.YtagohbpbgjelaaaGreatDoor

namespace Go.Proofs.YtagohbpbgjelaaaGreatDoor
open Go.RowKit

theorem info4:(Tryz.prog.info? 4).map (fun i=>(i.zero,i.size,i.bytes))=some (some (.bool false),1,1):=by kernel_rfl

set_option maxHeartbeats 2000000 in
set_option maxRecDepth 100000 in
theorem rNullable_any (G : Gm) (hG : GOk G) (ka pa ra qa : Option Addr) (kc pc rc qc : Nat) (B : Nat) (w : World) (hB : B ≤ w.heap.size) (hin : GIn B w G ka pa ra qa) :
   Calls Tryz.prog 38 #[.agg #[.slice ka G.kinds.length kc,.slice pa G.precs.length pc,.slice ra G.rules.length rc,.slice qa G.prods.length qc,.int .i64 G.start]] w fun e w'=>∃ b,e=.returned (.slice (some ⟨b,0,none⟩) G.nr G.nr)∧w.heap.size≤b∧w'.rowIs b 4 G.nr (fun r=>.bool (nullF G r))∧Below w.heap.size w w':=by
 have hnr:=hG.r2;have hnr1:=hG.r1;have hqs:=hG.ps
 have hmk:=fun w=>run_make_row' (P:=Tryz.prog) 28 4 (.bool false) 1 Tryz.underlying28 info4 rfl .i64 .i64 G.rules.length (by unfold Gm.nr at hnr;omega) (by unfold Gm.nr at hnr;omega) w
 have HG:=hide hG;have Hin:=hide hin
 clear hG hin
 have Hst:=hide (gst_new (kc:=kc) (pc:=pc) (rc:=rc) (qc:=qc) hB (uh Hin) 26)
 have hb1:Below w.heap.size w (w.alloc (.cells #[.slice ka G.kinds.length kc,.slice pa G.precs.length pc,.slice ra G.rules.length rc,.slice qa G.prods.length qc,.int .i64 G.start] 26)):=(Below.refl _ _).alloc (Nat.le_refl _) _
 have hw1:(w.alloc (.cells #[.slice ka G.kinds.length kc,.slice pa G.precs.length pc,.slice ra G.rules.length rc,.slice qa G.prods.length qc,.int .i64 G.start] 26)).heap.size=w.heap.size+1:=by simp
 have hnot:=run_not
 go_enter Tryz.func38,Tryz.ntmps38
 go_wp2
 generalize w.alloc (.cells #[.slice ka G.kinds.length kc,.slice pa G.precs.length pc,.slice ra G.rules.length rc,.slice qa G.prods.length qc,.int .i64 G.start] 26)=w1 at *
 have hr0:=World.rowIs_made w1 (.bool false) G.rules.length 4
 rw[hw1] at hr0
 have Hr0:=hide hr0;have Hb1:=hide hb1
 clear hr0 hb1 hmk
 go_loopw [4] (fun x wr=>∃ (f:Nat→Bool) (ag:Bool),x=.bool ag∧wr.rowIs (w.heap.size+1) 4 G.rules.length (fun r=>.bool (f r))∧NullSound G f∧(ag=false→NullShut G f)∧Below (w.heap.size+1) w1 wr) (fun x wr=>2 * cntF (markW wr (w.heap.size+1)) G.rules.length+bitOf x)
 case atStart=>exact⟨fun _=>false,true,rfl,uh Hr0,(fun r h=>by cases h),(fun h=>by cases h),(Below.refl _ _).alloc (by omega) _⟩
 case round =>
   obtain⟨f,ag,rfl,hrow,hsnd,hsh,hb⟩:=hrel
   have hcnt:=cntW_is hrow
   have Hsnd:=hide hsnd;have Hsh:=hide hsh;have Hb:=hide hb;have Hrow:=hide hrow
   clear hsnd hsh hb hrow
   cases ag
   · have Hd:=hide (null_done (uh Hsnd) (uh Hsh rfl))
     clear Hsh Hsnd hcnt
     rw[uh Hd] at Hrow
     clear Hd
     go_wp2
     go_ret
     exact⟨_,rfl,by omega,uh Hrow,(uh Hb1).trans (below_le (uh Hb) (by omega))⟩
   · clear Hsh
     go_wp2
     go_loopw [4,5,6] (fun x y z W=>∃ (f2:Nat→Bool) (ag:Bool) (k:Nat),x=.bool ag∧y=.int .i64 k∧k≤G.prods.length∧W.rowIs (w.heap.size+1) 4 G.rules.length (fun r=>.bool (f2 r))∧NullSound G f2∧((ag=false∧f2=f∧∀ j,j<k→nullStep G f (G.prods.getD j pd0)=false)∨(ag=true∧cntF f2 G.rules.length<cntF f G.rules.length))∧Below (w.heap.size+1) w1 W) (fun _ y _ _=>G.prods.length - (intOf y).toNat)
     case atStart=>exact⟨f,false,0,rfl,rfl,Nat.zero_le _,uh Hrow,uh Hsnd,.inl ⟨rfl,rfl,fun j hj=>absurd hj (Nat.not_lt_zero _)⟩,uh Hb⟩
     case round =>
       obtain⟨f2,ag,k,rfl,rfl,hk,hrow2,hsnd2,hst2,hb2⟩:=hrel
       have Hsnd2:=hide hsnd2;have Hst2:=hide hst2;have Hb2:=hide hb2;have Hrow2:=hide hrow2
       clear hsnd2 hst2 hb2 hrow2
       have hst:=gst_kept (uh Hb2) hB (uh Hst)
       have g0:=hst.c0;have g1:=hst.c1;have g2:=hst.c2;have g3:=hst.c3;have g4:=hst.c4
       have Hgin:=hide hst.gin
       clear hst
       by_cases hlt:k<G.prods.length
       · have hlt':(k:Int)<G.prods.length:=by omega
         obtain⟨b,off,rfl,hbB,rr,rrc,x3,x4,x5,x6,n6,c6,hrr,hac,q0,q1,q2,q3,q4,q5,q6⟩:=qrow_at (uh Hgin).prods hlt
         obtain⟨hl0,hl1⟩:=(uh HG).pl _ (mem_getP hlt)
         have hpr:=(uh HG).pr _ (mem_getP hlt)
         have hpy:=(uh HG).py _ (mem_getP hlt)
         have Hnu:=hide (fun hs=>null_upd (uh Hsnd2) hlt hs)
         have Hsp:Hid (nullStep G f2 (G.prods.getD k pd0)=(!f2 (G.prods.getD k pd0).left.toNat && emptyB G.nk f2 (G.prods.getD k pd0).right)):=hide rfl
         have Hjs:Hid (∀ j,j<k+1→G.prods.getD j pd0=G.prods.getD k pd0∨j<k):=hide (fun j hj=>by
           by_cases e:j=k
           · exact .inl (by rw[e])
           · exact .inr (by omega))
         generalize G.prods.getD k pd0=p at *
         obtain⟨pl,prt,plv,pac⟩:=p
         simp only at hl0 hl1 hpr hpy hrr hac q0 q1 q2 Hsp Hnu
         obtain⟨l,rfl⟩:∃ l:Nat,pl=(l:Int):=⟨pl.toNat,by omega⟩
         simp only[Int.toNat_natCast] at Hsp Hnu
         have hl2:l<G.rules.length:=by unfold Gm.nr at hl1;omega
         have hl1':(l:Int)<G.rules.length:=by omega
         obtain⟨p0,p1,-,-,-,-,-,hw3,hb3⟩:=boxP wr (.int .i64 (l:Int)) (.slice rr prt.length rrc) (.int .i64 plv) (.int .i64 x3) (.int .i64 x4) (.string x5) (.slice x6 n6 c6) 89
         have hrow3:=(uh Hrow2).of_block (hb3.block _ (uh Hrow2).lt)
         have hsz2:=(uh Hb2).size
         have hrr3:=nrow_kept (below_le hb3 (by omega)) hrr
         have HE:=hide (rEmpty_any ka pa ra (some ⟨b,off,none⟩) G.kinds.length kc G.precs.length pc G.rules.length rc G.prods.length qc G.start (w.heap.size+1) G.rules.length f2 rr rrc prt B _ (by omega) (by unfold Gm.nr at hnr;exact hnr) (by omega) hrr3 hpy hrow3)
         have co:=hrow3.cell hl2
         have fo:=hrow3.frozen l
         have Hac:=hide hac
         clear hac hpy hrr hrr3
         have hst3:=gst_kept (below_le hb3 (by omega)) hB (gst_kept (uh Hb2) hB (uh Hst))
         have e0:=hst3.c0;have e1:=hst3.c1;have e2:=hst3.c2;have e3:=hst3.c3;have e4:=hst3.c4
         have Hb3:=hide hb3;have Hrow3:=hide hrow3
         clear hst3 hb3 hrow3
         have Hbb:=hide ((uh Hb2).trans (below_le (uh Hb3) (by omega)))
         have Hst4:Hid (nullStep G f2 ⟨(l:Int),prt,plv,pac⟩=false→((ag=false∧f2=f∧∀ j,j<k+1→nullStep G f (G.prods.getD j pd0)=false)∨(ag=true∧cntF f2 G.rules.length<cntF f G.rules.length))):=hide (fun hn=>by
           rcases uh Hst2 with ⟨h1,rfl,h3⟩ | h
           · refine .inl ⟨h1,rfl,fun j hj=>?_⟩
             rcases uh Hjs j hj with h | h
             · rw[h];exact hn
             · exact h3 j h
           · exact .inr h)
         have Hst5:Hid (f2 l=false→cntF (upd f2 l) G.rules.length<cntF f G.rules.length):=hide (fun hn=>by
           have:=cntF_upd hl2 hn
           rcases uh Hst2 with ⟨h1,rfl,h3⟩ | h
           · exact this
           · have:=h.2;omega)
         clear Hst2 Hjs Hgin
         cases hfl:f2 l
         · rw[hfl] at co Hsp Hst5
           cases hE:emptyB G.kinds.length f2 prt
           · rw[show emptyB G.nk f2 prt=emptyB G.kinds.length f2 prt from rfl,hE] at Hsp
             rw[hE] at HE
             have Hst6:=hide (uh Hst4 (uh Hsp))
             clear hfl hE Hsp Hst4 Hst5 Hnu
             go_wp2_with fail
             refine(uh HE).mono ?_
             rintro e w4 ⟨rfl,hb4⟩
             have Hb4:=hide hb4
             clear hb4
             go_wp2
             go_roundw
             case rel=>exact⟨f2,ag,k+1,rfl,by go_num,by omega,(uh Hrow3).of_block ((uh Hb4).block _ (uh Hrow3).lt),uh Hsnd2,uh Hst6,(uh Hbb).trans (below_le (uh Hb4) (by omega))⟩
             case measure=>simp[intOf];omega
           · rw[show emptyB G.nk f2 prt=emptyB G.kinds.length f2 prt from rfl,hE] at Hsp
             rw[hE] at HE
             have Hnu2:=hide (uh Hnu (uh Hsp))
             have Hst6:=hide (uh Hst5 rfl)
             clear hfl hE Hsp Hst4 Hst5 Hnu
             go_wp2_with fail
             refine(uh HE).mono ?_
             rintro e w4 ⟨rfl,hb4⟩
             have Hb4:=hide hb4
             have hrow4:=(uh Hrow3).of_block (hb4.block _ (uh Hrow3).lt)
             have co4:=hrow4.cell hl2
             have fo4:=hrow4.frozen l
             have p04:=(hb4.cell (p:=⟨wr.heap.size,0,none⟩) (by show wr.heap.size<_;omega)).trans p0
             have Hrow4:=hide hrow4
             clear hb4 hrow4
             go_wp2
             go_roundw
             case rel=>exact⟨upd f2 l,true,k+1,rfl,by go_num,by omega,rowIs_upd (uh Hrow4) l,uh Hnu2,.inr ⟨rfl,uh Hst6⟩,((uh Hbb).trans (below_le (uh Hb4) (by omega))).setCell (by show w.heap.size+1≤w.heap.size+1;omega) _⟩
             case measure=>simp[intOf];omega
         · rw[hfl] at co Hsp
           have Hst6:=hide (uh Hst4 (uh Hsp))
           clear hfl Hsp Hst4 Hst5 Hnu HE
           go_wp2
           go_roundw
           case rel=>exact⟨f2,ag,k+1,rfl,by go_num,by omega,uh Hrow3,uh Hsnd2,uh Hst6,uh Hbb⟩
           case measure=>simp[intOf];omega
       · obtain rfl:k=G.prods.length:=by omega
         have Hst7:Hid ((ag=false→NullShut G f2)∧2 * cntF f2 G.rules.length+bitOf (.bool ag)<2 * cntF f G.rules.length+1):=hide (by
           rcases uh Hst2 with ⟨rfl,rfl,h3⟩ | ⟨rfl,h⟩
           · exact⟨fun _=>h3,by simp[bitOf]⟩
           · exact⟨(fun h=>by cases h),(by simp[bitOf];omega)⟩)
         have hc2:=cntW_is (uh Hrow2)
         go_wp2
         go_roundw
         case rel=>exact⟨f2,ag,rfl,uh Hrow2,uh Hsnd2,(uh Hst7).1,uh Hb2⟩
         case measure =>
           have:=(uh Hst7).2
           rw[hc2,hcnt]
           exact this
end Go.Proofs.YtagohbpbgjelaaaGreatDoor

namespace Go.Proofs.YtagohbpbgjelaaaGreatDoor
open Go.RowKit

def lenR (nk:Nat) (f:Nat→Int):List Int→Int→Int
 | [],acc=>acc
 | x::xs,acc=>if (nk:Int)≤x then(if f (x - nk).toNat<0 then -1 else lenR nk f xs (min (acc+f (x - nk).toNat) 65537)) else lenR nk f xs (min (acc+1) 65537)
end Go.Proofs.YtagohbpbgjelaaaGreatDoor

namespace Go.Proofs.YtagohbpbgjelaaaGreatDoor
open Go.RowKit

theorem lenR_all {nk : Nat} {f : Nat → Int} : ∀ (row : List Int) (acc : Int), 0 ≤ acc → 0 ≤ lenR nk f row acc → ∀ x, x ∈ row → (nk : Int) ≤ x → 0 ≤ f (x - nk).toNat
 | [],_,_,_,x,hx,_=>by simp at hx
 | y :: ys, acc, h0, h, x, hx, hk => by
   unfold lenR at h
   rw[List.mem_cons] at hx
   split at h
   · split at h
     · omega
     · rcases hx with rfl | hx
       · omega
       · exact lenR_all ys _ (by omega) h x hx hk
   · rcases hx with rfl | hx
     · omega
     · exact lenR_all ys _ (by omega) h x hx hk
theorem lenR_mono {nk:Nat} {f g:Nat→Int}:∀ (row:List Int) (a b:Int),0≤a→a≤b→(∀ x,x ∈ row→(nk:Int)≤x→0≤f (x - nk).toNat∧f (x - nk).toNat≤g (x - nk).toNat)→0≤lenR nk f row a∧lenR nk f row a≤lenR nk g row b
 | [],a,b,h0,h1,_=>by unfold lenR;omega
 | x :: xs, a, b, h0, h1, h => by
   have hr:=fun y hy=>h y (List.mem_cons_of_mem _ hy)
   unfold lenR
   by_cases hk:(nk:Int)≤x
   · have:=h x (by simp) hk
     rw[if_pos hk,if_pos hk,if_neg (by omega),if_neg (by omega)]
     exact lenR_mono xs _ _ (by omega) (by omega) hr
   · rw[if_neg hk,if_neg hk]
     exact lenR_mono xs _ _ (by omega) (by omega) hr
inductive Lng (G:Gm):Nat→Int→Prop
 | mk (p:Pd) (hp:p ∈ G.prods) (g:Nat→Int) (hg:∀ x,x ∈ p.right→(G.nk:Int)≤x→Lng G (x - G.nk).toNat (g (x - G.nk).toNat)) (h0:0≤lenR G.nk g p.right 0):Lng G p.left.toNat (lenR G.nk g p.right 0)
def LngSound (G:Gm) (f:Nat→Int):Prop:=∀ r,f r = -1∨(0≤f r∧f r≤65537∧Lng G r (f r))
def lngStep (G:Gm) (f:Nat→Int) (p:Pd):Prop:=0≤lenR G.nk f p.right 0∧(f p.left.toNat<0∨lenR G.nk f p.right 0<f p.left.toNat)
instance (G:Gm) (f:Nat→Int) (p:Pd):Decidable (lngStep G f p):=by unfold lngStep;infer_instance
def LngShut (G:Gm) (f:Nat→Int):Prop:=∀ i,i<G.prods.length→¬ lngStep G f (G.prods.getD i pd0)
def LeastIs (G:Gm) (f:Nat→Int):Prop:=LngSound G f∧∀ r n,Lng G r n→0≤f r∧f r≤n
theorem lng_done {G:Gm} {f:Nat→Int} (h:LngSound G f) (hs:LngShut G f):LeastIs G f:=by
 refine⟨h,fun r n hn=>?_⟩
 induction hn with
 | mk p hp g hg h0 ih =>
   have hm:=lenR_mono (nk:=G.nk) (f:=f) (g:=g) p.right 0 0 (Int.le_refl _) (Int.le_refl _) (fun x hx hk=>ih x hx hk)
   obtain⟨i,hi,rfl⟩:=ex_getP hp
   have:=hs i hi
   unfold lngStep at this
   omega
def wt (v:Int):Nat:=if v<0 then 65538 else v.toNat
def numW (w:World) (b:Nat):Nat→Int:=fun r=>match w.cell? ⟨b,r,none⟩ with | some v=>intOf v | none=>0
theorem numW_is {w:World} {b t n:Nat} {f:Nat→Int} (h:w.rowIs b t n (fun r=>.int .i64 (f r))) (r:Nat) (hr:r<n):numW w b r=f r:=by
 unfold numW
 have:=h.cell hr
 rw[this]
 rfl
end Go.Proofs.YtagohbpbgjelaaaGreatDoor

namespace Go.Proofs.YtagohbpbgjelaaaGreatDoor
open Go.RowKit

def precB (x y:Int):Bool:=decide ((y=0∧x=0)∨(1≤y∧y≤3∧0<x))
set_option maxRecDepth 100000 in
theorem prec_any (x y:Int) (w:World):Calls Tryz.prog 116 #[.agg #[.int .i64 x,.int .i64 y]] w fun e w'=>e=.returned (.bool (precB x y))∧Below w.heap.size w w':=by
 have Hb:=hide ((Below.refl w.heap.size w).alloc (Nat.le_refl _) (.cells #[.int .i64 x,.int .i64 y] 98))
 have hnot:=run_not
 go_enter Tryz.func116,Tryz.ntmps116
 go_wp2
 all_goals go_ret
 all_goals refine⟨ret_bool ?_,uh Hb⟩
 all_goals (unfold precB;rw[Bool.eq_iff_iff];simp at *;omega)
theorem isRule_any (ka pa ra qa:Option Addr) (nk kc pn pc nr rc qn qc:Nat) (st x:Int) (w:World):Calls Tryz.prog 65 #[.agg #[.slice ka nk kc,.slice pa pn pc,.slice ra nr rc,.slice qa qn qc,.int .i64 st],.int .i64 x] w fun e w'=>e=.returned (.bool (decide (0≤x∧x<nr)))∧Below w.heap.size w w':=by
 have Hb:=hide ((Below.refl w.heap.size w).alloc (Nat.le_refl _) (.cells #[.slice ka nk kc,.slice pa pn pc,.slice ra nr rc,.slice qa qn qc,.int .i64 st] 26))
 have hnot:=run_not
 go_enter Tryz.func65,Tryz.ntmps65
 go_wp2
 all_goals go_ret
 all_goals refine⟨ret_bool ?_,uh Hb⟩
 all_goals (rw[Bool.eq_iff_iff];simp at *;omega)
set_option maxHeartbeats 1000000 in
set_option maxRecDepth 100000 in
theorem precs_any (ka pa ra qa : Option Addr) (nk kc pc nr rc qn qc : Nat) (st : Int) (l : List (Int × Int)) (hnk : nk ≤ 281474976710656) (B : Nat) (w : World) (hB : B ≤ w.heap.size) (hrow : LRow B w pa l) :
   Calls Tryz.prog 73 #[.agg #[.slice ka nk kc,.slice pa l.length pc,.slice ra nr rc,.slice qa qn qc,.int .i64 st]] w fun e w'=>e=.returned (.bool (decide (l.length=nk) && levelsB l))∧Below w.heap.size w w':=by
 obtain⟨g0,g1,g2,g3,g4,hs1,hb1⟩:=boxG w (.slice ka nk kc) (.slice pa l.length pc) (.slice ra nr rc) (.slice qa qn qc) (.int .i64 st) 26
 have hnot:=run_not
 by_cases hl:l.length=nk
 · subst hl
   have hne:((l.length:Int) != l.length)=false:=by simp
   have Hyes:Hid (lvlTo l l.length→levelsB l=true):=hide fun h=>decide_eq_true h
   have Hno:Hid (¬ lvlTo l l.length→levelsB l=false):=hide fun h=>decide_eq_false h
   have hR:(decide (l.length=l.length) && levelsB l)=levelsB l:=by simp
   rw[hR]
   clear hR
   generalize levelsB l=R at *
   have Hrow:=hide (lrow_kept (below_le hb1 hB) hrow)
   have Hb1:=hide hb1
   clear hrow hb1
   go_enter Tryz.func73,Tryz.ntmps73
   go_wp2
   generalize w.alloc (.cells #[.slice ka l.length kc,.slice pa l.length pc,.slice ra nr rc,.slice qa qn qc,.int .i64 st] 26)=w1 at *
   have hw1:w1.heap.size=w.heap.size+1:=hs1
   go_loopw [15] (fun x wr=>∃ k:Nat,x=.int .i64 k∧k≤l.length∧lvlTo l k∧Below w1.heap.size w1 wr) (fun x _=>l.length - (intOf x).toNat)
   case atStart=>exact⟨0,rfl,Nat.zero_le _,(fun i hi=>absurd hi (Nat.not_lt_zero _)),Below.refl _ _⟩
   case round =>
     obtain⟨k,rfl,hk,hgood,hbel⟩:=hrel
     have Hg:=hide hgood;have Hbel:=hide hbel
     have hszr:=hbel.size
     clear hgood hbel g0 g1 g2 g3 g4
     by_cases hlt:k<l.length
     · have hlt':(k:Int)<l.length:=by omega
       obtain⟨b,off,rfl,hb,c0,c1⟩:=lrow_at (lrow_kept (below_le (uh Hbel) (by omega)) (uh Hrow)) hlt
       have Hs:=hide (fun(h:lvlB k (l.getD k (0,0))=true)=>show lvlTo l (k+1) from fun i hi=>by
         by_cases e:i=k
         · subst e;exact h
         · exact uh Hg i (by omega))
       have Hn:=hide (fun(h:lvlB k (l.getD k (0,0))=false)=>uh Hno (fun hd=>by rw[hd k hlt] at h;cases h))
       generalize l.getD k (0,0)=p at *
       obtain⟨x,y⟩:=p
       simp only at c0 c1
       have Hs2:=hide (fun(h:(x=0∧y=0)∨(1≤x∧1≤y∧y≤3∧2≤k))=>uh Hs (decide_eq_true h))
       have Hn2:=hide (fun(h:¬ ((x=0∧y=0)∨(1≤x∧1≤y∧y≤3∧2≤k)))=>uh Hn (decide_eq_false h))
       clear Hs Hn
       go_wp2_with fail
       refine(prec_any x y _).mono ?_
       rintro e w3 ⟨rfl,hb3⟩
       have hb2:Below wr.heap.size wr (wr.alloc (.cells #[.int .i64 x,.int .i64 y] 98)):=(Below.refl _ _).alloc (Nat.le_refl _) _
       have hb4:=hb2.trans (below_le hb3 (by simp))
       have d0:w3.cell? ⟨wr.heap.size,0,none⟩=some (.int .i64 x):=(hb3.cell (p:=⟨wr.heap.size,0,none⟩) (by simp)).trans (by unfold World.cell?;rw[Go.Deep.blk_alloc_new];rfl)
       have Hb3:=hide ((uh Hbel).trans (below_le hb4 (by omega)))
       have Hb5:=hide ((uh Hb1).trans (below_le (uh Hb3) (by omega)))
       clear hb3 hb2 hb4
       cases hpr:precB x y
       · have h1:=of_decide_eq_false hpr
         go_wp2
         go_ret
         rw[uh Hn2 (by omega)]
         exact⟨rfl,uh Hb5⟩
       · have h1 := of_decide_eq_true hpr
         go_wp2
         all_goals first
           | (go_ret;rw[uh Hn2 (by first | omega | (simp at *;omega))];exact⟨rfl,uh Hb5⟩)
           | (go_roundw
              case rel=>exact⟨k+1,by go_num,by omega,uh Hs2 (by first | omega | (simp at *;omega)),uh Hb3⟩
              case measure=>simp[intOf];omega)
     · obtain rfl:k=l.length:=by omega
       have Hr:Hid (R=true):=hide (uh Hyes (uh Hg))
       go_wp2
       go_ret
       rw[uh Hr]
       exact⟨rfl,(uh Hb1).trans (below_le (uh Hbel) (by omega))⟩
 · have hne:((l.length:Int) != nk)=true:=by simp;omega
   have hR:(decide (l.length=nk) && levelsB l)=false:=by simp[hl]
   rw[hR]
   clear hR
   go_enter Tryz.func73,Tryz.ntmps73
   go_wp2
   go_ret
   exact⟨rfl,hb1⟩
end Go.Proofs.YtagohbpbgjelaaaGreatDoor

namespace Go.Proofs.YtagohbpbgjelaaaGreatDoor
open Go.RowKit

set_option maxHeartbeats 1000000 in
set_option maxRecDepth 100000 in
theorem areSymbols_any (ka pa ra qa : Option Addr) (nk kc pn pc nr rc qn qc : Nat) (st : Int) (hn : nk + nr ≤ 281474976710656) (ro : Option Addr) (rowc : Nat) (row : List Int) (hl : row.length ≤ 281474976710656) (B : Nat) (w : World) (hB : B ≤ w.heap.size) (hrow : NRow B w ro row) :
   Calls Tryz.prog 45 #[.agg #[.slice ka nk kc,.slice pa pn pc,.slice ra nr rc,.slice qa qn qc,.int .i64 st],.slice ro row.length rowc] w fun e w'=>e=.returned (.bool (decide (symsTo (nk+nr) row row.length)))∧Below w.heap.size w w':=by
 obtain⟨g0,g1,g2,g3,g4,hs1,hb1⟩:=boxG w (.slice ka nk kc) (.slice pa pn pc) (.slice ra nr rc) (.slice qa qn qc) (.int .i64 st) 26
 have hnot:=run_not
 have Hyes:Hid (symsTo (nk+nr) row row.length→decide (symsTo (nk+nr) row row.length)=true):=hide fun h=>decide_eq_true h
 have Hno:Hid (¬ symsTo (nk+nr) row row.length→decide (symsTo (nk+nr) row row.length)=false):=hide fun h=>decide_eq_false h
 generalize decide (symsTo (nk+nr) row row.length)=R at *
 have Hrow:=hide (nrow_kept (below_le hb1 hB) hrow)
 have Hb1:=hide hb1
 have Hg:=hide (And.intro g0 g2)
 clear hrow hb1 g0 g1 g2 g3 g4
 have hwn:IntKind.i64.wrap ((nk:Int)+nr)=nk+nr:=by rw[IntKind.wrap_i64];omega
 go_enter Tryz.func45,Tryz.ntmps45
 go_wp2
 generalize w.alloc (.cells #[.slice ka nk kc,.slice pa pn pc,.slice ra nr rc,.slice qa qn qc,.int .i64 st] 26)=w1 at *
 have hw1:w1.heap.size=w.heap.size+1:=hs1
 go_loopw [9] (fun x wr=>∃ k:Nat,x=.int .i64 k∧k≤row.length∧symsTo (nk+nr) row k∧Below w1.heap.size w1 wr) (fun x _=>row.length - (intOf x).toNat)
 case atStart=>exact⟨0,rfl,Nat.zero_le _,(fun i hi=>absurd hi (Nat.not_lt_zero _)),Below.refl _ _⟩
 case round =>
   obtain⟨k,rfl,hk,hgood,hbel⟩:=hrel
   have g0:=(hbel.cell (p:=⟨w.heap.size,0,none⟩) (by show w.heap.size<_;omega)).trans (uh Hg).1
   have g2:=(hbel.cell (p:=⟨w.heap.size,2,none⟩) (by show w.heap.size<_;omega)).trans (uh Hg).2
   have Hin:=hide hgood;have Hbel:=hide hbel
   have hszr:=hbel.size
   have Hb5:=hide ((uh Hb1).trans (below_le hbel (by omega)))
   clear hgood hbel
   by_cases hlt:k<row.length
   · have hlt' : (k : Int) < row.length := by omega
     obtain⟨b,off,rfl,hb,c0⟩:=nrow_at (nrow_kept (below_le (uh Hbel) (by omega)) (uh Hrow)) hlt
     have Hs:=hide (fun(h:1≤row.getD k 0∧row.getD k 0<(nk+nr:Nat))=>show symsTo (nk+nr) row (k+1) from fun i hi=>by
       by_cases e:i=k
       · subst e;exact h
       · exact uh Hin i (by omega))
     have Hn:=hide (fun(h:¬ (1≤row.getD k 0∧row.getD k 0<(nk+nr:Nat)))=>uh Hno (fun hd=>h (hd k hlt)))
     generalize row.getD k 0=x at *
     go_wp2
     all_goals first
       | (go_ret;rw[uh Hn (by first | omega | (simp at *;omega))];exact⟨rfl,uh Hb5⟩)
       | (go_roundw
          case rel=>exact⟨k+1,by go_num,by omega,uh Hs (by first | omega | (simp at *;omega)),uh Hbel⟩
          case measure=>simp[intOf];omega)
   · obtain rfl:k=row.length:=by omega
     have Hr:Hid (R=true):=hide (uh Hyes (uh Hin))
     go_wp2
     go_ret
     rw[uh Hr]
     exact⟨rfl,uh Hb5⟩
end Go.Proofs.YtagohbpbgjelaaaGreatDoor

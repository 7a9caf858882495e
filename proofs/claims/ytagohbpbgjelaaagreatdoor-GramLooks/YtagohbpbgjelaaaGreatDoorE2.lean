/- The document's whole. -/
import Derived.Test.YtagohbpbgjelaaaGreatDoorP0
import Derived.Test.YtagohbpbgjelaaaGreatDoorA4
import Derived.Test.YtagohbpbgjelaaaGreatDoorA1
namespace Go.Proofs.YtagohbpbgjelaaaGreatDoor
open Go.RowKit

def wholeB (nk:Nat) (f:Nat→Bool) (row:List Int):Bool:=row.all fun x=>decide (x<(nk:Int)) || f (x - nk).toNat
theorem wholeB_iff {nk:Nat} {f:Nat→Bool} {row:List Int}:wholeB nk f row=true↔∀ x,x ∈ row→(nk:Int)≤x→f (x - nk).toNat=true:=by
 unfold wholeB
 rw[List.all_eq_true]
 constructor
 · intro h x hx hk
   have:=h x hx
   rw[Bool.or_eq_true,decide_eq_true_eq] at this
   rcases this with h | h
   · omega
   · exact h
 · intro h x hx
   rw[Bool.or_eq_true,decide_eq_true_eq]
   by_cases e:x<nk
   · exact .inl e
   · exact .inr (h x hx (by omega))
theorem wholeB_take {nk:Nat} {f:Nat→Bool} {row:List Int} {k:Nat} (h:k<row.length) (h1:wholeB nk f (row.take k)=true) (h3:(nk:Int)≤row.getD k 0→f (row.getD k 0 - nk).toNat=true):wholeB nk f (row.take (k+1))=true:=by
 rw[wholeB_iff] at *
 rw[take_snoc row k 0 h]
 intro x hx
 rcases List.mem_append.1 hx with h | h
 · exact h1 x h
 · rw[List.mem_singleton] at h
   subst h
   exact h3
theorem wholeB_no {nk:Nat} {f:Nat→Bool} {row:List Int} {k:Nat} (h:k<row.length) (h1:(nk:Int)≤row.getD k 0) (h2:f (row.getD k 0 - nk).toNat=false):wholeB nk f row=false:=by
 rw[Bool.eq_false_iff]
 intro h'
 rw[wholeB_iff] at h'
 rw[h' _ (mem_getD h) h1] at h2
 cases h2

set_option maxHeartbeats 1000000 in
set_option maxRecDepth 100000 in
theorem rWhole_any (ka pa ra qa : Option Addr) (nk kc pn pc nr rc qn qc : Nat) (st : Int) (nb nc : Nat) (null : Nat → Bool) (ro : Option Addr) (rowc : Nat) (row : List Int) (B : Nat) (w : World)
   (hB:B≤w.heap.size) (hnr:nr≤2048) (hrl:row.length≤281474976710656) (hrow:NRow B w ro row) (hs:symsIn (nk+nr) row) (hn:w.rowIs nb 4 nr (fun r=>.bool (null r))) :
   Calls Tryz.prog 60 #[.agg #[.slice ka nk kc,.slice pa pn pc,.slice ra nr rc,.slice qa qn qc,.int .i64 st],.slice (some ⟨nb,0,none⟩) nr nc,.slice ro row.length rowc] w fun e w'=>e=.returned (.bool (wholeB nk null row))∧Below w.heap.size w w':=by
 have Hrow:=hide hrow;have Hs:=hide hs;have Hn:=hide hn
 clear hrow hs hn
 generalize hR:wholeB nk null row=R
 have HR:=hide hR
 clear hR
 obtain⟨g0,-,-,-,-,hw1,hb1⟩:=boxG w (.slice ka nk kc) (.slice pa pn pc) (.slice ra nr rc) (.slice qa qn qc) (.int .i64 st) 26
 have hnot:=run_not
 go_enter Tryz.func60,Tryz.ntmps60
 go_wp2
 generalize w.alloc (.cells #[.slice ka nk kc,.slice pa pn pc,.slice ra nr rc,.slice qa qn qc,.int .i64 st] 26)=w1 at *
 have Hg0:=hide g0;have Hb1:=hide hb1
 clear g0 hb1
 go_loopw [7] (fun x wr=>∃ k:Nat,x=.int .i64 k∧k≤row.length∧wholeB nk null (row.take k)=true∧Below w1.heap.size w1 wr) (fun x _=>row.length - (intOf x).toNat)
 case atStart=>exact⟨0,rfl,Nat.zero_le _,rfl,Below.refl _ _⟩
 case round =>
   obtain⟨k,rfl,hk,hem,hb⟩:=hrel
   have hb2:=(uh Hb1).trans (below_le hb (by omega))
   have Hem:=hide hem;have Hb2:=hide hb2
   have g0:=(hb.cell (p:=⟨w.heap.size,0,none⟩) (by show w.heap.size<w1.heap.size;omega)).trans (uh Hg0)
   have Hb:=hide hb
   clear hem hb hb2
   by_cases hlt:k<row.length
   · have hlt':(k:Int)<row.length:=by omega
     obtain⟨b,off,rfl,hbB,hc⟩:=nrow_at (nrow_kept (below_le (uh Hb2) hB) (uh Hrow)) hlt
     have hr:=uh Hs _ (mem_getD hlt)
     have Hlow:=hide (fun h1 h2=>(uh HR).symm.trans (wholeB_no (f:=null) (nk:=nk) hlt h1 h2))
     have Hup:=hide (fun h3=>wholeB_take (f:=null) (nk:=nk) hlt (uh Hem) h3)
     generalize row.getD k 0=x at *
     by_cases hx:x<nk
     · have Hup2:=hide (uh Hup (fun h=>by omega))
       have hx2:decide ((nk:Int)≤x)=false:=by rw[decide_eq_false_iff_not];omega
       go_wp2
       go_quiet (fail)
       go_wp2
       go_roundw
       case rel=>exact⟨k+1,by go_num,by omega,uh Hup2,below_drewN (uh Hb) _⟩
       case measure=>simp[intOf];omega
     · obtain⟨r,hxr⟩:∃ r:Nat,x - (nk:Int)=r:=⟨(x - nk).toNat,by omega⟩
       have hrr:r<nr:=by omega
       have hrr':(r:Int)<nr:=by omega
       have hwr:=wN r (by omega)
       rw[hxr,Int.toNat_natCast] at Hlow Hup
       have cn:wr.cell? ⟨nb,r,none⟩=some (.bool (null r)):=((uh Hb2).cell (p:=⟨nb,r,none⟩) (uh Hn).lt).trans ((uh Hn).cell hrr)
       cases hnr2:null r
       · rw[hnr2] at cn
         have Hlow2:=hide (uh Hlow (by omega) hnr2)
         clear hnr2
         go_wp2
         go_quiet (fail)
         go_wp2
         go_ret
         rw[uh Hlow2]
         exact⟨rfl,below_drewN (uh Hb2) _⟩
       · rw[hnr2] at cn
         have Hup2:=hide (uh Hup (fun _=>hnr2))
         clear hnr2
         go_wp2
         go_quiet (fail)
         go_wp2
         go_roundw
         case rel=>exact⟨k+1,by go_num,by omega,uh Hup2,below_drewN (uh Hb) _⟩
         case measure=>simp[intOf];omega
   · obtain rfl:k=row.length:=by omega
     go_wp2
     go_ret
     rw[List.take_length] at Hem
     rw[← uh HR,uh Hem]
     exact⟨rfl,uh Hb2⟩
end Go.Proofs.YtagohbpbgjelaaaGreatDoor

namespace Go.Proofs.YtagohbpbgjelaaaGreatDoor
open Go.RowKit

inductive Prdv (G:Gm):Nat→Prop
 | mk (p:Pd) (hp:p ∈ G.prods) (h:∀ x,x ∈ p.right→(G.nk:Int)≤x→Prdv G (x - G.nk).toNat):Prdv G p.left.toNat
open Classical in
noncomputable def prdF (G:Gm):Nat→Bool:=fun r=>decide (Prdv G r)
theorem prdF_is (G:Gm) (r:Nat):prdF G r=true↔Prdv G r:=by unfold prdF;simp
def PrdSound (G:Gm) (f:Nat→Bool):Prop:=∀ r,f r=true→Prdv G r
def prdStep (G:Gm) (f:Nat→Bool) (p:Pd):Bool:=!f p.left.toNat && wholeB G.nk f p.right
def PrdShut (G:Gm) (f:Nat→Bool):Prop:=∀ i,i<G.prods.length→prdStep G f (G.prods.getD i pd0)=false
theorem prd_upd {G:Gm} {f:Nat→Bool} {i:Nat} (h:PrdSound G f) (hi:i<G.prods.length) (hs:prdStep G f (G.prods.getD i pd0)=true):PrdSound G (upd f (G.prods.getD i pd0).left.toNat):=by
 intro r hr
 rcases upd_inv hr with rfl | h1
 · unfold prdStep at hs
   rw[Bool.and_eq_true] at hs
   have:=wholeB_iff.1 hs.2
   exact .mk _ (mem_getP hi) (fun x hx hk=>h _ (this x hx hk))
 · exact h r h1
theorem prd_done {G:Gm} {f:Nat→Bool} (h:PrdSound G f) (hs:PrdShut G f):f=prdF G:=by
 funext r
 rw[Bool.eq_iff_iff,prdF_is]
 refine⟨h r,fun hn=>?_⟩
 induction hn with
 | mk p hp h1 ih =>
   obtain⟨i,hi,rfl⟩:=ex_getP hp
   have:=hs i hi
   unfold prdStep at this
   rw[Bool.and_eq_false_iff] at this
   rcases this with h | h
   · simpa using h
   · rw[wholeB_iff.2 (fun x hx hk=>ih x hx hk)] at h
     cases h

inductive Rchd (G:Gm) (ok:Pd→Bool):Nat→Prop
 | start:Rchd G ok G.start.toNat
 | step (p:Pd) (hp:p ∈ G.prods) (ho:ok p=true) (h:Rchd G ok p.left.toNat) (x:Int) (hx:x ∈ p.right) (hk:(G.nk:Int)≤x):Rchd G ok (x - G.nk).toNat
open Classical in
noncomputable def rchF (G:Gm) (ok:Pd→Bool):Nat→Bool:=fun r=>decide (Rchd G ok r)
theorem rchF_is (G:Gm) (ok:Pd→Bool) (r:Nat):rchF G ok r=true↔Rchd G ok r:=by unfold rchF;simp
def RchSound (G:Gm) (ok:Pd→Bool) (f:Nat→Bool):Prop:=f G.start.toNat=true∧∀ r,f r=true→Rchd G ok r
def rchFull (G:Gm) (ok:Pd→Bool) (f:Nat→Bool) (p:Pd):Prop:=f p.left.toNat=true→ok p=true→∀ x,x ∈ p.right→(G.nk:Int)≤x→f (x - G.nk).toNat=true
def RchShut (G:Gm) (ok:Pd→Bool) (f:Nat→Bool):Prop:=∀ i,i<G.prods.length→rchFull G ok f (G.prods.getD i pd0)
theorem rch_upd {G:Gm} {ok:Pd→Bool} {f:Nat→Bool} {i:Nat} (h:RchSound G ok f) (hi:i<G.prods.length) (hl:f (G.prods.getD i pd0).left.toNat=true) (ho:ok (G.prods.getD i pd0)=true) {x:Int} (hx:x ∈ (G.prods.getD i pd0).right) (hk:(G.nk:Int)≤x):RchSound G ok (upd f (x - G.nk).toNat):=by
 refine⟨upd_of _ _ _ h.1,fun r hr=>?_⟩
 rcases upd_inv hr with rfl | h1
 · exact .step _ (mem_getP hi) ho (h.2 _ hl) x hx hk
 · exact h.2 r h1
theorem rch_done {G:Gm} {ok:Pd→Bool} {f:Nat→Bool} (h:RchSound G ok f) (hs:RchShut G ok f):f=rchF G ok:=by
 funext r
 rw[Bool.eq_iff_iff,rchF_is]
 refine⟨h.2 r,fun hn=>?_⟩
 induction hn with
 | start=>exact h.1
 | step p hp ho _ x hx hk ih =>
   obtain⟨i,hi,rfl⟩:=ex_getP hp
   exact hs i hi ih ho x hx hk
end Go.Proofs.YtagohbpbgjelaaaGreatDoor

namespace Go.Proofs.YtagohbpbgjelaaaGreatDoor
open Go.RowKit

set_option maxHeartbeats 2000000 in
set_option maxRecDepth 100000 in
theorem rProductive_any (G : Gm) (hG : GOk G) (ka pa ra qa : Option Addr) (kc pc rc qc : Nat) (B : Nat) (w : World) (hB : B ≤ w.heap.size) (hin : GIn B w G ka pa ra qa) :
   Calls Tryz.prog 41 #[.agg #[.slice ka G.kinds.length kc,.slice pa G.precs.length pc,.slice ra G.rules.length rc,.slice qa G.prods.length qc,.int .i64 G.start]] w fun e w'=>∃ b,e=.returned (.slice (some ⟨b,0,none⟩) G.nr G.nr)∧w.heap.size≤b∧w'.rowIs b 4 G.nr (fun r=>.bool (prdF G r))∧Below w.heap.size w w':=by
 have hnr:=hG.r2;have hnr1:=hG.r1;have hqs:=hG.ps
 have hmk:=fun w=>run_make_row' (P:=Tryz.prog) 28 4 (.bool false) 1 Tryz.underlying28 info4 rfl .i64 .i64 G.rules.length (by unfold Gm.nr at hnr;omega) (by unfold Gm.nr at hnr;omega) w
 have HG:=hide hG;have Hin:=hide hin
 clear hG hin
 have Hst:=hide (gst_new (kc:=kc) (pc:=pc) (rc:=rc) (qc:=qc) hB (uh Hin) 26)
 have hb1:Below w.heap.size w (w.alloc (.cells #[.slice ka G.kinds.length kc,.slice pa G.precs.length pc,.slice ra G.rules.length rc,.slice qa G.prods.length qc,.int .i64 G.start] 26)):=(Below.refl _ _).alloc (Nat.le_refl _) _
 have hw1:(w.alloc (.cells #[.slice ka G.kinds.length kc,.slice pa G.precs.length pc,.slice ra G.rules.length rc,.slice qa G.prods.length qc,.int .i64 G.start] 26)).heap.size=w.heap.size+1:=by simp
 have hnot:=run_not
 go_enter Tryz.func41,Tryz.ntmps41
 go_wp2
 generalize w.alloc (.cells #[.slice ka G.kinds.length kc,.slice pa G.precs.length pc,.slice ra G.rules.length rc,.slice qa G.prods.length qc,.int .i64 G.start] 26)=w1 at *
 have hr0:=World.rowIs_made w1 (.bool false) G.rules.length 4
 rw[hw1] at hr0
 have Hr0:=hide hr0;have Hb1:=hide hb1
 clear hr0 hb1 hmk
 go_loopw [4] (fun x wr=>∃ (f:Nat→Bool) (ag:Bool),x=.bool ag∧wr.rowIs (w.heap.size+1) 4 G.rules.length (fun r=>.bool (f r))∧PrdSound G f∧(ag=false→PrdShut G f)∧Below (w.heap.size+1) w1 wr) (fun x wr=>2 * cntF (markW wr (w.heap.size+1)) G.rules.length+bitOf x)
 case atStart=>exact⟨fun _=>false,true,rfl,uh Hr0,(fun r h=>by cases h),(fun h=>by cases h),(Below.refl _ _).alloc (by omega) _⟩
 case round =>
   obtain⟨f,ag,rfl,hrow,hsnd,hsh,hb⟩:=hrel
   have hcnt:=cntW_is hrow
   have Hsnd:=hide hsnd;have Hsh:=hide hsh;have Hb:=hide hb;have Hrow:=hide hrow
   clear hsnd hsh hb hrow
   cases ag
   · have Hd:=hide (prd_done (uh Hsnd) (uh Hsh rfl))
     clear Hsh Hsnd hcnt
     rw[uh Hd] at Hrow
     clear Hd
     go_wp2
     go_ret
     exact⟨_,rfl,by omega,uh Hrow,(uh Hb1).trans (below_le (uh Hb) (by omega))⟩
   · clear Hsh
     go_wp2
     go_loopw [4,5,6] (fun x y z W=>∃ (f2:Nat→Bool) (ag:Bool) (k:Nat),x=.bool ag∧y=.int .i64 k∧k≤G.prods.length∧W.rowIs (w.heap.size+1) 4 G.rules.length (fun r=>.bool (f2 r))∧PrdSound G f2∧((ag=false∧f2=f∧∀ j,j<k→prdStep G f (G.prods.getD j pd0)=false)∨(ag=true∧cntF f2 G.rules.length<cntF f G.rules.length))∧Below (w.heap.size+1) w1 W) (fun _ y _ _=>G.prods.length - (intOf y).toNat)
     case atStart=>exact⟨f,false,0,rfl,rfl,Nat.zero_le _,uh Hrow,uh Hsnd,.inl ⟨rfl,rfl,fun j hj=>absurd hj (Nat.not_lt_zero _)⟩,uh Hb⟩
     case round =>
       obtain⟨f2,ag,k,rfl,rfl,hk,hrow2,hsnd2,hst2,hb2⟩:=hrel
       have Hsnd2:=hide hsnd2;have Hst2:=hide hst2;have Hb2:=hide hb2;have Hrow2:=hide hrow2
       clear hsnd2 hst2 hb2 hrow2
       have hst:=gst_kept (uh Hb2) hB (uh Hst)
       have g0:=hst.c0;have g1:=hst.c1;have g2:=hst.c2;have g3:=hst.c3;have g4:=hst.c4
       have Hgin:=hide hst.gin
       clear hst
       by_cases hlt:k<G.prods.length
       · have hlt':(k:Int)<G.prods.length:=by omega
         obtain⟨b,off,rfl,hbB,rr,rrc,x3,x4,x5,x6,n6,c6,hrr,hac,q0,q1,q2,q3,q4,q5,q6⟩:=qrow_at (uh Hgin).prods hlt
         obtain⟨hl0,hl1⟩:=(uh HG).pl _ (mem_getP hlt)
         have hpr:=(uh HG).pr _ (mem_getP hlt)
         have hpy:=(uh HG).py _ (mem_getP hlt)
         have Hnu:=hide (fun hs=>prd_upd (uh Hsnd2) hlt hs)
         have Hsp:Hid (prdStep G f2 (G.prods.getD k pd0)=(!f2 (G.prods.getD k pd0).left.toNat && wholeB G.nk f2 (G.prods.getD k pd0).right)):=hide rfl
         have Hjs:Hid (∀ j,j<k+1→G.prods.getD j pd0=G.prods.getD k pd0∨j<k):=hide (fun j hj=>by
           by_cases e:j=k
           · exact .inl (by rw[e])
           · exact .inr (by omega))
         generalize G.prods.getD k pd0=p at *
         obtain⟨pl,prt,plv,pac⟩:=p
         simp only at hl0 hl1 hpr hpy hrr hac q0 q1 q2 Hsp Hnu
         obtain⟨l,rfl⟩:∃ l:Nat,pl=(l:Int):=⟨pl.toNat,by omega⟩
         simp only[Int.toNat_natCast] at Hsp Hnu
         have hl2:l<G.rules.length:=by unfold Gm.nr at hl1;omega
         have hl1':(l:Int)<G.rules.length:=by omega
         obtain⟨p0,p1,-,-,-,-,-,hw3,hb3⟩:=boxP wr (.int .i64 (l:Int)) (.slice rr prt.length rrc) (.int .i64 plv) (.int .i64 x3) (.int .i64 x4) (.string x5) (.slice x6 n6 c6) 89
         have hrow3:=(uh Hrow2).of_block (hb3.block _ (uh Hrow2).lt)
         have hsz2:=(uh Hb2).size
         have hrr3:=nrow_kept (below_le hb3 (by omega)) hrr
         have HE:=hide (rWhole_any ka pa ra (some ⟨b,off,none⟩) G.kinds.length kc G.precs.length pc G.rules.length rc G.prods.length qc G.start (w.heap.size+1) G.rules.length f2 rr rrc prt B _ (by omega) (by unfold Gm.nr at hnr;exact hnr) (by omega) hrr3 hpy hrow3)
         have co:=hrow3.cell hl2
         have fo:=hrow3.frozen l
         have Hac:=hide hac
         clear hac hpy hrr hrr3
         have hst3:=gst_kept (below_le hb3 (by omega)) hB (gst_kept (uh Hb2) hB (uh Hst))
         have e0:=hst3.c0;have e1:=hst3.c1;have e2:=hst3.c2;have e3:=hst3.c3;have e4:=hst3.c4
         have Hb3:=hide hb3;have Hrow3:=hide hrow3
         clear hst3 hb3 hrow3
         have Hbb:=hide ((uh Hb2).trans (below_le (uh Hb3) (by omega)))
         have Hst4:Hid (prdStep G f2 ⟨(l:Int),prt,plv,pac⟩=false→((ag=false∧f2=f∧∀ j,j<k+1→prdStep G f (G.prods.getD j pd0)=false)∨(ag=true∧cntF f2 G.rules.length<cntF f G.rules.length))):=hide (fun hn=>by
           rcases uh Hst2 with ⟨h1,rfl,h3⟩ | h
           · refine .inl ⟨h1,rfl,fun j hj=>?_⟩
             rcases uh Hjs j hj with h | h
             · rw[h];exact hn
             · exact h3 j h
           · exact .inr h)
         have Hst5:Hid (f2 l=false→cntF (upd f2 l) G.rules.length<cntF f G.rules.length):=hide (fun hn=>by
           have:=cntF_upd hl2 hn
           rcases uh Hst2 with ⟨h1,rfl,h3⟩ | h
           · exact this
           · have:=h.2;omega)
         clear Hst2 Hjs Hgin
         cases hfl:f2 l
         · rw[hfl] at co Hsp Hst5
           cases hE:wholeB G.kinds.length f2 prt
           · rw[show wholeB G.nk f2 prt=wholeB G.kinds.length f2 prt from rfl,hE] at Hsp
             rw[hE] at HE
             have Hst6:=hide (uh Hst4 (uh Hsp))
             clear hfl hE Hsp Hst4 Hst5 Hnu
             go_wp2_with fail
             refine(uh HE).mono ?_
             rintro e w4 ⟨rfl,hb4⟩
             have Hb4:=hide hb4
             clear hb4
             go_wp2
             go_roundw
             case rel=>exact⟨f2,ag,k+1,rfl,by go_num,by omega,(uh Hrow3).of_block ((uh Hb4).block _ (uh Hrow3).lt),uh Hsnd2,uh Hst6,(uh Hbb).trans (below_le (uh Hb4) (by omega))⟩
             case measure=>simp[intOf];omega
           · rw[show wholeB G.nk f2 prt=wholeB G.kinds.length f2 prt from rfl,hE] at Hsp
             rw[hE] at HE
             have Hnu2:=hide (uh Hnu (uh Hsp))
             have Hst6:=hide (uh Hst5 rfl)
             clear hfl hE Hsp Hst4 Hst5 Hnu
             go_wp2_with fail
             refine(uh HE).mono ?_
             rintro e w4 ⟨rfl,hb4⟩
             have Hb4:=hide hb4
             have hrow4:=(uh Hrow3).of_block (hb4.block _ (uh Hrow3).lt)
             have co4:=hrow4.cell hl2
             have fo4:=hrow4.frozen l
             have p04:=(hb4.cell (p:=⟨wr.heap.size,0,none⟩) (by show wr.heap.size<_;omega)).trans p0
             have Hrow4:=hide hrow4
             clear hb4 hrow4
             go_wp2
             go_roundw
             case rel=>exact⟨upd f2 l,true,k+1,rfl,by go_num,by omega,rowIs_upd (uh Hrow4) l,uh Hnu2,.inr ⟨rfl,uh Hst6⟩,((uh Hbb).trans (below_le (uh Hb4) (by omega))).setCell (by show w.heap.size+1≤w.heap.size+1;omega) _⟩
             case measure=>simp[intOf];omega
         · rw[hfl] at co Hsp
           have Hst6:=hide (uh Hst4 (uh Hsp))
           clear hfl Hsp Hst4 Hst5 Hnu HE
           go_wp2
           go_roundw
           case rel=>exact⟨f2,ag,k+1,rfl,by go_num,by omega,uh Hrow3,uh Hsnd2,uh Hst6,uh Hbb⟩
           case measure=>simp[intOf];omega
       · obtain rfl:k=G.prods.length:=by omega
         have Hst7:Hid ((ag=false→PrdShut G f2)∧2 * cntF f2 G.rules.length+bitOf (.bool ag)<2 * cntF f G.rules.length+1):=hide (by
           rcases uh Hst2 with ⟨rfl,rfl,h3⟩ | ⟨rfl,h⟩
           · exact⟨fun _=>h3,by simp[bitOf]⟩
           · exact⟨(fun h=>by cases h),(by simp[bitOf];omega)⟩)
         have hc2:=cntW_is (uh Hrow2)
         go_wp2
         go_roundw
         case rel=>exact⟨f2,ag,rfl,uh Hrow2,uh Hsnd2,(uh Hst7).1,uh Hb2⟩
         case measure =>
           have:=(uh Hst7).2
           rw[hc2,hcnt]
           exact this
end Go.Proofs.YtagohbpbgjelaaaGreatDoor

namespace Go.Proofs.YtagohbpbgjelaaaGreatDoor
open Go.RowKit

theorem ex_getI {l:List Int} {p:Int} (h:p ∈ l):∃ i,i<l.length∧l.getD i 0=p:=by
 obtain⟨i,hi,rfl⟩:=List.getElem_of_mem h
 exact⟨i,hi,by rw[List.getD_eq_getElem?_getD,List.getElem?_eq_getElem hi];rfl⟩
theorem made_upd (w:World) (n i:Nat):(w.alloc (.cells ((madeCells #[.bool false] n).setIfInBounds i (.bool true)) 4)).rowIs w.heap.size 4 n (fun r=>.bool (upd (fun _=>false) i r)):=by
 have h:=World.rowIs_alloc w ((madeCells #[.bool false] n).setIfInBounds i (.bool true)) 4 (fun r=>.bool (upd (fun _=>false) i r)) (fun j hj=>by
   rw[Array.size_setIfInBounds,size_madeCells] at hj
   rw[Array.getElem?_setIfInBounds]
   unfold upd
   by_cases e:j=i
   · subst e;simp[size_madeCells,hj]
   · rw[if_neg (fun h=>e h.symm),if_neg e]
     simp[madeCells,hj,Nat.mod_one])
 rw[Array.size_setIfInBounds,size_madeCells] at h
 simpa using h
theorem nrow_back {B:Nat} {w w':World} {a:Option Addr} {l:List Int} (hb:Below B w w') (h:NRow B w' a l):NRow B w a l:=by
 rcases h with rfl | ⟨b,off,rfl,hlt,hc⟩
 · exact .inl rfl
 · exact .inr ⟨b,off,rfl,hlt,fun j hj=>(hb.cell hlt).symm.trans (hc j hj)⟩

set_option maxHeartbeats 4000000 in
set_option maxRecDepth 100000 in
theorem rReached_all (G : Gm) (hG : GOk G) (ka pa ra qa : Option Addr) (kc pc rc qc : Nat) (ma : Option Addr) (mc : Nat) (B : Nat) (w : World) (hB : B ≤ w.heap.size) (hin : GIn B w G ka pa ra qa)  :
   Calls Tryz.prog 40 #[.agg #[.slice ka G.kinds.length kc,.slice pa G.precs.length pc,.slice ra G.rules.length rc,.slice qa G.prods.length qc,.int .i64 G.start],.slice ma 0 mc] w fun e w'=>∃ b,e=.returned (.slice (some ⟨b,0,none⟩) G.nr G.nr)∧w.heap.size≤b∧w'.rowIs b 4 G.nr (fun r=>.bool (rchF G (fun _:Pd=>true) r))∧Below w.heap.size w w':=by
 have hnr:=hG.r2;have hnr1:=hG.r1;have hqs:=hG.ps;have hs0:=hG.s0;have hs1:=hG.s1;have hnk:=hG.k3
 unfold Gm.nr at hs1 hnr
 have hmk:=fun w=>run_make_row' (P:=Tryz.prog) 28 4 (.bool false) 1 Tryz.underlying28 info4 rfl .i64 .i64 G.rules.length (by omega) (by omega) w
 have HG:=hide hG;have Hin:=hide hin
 clear hG hin
 generalize hok:(fun _:Pd=>true)=ok at *
 have Hok:=hide hok
 clear hok
 have Hst:=hide (gst_new (kc:=kc) (pc:=pc) (rc:=rc) (qc:=qc) hB (uh Hin) 26)
 have hb1:Below w.heap.size w (w.alloc (.cells #[.slice ka G.kinds.length kc,.slice pa G.precs.length pc,.slice ra G.rules.length rc,.slice qa G.prods.length qc,.int .i64 G.start] 26)):=(Below.refl _ _).alloc (Nat.le_refl _) _
 have hw1:(w.alloc (.cells #[.slice ka G.kinds.length kc,.slice pa G.precs.length pc,.slice ra G.rules.length rc,.slice qa G.prods.length qc,.int .i64 G.start] 26)).heap.size=w.heap.size+1:=by simp
 have hr0:=World.rowIs_made (w.alloc (.cells #[.slice ka G.kinds.length kc,.slice pa G.precs.length pc,.slice ra G.rules.length rc,.slice qa G.prods.length qc,.int .i64 G.start] 26)) (.bool false) G.rules.length 4
 rw[hw1] at hr0
 have hbm:=(Below.refl (w.heap.size+1) (w.alloc (.cells #[.slice ka G.kinds.length kc,.slice pa G.precs.length pc,.slice ra G.rules.length rc,.slice qa G.prods.length qc,.int .i64 G.start] 26))).alloc (by omega) (.cells (madeCells #[.bool false] G.rules.length) 4)
 have hstm:=gst_kept hbm hB (uh Hst)
 have d4:=hstm.c4
 have co:=hr0.cell (i:=G.start.toNat) (by omega)
 have fo:=hr0.frozen G.start.toNat
 have hr1:=made_upd (w.alloc (.cells #[.slice ka G.kinds.length kc,.slice pa G.precs.length pc,.slice ra G.rules.length rc,.slice qa G.prods.length qc,.int .i64 G.start] 26)) G.rules.length G.start.toNat
 have hbs:=(Below.refl (w.heap.size+1) (w.alloc (.cells #[.slice ka G.kinds.length kc,.slice pa G.precs.length pc,.slice ra G.rules.length rc,.slice qa G.prods.length qc,.int .i64 G.start] 26))).alloc (by omega) (.cells ((madeCells #[.bool false] G.rules.length).setIfInBounds G.start.toNat (.bool true)) 4)
 rw[hw1] at hr1
 have Hr1:=hide hr1;have Hbs:=hide hbs;have Hb1:=hide hb1
 clear hr0 hr1 hbm hbs hstm hb1
 have hnot:=run_not
 go_enter Tryz.func40,Tryz.ntmps40
 go_wp2
 clear d4 co fo hmk
 generalize w.alloc (.cells #[.slice ka G.kinds.length kc,.slice pa G.precs.length pc,.slice ra G.rules.length rc,.slice qa G.prods.length qc,.int .i64 G.start] 26)=w1 at *
 go_loopw [6,10] (fun x _ wr=>∃ (f:Nat→Bool) (ag:Bool),x=.bool ag∧wr.rowIs (w.heap.size+1) 4 G.rules.length (fun r=>.bool (f r))∧RchSound G ok f∧(ag=false→RchShut G ok f)∧Below (w.heap.size+1) w1 wr) (fun x _ wr=>2 * cntF (markW wr (w.heap.size+1)) G.rules.length+bitOf x)
 case atStart=>exact⟨_,true,rfl,uh Hr1,⟨upd_self _ _,fun r h=>by rcases upd_inv h with rfl | h;exact .start;exact absurd h (by simp)⟩,(fun h=>by cases h),uh Hbs⟩
 case round =>
   obtain⟨f,ag,rfl,hrow,hsnd,hsh,hb⟩:=hrel
   have hcnt:=cntW_is hrow
   have Hsnd:=hide hsnd;have Hsh:=hide hsh;have Hb:=hide hb;have Hrow:=hide hrow
   clear hsnd hsh hb hrow Hr1 Hbs
   cases ag
   · have Hd:=hide (rch_done (uh Hsnd) (uh Hsh rfl))
     clear Hsh Hsnd hcnt
     rw[uh Hd] at Hrow
     clear Hd
     go_wp2
     go_ret
     exact⟨_,rfl,by omega,uh Hrow,(uh Hb1).trans (below_le (uh Hb) (by omega))⟩
   · clear Hsh
     go_wp2
     go_loopw [6,7,8,9,10] (fun x y _ _ _ W=>∃ (f2:Nat→Bool) (ag:Bool) (k:Nat),x=.bool ag∧y=.int .i64 k∧k≤G.prods.length∧W.rowIs (w.heap.size+1) 4 G.rules.length (fun r=>.bool (f2 r))∧RchSound G ok f2∧((ag=false∧f2=f∧∀ j,j<k→rchFull G ok f (G.prods.getD j pd0))∨(ag=true∧cntF f2 G.rules.length<cntF f G.rules.length))∧Below (w.heap.size+1) w1 W) (fun _ y _ _ _ _=>G.prods.length - (intOf y).toNat)
     case atStart=>exact⟨f,false,0,rfl,rfl,Nat.zero_le _,uh Hrow,uh Hsnd,.inl ⟨rfl,rfl,fun j hj=>absurd hj (Nat.not_lt_zero _)⟩,uh Hb⟩
     case round =>
       obtain⟨f2,ag,k,rfl,rfl,hk,hrow2,hsnd2,hst2,hb2⟩:=hrel
       have Hsnd2:=hide hsnd2;have Hst2:=hide hst2;have Hb2:=hide hb2;have Hrow2:=hide hrow2
       clear hsnd2 hst2 hb2 hrow2 Hrow Hsnd Hb
       have hst:=gst_kept (uh Hb2) hB (uh Hst)
       have g0:=hst.c0;have g1:=hst.c1;have g2:=hst.c2;have g3:=hst.c3;have g4:=hst.c4
       have Hgin:=hide hst.gin
       clear hst
       by_cases hlt:k<G.prods.length
       · have hlt' : (k : Int) < G.prods.length := by omega
         obtain⟨b,off,rfl,hbB,rr,rrc,x3,x4,x5,x6,n6,c6,hrr,hac,q0,q1,q2,q3,q4,q5,q6⟩:=qrow_at (uh Hgin).prods hlt
         obtain⟨hl0,hl1⟩:=(uh HG).pl _ (mem_getP hlt)
         have hpr:=(uh HG).pr _ (mem_getP hlt)
         have hpy:=(uh HG).py _ (mem_getP hlt)
         have Hup:=hide (fun(g:Nat→Bool) (h:RchSound G ok g) hl ho (x:Int) hx hk=>rch_upd (x:=x) h hlt hl ho hx hk)
         have Hfd:Hid (rchFull G ok f (G.prods.getD k pd0)↔(f (G.prods.getD k pd0).left.toNat=true→ok (G.prods.getD k pd0)=true→∀ x,x ∈ (G.prods.getD k pd0).right→(G.nk:Int)≤x→f (x - G.nk).toNat=true)):=hide Iff.rfl
         have Hjs:Hid (∀ j,j<k+1→G.prods.getD j pd0=G.prods.getD k pd0∨j<k):=hide (fun j hj=>by
           by_cases e:j=k
           · exact .inl (by rw[e])
           · exact .inr (by omega))
         have Hokp:=hide (congrFun (uh Hok) (G.prods.getD k pd0))
         generalize G.prods.getD k pd0=p at *
         obtain⟨pl,prt,plv,pac⟩:=p
         simp only at hl0 hl1 hpr hpy hrr hac q0 q1 q2 Hup Hfd Hokp
         obtain⟨l,rfl⟩:∃ l:Nat,pl=(l:Int):=⟨pl.toNat,by omega⟩
         simp only[Int.toNat_natCast] at Hup Hfd
         have hl2:l<G.rules.length:=by unfold Gm.nr at hl1;omega
         have hl1':(l:Int)<G.rules.length:=by omega
         obtain⟨p0,p1,-,-,-,-,-,hw3,hb3⟩:=boxP wr (.int .i64 (l:Int)) (.slice rr prt.length rrc) (.int .i64 plv) (.int .i64 x3) (.int .i64 x4) (.string x5) (.slice x6 n6 c6) 89
         have hrow3:=(uh Hrow2).of_block (hb3.block _ (uh Hrow2).lt)
         have hsz2:=(uh Hb2).size
         have Hrr3:=hide (nrow_kept (below_le hb3 (by omega)) hrr)
         have co:=hrow3.cell hl2
         have Hpy:=hide hpy
         have Hac:=hide hac
         have HrrA:=hide (nrow_back (below_le (uh Hb2) (by omega)) hrr)
         clear hac hpy hrr
         have hst3:=gst_kept (below_le hb3 (by omega)) hB (gst_kept (uh Hb2) hB (uh Hst))
         have e0:=hst3.c0;have e1:=hst3.c1;have e2:=hst3.c2;have e3:=hst3.c3;have e4:=hst3.c4
         have Hst3:=hide hst3
         have Hb3:=hide hb3;have Hrow3:=hide hrow3
         have Hbb:=hide ((uh Hb2).trans (below_le (uh Hb3) (by omega)))
         have Hst4:Hid (rchFull G ok f ⟨(l:Int),prt,plv,pac⟩∨cntF f2 G.rules.length<cntF f G.rules.length→((ag=false∧f2=f∧∀ j,j<k+1→rchFull G ok f (G.prods.getD j pd0))∨(ag=true∧cntF f2 G.rules.length<cntF f G.rules.length))):=hide (fun hn=>by
           rcases uh Hst2 with ⟨h1,rfl,h3⟩ | h
           · rcases hn with hn | hn
             · refine .inl ⟨h1,rfl,fun j hj=>?_⟩
               rcases uh Hjs j hj with h | h
               · rw[h];exact hn
               · exact h3 j h
             · omega
           · exact .inr h)
         have Hst5:Hid (f2=f∨cntF f2 G.rules.length<cntF f G.rules.length):=hide (by
           rcases uh Hst2 with ⟨h1,h2,h3⟩ | h
           · exact .inl h2
           · exact .inr h.2)
         clear hst3 hb3 hrow3 Hgin
         cases hfl:f2 l
         · rw[hfl] at co
           have Hst6:=hide (uh Hst4 (by
             rcases uh Hst5 with h | h
             · exact .inl ((uh Hfd).2 (fun h'=>by rw[← h,hfl] at h';cases h'))
             · exact .inr h))
           clear hfl Hst4 Hst5 Hup Hfd Hst2 Hjs
           go_wp2
           go_roundw
           case rel=>exact⟨f2,ag,k+1,rfl,by go_num,by omega,uh Hrow3,uh Hsnd2,uh Hst6,uh Hbb⟩
           case measure=>simp[intOf];omega
         · rw [hfl] at co
           have Hokt:Hid (ok ⟨(l:Int),prt,plv,pac⟩=true):=hide (uh Hokp).symm
           have Hfl:=hide hfl
           clear hfl
           have Hrr1:=HrrA
           go_wp2
           have HrowX:=Hrow3;have HbX:=Hbb;have Hp1:=hide p1
           have Hwr:Hid (wr.heap.size≠w.heap.size+1):=hide (by have:=(uh Hrow2).lt;omega)
           go_loopw [6,9,10] (fun x y _ W=>∃ (f3:Nat→Bool) (ag3:Bool) (q:Nat),x=.bool ag3∧y=.int .i64 q∧q≤prt.length∧W.rowIs (w.heap.size+1) 4 G.rules.length (fun r=>.bool (f3 r))∧RchSound G ok f3∧f3 l=true∧((ag3=ag∧f3=f2∧(cntF f2 G.rules.length<cntF f G.rules.length∨∀ j,j<q→(G.nk:Int)≤prt.getD j 0→f (prt.getD j 0 - G.nk).toNat=true))∨(ag3=true∧cntF f3 G.rules.length<cntF f G.rules.length))∧Below (w.heap.size+1) w1 W∧W.cell? ⟨wr.heap.size,1,none⟩=some (.slice rr prt.length rrc)) (fun _ y _ _=>prt.length - (intOf y).toNat)
           case atStart=>exact⟨f2,ag,0,rfl,rfl,Nat.zero_le _,uh HrowX,uh Hsnd2,uh Hfl,.inl ⟨rfl,rfl,.inr (fun j hj=>absurd hj (Nat.not_lt_zero _))⟩,uh HbX,uh Hp1⟩
           case round =>
             obtain⟨f3,ag3,q,rfl,rfl,hq,hrow5,hsnd5,hf5,hst5,hb5,p15⟩:=hrel
             have Hrow5:=hide hrow5;have Hsnd5:=hide hsnd5;have Hf5:=hide hf5;have Hs5:=hide hst5;have Hb5:=hide hb5
             clear hrow5 hsnd5 hf5 hst5 hb5
             have hst:=gst_kept (uh Hb5) hB (uh Hst)
             have a0:=hst.c0
             have Hgin:=hide hst.gin
             clear hst
             by_cases hql:q<prt.length
             · have hql' : (q : Int) < prt.length := by omega
               obtain⟨xb,xo,rfl,hxb,cx⟩:=nrow_at (nrow_kept (below_le (uh Hb5) (by omega)) (uh Hrr1)) hql
               have hx:=uh Hpy _ (mem_getD hql)
               have Hxu:=hide (fun ho hk=>uh Hup f3 (uh Hsnd5) (uh Hf5) ho _ (mem_getD hql) hk)
               have Hqs:Hid (∀ j,j<q+1→prt.getD j 0=prt.getD q 0∨j<q):=hide (fun j hj=>by
                 by_cases e:j=q
                 · exact .inl (by rw[e])
                 · exact .inr (by omega))
               generalize prt.getD q 0=x at *
               have hwx:IntKind.i64.wrap (x - (G.kinds.length:Int))=x - G.kinds.length:=by rw[IntKind.wrap_i64];unfold Gm.nk Gm.nr at *;omega
               by_cases hxk:x<G.kinds.length
               · have hxn:decide (0≤x - (G.kinds.length:Int))=false:=by rw[decide_eq_false_iff_not];omega
                 have Hs6:Hid ((ag3=ag∧f3=f2∧(cntF f2 G.rules.length<cntF f G.rules.length∨∀ j,j<q+1→(G.nk:Int)≤prt.getD j 0→f (prt.getD j 0 - G.nk).toNat=true))∨(ag3=true∧cntF f3 G.rules.length<cntF f G.rules.length)):=hide (by
                   rcases uh Hs5 with ⟨h1,h2,h3 | h3⟩ | h
                   · exact .inl ⟨h1,h2,.inl h3⟩
                   · refine .inl ⟨h1,h2,.inr (fun j hj hk2=>?_)⟩
                     rcases uh Hqs j hj with h | h
                     · rw[h] at hk2;unfold Gm.nk at hk2;omega
                     · exact h3 j h hk2
                   · exact .inr h)
                 clear Hs5 Hqs Hxu
                 go_wp2
                 go_quiet (fail)
                 have HrowD:Hid ((wr.drewN nq).rowIs (w.heap.size+1) 4 G.rules.length (fun r=>.bool (f3 r))):=Hrow5
                 have HbD:=hide (below_drewN (uh Hb5) nq)
                 have pD:Hid ((wr.drewN nq).cell? _=_):=hide p15
                 clear Hrow5 Hb5 p15 cx a0 Hgin
                 generalize wr.drewN nq=wd at *
                 go_wp2
                 go_roundw
                 case rel=>exact⟨f3,ag3,q+1,rfl,by go_num,by omega,uh HrowD,uh Hsnd5,uh Hf5,uh Hs6,uh HbD,uh pD⟩
                 case measure=>simp[intOf];omega
               · obtain ⟨r, hxr⟩ : ∃ r : Nat, x - (G.kinds.length : Int) = r := ⟨(x - G.kinds.length).toNat, by omega⟩
                 have hr2:r<G.rules.length:=by unfold Gm.nk Gm.nr at *;omega
                 have hr2':(r:Int)<G.rules.length:=by omega
                 have hr0:(0:Int)≤r:=by omega
                 rw[hxr] at hwx
                 have Hxu2:=hide (uh Hxu (uh Hokt) (by unfold Gm.nk;omega))
                 have hxe:(x - (G.nk:Int)).toNat=r:=by unfold Gm.nk;omega
                 rw[hxe] at Hxu2
                 have cr:=(uh Hrow5).cell hr2
                 have fr:=(uh Hrow5).frozen r
                 cases hfr:f3 r
                 · rw[hfr] at cr
                   have Hs6:Hid (cntF (upd f3 r) G.rules.length<cntF f G.rules.length):=hide (by
                     have:=cntF_upd hr2 hfr
                     rcases uh Hs5 with ⟨h1,h2,h3⟩ | h
                     · rw[h2] at this ⊢
                       rcases uh Hst5 with h | h
                       · rw[h] at this ⊢;exact this
                       · omega
                     · have:=h.2;omega)
                   have Hf6:=hide (upd_of f3 r l (uh Hf5))
                   clear hfr Hs5 Hqs Hxu hxe
                   go_wp2
                   go_quiet (fail)
                   have HrowD:Hid ((wr.drewN nq).rowIs (w.heap.size+1) 4 G.rules.length (fun r=>.bool (f3 r))):=Hrow5
                   have HbD:=hide (below_drewN (uh Hb5) nq)
                   have pD:Hid ((wr.drewN nq).cell? _=_):=hide p15
                   have crD:(wr.drewN nq).cell? _=_:=cr
                   have frD:(wr.drewN nq).frozen? _=_:=fr
                   clear cr fr
                   clear Hrow5 Hb5 p15 cx a0 Hgin
                   generalize wr.drewN nq=wd at *
                   go_wp2
                   go_roundw
                   case rel=>exact⟨upd f3 r,true,q+1,rfl,by go_num,by omega,rowIs_upd (uh HrowD) r,uh Hxu2,uh Hf6,.inr ⟨rfl,uh Hs6⟩,(uh HbD).setCell (Nat.le_refl _) _,by rw[World.cell?_of_block (Below.heap_setCell _ _ _ _ (uh Hwr))];exact uh pD⟩
                   case measure=>simp[intOf];omega
                 · rw[hfr] at cr
                   have Hs6:Hid ((ag3=ag∧f3=f2∧(cntF f2 G.rules.length<cntF f G.rules.length∨∀ j,j<q+1→(G.nk:Int)≤prt.getD j 0→f (prt.getD j 0 - G.nk).toNat=true))∨(ag3=true∧cntF f3 G.rules.length<cntF f G.rules.length)):=hide (by
                     rcases uh Hs5 with ⟨h1,h2,h3 | h3⟩ | h
                     · exact .inl ⟨h1,h2,.inl h3⟩
                     · rcases uh Hst5 with h5 | h5
                       · refine .inl ⟨h1,h2,.inr (fun j hj hk2=>?_)⟩
                         rcases uh Hqs j hj with h | h
                         · rw[h,hxe,← h5,← h2];exact hfr
                         · exact h3 j h hk2
                       · exact .inl ⟨h1,h2,.inl h5⟩
                     · exact .inr h)
                   clear hfr Hs5 Hqs Hxu hxe
                   go_wp2
                   go_quiet (fail)
                   have HrowD:Hid ((wr.drewN nq).rowIs (w.heap.size+1) 4 G.rules.length (fun r=>.bool (f3 r))):=Hrow5
                   have HbD:=hide (below_drewN (uh Hb5) nq)
                   have pD:Hid ((wr.drewN nq).cell? _=_):=hide p15
                   have crD:(wr.drewN nq).cell? _=_:=cr
                   have frD:(wr.drewN nq).frozen? _=_:=fr
                   clear cr fr
                   clear Hrow5 Hb5 p15 cx a0 Hgin
                   generalize wr.drewN nq=wd at *
                   go_wp2
                   go_roundw
                   case rel=>exact⟨f3,ag3,q+1,rfl,by go_num,by omega,uh HrowD,uh Hsnd5,uh Hf5,uh Hs6,uh HbD,uh pD⟩
                   case measure=>simp[intOf];omega
             · obtain rfl:q=prt.length:=by omega
               have Hs6:Hid ((ag3=false∧f3=f∧∀ j,j<k+1→rchFull G ok f (G.prods.getD j pd0))∨(ag3=true∧cntF f3 G.rules.length<cntF f G.rules.length)):=hide (by
                 rcases uh Hs5 with ⟨rfl,rfl,h3⟩ | h
                 · refine uh Hst4 ?_
                   rcases h3 with h3 | h3
                   · exact .inr h3
                   · refine .inl ((uh Hfd).2 (fun _ _ x hx hk2=>?_))
                     obtain⟨j,hj,rfl⟩:=ex_getI hx
                     exact h3 j hj hk2
                 · exact .inr h)
               clear Hs5
               go_wp2
               go_roundw
               case rel=>exact⟨f3,ag3,k+1,rfl,by go_num,by omega,uh Hrow5,uh Hsnd5,uh Hs6,uh Hb5⟩
               case measure=>simp[intOf];omega
       · obtain rfl:k=G.prods.length:=by omega
         have Hst7:Hid ((ag=false→RchShut G ok f2)∧2 * cntF f2 G.rules.length+bitOf (.bool ag)<2 * cntF f G.rules.length+1):=hide (by
           rcases uh Hst2 with ⟨rfl,rfl,h3⟩ | ⟨rfl,h⟩
           · exact⟨fun _=>h3,by simp[bitOf]⟩
           · exact⟨(fun h=>by cases h),(by simp[bitOf];omega)⟩)
         have hc2:=cntW_is (uh Hrow2)
         go_wp2
         go_roundw
         case rel=>exact⟨f2,ag,rfl,uh Hrow2,uh Hsnd2,(uh Hst7).1,uh Hb2⟩
         case measure =>
           have:=(uh Hst7).2
           rw[hc2,hcnt]
           exact this
end Go.Proofs.YtagohbpbgjelaaaGreatDoor

namespace Go.Proofs.YtagohbpbgjelaaaGreatDoor
open Go.RowKit
mutual
def acShort:Ac→Prop
 | .mk _ _ _ ks=>ks.length≤281474976710656∧acShortL ks
def acShortL:List Ac→Prop
 | []=>True
 | t::ts=>acShort t∧acShortL ts
end
theorem acShortL_of:∀ (ks:List Ac),(∀ t,t ∈ ks→acShort t)→acShortL ks
 | [],_=>by unfold acShortL;trivial
 | t :: ts, h => by
   unfold acShortL
   exact⟨h t (by simp),acShortL_of ts (fun x hx=>h x (List.mem_cons_of_mem _ hx))⟩
end Go.Proofs.YtagohbpbgjelaaaGreatDoor

namespace Go.Proofs.YtagohbpbgjelaaaGreatDoor
open Go.RowKit

mutual
theorem acAt_upB {B B':Nat} {w:World} (hB:B≤B'):∀ (t:Ac) (v0 v1 v2 v3:Value),AcAt B w t v0 v1 v2 v3→AcAt B' w t v0 v1 v2 v3
 | .mk k p n ks, v0, v1, v2, v3, h => by
   unfold AcAt at h ⊢
   obtain⟨h0,h1,h2,a,c,vs,h3,hts,hc⟩:=h
   refine⟨h0,h1,h2,a,c,vs,h3,acTs_upB hB ks vs hts,?_⟩
   rcases hc with h | ⟨b,off,h,hlt,hcs⟩
   · exact .inl h
   · exact .inr ⟨b,off,h,by omega,hcs⟩
theorem acTs_upB {B B':Nat} {w:World} (hB:B≤B'):∀ (ts:List Ac) (vs:List Value),AcTs B w ts vs→AcTs B' w ts vs
 | [],vs,h=>by unfold AcTs at h ⊢;exact h
 | t :: ts, vs, h => by
   unfold AcTs at h ⊢
   obtain⟨u0,u1,u2,u3,rest,rfl,h1,h2⟩:=h
   exact⟨u0,u1,u2,u3,rest,rfl,acAt_upB hB t _ _ _ _ h1,acTs_upB hB ts rest h2⟩
end
end Go.Proofs.YtagohbpbgjelaaaGreatDoor

namespace Go.Proofs.YtagohbpbgjelaaaGreatDoor
open Go.RowKit

def okP (G:Gm) (f was:Nat→Int) (p:Pd):Bool:=wholeB G.nk (fun r=>decide (0≤was r)) p.right && decide (lenR G.nk f p.right 0=f p.left.toNat)
end Go.Proofs.YtagohbpbgjelaaaGreatDoor

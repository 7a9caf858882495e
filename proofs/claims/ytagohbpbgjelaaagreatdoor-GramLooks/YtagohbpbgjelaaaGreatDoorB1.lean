/- Tables of marks; the document's begins. -/
import Derived.Test.YtagohbpbgjelaaaGreatDoorP0
import Derived.Test.YtagohbpbgjelaaaGreatDoorA4
import Derived.Deep.CutRange
import Derived.Deep.DeepCutAuto
namespace Go.Proofs.YtagohbpbgjelaaaGreatDoor
open Go.RowKit

structure TabIs (w:World) (tb nr nk:Nat) (bk:Nat→Nat) (F:Nat→Nat→Bool):Prop where
 lt:tb<w.heap.size
 cell:∀ r,r<nr→w.cell? ⟨tb,r,none⟩=some (.slice (some ⟨bk r,0,none⟩) nk nk)
 row:∀ r,r<nr→w.rowIs (bk r) 4 nk (fun k=>.bool (F r k))
 inj:∀ r s,r<nr→s<nr→bk r=bk s→r=s
 ne:∀ r,r<nr→bk r≠tb
theorem tab_kept {w w':World} {tb nr nk:Nat} {bk:Nat→Nat} {F:Nat→Nat→Bool} (h:TabIs w tb nr nk bk F) (hs:w.heap.size≤w'.heap.size) (hk:∀ k,(k=tb∨∃ r,r<nr∧k=bk r)→w'.heap[k]? = w.heap[k]?):TabIs w' tb nr nk bk F :=
 ⟨Nat.lt_of_lt_of_le h.lt hs,fun r hr=>(World.cell?_of_block (w:=w) (hk _ (.inl rfl))).trans (h.cell r hr),fun r hr=>(h.row r hr).of_block (hk _ (.inr ⟨r,hr,rfl⟩)),h.inj,h.ne⟩
theorem tab_below {w w':World} {tb nr nk:Nat} {bk:Nat→Nat} {F:Nat→Nat→Bool} (h:TabIs w tb nr nk bk F) {B:Nat} (hb:Below B w w') (hB:w.heap.size≤B):TabIs w' tb nr nk bk F :=
 tab_kept h hb.size (fun k hk=>hb.block k (by
   rcases hk with rfl | ⟨r,hr,rfl⟩
   · have:=h.lt;omega
   · have:=(h.row r hr).lt;omega))
def updT (F:Nat→Nat→Bool) (r:Nat) (f:Nat→Bool):Nat→Nat→Bool:=fun s=>if s=r then f else F s
theorem tab_upd {w w':World} {tb nr nk r:Nat} {bk:Nat→Nat} {F:Nat→Nat→Bool} {f:Nat→Bool} (h:TabIs w tb nr nk bk F) (hr:r<nr) (hf:Fr (· = bk r) w w') (hrow:w'.rowIs (bk r) 4 nk (fun k=>.bool (f k))):TabIs w' tb nr nk bk (updT F r f):=by
 refine⟨Nat.lt_of_lt_of_le h.lt hf.1,fun s hs=>(World.cell?_of_block (w:=w) (hf.2.1 _ h.lt (fun e=>h.ne r hr e.symm))).trans (h.cell s hs),fun s hs=>?_,h.inj,h.ne⟩
 unfold updT
 by_cases e:s=r
 · subst e;rw[if_pos rfl];exact hrow
 · rw[if_neg e];exact(h.row s hs).of_block (hf.2.1 _ (h.row s hs).lt (fun e2=>e (h.inj s r hs hr e2)))

def begB (nk:Nat) (null:Nat→Bool) (F:Nat→Nat→Bool):List Int→Nat→Bool
 | [],_=>false
 | x::xs,k=>if x<nk then decide (k=x.toNat) else F (x - nk).toNat k || (null (x - nk).toNat && begB nk null F xs k)
theorem drop_cons {row:List Int} {i:Nat} (h:i<row.length):row.drop i=row.getD i 0::row.drop (i+1):=by
 rw[List.drop_eq_getElem_cons h,List.getD_eq_getElem?_getD,List.getElem?_eq_getElem h];rfl

set_option maxHeartbeats 2000000 in
set_option maxRecDepth 100000 in
theorem rBegins_any (ka pa ra qa : Option Addr) (nk kc pn pc nr rc qn qc : Nat) (st : Int) (nb nc : Nat) (null : Nat → Bool) (tb tc : Nat) (bk : Nat → Nat) (F : Nat → Nat → Bool) (ro : Option Addr) (rowc : Nat) (row : List Int) (B : Nat) (w : World)
   (hB:B≤w.heap.size) (hnk:nk≤1024) (hnr:nr≤2048) (hrl:row.length≤281474976710656) (hrow:NRow B w ro row) (hs:symsIn (nk+nr) row) (hn:w.rowIs nb 4 nr (fun r=>.bool (null r))) (ht:TabIs w tb nr nk bk F) :
   Calls Tryz.prog 49 #[.agg #[.slice ka nk kc,.slice pa pn pc,.slice ra nr rc,.slice qa qn qc,.int .i64 st],.slice (some ⟨nb,0,none⟩) nr nc,.slice (some ⟨tb,0,none⟩) nr tc,.slice ro row.length rowc] w fun e w'=>∃ b,e=.returned (.slice (some ⟨b,0,none⟩) nk nk)∧w.heap.size≤b∧w'.rowIs b 4 nk (fun k=>.bool (begB nk null F row k))∧Below w.heap.size w w':=by
 have hmk:=fun w=>run_make_row' (P:=Tryz.prog) 28 4 (.bool false) 1 Tryz.underlying28 info4 rfl .i64 .i64 nk (by omega) (by omega) w
 have Hrow:=hide hrow;have Hs:=hide hs;have Hn:=hide hn;have Ht:=hide ht
 clear hrow hs hn ht
 obtain⟨g0,-,-,-,-,hw1,hb1⟩:=boxG w (.slice ka nk kc) (.slice pa pn pc) (.slice ra nr rc) (.slice qa qn qc) (.int .i64 st) 26
 have hnot:=run_not
 go_enter Tryz.func49,Tryz.ntmps49
 go_wp2
 generalize w.alloc (.cells #[.slice ka nk kc,.slice pa pn pc,.slice ra nr rc,.slice qa qn qc,.int .i64 st] 26)=w1 at *
 have hr0:=World.rowIs_made w1 (.bool false) nk 4
 rw[hw1] at hr0
 have Hr0:=hide hr0;have Hb1:=hide hb1;have Hg0:=hide g0
 clear hr0 hb1 hmk g0
 go_loopw [10] (fun x wr=>∃ (i:Nat) (o:Nat→Bool),x=.int .i64 i∧i≤row.length∧wr.rowIs (w.heap.size+1) 4 nk (fun k=>.bool (o k))∧(∀ k,k<nk→begB nk null F row k=(o k || begB nk null F (row.drop i) k))∧Below (w.heap.size+1) w1 wr) (fun x _=>row.length - (intOf x).toNat)
 case atStart=>exact⟨0,fun _=>false,rfl,Nat.zero_le _,uh Hr0,fun k _=>by simp,(Below.refl _ _).alloc (by omega) _⟩
 case round =>
   obtain⟨i,o,rfl,hi,ho,heq,hb⟩:=hrel
   have g0:=(hb.cell (p:=⟨w.heap.size,0,none⟩) (Nat.lt_succ_self _)).trans (uh Hg0)
   have hb2:=(uh Hb1).trans (below_le hb (by omega))
   have Ho:=hide ho;have Heq:=hide heq;have Hb:=hide hb;have Hb2:=hide hb2
   clear ho heq hb hb2
   by_cases hlt:i<row.length
   · have hlt':(i:Int)<row.length:=by omega
     obtain⟨b,off,rfl,hbB,hc⟩:=nrow_at (nrow_kept (below_le (uh Hb2) hB) (uh Hrow)) hlt
     have hx:=uh Hs _ (mem_getD hlt)
     rw[drop_cons hlt] at Heq
     generalize row.getD i 0=x at *
     go_wp2
     go_quiet (fail)
     have g0d:(wr.drewN nq).cell? ⟨w.heap.size,0,none⟩=some (.slice ka nk kc):=g0
     have hcd:(wr.drewN nq).cell? ⟨b,off+i,none⟩=some (.int .i64 x):=hc
     have Hod:Hid ((wr.drewN nq).rowIs (w.heap.size+1) 4 nk (fun k=>.bool (o k))):=Ho
     have Hbd:=hide (below_drewN (uh Hb) nq)
     have Hb2d:=hide (below_drewN (uh Hb2) nq)
     clear g0 hc Ho Hb Hb2
     generalize wr.drewN nq=wd at *
     by_cases hxk:x<nk
     · have Heq2:Hid (∀ k,k<nk→Value.bool (upd o x.toNat k)=Value.bool (begB nk null F row k)):=hide (fun k hk=>by
         rw[uh Heq k hk]
         unfold begB upd
         rw[if_pos hxk]
         by_cases e:k=x.toNat
         · simp[e]
         · simp[e])
       obtain⟨xn,rfl⟩:∃ xn:Nat,x=(xn:Int):=⟨x.toNat,by omega⟩
       have hxn:xn<nk:=by omega
       have co:=(uh Hod).cell hxn
       have fo:=(uh Hod).frozen xn
       simp only[Int.toNat_natCast] at Heq2
       clear Heq
       go_wp2
       go_ret
       exact⟨_,rfl,by omega,(rowIs_upd (uh Hod) xn).congr (uh Heq2),(uh Hb2d).setCell (by show w.heap.size≤w.heap.size+1;omega) _⟩
     · obtain⟨r,hxr⟩:∃ r:Nat,x - (nk:Int)=r:=⟨(x - nk).toNat,by omega⟩
       have hwr:=wN r (by omega)
       have hrr:r<nr:=by omega
       have hrr':(r:Int)<nr:=by omega
       have htd:=tab_below (uh Ht) (uh Hb2d) (Nat.le_refl _)
       have ct:=htd.cell r hrr
       have Hrow2:=hide (htd.row r hrr)
       have HJ:=hide (rJoined_any (w.heap.size+1) (bk r) nk nk nk o (F r) (by omega) wd.drew (uh Hod) (uh Hrow2))
       have Heq2:Hid (∀ k,k<nk→begB nk null F row k=(joinTo o (F r) nk k || (null r && begB nk null F (row.drop (i+1)) k))):=hide (fun k hk=>by
         rw[uh Heq k hk,begB,if_neg hxk,hxr,Int.toNat_natCast]
         unfold joinTo
         simp[hk,Bool.or_assoc])
       clear Heq
       go_wp2
       go_cut [48] from 36 to 48 (fun _ wx=>wx.rowIs (w.heap.size+1) 4 nk (fun k=>.bool (joinTo o (F r) nk k))∧Fr (· = w.heap.size+1) wd wx)
       case first =>
         go_region_with (go_at_call 92;refine(uh HJ).mono ?_;rintro e w' ⟨rfl,hr3,hf3⟩;have Hr3:=hide hr3;have Hf3:=hide hf3;clear hr3 hf3)
         all_goals
           go_wp2_with fail
           go_meet
           exact⟨uh Hr3,uh Hf3⟩
       case rest =>
         obtain⟨hr3,hf3⟩:=hcut
         have hsd:=(uh Hbd).size
         have hb3:=fr_below (B:=w.heap.size+1) hf3 (by omega) (fun k hk=>by rw[hk];omega)
         have g0c:=(hb3.cell (p:=⟨w.heap.size,0,none⟩) (Nat.lt_succ_self _)).trans g0d
         have hcc:=(hb3.cell (p:=⟨b,off+i,none⟩) (by show b<_;omega)).trans hcd
         have Hb4:=hide ((uh Hbd).trans hb3)
         have Hb5:=hide ((uh Hb2d).trans (below_le hb3 (by omega)))
         have Hr3:=hide hr3
         have cn:wc.cell? ⟨nb,r,none⟩=some (.bool (null r)):=((uh Hb5).cell (p:=⟨nb,r,none⟩) (uh Hn).lt).trans ((uh Hn).cell hrr)
         clear hr3 hf3 hb3 g0d hcd Hbd Hb2d Hod htd ct Hrow2 HJ
         cases hnr2:null r
         · rw[hnr2] at cn
           have Heq3:Hid (∀ k,k<nk→Value.bool (joinTo o (F r) nk k)=Value.bool (begB nk null F row k)):=hide (fun k hk=>by
             rw[uh Heq2 k hk,hnr2];simp)
           clear hnr2 Heq2
           go_wp2
           go_quiet (fail)
           go_wp2
           go_ret
           exact⟨_,rfl,by omega,(uh Hr3).congr (uh Heq3),below_drewN (uh Hb5) _⟩
         · rw[hnr2] at cn
           have Heq3:Hid (∀ k,k<nk→begB nk null F row k=(joinTo o (F r) nk k || begB nk null F (row.drop (i+1)) k)):=hide (fun k hk=>by
             rw[uh Heq2 k hk,hnr2];simp)
           clear hnr2 Heq2
           go_wp2
           go_quiet (fail)
           go_wp2
           go_roundw
           case rel=>exact⟨i+1,joinTo o (F r) nk,by go_num,by omega,uh Hr3,uh Heq3,below_drewN (uh Hb4) _⟩
           case measure=>simp[intOf];omega
   · obtain rfl:i=row.length:=by omega
     have Heq3:Hid (∀ k,k<nk→Value.bool (o k)=Value.bool (begB nk null F row k)):=hide (fun k hk=>by
       rw[uh Heq k hk,List.drop_length];simp[begB])
     clear Heq
     go_wp2
     go_ret
     exact⟨_,rfl,by omega,(uh Ho).congr (uh Heq3),uh Hb2⟩
end Go.Proofs.YtagohbpbgjelaaaGreatDoor

namespace Go.Proofs.YtagohbpbgjelaaaGreatDoor
open Go.RowKit

theorem getD_cons_succ (x:Int) (xs:List Int) (i:Nat):(x::xs).getD (i+1) 0=xs.getD i 0:=rfl
theorem begB_iff {nk : Nat} {null : Nat → Bool} {F : Nat → Nat → Bool} {k : Nat} : ∀ {row : List Int}, begB nk null F row k = true ↔ ∃ i, i < row.length ∧ emptyB nk null (row.take i) = true ∧ ((row.getD i 0 < nk ∧ k = (row.getD i 0).toNat) ∨ ((nk : Int) ≤ row.getD i 0 ∧ F (row.getD i 0 - nk).toNat k = true))
 | []=>by simp[begB]
 | x :: xs => by
   unfold begB
   by_cases hx:x<nk
   · rw[if_pos hx,decide_eq_true_eq]
     constructor
     · intro h
       exact⟨0,by simp,rfl,.inl ⟨hx,h⟩⟩
     · rintro⟨i,hi,he,h⟩
       cases i with
       | zero =>
         rcases h with h | h
         · exact h.2
         · have:=h.1;simp at this;omega
       | succ i =>
         rw[emptyB_iff] at he
         have:=(he x (by simp)).1
         omega
   · rw[if_neg hx,Bool.or_eq_true,Bool.and_eq_true,begB_iff (row:=xs)]
     constructor
     · rintro(h | ⟨h0,i,hi,he,h⟩)
       · exact⟨0,by simp,rfl,.inr ⟨by simp;omega,h⟩⟩
       · refine⟨i+1,by simp;exact hi,?_,h⟩
         rw[emptyB_iff] at he ⊢
         intro y hy
         rw[List.take_succ_cons,List.mem_cons] at hy
         rcases hy with rfl | hy
         · exact⟨by omega,h0⟩
         · exact he y hy
     · rintro⟨i,hi,he,h⟩
       cases i with
       | zero =>
         rcases h with h | h
         · exact absurd h.1 hx
         · exact .inl h.2
       | succ i =>
         rw[emptyB_iff] at he
         refine .inr ⟨(he x (by simp)).2,i,by simpa using hi,?_,h⟩
         rw[emptyB_iff]
         exact fun y hy=>he y (by rw[List.take_succ_cons];exact List.mem_cons_of_mem _ hy)

inductive Fst (G:Gm):Nat→Nat→Prop
 | kind (p:Pd) (hp:p ∈ G.prods) (i:Nat) (hi:i<p.right.length) (he:emptyB G.nk (nullF G) (p.right.take i)=true) (hx:p.right.getD i 0<G.nk):Fst G p.left.toNat (p.right.getD i 0).toNat
 | rule (p:Pd) (hp:p ∈ G.prods) (i:Nat) (hi:i<p.right.length) (he:emptyB G.nk (nullF G) (p.right.take i)=true) (hx:(G.nk:Int)≤p.right.getD i 0) (k:Nat) (h:Fst G (p.right.getD i 0 - G.nk).toNat k):Fst G p.left.toNat k
open Classical in
noncomputable def fstF (G:Gm):Nat→Nat→Bool:=fun r k=>decide (Fst G r k)
theorem fstF_is (G:Gm) (r k:Nat):fstF G r k=true↔Fst G r k:=by unfold fstF;simp
theorem fst_lt {G:Gm} (hG:GOk G) {r k:Nat} (h:Fst G r k):k<G.nk:=by
 induction h with
 | kind p hp i hi he hx =>
   have:=hG.py p hp _ (mem_getD hi)
   omega
 | rule p hp i hi he hx k h ih=>exact ih
def FstSound (G:Gm) (F:Nat→Nat→Bool):Prop:=∀ r k,F r k=true→Fst G r k
noncomputable def fstNew (G:Gm) (F:Nat→Nat→Bool) (p:Pd):Bool:=newTo (F p.left.toNat) (begB G.nk (nullF G) F p.right) G.nk
noncomputable def fstStep (G:Gm) (F:Nat→Nat→Bool) (p:Pd):Nat→Nat→Bool:=updT F p.left.toNat (joinTo (F p.left.toNat) (begB G.nk (nullF G) F p.right) G.nk)
def FstShut (G:Gm) (F:Nat→Nat→Bool):Prop:=∀ i,i<G.prods.length→fstNew G F (G.prods.getD i pd0)=false
theorem fst_of {G:Gm} {F:Nat→Nat→Bool} (h:FstSound G F) {p:Pd} (hp:p ∈ G.prods) {k:Nat} (hb:begB G.nk (nullF G) F p.right k=true):Fst G p.left.toNat k:=by
 obtain⟨i,hi,he,⟨h1,rfl⟩ | ⟨h1,h2⟩⟩:=begB_iff.1 hb
 · exact .kind p hp i hi he h1
 · exact .rule p hp i hi he h1 k (h _ _ h2)
theorem fst_step {G:Gm} {F:Nat→Nat→Bool} {i:Nat} (h:FstSound G F) (hi:i<G.prods.length):FstSound G (fstStep G F (G.prods.getD i pd0)):=by
 intro r k hr
 unfold fstStep updT at hr
 by_cases e:r=(G.prods.getD i pd0).left.toNat
 · rw[if_pos e] at hr
   unfold joinTo at hr
   rw[Bool.or_eq_true,Bool.and_eq_true] at hr
   rcases hr with hr | hr
   · rw[e];exact h _ _ hr
   · rw[e];exact fst_of h (mem_getP hi) hr.2
 · rw[if_neg e] at hr;exact h _ _ hr
theorem fst_done {G:Gm} (hG:GOk G) {F:Nat→Nat→Bool} (h:FstSound G F) (hs:FstShut G F):F=fstF G:=by
 funext r k
 rw[Bool.eq_iff_iff,fstF_is]
 refine⟨h r k,fun hn=>?_⟩
 have key:∀ (p:Pd),p ∈ G.prods→∀ k,k<G.nk→begB G.nk (nullF G) F p.right k=true→F p.left.toNat k=true:=fun p hp k hk hb=>by
   obtain⟨i,hi,rfl⟩:=ex_getP hp
   have:=hs i hi
   unfold fstNew at this
   cases hf:F (G.prods.getD i pd0).left.toNat k with
   | true=>rfl
   | false =>
     rw[newTo_iff.2 ⟨k,hk,hb,hf⟩] at this
     cases this
 induction hn with
 | kind p hp i hi he hx =>
   have:=hG.py p hp _ (mem_getD hi)
   exact key p hp _ (by omega) (begB_iff.2 ⟨i,hi,he,.inl ⟨hx,rfl⟩⟩)
 | rule p hp i hi he hx k h0 ih=>exact key p hp k (fst_lt hG h0) (begB_iff.2 ⟨i,hi,he,.inr ⟨hx,ih⟩⟩)

def cntT (F:Nat→Nat→Bool) (nk:Nat):Nat→Nat
 | 0=>0
 | n+1=>cntT F nk n+cntF (F n) nk
theorem cntT_congr {F H:Nat→Nat→Bool} {nk:Nat}:∀ n,(∀ r,r<n→∀ k,k<nk→F r k=H r k)→cntT F nk n=cntT H nk n
 | 0,_=>rfl
 | n+1,h=>by unfold cntT;rw[cntT_congr n (fun r hr=>h r (by omega)),cntF_congr nk (h n (by omega))]
theorem cntT_le {F H:Nat→Nat→Bool} {nk:Nat}:∀ n,(∀ r,r<n→∀ k,k<nk→F r k=true→H r k=true)→cntT H nk n≤cntT F nk n
 | 0,_=>Nat.le_refl _
 | n + 1, h => by
   have:=cntT_le n (fun r hr=>h r (by omega))
   have:=cntF_le nk (h n (by omega))
   unfold cntT;omega
theorem cntT_lt {F H:Nat→Nat→Bool} {nk:Nat}:∀ n,(∀ r,r<n→∀ k,k<nk→F r k=true→H r k=true)→∀ r,r<n→∀ k,k<nk→F r k=false→H r k=true→cntT H nk n<cntT F nk n
 | 0,_,r,hr,_,_,_,_=>by omega
 | n + 1, h, r, hr, k, hk, h0, h1 => by
   unfold cntT
   by_cases e:r=n
   · subst e
     have:=cntT_le r (fun s hs=>h s (by omega))
     have:=cntF_lt nk (h r (by omega)) k hk h0 h1
     omega
   · have:=cntT_lt n (fun s hs=>h s (by omega)) r (by omega) k hk h0 h1
     have:=cntF_le nk (h n (by omega))
     omega
theorem cntTW_is {w:World} {tb nr nk:Nat} {bk:Nat→Nat} {F:Nat→Nat→Bool} (h:TabIs w tb nr nk bk F):cntT (fun r=>markW w (bk r)) nk nr=cntT F nk nr :=
 cntT_congr nr (fun r hr k hk=>markW_is (h.row r hr) k hk)
theorem joinTo_up {f g:Nat→Bool} {n k:Nat} (h:f k=true):joinTo f g n k=true:=by unfold joinTo;rw[h];rfl
theorem cntT_join {F:Nat→Nat→Bool} {nk nr l:Nat} {g:Nat→Bool} (hl:l<nr) (h:newTo (F l) g nk=true):cntT (updT F l (joinTo (F l) g nk)) nk nr<cntT F nk nr:=by
 obtain⟨k,hk,h1,h2⟩:=newTo_iff.1 h
 refine cntT_lt nr (fun r _ k _ hf=>?_) l hl k hk h2 ?_
 · unfold updT
   by_cases e:r=l
   · subst e;rw[if_pos rfl];exact joinTo_up hf
   · rw[if_neg e];exact hf
 · unfold updT joinTo
   rw[if_pos rfl,h1]
   simp[hk]
theorem join_none {F : Nat → Nat → Bool} {nk l : Nat} {g : Nat → Bool} (h : newTo (F l) g nk = false) : updT F l (joinTo (F l) g nk) = F := by
 funext r k
 unfold updT
 by_cases e:r=l
 · subst e
   rw[if_pos rfl]
   unfold joinTo
   cases hf:F r k with
   | true=>rfl
   | false =>
     rw[Bool.false_or,Bool.and_eq_false_iff]
     by_cases hk:k<nk
     · right
       cases hg:g k with
       | false=>rfl
       | true=>rw[newTo_iff.2 ⟨k,hk,hg,hf⟩] at h;cases h
     · left;simpa using hk
 · rw[if_neg e]
end Go.Proofs.YtagohbpbgjelaaaGreatDoor

namespace Go.Proofs.YtagohbpbgjelaaaGreatDoor
open Go.RowKit

theorem info_parts {P:Program} {e:TypeId} {z:Option Value} {n b:Nat} (h:(P.info? e).map (fun i=>(i.zero,i.size,i.bytes))=some (z,n,b)):∃ i,P.info? e=some i∧i.zero=z∧i.size=n∧i.bytes=b:=by
 cases hi:P.info? e with
 | none=>rw[hi] at h;cases h
 | some i=>rw[hi] at h;simp at h;exact⟨i,rfl,h.1,h.2.1,h.2.2⟩
theorem info28:(Tryz.prog.info? 28).map (fun i=>(i.zero,i.size,i.bytes))=some (some (.slice none 0 0),1,24):=by kernel_rfl
theorem info27:(Tryz.prog.info? 27).map (fun i=>(i.zero,i.size,i.bytes))=some (some (.slice none 0 0),1,24):=by kernel_rfl
theorem info3:(Tryz.prog.info? 3).map (fun i=>(i.zero,i.size,i.bytes))=some (some (.int .i64 0),1,8):=by kernel_rfl
theorem new1 (w:World) (x:Value) (t:TypeId):∀ j u,[x][j]? = some u→(w.alloc (.cells #[x] t)).cell? ((⟨w.heap.size,0,none⟩:Addr).add j)=some u:=by
 intro j u hj
 cases j with
 | zero =>
   simp at hj
   subst hj
   show (w.alloc (.cells #[x] t)).cell? ⟨w.heap.size,0+0,none⟩=some x
   unfold World.cell?
   rw[Go.Deep.blk_alloc_new]
   rfl
 | succ j=>simp at hj
theorem own_apart {w:World} {b t n B e size m:Nat} {f:Nat→Value} {v:Value} {xs:List Value} (h:w.rowIs b t n f) (ho:w.ownsRow B e size v m xs) (hne:t≠e):v.ownBlock≠some b:=by
 rcases ho.2 with ⟨rfl,-⟩ | ⟨g,cap,cur,rfl,-,hg,-⟩
 · simp[Value.ownBlock]
 · intro hh
   simp[Value.ownBlock] at hh
   subst hh
   obtain⟨c,hc,-⟩:=h
   rw[hg] at hc
   simp at hc
   exact hne hc.2.symm
def slicesTo (nk:Nat) (bk:Nat→Nat) (i:Nat):List Value:=(List.range i).map fun r=>Value.slice (some ⟨bk r,0,none⟩) nk nk
theorem slicesTo_get {nk:Nat} {bk:Nat→Nat} {i r:Nat} (h:r<i):(slicesTo nk bk i)[r]? = some (.slice (some ⟨bk r,0,none⟩) nk nk):=by simp[slicesTo,h]
theorem slicesTo_snoc (nk:Nat) (bk:Nat→Nat) (i b:Nat):slicesTo nk bk i ++ [.slice (some ⟨b,0,none⟩) nk nk]=slicesTo nk (fun r=>if r=i then b else bk r) (i+1):=by
 unfold slicesTo
 rw[List.range_succ,List.map_append]
 congr 1
 · apply List.map_congr_left
   intro r hr
   rw[List.mem_range] at hr
   show _=Value.slice (some ⟨if r=i then b else bk r,0,none⟩) nk nk
   rw[if_neg (by omega)]
 · simp

set_option maxHeartbeats 2000000 in
set_option maxRecDepth 100000 in
theorem rTable_any (ka pa ra qa : Option Addr) (nk kc pn pc nr rc qn qc : Nat) (st : Int) (w : World) (hnk : nk ≤ 1024) (hnr : nr ≤ 2048) (hnr1 : 1 ≤ nr) :
   Calls Tryz.prog 91 #[.agg #[.slice ka nk kc,.slice pa pn pc,.slice ra nr rc,.slice qa qn qc,.int .i64 st]] w fun e w'=>∃ tb tc bk,e=.returned (.slice (some ⟨tb,0,none⟩) nr tc)∧w.heap.size≤tb∧(∀ r,r<nr→w.heap.size≤bk r)∧TabIs w' tb nr nk bk (fun _ _=>false)∧Below w.heap.size w w':=by
 obtain⟨i0,hi,hz0,hz1,hz2⟩:=info_parts info28
 have hmk:=fun w=>run_make_row' (P:=Tryz.prog) 28 4 (.bool false) 1 Tryz.underlying28 info4 rfl .i64 .i64 nk (by omega) (by omega) w
 obtain⟨g0,-,g2,-,-,hw1,hb1⟩:=boxG w (.slice ka nk kc) (.slice pa pn pc) (.slice ra nr rc) (.slice qa qn qc) (.int .i64 st) 26
 go_enter Tryz.func91,Tryz.ntmps91
 go_wp2
 generalize w.alloc (.cells #[.slice ka nk kc,.slice pa pn pc,.slice ra nr rc,.slice qa qn qc,.int .i64 st] 26)=w1 at *
 have Hb1:=hide hb1;have Hg0:=hide g0;have Hg2:=hide g2
 clear hb1 g0 g2
 go_loopw [3,4] (fun u x wr=>∃ (i:Nat) (bk:Nat→Nat),x=.int .i64 i∧i≤nr∧wr.ownsRow (w.heap.size+1) 28 1 u i (slicesTo nk bk i)∧(∀ r,r<i→wr.rowIs (bk r) 4 nk (fun _=>.bool false)∧w.heap.size+1≤bk r)∧(∀ r s,r<i→s<i→bk r=bk s→r=s)∧Below (w.heap.size+1) w1 wr) (fun _ x _=>nr - (intOf x).toNat)
 case atStart=>exact⟨0,fun _=>0,rfl,Nat.zero_le _,World.ownsRow_nil _ _ _ _,fun r hr=>absurd hr (Nat.not_lt_zero _),fun r s hr=>absurd hr (Nat.not_lt_zero _),Below.refl _ _⟩
 case round =>
   obtain⟨i,bk,rfl,hile,hown,hrows,hinj,hb⟩:=hrel
   obtain⟨ua,uc,rfl⟩:=own_form hown
   have hsz:=hb.size
   have g0:=(hb.cell (p:=⟨w.heap.size,0,none⟩) (Nat.lt_succ_self _)).trans (uh Hg0)
   have g2:=(hb.cell (p:=⟨w.heap.size,2,none⟩) (Nat.lt_succ_self _)).trans (uh Hg2)
   have Hown:=hide hown;have Hrows:=hide hrows;have Hinj:=hide hinj;have Hb:=hide hb
   clear hown hrows hinj hb
   by_cases hlt:i<nr
   · have hlt':(i:Int)<nr:=by omega
     have hr0:=World.rowIs_made wr (.bool false) nk 4
     have Hr0:=hide hr0
     clear hr0
     go_wp2_with (at_builtin;refine wpList_append_own _ rfl _ _ 70 rfl (w.heap.size+1) 28 i0 (.slice none 0 0) 1 24 Tryz.underlying70 hi hz0 hz1 hz2 rfl (by decide) _ _ _ rfl (((uh Hown).alloc _).alloc _) ⟨wr.heap.size+1,0,none⟩ 1 1 [.slice (some ⟨wr.heap.size,0,none⟩) nk nk] rfl rfl ?zc1 ?zc2 ?zc3 ?zc4 ?zc5 ?_)
     case zc1=>have:=new1 (wr.alloc (.cells (madeCells #[.bool false] nk) 4)) (.slice (some ⟨wr.heap.size,0,none⟩) nk nk) 28;simpa using this
     case zc2=>intro u hu;simp at hu;rcases hu with rfl;rfl
     case zc3=>unfold maxLen;omega
     case zc4=>omega
     case zc5=>simp;omega
     intro v' W3 hown' hgrow _
     have hb3:=(((uh Hb).alloc (by omega) (.cells (madeCells #[.bool false] nk) 4)).alloc (by simp;omega) (.cells #[.slice (some ⟨wr.heap.size,0,none⟩) nk nk] 28)).grown hgrow (by simp;omega) (fun k hk=>((uh Hown).lt k hk).1)
     rw[slicesTo_snoc] at hown'
     have hkeep:∀ k t n f,((wr.alloc (.cells (madeCells #[.bool false] nk) 4)).alloc (.cells #[.slice (some ⟨wr.heap.size,0,none⟩) nk nk] 28)).rowIs k t n f→t≠28→W3.rowIs k t n f:=fun k t n f h ht =>
       h.of_block (hgrow.block k h.lt (fun e=>own_apart h (((uh Hown).alloc _).alloc _) ht e.symm))
     have Hrows':Hid (∀ r,r<i+1→W3.rowIs ((fun r=>if r=i then wr.heap.size else bk r) r) 4 nk (fun _=>.bool false)∧w.heap.size+1≤(fun r=>if r=i then wr.heap.size else bk r) r):=hide (fun r hr=>by
       by_cases e:r=i
       · simp only[e,if_true]
         exact⟨hkeep _ _ _ _ ((uh Hr0).alloc _) (by decide),by omega⟩
       · simp only[if_neg e]
         have:=uh Hrows r (by omega)
         exact⟨hkeep _ _ _ _ ((this.1.alloc _).alloc _) (by decide),this.2⟩)
     have Hinj':Hid (∀ r s,r<i+1→s<i+1→(fun r=>if r=i then wr.heap.size else bk r) r=(fun r=>if r=i then wr.heap.size else bk r) s→r=s):=hide (fun r s hr hs h=>by
       simp only at h
       by_cases e:r=i <;> by_cases e2:s=i
       · omega
       · rw[if_pos e,if_neg e2] at h
         have:=(uh Hrows s (by omega)).1.lt
         omega
       · rw[if_neg e,if_pos e2] at h
         have:=(uh Hrows r (by omega)).1.lt
         omega
       · rw[if_neg e,if_neg e2] at h
         exact uh Hinj r s (by omega) (by omega) h)
     have Ho4:=hide hown';have Hb4:=hide hb3
     clear hown' hgrow hb3 hkeep
     go_wp2
     go_roundw
     case rel=>exact⟨i+1,_,by go_num,by omega,uh Ho4,uh Hrows',uh Hinj',uh Hb4⟩
     case measure=>simp[intOf];omega
   · obtain rfl:i=nr:=by omega
     go_wp2
     go_ret
     obtain⟨hxl,⟨-,h0⟩ | ⟨g,cap,cur,hv,hg,hh,r⟩⟩:=uh Hown
     · omega
     · cases hv
       refine⟨g,uc,bk,rfl,by omega,fun r hr=>by have:=(uh Hrows r hr).2;omega,⟨(Array.getElem?_eq_some_iff.1 hh).1,fun r hr=>?_,fun r hr=>(uh Hrows r hr).1,uh Hinj,fun r hr e=>?_⟩,(uh Hb1).trans (below_le (uh Hb) (by omega))⟩
       · rw[(uh Hown).cellAt r (by omega),slicesTo_get hr]
       · exact own_apart (uh Hrows r hr).1 (uh Hown) (by decide) (by rw[e];rfl)
end Go.Proofs.YtagohbpbgjelaaaGreatDoor

namespace Go.Proofs.YtagohbpbgjelaaaGreatDoor
open Go.RowKit

set_option maxHeartbeats 4000000 in
set_option maxRecDepth 100000 in
theorem rFirsts_any (G : Gm) (hG : GOk G) (ka pa ra qa : Option Addr) (kc pc rc qc : Nat) (nb nc : Nat) (B : Nat) (w : World) (hB : B ≤ w.heap.size) (hin : GIn B w G ka pa ra qa) (hn : w.rowIs nb 4 G.rules.length (fun r => .bool (nullF G r))) :
   Calls Tryz.prog 39 #[.agg #[.slice ka G.kinds.length kc,.slice pa G.precs.length pc,.slice ra G.rules.length rc,.slice qa G.prods.length qc,.int .i64 G.start],.slice (some ⟨nb,0,none⟩) G.rules.length nc] w fun e w'=>∃ tb tc bk,e=.returned (.slice (some ⟨tb,0,none⟩) G.nr tc)∧w.heap.size≤tb∧(∀ r,r<G.nr→w.heap.size≤bk r)∧TabIs w' tb G.nr G.nk bk (fstF G)∧Below w.heap.size w w':=by
 have hnr:=hG.r2;have hnr1:=hG.r1;have hqs:=hG.ps;have hnk:=hG.k3
 unfold Gm.nr at hnr hnr1
 unfold Gm.nk at hnk
 have HG:=hide hG;have Hin:=hide hin;have Hn:=hide hn
 clear hG hin hn
 have Hst:=hide (gst_new (kc:=kc) (pc:=pc) (rc:=rc) (qc:=qc) hB (uh Hin) 26)
 have hst1:=uh Hst
 have d0:=hst1.c0;have d1:=hst1.c1;have d2:=hst1.c2;have d3:=hst1.c3;have d4:=hst1.c4
 clear hst1
 have hb1:Below w.heap.size w (w.alloc (.cells #[.slice ka G.kinds.length kc,.slice pa G.precs.length pc,.slice ra G.rules.length rc,.slice qa G.prods.length qc,.int .i64 G.start] 26)):=(Below.refl _ _).alloc (Nat.le_refl _) _
 have hw1:(w.alloc (.cells #[.slice ka G.kinds.length kc,.slice pa G.precs.length pc,.slice ra G.rules.length rc,.slice qa G.prods.length qc,.int .i64 G.start] 26)).heap.size=w.heap.size+1:=by simp
 have HT:=hide (rTable_any ka pa ra qa G.kinds.length kc G.precs.length pc G.rules.length rc G.prods.length qc G.start (w.alloc (.cells #[.slice ka G.kinds.length kc,.slice pa G.precs.length pc,.slice ra G.rules.length rc,.slice qa G.prods.length qc,.int .i64 G.start] 26)) hnk hnr hnr1)
 have Hb1:=hide hb1
 clear hb1
 go_enter Tryz.func39,Tryz.ntmps39
 go_wp2_with fail
 refine(uh HT).mono ?_
 rintro e w2 ⟨tb,tc,bk,rfl,htb,hbk,htab,hb2⟩
 have Htab:=hide htab;have Hbk:=hide hbk
 have Hb2:=hide (show Below (w.heap.size+1) _ w2 by rw[← hw1];exact hb2)
 clear htab hbk hb2 d0 d1 d2 d3 d4 HT
 rw[hw1] at htb Hbk
 generalize w.alloc (.cells #[.slice ka G.kinds.length kc,.slice pa G.precs.length pc,.slice ra G.rules.length rc,.slice qa G.prods.length qc,.int .i64 G.start] 26)=w1 at *
 go_wp2
 go_loopw [6] (fun x wr=>∃ (F:Nat→Nat→Bool) (ag:Bool),x=.bool ag∧TabIs wr tb G.rules.length G.kinds.length bk F∧FstSound G F∧(ag=false→FstShut G F)∧Below (w.heap.size+1) w1 wr) (fun x wr=>2 * cntT (fun r=>markW wr (bk r)) G.kinds.length G.rules.length+bitOf x)
 case atStart=>exact⟨_,true,rfl,uh Htab,(fun r k h=>by cases h),(fun h=>by cases h),uh Hb2⟩
 case round =>
   obtain⟨F,ag,rfl,htab,hsnd,hsh,hb⟩:=hrel
   have hcnt:=cntTW_is htab
   have Hsnd:=hide hsnd;have Hsh:=hide hsh;have Hb:=hide hb
   clear Htab
   have Htab:=hide htab
   clear hsnd hsh hb htab
   cases ag
   · have Hd:=hide (fst_done (uh HG) (uh Hsnd) (uh Hsh rfl))
     clear Hsh Hsnd hcnt
     rw[uh Hd] at Htab
     clear Hd
     go_wp2
     go_ret
     exact⟨_,_,_,rfl,by omega,(fun r hr=>by have:=uh Hbk r hr;omega),uh Htab,(uh Hb1).trans (below_le (uh Hb) (by omega))⟩
   · clear Hsh
     go_wp2
     go_loopw [6,7] (fun x y W=>∃ (F2:Nat→Nat→Bool) (ag:Bool) (k:Nat),x=.bool ag∧y=.int .i64 k∧k≤G.prods.length∧TabIs W tb G.rules.length G.kinds.length bk F2∧FstSound G F2∧((ag=false∧F2=F∧∀ j,j<k→fstNew G F (G.prods.getD j pd0)=false)∨(ag=true∧cntT F2 G.kinds.length G.rules.length<cntT F G.kinds.length G.rules.length))∧Below (w.heap.size+1) w1 W) (fun _ y _=>G.prods.length - (intOf y).toNat)
     case atStart=>exact⟨F,false,0,rfl,rfl,Nat.zero_le _,uh Htab,uh Hsnd,.inl ⟨rfl,rfl,fun j hj=>absurd hj (Nat.not_lt_zero _)⟩,uh Hb⟩
     case round =>
       obtain⟨F2,ag,k,rfl,rfl,hk,htab2,hsnd2,hst2,hb2⟩:=hrel
       have Hsnd2:=hide hsnd2;have Hst2:=hide hst2;have Hb2':=hide hb2;have Htab2:=hide htab2
       clear hsnd2 hst2 hb2 htab2 Htab Hsnd Hb
       have hst:=gst_kept (uh Hb2') hB (uh Hst)
       have g0:=hst.c0;have g1:=hst.c1;have g2:=hst.c2;have g3:=hst.c3;have g4:=hst.c4
       have Hgin:=hide hst.gin
       clear hst
       by_cases hlt:k<G.prods.length
       · have hlt':(k:Int)<G.prods.length:=by omega
         obtain⟨b,off,rfl,hbB,rr,rrc,x3,x4,x5,x6,n6,c6,hrr,hac,q0,q1,-⟩:=qrow_at (uh Hgin).prods hlt
         obtain⟨hl0,hl1⟩:=(uh HG).pl _ (mem_getP hlt)
         have hpr:=(uh HG).pr _ (mem_getP hlt)
         have hpy:=(uh HG).py _ (mem_getP hlt)
         have Hnu:=hide (fst_step (uh Hsnd2) hlt)
         have Hsp:Hid (fstNew G F2 (G.prods.getD k pd0)=newTo (F2 (G.prods.getD k pd0).left.toNat) (begB G.nk (nullF G) F2 (G.prods.getD k pd0).right) G.nk∧fstStep G F2 (G.prods.getD k pd0)=updT F2 (G.prods.getD k pd0).left.toNat (joinTo (F2 (G.prods.getD k pd0).left.toNat) (begB G.nk (nullF G) F2 (G.prods.getD k pd0).right) G.nk)):=hide ⟨rfl,rfl⟩
         have Hjs:Hid (∀ j,j<k+1→G.prods.getD j pd0=G.prods.getD k pd0∨j<k):=hide (fun j hj=>by
           by_cases e:j=k
           · exact .inl (by rw[e])
           · exact .inr (by omega))
         generalize G.prods.getD k pd0=p at *
         obtain⟨pl,prt,plv,pac⟩:=p
         simp only at hl0 hl1 hpr hpy hrr hac q0 q1 Hsp Hnu
         obtain⟨l,rfl⟩:∃ l:Nat,pl=(l:Int):=⟨pl.toNat,by omega⟩
         simp only[Int.toNat_natCast] at Hsp Hnu
         have hl2:l<G.rules.length:=by unfold Gm.nr at hl1;omega
         have hl1':(l:Int)<G.rules.length:=by omega
         have hsz2:=(uh Hb2').size
         have hbw:=(uh Hb1).trans (below_le (uh Hb2') (by omega))
         have hnn:=(uh Hn).of_block (hbw.block _ (uh Hn).lt)
         have Htd:=hide (tab_kept (w':=wr.drew) (uh Htab2) (Nat.le_refl _) (fun _ _=>rfl))
         have HBg:=hide (rBegins_any ka pa ra (some ⟨b,off,none⟩) G.kinds.length kc G.precs.length pc G.rules.length rc G.prods.length qc G.start nb nc (nullF G) tb tc bk F2 rr rrc prt B wr.drew (by show B≤wr.heap.size;omega) hnk hnr (by omega) hrr hpy hnn (uh Htd))
         have ct:=(uh Htab2).cell l hl2
         have HS:Hid (∀ W:World,Fr (· = bk l) wr W→W.cell? ⟨w.heap.size,0,none⟩=some (.slice ka G.kinds.length kc)∧W.cell? ⟨w.heap.size,1,none⟩=some (.slice pa G.precs.length pc)∧W.cell? ⟨w.heap.size,2,none⟩=some (.slice ra G.rules.length rc)∧W.cell? ⟨w.heap.size,3,none⟩=some (.slice (some ⟨b,off,none⟩) G.prods.length qc)∧W.cell? ⟨w.heap.size,4,none⟩=some (.int .i64 G.start)∧W.cell? ⟨b,off+k * 7,none⟩=some (.int .i64 (l:Int))∧W.cell? ⟨b,off+k * 7+1,none⟩=some (.slice rr prt.length rrc)∧W.cell? ⟨tb,l,none⟩=some (.slice (some ⟨bk l,0,none⟩) G.kinds.length G.kinds.length)):=hide (fun W hf=>by
           have hbl:=uh Hbk l hl2
           have k1:=fun(i:Nat) (v:Value) (h:wr.cell? ⟨w.heap.size,i,none⟩=some v)=>(World.cell?_of_block (w:=wr) (a:=⟨w.heap.size,i,none⟩) (hf.2.1 _ (by show w.heap.size<wr.heap.size;omega) (by show ¬ w.heap.size=bk l;omega))).trans h
           have k2:=fun(i:Nat) (v:Value) (h:wr.cell? ⟨b,i,none⟩=some v)=>(World.cell?_of_block (w:=wr) (a:=⟨b,i,none⟩) (hf.2.1 _ (by show b<wr.heap.size;omega) (by show ¬ b=bk l;omega))).trans h
           exact⟨k1 _ _ g0,k1 _ _ g1,k1 _ _ g2,k1 _ _ g3,k1 _ _ g4,k2 _ _ q0,k2 _ _ q1,(World.cell?_of_block (w:=wr) (a:=⟨tb,l,none⟩) (hf.2.1 _ (uh Htab2).lt (fun e=>(uh Htab2).ne l hl2 e.symm))).trans ct⟩)
         have HJ0:Hid (∀ (W:World) (b3:Nat),W.rowIs b3 4 G.kinds.length (fun k=>.bool (begB G.kinds.length (nullF G) F2 prt k))→Below wr.heap.size wr.drew W→Calls Tryz.prog 92 #[.slice (some ⟨bk l,0,none⟩) G.kinds.length G.kinds.length,.slice (some ⟨b3,0,none⟩) G.kinds.length G.kinds.length] W fun e w'=>e=.returned (.bool (newTo (F2 l) (begB G.kinds.length (nullF G) F2 prt) G.kinds.length))∧w'.rowIs (bk l) 4 G.kinds.length (fun r=>.bool (joinTo (F2 l) (begB G.kinds.length (nullF G) F2 prt) G.kinds.length r))∧Fr (· = bk l) W w'):=hide (fun W b3 hr hb=>rJoined_any (bk l) b3 G.kinds.length _ _ (F2 l) _ (by omega) W ((tab_below (uh Htd) hb (Nat.le_refl _)).row l hl2) hr)
         have Hac:=hide hac;have Hrr:=hide hrr;have Hpy:=hide hpy
         have hS:Fr (· = bk l) wr wr.drew:=fr_refl _ _
         have Htu:Hid (∀ W:World,Fr (· = bk l) wr W→W.rowIs (bk l) 4 G.kinds.length (fun r=>.bool (joinTo (F2 l) (begB G.kinds.length (nullF G) F2 prt) G.kinds.length r))→TabIs W tb G.rules.length G.kinds.length bk (updT F2 l (joinTo (F2 l) (begB G.kinds.length (nullF G) F2 prt) G.kinds.length))∧Below (w.heap.size+1) w1 W):=hide (fun W hf hr=>⟨tab_upd (uh Htab2) hl2 hf hr,(uh Hb2').trans (fr_below hf (by omega) (fun j hj=>by rw[hj];exact uh Hbk l hl2))⟩)
         clear hac hpy hrr hnn hbw
         have Hst4:Hid (newTo (F2 l) (begB G.kinds.length (nullF G) F2 prt) G.kinds.length=false→((ag=false∧F2=F∧∀ j,j<k+1→fstNew G F (G.prods.getD j pd0)=false)∨(ag=true∧cntT F2 G.kinds.length G.rules.length<cntT F G.kinds.length G.rules.length))):=hide (fun hn=>by
           rcases uh Hst2 with ⟨h1,rfl,h3⟩ | h
           · refine .inl ⟨h1,rfl,fun j hj=>?_⟩
             rcases uh Hjs j hj with h | h
             · rw[h,(uh Hsp).1];exact hn
             · exact h3 j h
           · exact .inr h)
         have Hst5:Hid (newTo (F2 l) (begB G.kinds.length (nullF G) F2 prt) G.kinds.length=true→cntT (updT F2 l (joinTo (F2 l) (begB G.kinds.length (nullF G) F2 prt) G.kinds.length)) G.kinds.length G.rules.length<cntT F G.kinds.length G.rules.length):=hide (fun hn=>by
           have:=cntT_join hl2 hn
           rcases uh Hst2 with ⟨h1,rfl,h3⟩ | h
           · exact this
           · have:=h.2;omega)
         have Hjn:=hide (fun h=>join_none (F:=F2) (l:=l) (g:=begB G.kinds.length (nullF G) F2 prt) (nk:=G.kinds.length) h)
         rw[(uh Hsp).2] at Hnu
         unfold Gm.nk at Hnu
         clear Hst2 Hjs Hgin Hsp
         generalize newTo (F2 l) (begB G.kinds.length (nullF G) F2 prt) G.kinds.length=N at *
         go_wp2
         go_cut [37] from 18 to 37 (fun s wx=>s=.bool N∧TabIs wx tb G.rules.length G.kinds.length bk (updT F2 l (joinTo (F2 l) (begB G.kinds.length (nullF G) F2 prt) G.kinds.length))∧Below (w.heap.size+1) w1 wx)
         case first =>
           go_region_held3 (fun W:World=>W.cell? ⟨w.heap.size,0,none⟩=some (.slice ka G.kinds.length kc)∧W.cell? ⟨w.heap.size,1,none⟩=some (.slice pa G.precs.length pc)∧W.cell? ⟨w.heap.size,2,none⟩=some (.slice ra G.rules.length rc)∧W.cell? ⟨w.heap.size,3,none⟩=some (.slice (some ⟨b,off,none⟩) G.prods.length qc)∧W.cell? ⟨w.heap.size,4,none⟩=some (.int .i64 G.start)∧W.cell? ⟨b,off+k * 7,none⟩=some (.int .i64 (l:Int))∧W.cell? ⟨b,off+k * 7+1,none⟩=some (.slice rr prt.length rrc)∧W.cell? ⟨tb,l,none⟩=some (.slice (some ⟨bk l,0,none⟩) G.kinds.length G.kinds.length))
             (first | exact uh HS _ hS | fail)
             (first
               | (go_at_call 49;refine(uh HBg).mono ?_;rintro e W3 ⟨b3,rfl,hb3l,hr3,hb3⟩;have HJ:=hide (uh HJ0 W3 b3 hr3 hb3);have hS:=fr_new hS hb3;clear hr3 hb3)
               | (go_at_call 92;refine(uh HJ).mono ?_;rintro e W4 ⟨rfl,hr4,hf4⟩;have hS:=fr_t hS hf4;have hE:=uh Htu _ hS hr4;clear hf4 hr4)
               | fail)
           all_goals
             go_wp2_with fail
             go_meet
             exact⟨rfl,hE⟩
         case rest =>
           obtain⟨rfl,ht5,hb5⟩:=hcut
           have Ht5:=hide ht5;have Hb5:=hide hb5
           clear ht5 hb5 hS HS HJ0 HBg Htu
           cases N
           · have Hst6:=hide (uh Hst4 rfl)
             rw[uh Hjn rfl] at Ht5
             clear Hst4 Hst5 Hjn Hnu
             go_wp2
             go_roundw
             case rel=>exact⟨F2,ag,k+1,rfl,by go_num,by omega,uh Ht5,uh Hsnd2,uh Hst6,uh Hb5⟩
             case measure=>simp[intOf];omega
           · have Hst6:=hide (uh Hst5 rfl)
             clear Hst4 Hst5 Hjn
             go_wp2
             go_roundw
             case rel=>exact⟨_,true,k+1,rfl,by go_num,by omega,uh Ht5,uh Hnu,.inr ⟨rfl,uh Hst6⟩,uh Hb5⟩
             case measure=>simp[intOf];omega
       · obtain rfl:k=G.prods.length:=by omega
         have Hst7:Hid ((ag=false→FstShut G F2)∧2 * cntT F2 G.kinds.length G.rules.length+bitOf (.bool ag)<2 * cntT F G.kinds.length G.rules.length+1):=hide (by
           rcases uh Hst2 with ⟨rfl,rfl,h3⟩ | ⟨rfl,h⟩
           · exact⟨fun _=>h3,by simp[bitOf]⟩
           · exact⟨(fun h=>by cases h),(by simp[bitOf];omega)⟩)
         have hc2:=cntTW_is (uh Htab2)
         go_wp2
         go_roundw
         case rel=>exact⟨F2,ag,rfl,uh Htab2,uh Hsnd2,(uh Hst7).1,uh Hb2'⟩
         case measure =>
           have:=(uh Hst7).2
           rw[hc2,hcnt]
           exact this
end Go.Proofs.YtagohbpbgjelaaaGreatDoor

namespace Go.Proofs.YtagohbpbgjelaaaGreatDoor
open Go.RowKit

def MRow (w:World) (a:Option Addr) (l:List Bool):Prop :=
 l=[]∨∃ b off,a=some ⟨b,off,none⟩∧b<w.heap.size∧∀ j,j<l.length→w.cell? ⟨b,off+j,none⟩=some (.bool (l.getD j false))
theorem mrow_below {w w':World} {a:Option Addr} {l:List Bool} (h:MRow w a l) (hb:Below w.heap.size w w'):MRow w' a l:=by
 rcases h with rfl | ⟨b,off,rfl,hlt,hc⟩
 · exact .inl rfl
 · exact .inr ⟨b,off,rfl,Nat.lt_of_lt_of_le hlt hb.size,fun j hj=>(hb.cell hlt).trans (hc j hj)⟩
theorem mrow_at {w:World} {a:Option Addr} {l:List Bool} (h:MRow w a l) {k:Nat} (hk:k<l.length):∃ b off,a=some ⟨b,off,none⟩∧b<w.heap.size∧w.cell? ⟨b,off+k,none⟩=some (.bool (l.getD k false)):=by
 rcases h with rfl | ⟨b,off,h1,h2,h3⟩
 · simp at hk
 · exact⟨b,off,h1,h2,h3 k hk⟩
def boolsOf (f:Nat→Bool) (n:Nat):List Bool:=(List.range n).map f
theorem boolsOf_len (f:Nat→Bool) (n:Nat):(boolsOf f n).length=n:=by simp[boolsOf]
theorem boolsOf_getD {f:Nat→Bool} {n k:Nat} (h:k<n):(boolsOf f n).getD k false=f k:=by simp[boolsOf,h]
theorem mrow_rowIs {w:World} {b n:Nat} {f:Nat→Bool} (h:w.rowIs b 4 n (fun r=>.bool (f r))):MRow w (some ⟨b,0,none⟩) (boolsOf f n) :=
 .inr ⟨b,0,rfl,h.lt,fun j hj=>by
   rw[boolsOf_len] at hj
   rw[boolsOf_getD hj,Nat.zero_add]
   exact h.cell hj⟩
def posTo (l:List Bool):Nat→List Int
 | 0=>[]
 | k+1=>posTo l k ++ if l.getD k false then[(k:Int)] else[]
def posL (l:List Bool):List Int:=posTo l l.length
theorem posTo_le (l:List Bool):∀ k,(posTo l k).length≤k
 | 0=>Nat.le_refl _
 | k + 1 => by
   have:=posTo_le l k
   unfold posTo
   rw[List.length_append]
   split <;> simp <;> omega
def vints (l:List Int):List Value:=l.map (Value.int .i64)
theorem vints_snoc (l:List Int) (x:Int):vints l ++ [.int .i64 x]=vints (l ++ [x]):=by simp[vints]
theorem vints_len (l:List Int):(vints l).length=l.length:=by simp[vints]

set_option maxHeartbeats 1000000 in
set_option maxRecDepth 100000 in
theorem rList_any (a : Option Addr) (c : Nat) (l : List Bool) (hl : l.length ≤ 1099511627776) (w : World) (hm : MRow w a l) :
   Calls Tryz.prog 48 #[.slice a l.length c] w fun e w'=>∃ v,e=.returned v∧w'.ownsRow w.heap.size 3 1 v (posL l).length (vints (posL l))∧Below w.heap.size w w':=by
 obtain⟨i0,hi,hz0,hz1,hz2⟩:=info_parts info3
 have Hm:=hide hm
 clear hm
 go_enter Tryz.func48,Tryz.ntmps48
 go_wp2
 go_loopw [3,4] (fun u x wr=>∃ k:Nat,x=.int .i64 k∧k≤l.length∧wr.ownsRow w.heap.size 3 1 u (posTo l k).length (vints (posTo l k))∧Below w.heap.size w wr) (fun _ x _=>l.length - (intOf x).toNat)
 case atStart=>exact⟨0,rfl,Nat.zero_le _,World.ownsRow_nil _ _ _ _,Below.refl _ _⟩
 case round =>
   obtain⟨k,rfl,hk,hown,hb⟩:=hrel
   obtain⟨ua,uc,rfl⟩:=own_form hown
   have hsz:=hb.size
   have hle:=posTo_le l k
   have Hown:=hide hown;have Hb:=hide hb
   clear hown hb
   by_cases hlt:k<l.length
   · have hlt':(k:Int)<l.length:=by omega
     obtain⟨b,off,rfl,hbl,hc⟩:=mrow_at (mrow_below (uh Hm) (uh Hb)) hlt
     have Hs:Hid (posTo l (k+1)=posTo l k ++ if l.getD k false then[(k:Int)] else[]):=hide rfl
     cases hm:l.getD k false
     · rw[hm] at hc Hs
       simp only[Bool.false_eq_true,if_false,List.append_nil] at Hs
       clear hm
       go_wp2
       go_roundw
       case rel=>exact⟨k+1,by go_num,by omega,by rw[uh Hs];exact uh Hown,uh Hb⟩
       case measure=>simp[intOf];omega
     · rw[hm] at hc Hs
       simp only[if_true] at Hs
       clear hm
       generalize posTo l k=acc at *
       go_wp2_with (at_builtin;refine wpList_append_own _ rfl _ _ 27 rfl w.heap.size 3 i0 (.int .i64 0) 1 8 Tryz.underlying27 hi hz0 hz1 hz2 rfl (by decide) _ _ _ rfl ((uh Hown).alloc _) ⟨wr.heap.size,0,none⟩ 1 1 [.int .i64 (k:Int)] rfl rfl ?zc1 ?zc2 ?zc3 ?zc4 ?zc5 ?_)
       case zc1=>exact new1 _ _ _
       case zc2=>intro u hu;simp at hu;rcases hu with rfl;rfl
       case zc3=>unfold maxLen;omega
       case zc4=>omega
       case zc5=>simp;omega
       intro v' W3 hown' hgrow _
       have Hb4:=hide (((uh Hb).alloc hsz _).grown hgrow (by simp;omega) (fun j hj=>((uh Hown).lt j hj).1))
       have Ho4:=hide (show W3.ownsRow w.heap.size 3 1 v' (posTo l (k+1)).length (vints (posTo l (k+1))) by rw[uh Hs,← vints_snoc,List.length_append];exact hown')
       clear hown' hgrow
       go_wp2
       go_roundw
       case rel=>exact⟨k+1,by go_num,by omega,uh Ho4,uh Hb4⟩
       case measure=>simp[intOf];omega
   · obtain rfl:k=l.length:=by omega
     go_wp2
     go_ret
     exact⟨_,rfl,uh Hown,uh Hb⟩
end Go.Proofs.YtagohbpbgjelaaaGreatDoor

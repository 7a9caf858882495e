/- The document's follows. -/
import Derived.Test.YtagohbpbgjelaaaGreatDoorA5
import Derived.Test.YtagohbpbgjelaaaGreatDoorB1
namespace Go.Proofs.YtagohbpbgjelaaaGreatDoor
open Go.RowKit

theorem nrow_drop {B:Nat} {w:World} {b off:Nat} {row:List Int} {i:Nat} (hb:b<B) (h:∀ j,j<row.length→w.cell? ⟨b,off+j,none⟩=some (.int .i64 (row.getD j 0))):NRow B w (some ⟨b,off+i,none⟩) (row.drop i):=by
 refine .inr ⟨b,off+i,rfl,hb,fun j hj=>?_⟩
 rw[List.length_drop] at hj
 rw[Nat.add_assoc,h (i+j) (by omega)]
 congr 2
 rw[List.getD_eq_getElem?_getD,List.getD_eq_getElem?_getD,List.getElem?_drop]
theorem take_dst {P:Program} {md:Region.Mode} {ops:Array Oper} {Q:Exit→Act→World→Prop} {S:World→Prop} {i:Nat} {oi:Oper} {v:Value} {dst:Option Nat} {fuel:Nat} {listed:Array Bool} {a:Act} {w:World} (hi:ops[i]? = some oi) (hd:oi.dst=dst)
   (hs:Region.noSelect ops=true) (hf:Region.free md ops listed i=true) (hr:(Region.ready md ops listed).contains i=true)
   (hQ:∀ c a w,Q (.panic c) (a.put dst v) w→Q (.panic c) a w) (hy:YieldsIf P ops S oi v a) (hS:S w)
   (h:wpAnyH P md ops Q S fuel (listed.setIfInBounds i true) (a.put dst v) w):wpAnyH P md ops Q S (fuel+1) listed a w:=by
 subst hd;exact wpAnyH_take hi hs hf hr hQ hy hS h
set_option maxRecDepth 100000 in
theorem slice27 (a:Option Addr) (n c q:Nat) (h:q<n) (w:World):(Instr.slice 27 (.slice a n c) (some (.int .i64 ((q:Int)+1))) none none).run Tryz.prog w=.ok (.slice (if c=q+1 then a else a.map (·.add (q+1))) (n - (q+1)) (c - (q+1))) w:=by
 rw[run_slice_l w 27 a n c Tryz.underlying27 .i64 ((q:Int)+1) (by omega) (by omega)]
 have e:((q:Int)+1).toNat=q+1:=by omega
 rw[e]
 simp[go_sem]
theorem syms_drop {n:Nat} {row:List Int} (i:Nat) (h:symsIn n row):symsIn n (row.drop i):=fun x hx=>h x (List.mem_of_mem_drop hx)

set_option maxHeartbeats 8000000 in
set_option maxRecDepth 100000 in
theorem rFollows_any (G : Gm) (hG : GOk G) (ka pa ra qa : Option Addr) (kc pc rc qc : Nat) (nb nc fb fc : Nat) (fk : Nat → Nat) (ab ac : Nat) (B : Nat) (w : World) (hB : B ≤ w.heap.size) (hin : GIn B w G ka pa ra qa) (hn : w.rowIs nb 4 G.rules.length (fun r => .bool (nullF G r))) (hf : TabIs w fb G.rules.length G.kinds.length fk (fstF G)) (ha : w.rowIs ab 4 G.rules.length (fun r => .bool (atF G r))) :
   Calls Tryz.prog 44 #[.agg #[.slice ka G.kinds.length kc,.slice pa G.precs.length pc,.slice ra G.rules.length rc,.slice qa G.prods.length qc,.int .i64 G.start],.slice (some ⟨nb,0,none⟩) G.rules.length nc,.slice (some ⟨fb,0,none⟩) G.rules.length fc,.slice (some ⟨ab,0,none⟩) G.rules.length ac] w fun e w'=>∃ tb tc bk,e=.returned (.slice (some ⟨tb,0,none⟩) G.nr tc)∧w.heap.size≤tb∧(∀ r,r<G.nr→w.heap.size≤bk r)∧TabIs w' tb G.nr G.nk bk (flwF G)∧Below w.heap.size w w':=by
 have hnr:=hG.r2;have hnr1:=hG.r1;have hqs:=hG.ps;have hnk:=hG.k3;have hnk2:=hG.k2;have hs0:=hG.s0;have hs1:=hG.s1
 unfold Gm.nr at hnr hnr1 hs1
 unfold Gm.nk at hnk hnk2
 have HG:=hide hG;have Hin:=hide hin;have Hn:=hide hn;have Hf:=hide hf;have Ha:=hide ha
 clear hG hin hn hf ha
 have Hst:=hide (gst_new (kc:=kc) (pc:=pc) (rc:=rc) (qc:=qc) hB (uh Hin) 26)
 have hst1:=uh Hst
 have d0:=hst1.c0;have d1:=hst1.c1;have d2:=hst1.c2;have d3:=hst1.c3;have d4:=hst1.c4
 clear hst1
 have hb1:Below w.heap.size w (w.alloc (.cells #[.slice ka G.kinds.length kc,.slice pa G.precs.length pc,.slice ra G.rules.length rc,.slice qa G.prods.length qc,.int .i64 G.start] 26)):=(Below.refl _ _).alloc (Nat.le_refl _) _
 have hw1:(w.alloc (.cells #[.slice ka G.kinds.length kc,.slice pa G.precs.length pc,.slice ra G.rules.length rc,.slice qa G.prods.length qc,.int .i64 G.start] 26)).heap.size=w.heap.size+1:=by simp
 have HT:=hide (rTable_any ka pa ra qa G.kinds.length kc G.precs.length pc G.rules.length rc G.prods.length qc G.start (w.alloc (.cells #[.slice ka G.kinds.length kc,.slice pa G.precs.length pc,.slice ra G.rules.length rc,.slice qa G.prods.length qc,.int .i64 G.start] 26)) hnk hnr hnr1)
 have Hb1:=hide hb1
 clear hb1
 have hnot:=run_not
 go_enter Tryz.func44,Tryz.ntmps44
 go_wp2_with fail
 refine(uh HT).mono ?_
 rintro e w2 ⟨tb,tc,bk,rfl,htb,hbk,htab,hb2⟩
 have hss:G.start.toNat<G.rules.length:=by omega
 have Hbk:=hide hbk
 have Hb2:=hide (show Below (w.heap.size+1) _ w2 by rw[← hw1];exact hb2)
 have e4:=(uh Hb2).cell (p:=⟨w.heap.size,4,none⟩) (Nat.lt_succ_self _) |>.trans d4
 have ct:=htab.cell _ hss
 have co:=(htab.row _ hss).cell (i:=0) (by omega)
 have fo:=(htab.row _ hss).frozen 0
 rw[hw1] at htb Hbk
 have hft:Fr (· = bk G.start.toNat) w2 (w2.setCell ⟨bk G.start.toNat,0,none⟩ (.bool true)):=fr_set (O:=fun x=>x=bk G.start.toNat) (p:=⟨bk G.start.toNat,0,none⟩) (fr_refl _ _) (by show bk G.start.toNat=bk G.start.toNat;rfl) _
 have Htab:=hide (tab_upd htab hss hft (rowIs_upd (htab.row _ hss) 0))
 have Hb3:=hide ((uh Hb2).trans (fr_below hft (B:=w.heap.size+1) (by have:=(uh Hb2).size;omega) (fun j hj=>by rw[hj];exact uh Hbk _ hss)))
 have Hsnd0:Hid (FlwSound G (updT (fun _ _=>false) G.start.toNat (upd (fun _=>false) 0))):=hide ⟨by simp[updT,upd],fun r k h=>by
   unfold updT at h
   by_cases e:r=G.start.toNat
   · rw[if_pos e] at h
     rcases upd_inv h with rfl | h
     · rw[e];exact .start
     · exact absurd h (by simp)
   · rw[if_neg e] at h;exact absurd h (by simp)⟩
 clear htab hbk hb2 d0 d1 d2 d3 d4 HT hft
 generalize w.alloc (.cells #[.slice ka G.kinds.length kc,.slice pa G.precs.length pc,.slice ra G.rules.length rc,.slice qa G.prods.length qc,.int .i64 G.start] 26)=w1 at *
 go_wp2
 clear e4 ct co fo
 generalize w2.setCell ⟨bk G.start.toNat,0,none⟩ (.bool true)=w3 at *
 go_loopw [10,14] (fun x _ wr=>∃ (F:Nat→Nat→Bool) (ag:Bool),x=.bool ag∧TabIs wr tb G.rules.length G.kinds.length bk F∧FlwSound G F∧(ag=false→FlwShut G F)∧Below (w.heap.size+1) w1 wr) (fun x _ wr=>2 * cntT (fun r=>markW wr (bk r)) G.kinds.length G.rules.length+bitOf x)
 case atStart=>exact⟨_,true,rfl,uh Htab,uh Hsnd0,(fun h=>by cases h),uh Hb3⟩
 case round =>
   obtain⟨F,ag,rfl,htab,hsnd,hsh,hb⟩:=hrel
   have hcnt:=cntTW_is htab
   have Hsnd:=hide hsnd;have Hsh:=hide hsh;have Hb:=hide hb
   clear Htab Hsnd0 Hb3 Hb2
   have Htab:=hide htab
   clear hsnd hsh hb htab
   cases ag
   · have Hd:=hide (flw_done (uh HG) (uh Hsnd) (uh Hsh rfl))
     clear Hsh Hsnd hcnt
     rw[uh Hd] at Htab
     clear Hd
     go_wp2
     go_ret
     exact⟨_,_,_,rfl,by omega,(fun r hr=>by have:=uh Hbk r hr;omega),uh Htab,(uh Hb1).trans (below_le (uh Hb) (by omega))⟩
   · clear Hsh
     go_wp2
     go_loopw [10,11,12,13,14] (fun x y _ _ _ W=>∃ (F2:Nat→Nat→Bool) (ag:Bool) (k:Nat),x=.bool ag∧y=.int .i64 k∧k≤G.prods.length∧TabIs W tb G.rules.length G.kinds.length bk F2∧FlwSound G F2∧((ag=false∧F2=F∧∀ j,j<k→flwDone G F (G.prods.getD j pd0))∨(ag=true∧cntT F2 G.kinds.length G.rules.length<cntT F G.kinds.length G.rules.length))∧Below (w.heap.size+1) w1 W) (fun _ y _ _ _ _=>G.prods.length - (intOf y).toNat)
     case atStart=>exact⟨F,false,0,rfl,rfl,Nat.zero_le _,uh Htab,uh Hsnd,.inl ⟨rfl,rfl,fun j hj=>absurd hj (Nat.not_lt_zero _)⟩,uh Hb⟩
     case round =>
       obtain⟨F2,ag,k,rfl,rfl,hk,htab2,hsnd2,hst2,hb2⟩:=hrel
       have Hsnd2:=hide hsnd2;have Hst2:=hide hst2;have Hb2:=hide hb2;have Htab2:=hide htab2
       clear hsnd2 hst2 hb2 htab2 Htab Hsnd Hb
       have hst:=gst_kept (uh Hb2) hB (uh Hst)
       have g0:=hst.c0;have g1:=hst.c1;have g2:=hst.c2;have g3:=hst.c3;have g4:=hst.c4
       have Hgin:=hide hst.gin
       clear hst
       by_cases hlt:k<G.prods.length
       · have hlt' : (k : Int) < G.prods.length := by omega
         obtain⟨b,off,rfl,hbB,rr,rrc,x3,x4,x5,x6,n6,c6,hrc,hrr,hac,q0,q1,q2,q3,q4,q5,q6⟩:=qrow_at2 (uh Hgin).prods hlt
         obtain⟨hl0,hl1⟩:=(uh HG).pl _ (mem_getP hlt)
         have hpr:=(uh HG).pr _ (mem_getP hlt)
         have hpy:=(uh HG).py _ (mem_getP hlt)
         have Hup1:=hide (fun(g:Nat→Nat→Bool) (h:FlwSound G g) hr (j:Nat) hj hx=>flw_up1 (j:=j) h (mem_getP hlt) hr hj hx)
         have Hup2:=hide (fun(g:Nat→Nat→Bool) (h:FlwSound G g) hr (j:Nat) hj hx he=>flw_up2 (j:=j) h (mem_getP hlt) hr hj hx he)
         have Hfd:Hid (flwDone G F (G.prods.getD k pd0)↔(atF G (G.prods.getD k pd0).left.toNat=true→∀ j,j<(G.prods.getD k pd0).right.length→flwFull G F (G.prods.getD k pd0).left.toNat (G.prods.getD k pd0).right j)):=hide Iff.rfl
         have Hjs:Hid (∀ j,j<k+1→G.prods.getD j pd0=G.prods.getD k pd0∨j<k):=hide (fun j hj=>by
           by_cases e:j=k
           · exact .inl (by rw[e])
           · exact .inr (by omega))
         generalize G.prods.getD k pd0=p at *
         obtain⟨pl,prt,plv,pac⟩:=p
         simp only at hl0 hl1 hpr hpy hrr hrc hac q0 q1 q2 Hup1 Hup2 Hfd
         obtain⟨l,rfl⟩:∃ l:Nat,pl=(l:Int):=⟨pl.toNat,by omega⟩
         simp only[Int.toNat_natCast] at Hup1 Hup2 Hfd
         have hl2:l<G.rules.length:=by unfold Gm.nr at hl1;omega
         have hl1':(l:Int)<G.rules.length:=by omega
         obtain⟨p0,p1,-,-,-,-,-,hw3,hb3⟩:=boxP wr (.int .i64 (l:Int)) (.slice rr prt.length rrc) (.int .i64 plv) (.int .i64 x3) (.int .i64 x4) (.string x5) (.slice x6 n6 c6) 89
         have hsz2:=(uh Hb2).size
         have Htab3:=hide (tab_below (uh Htab2) hb3 (Nat.le_refl _))
         have HrrA:=hide (nrow_back (below_le (uh Hb2) (by omega)) hrr)
         have Hpy:=hide hpy
         have Hac:=hide hac
         have Hbb:=hide ((uh Hb2).trans (below_le hb3 (by omega)))
         have Hst4:Hid (flwDone G F ⟨(l:Int),prt,plv,pac⟩∨cntT F2 G.kinds.length G.rules.length<cntT F G.kinds.length G.rules.length→((ag=false∧F2=F∧∀ j,j<k+1→flwDone G F (G.prods.getD j pd0))∨(ag=true∧cntT F2 G.kinds.length G.rules.length<cntT F G.kinds.length G.rules.length))):=hide (fun hn=>by
           rcases uh Hst2 with ⟨h1,rfl,h3⟩ | h
           · rcases hn with hn | hn
             · refine .inl ⟨h1,rfl,fun j hj=>?_⟩
               rcases uh Hjs j hj with h | h
               · rw[h];exact hn
               · exact h3 j h
             · omega
           · exact .inr h)
         have Hst5:Hid (F2=F∨cntT F2 G.kinds.length G.rules.length<cntT F G.kinds.length G.rules.length):=hide (by
           rcases uh Hst2 with ⟨h1,h2,h3⟩ | h
           · exact .inl h2
           · exact .inr h.2)
         have Hbox:Hid ((wr.alloc (.cells #[.int .i64 (l:Int),.slice rr prt.length rrc,.int .i64 plv,.int .i64 x3,.int .i64 x4,.string x5,.slice x6 n6 c6] 89)).heap[wr.heap.size]? = some (.cells #[.int .i64 (l:Int),.slice rr prt.length rrc,.int .i64 plv,.int .i64 x3,.int .i64 x4,.string x5,.slice x6 n6 c6] 89)):=hide (Go.Deep.blk_alloc_new _ _)
         clear hac hpy hrr hb3 p0 p1 Hgin
         go_wp2
         generalize wr.alloc (.cells #[.int .i64 (l:Int),.slice rr prt.length rrc,.int .i64 plv,.int .i64 x3,.int .i64 x4,.string x5,.slice x6 n6 c6] 89)=wp at *
         have Hpbs:Hid ((∀ r,r<G.rules.length→bk r<wr.heap.size)∧tb<wr.heap.size∧w.heap.size<wr.heap.size):=hide ⟨fun r hr=>((uh Htab2).row r hr).lt,(uh Htab2).lt,by omega⟩
         clear hw3 q0 q1 q2 q3 q4 q5 q6 g0 g1 g2 g3 g4
         generalize wr.heap.size=pb at *
         go_loopw [10,13,14] (fun x y _ W=>∃ (F3:Nat→Nat→Bool) (ag3:Bool) (q:Nat),x=.bool ag3∧y=.int .i64 q∧q≤prt.length∧TabIs W tb G.rules.length G.kinds.length bk F3∧FlwSound G F3∧((ag3=ag∧F3=F2∧(cntT F2 G.kinds.length G.rules.length<cntT F G.kinds.length G.rules.length∨∀ j,j<q→flwFull G F l prt j))∨(ag3=true∧cntT F3 G.kinds.length G.rules.length<cntT F G.kinds.length G.rules.length))∧Below (w.heap.size+1) w1 W∧W.heap[pb]? = some (.cells #[.int .i64 (l:Int),.slice rr prt.length rrc,.int .i64 plv,.int .i64 x3,.int .i64 x4,.string x5,.slice x6 n6 c6] 89)) (fun _ y _ _=>prt.length - (intOf y).toNat)
         case atStart=>exact⟨F2,ag,0,rfl,rfl,Nat.zero_le _,uh Htab3,uh Hsnd2,.inl ⟨rfl,rfl,.inr (fun j hj=>absurd hj (Nat.not_lt_zero _))⟩,uh Hbb,uh Hbox⟩
         case round =>
           obtain⟨F3,ag3,q,rfl,rfl,hq,ht5,hsnd5,hst5,hb5,hbx⟩:=hrel
           have hst:=gst_kept hb5 hB (uh Hst)
           have g0:=hst.c0;have g1:=hst.c1;have g2:=hst.c2;have g3:=hst.c3;have g4:=hst.c4
           clear hst
           have p0:wr.cell? ⟨pb,0,none⟩=some (.int .i64 (l:Int)):=by unfold World.cell?;rw[hbx];rfl
           have p1:wr.cell? ⟨pb,1,none⟩=some (.slice rr prt.length rrc):=by unfold World.cell?;rw[hbx];rfl
           have hbw:=(uh Hb1).trans (below_le hb5 (by omega))
           have ca:wr.cell? ⟨ab,l,none⟩=some (.bool (atF G l)):=(hbw.cell (p:=⟨ab,l,none⟩) (uh Ha).lt).trans ((uh Ha).cell hl2)
           have Ht5:=hide ht5;have Hsnd5:=hide hsnd5;have Hs5:=hide hst5;have Hb5:=hide hb5;have Hbx:=hide hbx;have Hbw:=hide hbw
           clear ht5 hsnd5 hst5 hb5 hbx hbw
           by_cases hql:q<prt.length
           · have hql' : (q : Int) < prt.length := by omega
             cases hal:atF G l
             · rw[hal] at ca
               have Hs6:Hid ((ag3=false∧F3=F∧∀ j,j<k+1→flwDone G F (G.prods.getD j pd0))∨(ag3=true∧cntT F3 G.kinds.length G.rules.length<cntT F G.kinds.length G.rules.length)):=hide (by
                 rcases uh Hs5 with ⟨rfl,rfl,h3⟩ | h
                 · exact uh Hst4 (.inl ((uh Hfd).2 (fun h=>by rw[hal] at h;cases h)))
                 · exact .inr h)
               clear Hs5 hal
               go_wp2
               go_roundw
               case rel=>exact⟨F3,ag3,k+1,rfl,by go_num,by omega,uh Ht5,uh Hsnd5,uh Hs6,uh Hb5⟩
               case measure=>simp[intOf];omega
             · rw [hal] at ca
               have Hal:=hide hal
               clear hal
               have hrrW:=nrow_kept (below_le (uh Hb5) (by omega)) (uh HrrA)
               obtain⟨xb,xo,rfl,hxb,cx⟩:=nrow_at hrrW hql
               have hrrW2:NRow B wr (if rrc=q+1 then some ⟨xb,xo,none⟩ else(some ⟨xb,xo,none⟩:Option Addr).map (·.add (q+1))) (prt.drop (q+1)):=by
                 by_cases e:rrc=q+1
                 · exact .inl (List.drop_eq_nil_of_le (by omega))
                 · rw[if_neg e]
                   rcases hrrW with h | ⟨b',o',h1,h2,h3⟩
                   · rw[h] at hql;simp at hql
                   · cases h1;exact nrow_drop h2 h3
               have hsl:=fun w=>slice27 (some ⟨xb,xo,none⟩) prt.length rrc q hql w
               generalize (if rrc=q+1 then some ⟨xb,xo,none⟩ else(some ⟨xb,xo,none⟩:Option Addr).map (·.add (q+1)))=sa at *
               have HrW2:=hide hrrW2
               clear hrrW hrrW2
               have hx:=uh Hpy _ (mem_getD hql)
               have Hxu1:=hide (fun hk=>uh Hup1 F3 (uh Hsnd5) (uh Hal) q hql hk)
               have Hxu2:=hide (fun(g:Nat→Nat→Bool) hs hk he=>uh Hup2 g hs (uh Hal) q hql hk he)
               have Hff:Hid (flwFull G F l prt q↔((G.nk:Int)≤prt.getD q 0→newTo (F (prt.getD q 0 - G.nk).toNat) (flw1 G (prt.drop (q+1))) G.nk=false∧(emptyB G.nk (nullF G) (prt.drop (q+1))=true→newTo (F (prt.getD q 0 - G.nk).toNat) (F l) G.nk=false))):=hide Iff.rfl
               have Hqs:Hid (∀ j,j<q+1→j=q∨j<q):=hide (fun j hj=>by omega)
               generalize prt.getD q 0=x at *
               go_wp2
               go_quiet (fail)
               have Ht6:=hide (tab_kept (w':=wr.drewN nq) (uh Ht5) (Nat.le_refl _) (fun _ _=>rfl))
               have Hb6:=hide (below_drewN (uh Hb5) nq)
               have Hbx6:Hid ((wr.drewN nq).heap[pb]? = _):=Hbx
               have HrW6:Hid (NRow B (wr.drewN nq) _ (prt.drop (q+1))):=HrW2
               have g0':(wr.drewN nq).cell? _=_:=g0
               have g1':(wr.drewN nq).cell? _=_:=g1
               have g2':(wr.drewN nq).cell? _=_:=g2
               have g3':(wr.drewN nq).cell? _=_:=g3
               have g4':(wr.drewN nq).cell? _=_:=g4
               have p0':(wr.drewN nq).cell? _=_:=p0
               have p1':(wr.drewN nq).cell? _=_:=p1
               have cx':(wr.drewN nq).cell? _=_:=cx
               clear Ht5 Hb5 Hbx HrW2 g0 g1 g2 g3 g4 p0 p1 cx ca Hbw
               generalize wr.drewN nq=wd at *
               by_cases hxk:x<G.kinds.length
               · have Hs6:Hid ((ag3=ag∧F3=F2∧(cntT F2 G.kinds.length G.rules.length<cntT F G.kinds.length G.rules.length∨∀ j,j<q+1→flwFull G F l prt j))∨(ag3=true∧cntT F3 G.kinds.length G.rules.length<cntT F G.kinds.length G.rules.length)):=hide (by
                   rcases uh Hs5 with ⟨h1,h2,h3 | h3⟩ | h
                   · exact .inl ⟨h1,h2,.inl h3⟩
                   · refine .inl ⟨h1,h2,.inr (fun j hj=>?_)⟩
                     rcases uh Hqs j hj with rfl | h
                     · exact(uh Hff).2 (fun hk2=>by unfold Gm.nk at hk2;omega)
                     · exact h3 j h
                   · exact .inr h)
                 clear Hs5 Hqs Hxu1 Hxu2 Hff
                 go_wp2
                 go_roundw
                 case rel=>exact⟨F3,ag3,q+1,rfl,by go_num,by omega,uh Ht6,uh Hsnd5,uh Hs6,uh Hb6,uh Hbx6⟩
                 case measure=>simp[intOf];omega
               · obtain ⟨r, hxr⟩ : ∃ r : Nat, x - (G.kinds.length : Int) = r := ⟨(x - G.kinds.length).toNat, by omega⟩
                 have hr2:r<G.rules.length:=by unfold Gm.nk Gm.nr at *;omega
                 have hr2':(r:Int)<G.rules.length:=by omega
                 have hwr:=wN r (by omega)
                 have hxe:(x - (G.nk:Int)).toNat=r:=by unfold Gm.nk;omega
                 have Hxk:Hid ((G.nk:Int)≤x):=hide (by unfold Gm.nk;omega)
                 rw[hxe] at Hxu1 Hxu2 Hff
                 have ct:=(uh Ht6).cell r hr2
                 clear hxe
                 go_wp2
                 go_quiet (fail)
                 have Ht7:=hide (tab_kept (w':=wd.drewN nq) (uh Ht6) (Nat.le_refl _) (fun _ _=>rfl))
                 have Hb7:=hide (below_drewN (uh Hb6) nq)
                 have Hbx7:Hid ((wd.drewN nq).heap[pb]? = _):=Hbx6
                 have HrW7:Hid (NRow B (wd.drewN nq) _ (prt.drop (q+1))):=HrW6
                 have g0'':(wd.drewN nq).cell? _=_:=g0'
                 have g1'':(wd.drewN nq).cell? _=_:=g1'
                 have g2'':(wd.drewN nq).cell? _=_:=g2'
                 have g3'':(wd.drewN nq).cell? _=_:=g3'
                 have g4'':(wd.drewN nq).cell? _=_:=g4'
                 have p0'':(wd.drewN nq).cell? _=_:=p0'
                 have p1'':(wd.drewN nq).cell? _=_:=p1'
                 clear Ht6 Hb6 Hbx6 HrW6 g0' g1' g2' g3' g4' p0' p1' cx' ct
                 generalize wd.drewN nq=we at *
                 have hsze:=(uh Hb7).size
                 have hbr:=(uh Hpbs).1 r hr2
                 have hbr1:=uh Hbk r hr2
                 have htp:=(uh Hpbs).2.1
                 have hpe:pb<we.heap.size:=(Array.getElem?_eq_some_iff.1 (uh Hbx7)).1
                 have HS:Hid (∀ W:World,Fr (· = bk r) we W→W.cell? ⟨w.heap.size,0,none⟩=some (.slice ka G.kinds.length kc)∧W.cell? ⟨w.heap.size,1,none⟩=some (.slice pa G.precs.length pc)∧W.cell? ⟨w.heap.size,2,none⟩=some (.slice ra G.rules.length rc)∧W.cell? ⟨w.heap.size,3,none⟩=some (.slice (some ⟨b,off,none⟩) G.prods.length qc)∧W.cell? ⟨w.heap.size,4,none⟩=some (.int .i64 G.start)∧W.cell? ⟨pb,0,none⟩=some (.int .i64 (l:Int))∧W.cell? ⟨pb,1,none⟩=some (.slice (some ⟨xb,xo,none⟩) prt.length rrc)∧W.cell? ⟨tb,l,none⟩=some (.slice (some ⟨bk l,0,none⟩) G.kinds.length G.kinds.length)):=hide (fun W hf=>by
                   have k1:=fun(i:Nat) (v:Value) (h:we.cell? ⟨w.heap.size,i,none⟩=some v)=>(World.cell?_of_block (w:=we) (a:=⟨w.heap.size,i,none⟩) (hf.2.1 _ (by show w.heap.size<we.heap.size;omega) (by show ¬ w.heap.size=bk r;omega))).trans h
                   have k2:=fun(i:Nat) (v:Value) (h:we.cell? ⟨pb,i,none⟩=some v)=>(World.cell?_of_block (w:=we) (a:=⟨pb,i,none⟩) (hf.2.1 _ hpe (by show ¬ pb=bk r;omega))).trans h
                   exact⟨k1 _ _ g0'',k1 _ _ g1'',k1 _ _ g2'',k1 _ _ g3'',k1 _ _ g4'',k2 _ _ p0'',k2 _ _ p1'',(World.cell?_of_block (w:=we) (a:=⟨tb,l,none⟩) (hf.2.1 _ (uh Ht7).lt (fun e=>(uh Ht7).ne r hr2 e.symm))).trans ((uh Ht7).cell l hl2)⟩)
                 have hbw7:=(uh Hb1).trans (below_le (uh Hb7) (by omega))
                 have Hfd7:=hide (tab_kept (w':=we.drew) (uh Hf) hbw7.size (fun j hj=>hbw7.block j (by
                   rcases hj with rfl | ⟨s,hs,rfl⟩
                   · exact(uh Hf).lt
                   · exact((uh Hf).row s hs).lt)))
                 have Hnn7:=hide (show we.drew.rowIs nb 4 G.rules.length (fun r=>.bool (nullF G r)) from(uh Hn).of_block (hbw7.block _ (uh Hn).lt))
                 have hdl:(prt.drop (q+1)).length=prt.length - (q+1):=List.length_drop
                 have HBg:=rBegins_any ka pa ra (some ⟨b,off,none⟩) G.kinds.length kc G.precs.length pc G.rules.length rc G.prods.length qc G.start nb nc (nullF G) fb fc fk (fstF G) sa (rrc - (q+1)) (prt.drop (q+1)) B we.drew (by show B≤we.heap.size;omega) hnk hnr (by rw[hdl];omega) (uh HrW7) (syms_drop _ (uh Hpy)) (uh Hnn7) (uh Hfd7)
                 rw[hdl] at HBg
                 have HBg:=hide HBg
                 have HJ0:Hid (∀ (W:World) (b3:Nat),W.rowIs b3 4 G.kinds.length (fun k=>.bool (begB G.kinds.length (nullF G) (fstF G) (prt.drop (q+1)) k))→Below we.heap.size we.drew W→Calls Tryz.prog 92 #[.slice (some ⟨bk r,0,none⟩) G.kinds.length G.kinds.length,.slice (some ⟨b3,0,none⟩) G.kinds.length G.kinds.length] W fun e w'=>e=.returned (.bool (newTo (F3 r) (begB G.kinds.length (nullF G) (fstF G) (prt.drop (q+1))) G.kinds.length))∧w'.rowIs (bk r) 4 G.kinds.length (fun k=>.bool (joinTo (F3 r) (begB G.kinds.length (nullF G) (fstF G) (prt.drop (q+1))) G.kinds.length k))∧Fr (· = bk r) W w'):=hide (fun W b3 hr hb=>rJoined_any (bk r) b3 G.kinds.length _ _ (F3 r) _ (by omega) W ((tab_below (tab_kept (w':=we.drew) (uh Ht7) (Nat.le_refl _) (fun _ _=>rfl)) hb (Nat.le_refl _)).row r hr2) hr)
                 have hS:Fr (· = bk r) we we.drew:=fr_refl _ _
                 have Htu:Hid (∀ W:World,Fr (· = bk r) we W→∀ f:Nat→Bool,W.rowIs (bk r) 4 G.kinds.length (fun k=>.bool (f k))→TabIs W tb G.rules.length G.kinds.length bk (updT F3 r f)∧Fr (· = bk r) we W):=hide (fun W hf f hr=>⟨tab_upd (uh Ht7) hr2 hf hr,hf⟩)
                 have hq1:IntKind.i64.wrap ((q:Int)+1)=(q:Int)+1:=by rw[IntKind.wrap_i64];omega
                 have hN1:Hid (newTo (F3 r) (begB G.kinds.length (nullF G) (fstF G) (prt.drop (q+1))) G.kinds.length=newTo (F3 r) (flw1 G (prt.drop (q+1))) G.nk):=hide rfl
                 generalize newTo (F3 r) (begB G.kinds.length (nullF G) (fstF G) (prt.drop (q+1))) G.kinds.length=N1 at *
                 clear hbw7
                 go_wp2
                 go_cut [81] from 71 to 81 (fun s wx=>s=.bool N1∧TabIs wx tb G.rules.length G.kinds.length bk (updT F3 r (joinTo (F3 r) (begB G.kinds.length (nullF G) (fstF G) (prt.drop (q+1))) G.kinds.length))∧Fr (· = bk r) we wx)
                 case first =>
                   go_region_held3 (fun W:World=>W.cell? ⟨w.heap.size,0,none⟩=some (.slice ka G.kinds.length kc)∧W.cell? ⟨w.heap.size,1,none⟩=some (.slice pa G.precs.length pc)∧W.cell? ⟨w.heap.size,2,none⟩=some (.slice ra G.rules.length rc)∧W.cell? ⟨w.heap.size,3,none⟩=some (.slice (some ⟨b,off,none⟩) G.prods.length qc)∧W.cell? ⟨w.heap.size,4,none⟩=some (.int .i64 G.start)∧W.cell? ⟨pb,0,none⟩=some (.int .i64 (l:Int))∧W.cell? ⟨pb,1,none⟩=some (.slice (some ⟨xb,xo,none⟩) prt.length rrc)∧W.cell? ⟨tb,l,none⟩=some (.slice (some ⟨bk l,0,none⟩) G.kinds.length G.kinds.length))
                     (first | exact uh HS _ hS | fail)
                     (first
                       | (go_at_call 49;refine(uh HBg).mono ?_;rintro e W3 ⟨b3,rfl,hb3l,hr3,hb3⟩;have HJ:=hide (uh HJ0 W3 b3 hr3 hb3);have hS:=fr_new hS hb3;clear hr3 hb3)
                       | (go_at_call 92;refine(uh HJ).mono ?_;rintro e W4 ⟨rfl,hr4,hf4⟩;have hS:=fr_t hS hf4;have hE:=uh Htu _ hS _ hr4;clear hf4 hr4)
                       | fail)
                   all_goals
                     go_wp2_with fail
                     go_meet
                     exact⟨rfl,hE⟩
                 case rest =>
                   obtain⟨rfl,ht8,hf8⟩:=hcut
                   have hb8:=fr_below (B:=w.heap.size+1) hf8 (by omega) (fun j hj=>by rw[hj];exact hbr1)
                   have Hb8:=hide ((uh Hb7).trans hb8)
                   have Hbx8:=hide ((hf8.2.1 pb hpe (by omega)).trans (uh Hbx7))
                   have HS8:Hid (∀ W:World,Fr (· = bk r) wc W→W.cell? ⟨w.heap.size,0,none⟩=some (.slice ka G.kinds.length kc)∧W.cell? ⟨w.heap.size,1,none⟩=some (.slice pa G.precs.length pc)∧W.cell? ⟨w.heap.size,2,none⟩=some (.slice ra G.rules.length rc)∧W.cell? ⟨w.heap.size,3,none⟩=some (.slice (some ⟨b,off,none⟩) G.prods.length qc)∧W.cell? ⟨w.heap.size,4,none⟩=some (.int .i64 G.start)∧W.cell? ⟨pb,0,none⟩=some (.int .i64 (l:Int))∧W.cell? ⟨pb,1,none⟩=some (.slice (some ⟨xb,xo,none⟩) prt.length rrc)∧W.cell? ⟨tb,l,none⟩=some (.slice (some ⟨bk l,0,none⟩) G.kinds.length G.kinds.length)):=hide (fun W hf=>uh HS W (fr_t hf8 hf))
                   obtain⟨c0,c1,c2,c3,c4,c5,c6',c7⟩:=uh HS8 wc (fr_refl _ _)
                   have hbw8:=(uh Hb1).trans (below_le (uh Hb8) (by omega))
                   have Hnn8:=hide (show wc.drew.rowIs nb 4 G.rules.length (fun r=>.bool (nullF G r)) from(uh Hn).of_block (hbw8.block _ (uh Hn).lt))
                   have HrW8:Hid (NRow B wc.drew sa (prt.drop (q+1))):=hide (nrow_kept (below_le hb8.drew (by omega)) (uh HrW7))
                   have hsz8:=hb8.size
                   have HE:=rEmpty_any ka pa ra (some ⟨b,off,none⟩) G.kinds.length kc G.precs.length pc G.rules.length rc G.prods.length qc G.start nb nc (nullF G) sa (rrc - (q+1)) (prt.drop (q+1)) B wc.drew (by show B≤wc.heap.size;omega) hnr (by rw[hdl];omega) (uh HrW8) (syms_drop _ (uh Hpy)) (uh Hnn8)
                   rw[hdl] at HE
                   have HE:=hide HE
                   have Hx4:=hide (uh Hxu1 (uh Hxk))
                   have HF4a:Hid (N1=false→updT F3 r (joinTo (F3 r) (begB G.kinds.length (nullF G) (fstF G) (prt.drop (q+1))) G.kinds.length)=F3):=hide (fun h=>join_none (F:=F3) (l:=r) (by rw[h] at hN1;exact(uh hN1).symm))
                   have HF4b:Hid (N1=true→cntT (updT F3 r (joinTo (F3 r) (begB G.kinds.length (nullF G) (fstF G) (prt.drop (q+1))) G.kinds.length)) G.kinds.length G.rules.length<cntT F3 G.kinds.length G.rules.length):=hide (fun h=>cntT_join hr2 (by rw[h] at hN1;exact(uh hN1).symm))
                   rw[show updT F3 r (joinTo (F3 r) (flw1 G (prt.drop (q+1))) G.nk)=updT F3 r (joinTo (F3 r) (begB G.kinds.length (nullF G) (fstF G) (prt.drop (q+1))) G.kinds.length) from rfl] at Hx4
                   generalize updT F3 r (joinTo (F3 r) (begB G.kinds.length (nullF G) (fstF G) (prt.drop (q+1))) G.kinds.length)=F4 at *
                   have Ht8:=hide ht8
                   have Hx5:=hide (fun he=>uh Hxu2 F4 (uh Hx4) (uh Hxk) he)
                   have hS:Fr (· = bk r) wc wc.drew:=fr_refl _ _
                   have Htu8:Hid (∀ W:World,Fr (· = bk r) wc W→∀ f:Nat→Bool,W.rowIs (bk r) 4 G.kinds.length (fun k=>.bool (f k))→TabIs W tb G.rules.length G.kinds.length bk (updT F4 r f)∧Fr (· = bk r) wc W):=hide (fun W hf f hr=>⟨tab_upd (uh Ht8) hr2 hf hr,hf⟩)
                   have Htk8:Hid (∀ W:World,Below wc.heap.size wc.drew W→TabIs W tb G.rules.length G.kinds.length bk F4∧Fr (· = bk r) wc W):=hide (fun W hb=>⟨tab_below (tab_kept (w':=wc.drew) (uh Ht8) (Nat.le_refl _) (fun _ _=>rfl)) hb (Nat.le_refl _),fr_new (show Fr (· = bk r) wc wc.drew from fr_refl _ _) hb⟩)
                   have HJ8:Hid (∀ (W:World),Below wc.heap.size wc.drew W→Calls Tryz.prog 92 #[.slice (some ⟨bk r,0,none⟩) G.kinds.length G.kinds.length,.slice (some ⟨bk l,0,none⟩) G.kinds.length G.kinds.length] W fun e w'=>e=.returned (.bool (newTo (F4 r) (F4 l) G.kinds.length))∧w'.rowIs (bk r) 4 G.kinds.length (fun k=>.bool (joinTo (F4 r) (F4 l) G.kinds.length k))∧Fr (· = bk r) W w'):=hide (fun W hb=>rJoined_any (bk r) (bk l) G.kinds.length _ _ (F4 r) (F4 l) (by omega) W ((uh Htk8 W hb).1.row r hr2) ((uh Htk8 W hb).1.row l hl2))
                   have Hend:Hid (∀ W:World,Fr (· = bk r) wc W→Below (w.heap.size+1) w1 W∧W.heap[pb]? = some (.cells #[.int .i64 (l:Int),.slice (some ⟨xb,xo,none⟩) prt.length rrc,.int .i64 plv,.int .i64 x3,.int .i64 x4,.string x5,.slice x6 n6 c6] 89)):=hide (fun W hf=>⟨(uh Hb8).trans (fr_below hf (by omega) (fun j hj=>by rw[hj];exact hbr1)),(hf.2.1 pb (by omega) (by omega)).trans (uh Hbx8)⟩)
                   have Hs8:Hid (N1=false→(ag3=ag∧F4=F2∧(cntT F2 G.kinds.length G.rules.length<cntT F G.kinds.length G.rules.length∨(F4=F∧newTo (F r) (flw1 G (prt.drop (q+1))) G.nk=false∧∀ j,j<q→flwFull G F l prt j)))∨(ag3=true∧cntT F4 G.kinds.length G.rules.length<cntT F G.kinds.length G.rules.length)):=hide (fun hn=>by
                     have h4:=uh HF4a hn
                     rcases uh Hs5 with ⟨h1,h2,h3⟩ | h
                     · refine .inl ⟨h1,by rw[h4,h2],?_⟩
                       rcases h3 with h3 | h3
                       · exact .inl h3
                       · rcases uh Hst5 with h5 | h5
                         · refine .inr ⟨by rw[h4,h2,h5],?_,h3⟩
                           have:=uh hN1
                           rw[hn,h2,h5] at this
                           exact this.symm
                         · exact .inl h5
                     · exact .inr ⟨h.1,by rw[h4];exact h.2⟩)
                   have Hs9:Hid (N1=true→cntT F4 G.kinds.length G.rules.length<cntT F G.kinds.length G.rules.length):=hide (fun hn=>by
                     have h4:=uh HF4b hn
                     rcases uh Hs5 with ⟨h1,h2,h3⟩ | h
                     · rw[h2] at h4
                       rcases uh Hst5 with h5 | h5
                       · rw[h5] at h4;exact h4
                       · omega
                     · have:=h.2;omega)
                   clear ht8 hf8 hb8 hbw8 HS HBg HJ0 Htu Hs5 HF4a HF4b hN1 Ht7 Hb7 Hbx7 HrW7 Hxu1 Hxu2 g0'' g1'' g2'' g3'' g4'' p0'' p1'' Hfd7 Hnn7
                   cases hEm:emptyB G.kinds.length (nullF G) (prt.drop (q+1))
                   · rw[hEm] at HE
                     cases N1
                     · have Hs10:=hide (uh Hs8 rfl)
                       clear Hs8 Hs9
                       go_wp2
                       go_cut [98] from 82 to 98 (fun s wx=>s=.bool false∧TabIs wx tb G.rules.length G.kinds.length bk F4∧Fr (· = bk r) wc wx)
                       case first =>
                         refine wp_region_held_drew (S:=fun W:World=>W.cell? ⟨w.heap.size,0,none⟩=some (.slice ka G.kinds.length kc)∧W.cell? ⟨w.heap.size,1,none⟩=some (.slice pa G.precs.length pc)∧W.cell? ⟨w.heap.size,2,none⟩=some (.slice ra G.rules.length rc)∧W.cell? ⟨w.heap.size,3,none⟩=some (.slice (some ⟨b,off,none⟩) G.prods.length qc)∧W.cell? ⟨w.heap.size,4,none⟩=some (.int .i64 G.start)∧W.cell? ⟨pb,0,none⟩=some (.int .i64 (l:Int))∧W.cell? ⟨pb,1,none⟩=some (.slice (some ⟨xb,xo,none⟩) prt.length rrc)∧W.cell? ⟨tb,l,none⟩=some (.slice (some ⟨bk l,0,none⟩) G.kinds.length G.kinds.length)) (by kernel_rfl) (uh HS8 _ hS) (fun hHeld=>?_)
                         refine take_dst (i:=0) (dst:=some 82) (v:=?_) rfl rfl (by kernel_rfl) (by kernel_rfl) (by kernel_rfl) (fun _ _ _ h=>h) (Or.inl ⟨by rfl,?_⟩) hHeld ?_
                         rotate_left
                         · intro w hSw;obtain⟨k0,k1,k2,k3,k4,k5,k6,k7⟩:=hSw;go_simp;try (with_reducible rfl)
                         simp only[Act.put,zsA,zsB,zsC]
                         refine take_dst (i:=1) (dst:=some 83) (v:=?_) rfl rfl (by kernel_rfl) (by kernel_rfl) (by kernel_rfl) (fun _ _ _ h=>h) (Or.inl ⟨by rfl,?_⟩) hHeld ?_
                         rotate_left
                         · intro w hSw;obtain⟨k0,k1,k2,k3,k4,k5,k6,k7⟩:=hSw;go_simp;try (with_reducible rfl)
                         simp only[Act.put,zsA,zsB,zsC]
                         refine take_dst (i:=2) (dst:=some 84) (v:=?_) rfl rfl (by kernel_rfl) (by kernel_rfl) (by kernel_rfl) (fun _ _ _ h=>h) (Or.inl ⟨by rfl,?_⟩) hHeld ?_
                         rotate_left
                         · intro w hSw;obtain⟨k0,k1,k2,k3,k4,k5,k6,k7⟩:=hSw;go_simp;try (with_reducible rfl)
                         simp only[Act.put,zsA,zsB,zsC]
                         refine take_dst (i:=3) (dst:=some 85) (v:=?_) rfl rfl (by kernel_rfl) (by kernel_rfl) (by kernel_rfl) (fun _ _ _ h=>h) (Or.inl ⟨by rfl,?_⟩) hHeld ?_
                         rotate_left
                         · intro w hSw;obtain⟨k0,k1,k2,k3,k4,k5,k6,k7⟩:=hSw;go_simp;try (with_reducible rfl)
                         simp only[Act.put,zsA,zsB,zsC]
                         refine take_dst (i:=4) (dst:=some 86) (v:=?_) rfl rfl (by kernel_rfl) (by kernel_rfl) (by kernel_rfl) (fun _ _ _ h=>h) (Or.inl ⟨by rfl,?_⟩) hHeld ?_
                         rotate_left
                         · intro w hSw;obtain⟨k0,k1,k2,k3,k4,k5,k6,k7⟩:=hSw;go_simp;try (with_reducible rfl)
                         simp only[Act.put,zsA,zsB,zsC]
                         refine take_dst (i:=5) (dst:=some 87) (v:=?_) rfl rfl (by kernel_rfl) (by kernel_rfl) (by kernel_rfl) (fun _ _ _ h=>h) (Or.inl ⟨by rfl,?_⟩) hHeld ?_
                         rotate_left
                         · intro w hSw;obtain⟨k0,k1,k2,k3,k4,k5,k6,k7⟩:=hSw;go_simp;try (with_reducible rfl)
                         simp only[Act.put,zsA,zsB,zsC]
                         refine take_dst (i:=6) (dst:=some 88) (v:=?_) rfl rfl (by kernel_rfl) (by kernel_rfl) (by kernel_rfl) (fun _ _ _ h=>h) (Or.inl ⟨by rfl,?_⟩) hHeld ?_
                         rotate_left
                         · intro w hSw;obtain⟨k0,k1,k2,k3,k4,k5,k6,k7⟩:=hSw;go_simp;try (with_reducible rfl)
                         simp only[Act.put,zsA,zsB,zsC]
                         refine wpAnyH_ready (rs:=[7]) (by kernel_rfl) (by simp) ?_
                         refine AllReadyH.cons rfl (fun K hK=>?_) AllReadyH.nil
                         go_simp
                         go_at_call 50
                         refine(uh HE).mono ?_
                         rintro e W3 ⟨rfl,hb3⟩
                         have hE:=uh Htk8 W3 hb3
                         have hS:=hE.2
                         clear hb3
                         go_wp2_with fail
                         refine hK.out _ _ (uh HS8 _ hS) (fun hHeld=>?_)
                         clear hK K
                         refine take_dst (i:=8) (dst:=some 90) (v:=?_) rfl rfl (by kernel_rfl) (by kernel_rfl) (by kernel_rfl) (fun _ _ _ h=>h) (Or.inl ⟨by rfl,?_⟩) hHeld ?_
                         rotate_left
                         · intro w hSw;obtain⟨k0,k1,k2,k3,k4,k5,k6,k7⟩:=hSw;go_simp;try (with_reducible rfl)
                         simp only[Act.put,zsA,zsB,zsC]
                         refine take_dst (i:=9) (dst:=some 91) (v:=undef) rfl rfl (by kernel_rfl) (by kernel_rfl) (by kernel_rfl) (fun _ _ _ h=>h) (Or.inr ⟨by rfl,rfl⟩) hHeld ?_
                         simp only[Act.put,zsA,zsB,zsC]
                         refine take_dst (i:=10) (dst:=some 92) (v:=undef) rfl rfl (by kernel_rfl) (by kernel_rfl) (by kernel_rfl) (fun _ _ _ h=>h) (Or.inr ⟨by rfl,rfl⟩) hHeld ?_
                         simp only[Act.put,zsA,zsB,zsC]
                         refine take_dst (i:=11) (dst:=some 93) (v:=undef) rfl rfl (by kernel_rfl) (by kernel_rfl) (by kernel_rfl) (fun _ _ _ h=>h) (Or.inr ⟨by rfl,rfl⟩) hHeld ?_
                         simp only[Act.put,zsA,zsB,zsC]
                         refine take_dst (i:=12) (dst:=some 94) (v:=undef) rfl rfl (by kernel_rfl) (by kernel_rfl) (by kernel_rfl) (fun _ _ _ h=>h) (Or.inr ⟨by rfl,rfl⟩) hHeld ?_
                         simp only[Act.put,zsA,zsB,zsC]
                         refine take_dst (i:=13) (dst:=some 95) (v:=undef) rfl rfl (by kernel_rfl) (by kernel_rfl) (by kernel_rfl) (fun _ _ _ h=>h) (Or.inr ⟨by rfl,rfl⟩) hHeld ?_
                         simp only[Act.put,zsA,zsB,zsC]
                         refine take_dst (i:=14) (dst:=some 96) (v:=undef) rfl rfl (by kernel_rfl) (by kernel_rfl) (by kernel_rfl) (fun _ _ _ h=>h) (Or.inr ⟨by rfl,rfl⟩) hHeld ?_
                         simp only[Act.put,zsA,zsB,zsC]
                         refine take_dst (i:=15) (dst:=some 97) (v:=undef) rfl rfl (by kernel_rfl) (by kernel_rfl) (by kernel_rfl) (fun _ _ _ h=>h) (Or.inr ⟨by rfl,rfl⟩) hHeld ?_
                         simp only[Act.put,zsA,zsB,zsC]
                         refine take_dst (i:=16) (dst:=some 98) (v:=?_) rfl rfl (by kernel_rfl) (by kernel_rfl) (by kernel_rfl) (fun _ _ _ h=>h) (Or.inl ⟨by rfl,?_⟩) hHeld ?_
                         rotate_left
                         · intro w hSw;obtain⟨k0,k1,k2,k3,k4,k5,k6,k7⟩:=hSw;go_simp;try (with_reducible rfl)
                         simp only[Act.put,zsA,zsB,zsC]
                         refine wpAnyH_done (by kernel_rfl) ?_ _
                         go_wp2_with fail
                         go_meet
                         exact⟨rfl,hE⟩
                       case rest =>
                         obtain⟨rfl,ht9,hf9⟩:=hcut
                         have Ht9:=hide ht9
                         have Hen:=hide (uh Hend _ hf9)
                         clear ht9 hf9 hS HS8 HJ8 Htu8 Htk8 Hend HE
                         have Hs11:Hid ((ag3=ag∧F4=F2∧(cntT F2 G.kinds.length G.rules.length<cntT F G.kinds.length G.rules.length∨∀ j,j<q+1→flwFull G F l prt j))∨(ag3=true∧cntT F4 G.kinds.length G.rules.length<cntT F G.kinds.length G.rules.length)):=hide (by
                           rcases uh Hs10 with ⟨h1,h2,h3 | ⟨h3,h4,h5⟩⟩ | h
                           · exact .inl ⟨h1,h2,.inl h3⟩
                           · refine .inl ⟨h1,h2,.inr (fun j hj=>?_)⟩
                             rcases uh Hqs j hj with rfl | h
                             · exact(uh Hff).2 (fun _=>⟨h4,fun he=>by rw[show emptyB G.nk (nullF G) (prt.drop (j+1))=emptyB G.kinds.length (nullF G) (prt.drop (j+1)) from rfl,hEm] at he;cases he⟩)
                             · exact h5 j h
                           · exact .inr h)
                         clear Hs10 hEm
                         go_wp2
                         go_roundw
                         case rel=>exact⟨F4,ag3,q+1,rfl,by go_num,by omega,uh Ht9,uh Hx4,uh Hs11,(uh Hen).1,(uh Hen).2⟩
                         case measure=>simp[intOf];omega
                     · have Hs10:=hide (uh Hs9 rfl)
                       clear Hs8 Hs9
                       go_wp2
                       go_cut [98] from 82 to 98 (fun s wx=>s=.bool false∧TabIs wx tb G.rules.length G.kinds.length bk F4∧Fr (· = bk r) wc wx)
                       case first =>
                         refine wp_region_held_drew (S:=fun W:World=>W.cell? ⟨w.heap.size,0,none⟩=some (.slice ka G.kinds.length kc)∧W.cell? ⟨w.heap.size,1,none⟩=some (.slice pa G.precs.length pc)∧W.cell? ⟨w.heap.size,2,none⟩=some (.slice ra G.rules.length rc)∧W.cell? ⟨w.heap.size,3,none⟩=some (.slice (some ⟨b,off,none⟩) G.prods.length qc)∧W.cell? ⟨w.heap.size,4,none⟩=some (.int .i64 G.start)∧W.cell? ⟨pb,0,none⟩=some (.int .i64 (l:Int))∧W.cell? ⟨pb,1,none⟩=some (.slice (some ⟨xb,xo,none⟩) prt.length rrc)∧W.cell? ⟨tb,l,none⟩=some (.slice (some ⟨bk l,0,none⟩) G.kinds.length G.kinds.length)) (by kernel_rfl) (uh HS8 _ hS) (fun hHeld=>?_)
                         refine take_dst (i:=0) (dst:=some 82) (v:=?_) rfl rfl (by kernel_rfl) (by kernel_rfl) (by kernel_rfl) (fun _ _ _ h=>h) (Or.inl ⟨by rfl,?_⟩) hHeld ?_
                         rotate_left
                         · intro w hSw;obtain⟨k0,k1,k2,k3,k4,k5,k6,k7⟩:=hSw;go_simp;try (with_reducible rfl)
                         simp only[Act.put,zsA,zsB,zsC]
                         refine take_dst (i:=1) (dst:=some 83) (v:=?_) rfl rfl (by kernel_rfl) (by kernel_rfl) (by kernel_rfl) (fun _ _ _ h=>h) (Or.inl ⟨by rfl,?_⟩) hHeld ?_
                         rotate_left
                         · intro w hSw;obtain⟨k0,k1,k2,k3,k4,k5,k6,k7⟩:=hSw;go_simp;try (with_reducible rfl)
                         simp only[Act.put,zsA,zsB,zsC]
                         refine take_dst (i:=2) (dst:=some 84) (v:=?_) rfl rfl (by kernel_rfl) (by kernel_rfl) (by kernel_rfl) (fun _ _ _ h=>h) (Or.inl ⟨by rfl,?_⟩) hHeld ?_
                         rotate_left
                         · intro w hSw;obtain⟨k0,k1,k2,k3,k4,k5,k6,k7⟩:=hSw;go_simp;try (with_reducible rfl)
                         simp only[Act.put,zsA,zsB,zsC]
                         refine take_dst (i:=3) (dst:=some 85) (v:=?_) rfl rfl (by kernel_rfl) (by kernel_rfl) (by kernel_rfl) (fun _ _ _ h=>h) (Or.inl ⟨by rfl,?_⟩) hHeld ?_
                         rotate_left
                         · intro w hSw;obtain⟨k0,k1,k2,k3,k4,k5,k6,k7⟩:=hSw;go_simp;try (with_reducible rfl)
                         simp only[Act.put,zsA,zsB,zsC]
                         refine take_dst (i:=4) (dst:=some 86) (v:=?_) rfl rfl (by kernel_rfl) (by kernel_rfl) (by kernel_rfl) (fun _ _ _ h=>h) (Or.inl ⟨by rfl,?_⟩) hHeld ?_
                         rotate_left
                         · intro w hSw;obtain⟨k0,k1,k2,k3,k4,k5,k6,k7⟩:=hSw;go_simp;try (with_reducible rfl)
                         simp only[Act.put,zsA,zsB,zsC]
                         refine take_dst (i:=5) (dst:=some 87) (v:=?_) rfl rfl (by kernel_rfl) (by kernel_rfl) (by kernel_rfl) (fun _ _ _ h=>h) (Or.inl ⟨by rfl,?_⟩) hHeld ?_
                         rotate_left
                         · intro w hSw;obtain⟨k0,k1,k2,k3,k4,k5,k6,k7⟩:=hSw;go_simp;try (with_reducible rfl)
                         simp only[Act.put,zsA,zsB,zsC]
                         refine take_dst (i:=6) (dst:=some 88) (v:=?_) rfl rfl (by kernel_rfl) (by kernel_rfl) (by kernel_rfl) (fun _ _ _ h=>h) (Or.inl ⟨by rfl,?_⟩) hHeld ?_
                         rotate_left
                         · intro w hSw;obtain⟨k0,k1,k2,k3,k4,k5,k6,k7⟩:=hSw;go_simp;try (with_reducible rfl)
                         simp only[Act.put,zsA,zsB,zsC]
                         refine wpAnyH_ready (rs:=[7]) (by kernel_rfl) (by simp) ?_
                         refine AllReadyH.cons rfl (fun K hK=>?_) AllReadyH.nil
                         go_simp
                         go_at_call 50
                         refine(uh HE).mono ?_
                         rintro e W3 ⟨rfl,hb3⟩
                         have hE:=uh Htk8 W3 hb3
                         have hS:=hE.2
                         clear hb3
                         go_wp2_with fail
                         refine hK.out _ _ (uh HS8 _ hS) (fun hHeld=>?_)
                         clear hK K
                         refine take_dst (i:=8) (dst:=some 90) (v:=?_) rfl rfl (by kernel_rfl) (by kernel_rfl) (by kernel_rfl) (fun _ _ _ h=>h) (Or.inl ⟨by rfl,?_⟩) hHeld ?_
                         rotate_left
                         · intro w hSw;obtain⟨k0,k1,k2,k3,k4,k5,k6,k7⟩:=hSw;go_simp;try (with_reducible rfl)
                         simp only[Act.put,zsA,zsB,zsC]
                         refine take_dst (i:=9) (dst:=some 91) (v:=undef) rfl rfl (by kernel_rfl) (by kernel_rfl) (by kernel_rfl) (fun _ _ _ h=>h) (Or.inr ⟨by rfl,rfl⟩) hHeld ?_
                         simp only[Act.put,zsA,zsB,zsC]
                         refine take_dst (i:=10) (dst:=some 92) (v:=undef) rfl rfl (by kernel_rfl) (by kernel_rfl) (by kernel_rfl) (fun _ _ _ h=>h) (Or.inr ⟨by rfl,rfl⟩) hHeld ?_
                         simp only[Act.put,zsA,zsB,zsC]
                         refine take_dst (i:=11) (dst:=some 93) (v:=undef) rfl rfl (by kernel_rfl) (by kernel_rfl) (by kernel_rfl) (fun _ _ _ h=>h) (Or.inr ⟨by rfl,rfl⟩) hHeld ?_
                         simp only[Act.put,zsA,zsB,zsC]
                         refine take_dst (i:=12) (dst:=some 94) (v:=undef) rfl rfl (by kernel_rfl) (by kernel_rfl) (by kernel_rfl) (fun _ _ _ h=>h) (Or.inr ⟨by rfl,rfl⟩) hHeld ?_
                         simp only[Act.put,zsA,zsB,zsC]
                         refine take_dst (i:=13) (dst:=some 95) (v:=undef) rfl rfl (by kernel_rfl) (by kernel_rfl) (by kernel_rfl) (fun _ _ _ h=>h) (Or.inr ⟨by rfl,rfl⟩) hHeld ?_
                         simp only[Act.put,zsA,zsB,zsC]
                         refine take_dst (i:=14) (dst:=some 96) (v:=undef) rfl rfl (by kernel_rfl) (by kernel_rfl) (by kernel_rfl) (fun _ _ _ h=>h) (Or.inr ⟨by rfl,rfl⟩) hHeld ?_
                         simp only[Act.put,zsA,zsB,zsC]
                         refine take_dst (i:=15) (dst:=some 97) (v:=undef) rfl rfl (by kernel_rfl) (by kernel_rfl) (by kernel_rfl) (fun _ _ _ h=>h) (Or.inr ⟨by rfl,rfl⟩) hHeld ?_
                         simp only[Act.put,zsA,zsB,zsC]
                         refine take_dst (i:=16) (dst:=some 98) (v:=?_) rfl rfl (by kernel_rfl) (by kernel_rfl) (by kernel_rfl) (fun _ _ _ h=>h) (Or.inl ⟨by rfl,?_⟩) hHeld ?_
                         rotate_left
                         · intro w hSw;obtain⟨k0,k1,k2,k3,k4,k5,k6,k7⟩:=hSw;go_simp;try (with_reducible rfl)
                         simp only[Act.put,zsA,zsB,zsC]
                         refine wpAnyH_done (by kernel_rfl) ?_ _
                         go_wp2_with fail
                         go_meet
                         exact⟨rfl,hE⟩
                       case rest =>
                         obtain⟨rfl,ht9,hf9⟩:=hcut
                         have Ht9:=hide ht9
                         have Hen:=hide (uh Hend _ hf9)
                         clear ht9 hf9 hS HS8 HJ8 Htu8 Htk8 Hend HE
                         clear hEm
                         go_wp2
                         go_roundw
                         case rel=>exact⟨F4,true,q+1,rfl,by go_num,by omega,uh Ht9,uh Hx4,.inr ⟨rfl,uh Hs10⟩,(uh Hen).1,(uh Hen).2⟩
                         case measure=>simp[intOf];omega
                   · rw[hEm] at HE
                     have Hx6:=hide (uh Hx5 hEm)
                     have Hj5:=hide (fun h=>join_none (F:=F4) (l:=r) (g:=F4 l) (nk:=G.kinds.length) h)
                     have Hc5:=hide (fun h=>cntT_join (F:=F4) (g:=F4 l) (nk:=G.kinds.length) hr2 h)
                     obtain⟨N2,hN2⟩:∃ N2,Hid (newTo (F4 r) (F4 l) G.kinds.length=N2):=⟨_,hide rfl⟩
                     rw[show joinTo (F4 r) (F4 l) G.nk=joinTo (F4 r) (F4 l) G.kinds.length from rfl] at Hx6
                     rw[uh hN2] at HJ8
                     cases N1
                     · have Hs10:=hide (uh Hs8 rfl)
                       clear Hs8 Hs9
                       go_wp2
                       go_cut [98] from 82 to 98 (fun s wx=>s=.bool N2∧TabIs wx tb G.rules.length G.kinds.length bk (updT F4 r (joinTo (F4 r) (F4 l) G.kinds.length))∧Fr (· = bk r) wc wx)
                       case first =>
                         go_region_held3 (fun W:World=>W.cell? ⟨w.heap.size,0,none⟩=some (.slice ka G.kinds.length kc)∧W.cell? ⟨w.heap.size,1,none⟩=some (.slice pa G.precs.length pc)∧W.cell? ⟨w.heap.size,2,none⟩=some (.slice ra G.rules.length rc)∧W.cell? ⟨w.heap.size,3,none⟩=some (.slice (some ⟨b,off,none⟩) G.prods.length qc)∧W.cell? ⟨w.heap.size,4,none⟩=some (.int .i64 G.start)∧W.cell? ⟨pb,0,none⟩=some (.int .i64 (l:Int))∧W.cell? ⟨pb,1,none⟩=some (.slice (some ⟨xb,xo,none⟩) prt.length rrc)∧W.cell? ⟨tb,l,none⟩=some (.slice (some ⟨bk l,0,none⟩) G.kinds.length G.kinds.length))
                           (first | exact uh HS8 _ hS | fail)
                           (first
                             | (go_at_call 50;refine(uh HE).mono ?_;rintro e W3 ⟨rfl,hb3⟩;have HJ:=hide (uh HJ8 W3 hb3);have hE:=uh Htk8 W3 hb3;have hS:=hE.2;clear hb3)
                             | (go_at_call 92;refine(uh HJ).mono ?_;rintro e W4 ⟨rfl,hr4,hf4⟩;have hS:=fr_t hS hf4;have hE:=uh Htu8 _ hS _ hr4;clear hf4 hr4)
                             | fail)
                         all_goals
                           go_wp2_with fail
                           go_meet
                           exact⟨rfl,hE⟩
                       case rest =>
                         obtain⟨rfl,ht9,hf9⟩:=hcut
                         have Ht9:=hide ht9
                         have Hen:=hide (uh Hend _ hf9)
                         clear ht9 hf9 hS HS8 HJ8 Htu8 Htk8 Hend HE
                         cases N2
                         · rw[uh Hj5 (uh hN2)] at Ht9
                           have Hs11:Hid ((ag3=ag∧F4=F2∧(cntT F2 G.kinds.length G.rules.length<cntT F G.kinds.length G.rules.length∨∀ j,j<q+1→flwFull G F l prt j))∨(ag3=true∧cntT F4 G.kinds.length G.rules.length<cntT F G.kinds.length G.rules.length)):=hide (by
                             rcases uh Hs10 with ⟨h1,h2,h3 | ⟨h3,h4,h5⟩⟩ | h
                             · exact .inl ⟨h1,h2,.inl h3⟩
                             · refine .inl ⟨h1,h2,.inr (fun j hj=>?_)⟩
                               rcases uh Hqs j hj with rfl | h
                               · exact(uh Hff).2 (fun _=>⟨h4,fun _=>by have:=uh hN2;rw[h3] at this;exact this⟩)
                               · exact h5 j h
                             · exact .inr h)
                           clear Hs10 hEm Hj5 Hc5 hN2
                           go_wp2
                           go_roundw
                           case rel=>exact⟨F4,ag3,q+1,rfl,by go_num,by omega,uh Ht9,uh Hx4,uh Hs11,(uh Hen).1,(uh Hen).2⟩
                           case measure=>simp[intOf];omega
                         · have Hs11:Hid (cntT (updT F4 r (joinTo (F4 r) (F4 l) G.kinds.length)) G.kinds.length G.rules.length<cntT F G.kinds.length G.rules.length):=hide (by
                             have h5:=uh Hc5 (uh hN2)
                             rcases uh Hs10 with ⟨h1,h2,h3 | ⟨h3,-⟩⟩ | h
                             · rw[h2] at h5 ⊢;omega
                             · rw[h3] at h5 ⊢;exact h5
                             · have:=h.2;omega)
                           clear Hs10 hEm Hj5 Hc5 hN2
                           go_wp2
                           go_roundw
                           case rel=>exact⟨_,true,q+1,rfl,by go_num,by omega,uh Ht9,uh Hx6,.inr ⟨rfl,uh Hs11⟩,(uh Hen).1,(uh Hen).2⟩
                           case measure=>simp[intOf];omega
                     · have Hs10:=hide (uh Hs9 rfl)
                       clear Hs8 Hs9
                       go_wp2
                       go_cut [98] from 82 to 98 (fun s wx=>s=.bool N2∧TabIs wx tb G.rules.length G.kinds.length bk (updT F4 r (joinTo (F4 r) (F4 l) G.kinds.length))∧Fr (· = bk r) wc wx)
                       case first =>
                         go_region_held3 (fun W:World=>W.cell? ⟨w.heap.size,0,none⟩=some (.slice ka G.kinds.length kc)∧W.cell? ⟨w.heap.size,1,none⟩=some (.slice pa G.precs.length pc)∧W.cell? ⟨w.heap.size,2,none⟩=some (.slice ra G.rules.length rc)∧W.cell? ⟨w.heap.size,3,none⟩=some (.slice (some ⟨b,off,none⟩) G.prods.length qc)∧W.cell? ⟨w.heap.size,4,none⟩=some (.int .i64 G.start)∧W.cell? ⟨pb,0,none⟩=some (.int .i64 (l:Int))∧W.cell? ⟨pb,1,none⟩=some (.slice (some ⟨xb,xo,none⟩) prt.length rrc)∧W.cell? ⟨tb,l,none⟩=some (.slice (some ⟨bk l,0,none⟩) G.kinds.length G.kinds.length))
                           (first | exact uh HS8 _ hS | fail)
                           (first
                             | (go_at_call 50;refine(uh HE).mono ?_;rintro e W3 ⟨rfl,hb3⟩;have HJ:=hide (uh HJ8 W3 hb3);have hE:=uh Htk8 W3 hb3;have hS:=hE.2;clear hb3)
                             | (go_at_call 92;refine(uh HJ).mono ?_;rintro e W4 ⟨rfl,hr4,hf4⟩;have hS:=fr_t hS hf4;have hE:=uh Htu8 _ hS _ hr4;clear hf4 hr4)
                             | fail)
                         all_goals
                           go_wp2_with fail
                           go_meet
                           exact⟨rfl,hE⟩
                       case rest =>
                         obtain⟨rfl,ht9,hf9⟩:=hcut
                         have Ht9:=hide ht9
                         have Hen:=hide (uh Hend _ hf9)
                         clear ht9 hf9 hS HS8 HJ8 Htu8 Htk8 Hend HE
                         cases N2
                         · rw[uh Hj5 (uh hN2)] at Ht9
                           clear hEm Hj5 Hc5 hN2
                           go_wp2
                           go_roundw
                           case rel=>exact⟨F4,true,q+1,rfl,by go_num,by omega,uh Ht9,uh Hx4,.inr ⟨rfl,uh Hs10⟩,(uh Hen).1,(uh Hen).2⟩
                           case measure=>simp[intOf];omega
                         · have Hs11:Hid (cntT (updT F4 r (joinTo (F4 r) (F4 l) G.kinds.length)) G.kinds.length G.rules.length<cntT F G.kinds.length G.rules.length):=hide (by
                             have h5:=uh Hc5 (uh hN2)
                             have:=uh Hs10
                             omega)
                           clear Hs10 hEm Hj5 Hc5 hN2
                           go_wp2
                           go_roundw
                           case rel=>exact⟨_,true,q+1,rfl,by go_num,by omega,uh Ht9,uh Hx6,.inr ⟨rfl,uh Hs11⟩,(uh Hen).1,(uh Hen).2⟩
                           case measure=>simp[intOf];omega
           · obtain rfl:q=prt.length:=by omega
             have Hs6:Hid ((ag3=false∧F3=F∧∀ j,j<k+1→flwDone G F (G.prods.getD j pd0))∨(ag3=true∧cntT F3 G.kinds.length G.rules.length<cntT F G.kinds.length G.rules.length)):=hide (by
               rcases uh Hs5 with ⟨rfl,rfl,h3⟩ | h
               · refine uh Hst4 ?_
                 rcases h3 with h3 | h3
                 · exact .inr h3
                 · exact .inl ((uh Hfd).2 (fun _ j hj=>h3 j hj))
               · exact .inr h)
             clear Hs5
             go_wp2
             go_roundw
             case rel=>exact⟨F3,ag3,k+1,rfl,by go_num,by omega,uh Ht5,uh Hsnd5,uh Hs6,uh Hb5⟩
             case measure=>simp[intOf];omega
       · obtain rfl:k=G.prods.length:=by omega
         have Hst7:Hid ((ag=false→FlwShut G F2)∧2 * cntT F2 G.kinds.length G.rules.length+bitOf (.bool ag)<2 * cntT F G.kinds.length G.rules.length+1):=hide (by
           rcases uh Hst2 with ⟨rfl,rfl,h3⟩ | ⟨rfl,h⟩
           · exact⟨fun _=>h3,by simp[bitOf]⟩
           · exact⟨(fun h=>by cases h),(by simp[bitOf];omega)⟩)
         have hc2:=cntTW_is (uh Htab2)
         go_wp2
         go_roundw
         case rel=>exact⟨F2,ag,rfl,uh Htab2,uh Hsnd2,(uh Hst7).1,uh Hb2⟩
         case measure =>
           have:=(uh Hst7).2
           rw[hc2,hcnt]
           exact this
end Go.Proofs.YtagohbpbgjelaaaGreatDoor

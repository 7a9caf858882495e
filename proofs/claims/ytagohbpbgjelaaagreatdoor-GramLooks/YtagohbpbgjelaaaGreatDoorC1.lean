/- The document's cyclic. -/
import Derived.Test.YtagohbpbgjelaaaGreatDoorA5
import Derived.Test.YtagohbpbgjelaaaGreatDoorW1
namespace Go.Proofs.YtagohbpbgjelaaaGreatDoor
open Go.RowKit

set_option maxRecDepth 100000 in
theorem slice27h (xb xo n c q:Nat) (h:q≤c) (w:World):(Instr.slice 27 (.slice (some ⟨xb,xo,none⟩) n c) none (some (.int .i64 (q:Int))) none).run Tryz.prog w=.ok (.slice (some ⟨xb,xo,none⟩) q c) w:=by
 rw[run_slice_h w 27 (some ⟨xb,xo,none⟩) n c Tryz.underlying27 .i64 (q:Int) (by omega) (by omega)]
 simp[go_sem,Addr.add]
set_option maxRecDepth 100000 in
theorem vints_one (l:List Int):∀ u ∈ vints l,u.oneCell'=true:=by
 intro u hu
 obtain⟨x,-,rfl⟩:=List.mem_map.1 hu
 rfl
set_option maxRecDepth 100000 in
theorem step_append_own {P:Program} {w:World} {ops:Array Oper} {o:Oper} {a:Act} {K:Act→World→Prop} {Q:Exit→Act→World→Prop} {E:Prop} (hgd:o.guard=none) (s x:Operand) (t:TypeId)
   (ho:o.op=.call { callee:=.builtin .append,args:=#[s,x],argTypes:=#[t,t] })
   (base:Nat) (e:TypeId) (i:TypeInfo) (z:Value) (size bytes:Nat) (ht:P.underlying t=some (.slice e)) (hi:P.info? e=some i) (hz:i.zero=some z)
   (hsize:i.size=size) (hby:i.bytes=bytes) (hzs:z.cells.size=size) (hsz:0<size)
   (v:Value) (n:Nat) (xs:List Value) (hs:a.eval s=v) (hown:w.ownsRow base e size v n xs)
   (ad:Addr) (m c:Nat) (news:List Value) (hx:a.eval x=.slice (some ad) m c) (hl:news.length=m * size) (hnews:∀ j u,news[j]? = some u→w.cell? (ad.add j)=some u) (h1:∀ u ∈ news,u.oneCell'=true)
   (h63:n+m≤maxLen) (hbytes:(n+m) * bytes≤140737488355328) (hbase:base≤w.heap.size)
   (h:∀ v' w',w'.ownsRow base e size v' (n+m) (xs ++ news)→w.grownBy w' v.ownBlock→(v'=.slice none 0 0↔v=.slice none 0 0∧m=0)→K (a.put o.dst v') w') :
   if Region.wanted o (yielded ops a.tmps)=true then Oper.wp P o a w K Q else E:=by
 have hw:Region.wanted o (yielded ops a.tmps)=true:=by simp[Region.wanted,hgd]
 rw[if_pos hw]
 exact wp_append_own w s x t ho base e i z size bytes ht hi hz hsize hby hzs hsz v n xs hs hown ad m c news hx hl hnews h1 h63 hbytes hbase h

set_option maxHeartbeats 8000000 in
set_option maxRecDepth 100000 in
theorem rCyclic_any (G : Gm) (hG : GOk G) (ka pa ra qa : Option Addr) (kc pc rc qc : Nat) (nb nc : Nat) (B : Nat) (w : World) (hB : B ≤ w.heap.size) (hin : GIn B w G ka pa ra qa) (hn : w.rowIs nb 4 G.rules.length (fun r => .bool (nullF G r))) :
   Calls Tryz.prog 42 #[.agg #[.slice ka G.kinds.length kc,.slice pa G.precs.length pc,.slice ra G.rules.length rc,.slice qa G.prods.length qc,.int .i64 G.start],.slice (some ⟨nb,0,none⟩) G.rules.length nc] w fun e w'=>∃ b,e=.returned (.slice (some ⟨b,0,none⟩) G.nr G.nr)∧w.heap.size≤b∧w'.rowIs b 4 G.nr (fun r=>.bool (mksF G r r))∧Below w.heap.size w w':=by
 have hnr:=hG.r2;have hnr1:=hG.r1;have hqs:=hG.ps;have hnk:=hG.k3
 unfold Gm.nr at hnr hnr1
 unfold Gm.nk at hnk
 obtain⟨i0,hi,hz0,hz1,hz2⟩:=info_parts info28
 obtain⟨j0,hj,hy0,hy1,hy2⟩:=info_parts info3
 have hmk:=fun w=>run_make_row' (P:=Tryz.prog) 28 4 (.bool false) 1 Tryz.underlying28 info4 rfl .i64 .i64 G.rules.length (by omega) (by omega) w
 have HG:=hide hG;have Hin:=hide hin;have Hn:=hide hn
 clear hG hin hn
 have Hst:=hide (gst_new (kc:=kc) (pc:=pc) (rc:=rc) (qc:=qc) hB (uh Hin) 26)
 have d2:=(uh Hst).c2
 have hb1:Below w.heap.size w (w.alloc (.cells #[.slice ka G.kinds.length kc,.slice pa G.precs.length pc,.slice ra G.rules.length rc,.slice qa G.prods.length qc,.int .i64 G.start] 26)):=(Below.refl _ _).alloc (Nat.le_refl _) _
 have hw1:(w.alloc (.cells #[.slice ka G.kinds.length kc,.slice pa G.precs.length pc,.slice ra G.rules.length rc,.slice qa G.prods.length qc,.int .i64 G.start] 26)).heap.size=w.heap.size+1:=by simp
 have Hb1:=hide hb1
 clear hb1
 have hnot:=run_not
 go_enter Tryz.func42,Tryz.ntmps42
 go_wp2
 clear d2
 generalize w.alloc (.cells #[.slice ka G.kinds.length kc,.slice pa G.precs.length pc,.slice ra G.rules.length rc,.slice qa G.prods.length qc,.int .i64 G.start] 26)=w1 at *
 go_loopw [6,7] (fun u x wr=>∃ (i:Nat) (bk:Nat→Nat),x=.int .i64 i∧i≤G.rules.length∧wr.ownsRow (w.heap.size+1) 28 1 u i (slicesTo G.rules.length bk i)∧(∀ r,r<i→wr.rowIs (bk r) 4 G.rules.length (fun _=>.bool false)∧w.heap.size+1≤bk r)∧(∀ r s,r<i→s<i→bk r=bk s→r=s)∧Below (w.heap.size+1) w1 wr) (fun _ x _=>G.rules.length - (intOf x).toNat)
 case atStart=>exact⟨0,fun _=>0,rfl,Nat.zero_le _,World.ownsRow_nil _ _ _ _,fun r hr=>absurd hr (Nat.not_lt_zero _),fun r s hr=>absurd hr (Nat.not_lt_zero _),Below.refl _ _⟩
 case round =>
   obtain⟨i,bk,rfl,hile,hown,hrows,hinj,hb⟩:=hrel
   obtain⟨ua,uc,rfl⟩:=own_form hown
   have hsz:=hb.size
   have Hown:=hide hown;have Hrows:=hide hrows;have Hinj:=hide hinj;have Hb:=hide hb
   clear hown hrows hinj hb
   by_cases hlt:i<G.rules.length
   · have hlt':(i:Int)<G.rules.length:=by omega
     have hr0:=World.rowIs_made wr (.bool false) G.rules.length 4
     have Hr0:=hide hr0
     clear hr0
     go_wp2_with (at_builtin;refine wpList_append_own _ rfl _ _ 70 rfl (w.heap.size+1) 28 i0 (.slice none 0 0) 1 24 Tryz.underlying70 hi hz0 hz1 hz2 rfl (by decide) _ _ _ rfl (((uh Hown).alloc _).alloc _) ⟨wr.heap.size+1,0,none⟩ 1 1 [.slice (some ⟨wr.heap.size,0,none⟩) G.rules.length G.rules.length] rfl rfl ?zc1 ?zc2 ?zc3 ?zc4 ?zc5 ?_)
     case zc1=>have:=new1 (wr.alloc (.cells (madeCells #[.bool false] G.rules.length) 4)) (.slice (some ⟨wr.heap.size,0,none⟩) G.rules.length G.rules.length) 28;simpa using this
     case zc2=>intro u hu;simp at hu;rcases hu with rfl;rfl
     case zc3=>unfold maxLen;omega
     case zc4=>omega
     case zc5=>simp;omega
     intro v' W3 hown' hgrow _
     have hb3:=(((uh Hb).alloc (by omega) (.cells (madeCells #[.bool false] G.rules.length) 4)).alloc (by simp;omega) (.cells #[.slice (some ⟨wr.heap.size,0,none⟩) G.rules.length G.rules.length] 28)).grown hgrow (by simp;omega) (fun k hk=>((uh Hown).lt k hk).1)
     rw[slicesTo_snoc] at hown'
     have hkeep:∀ k t n f,((wr.alloc (.cells (madeCells #[.bool false] G.rules.length) 4)).alloc (.cells #[.slice (some ⟨wr.heap.size,0,none⟩) G.rules.length G.rules.length] 28)).rowIs k t n f→t≠28→W3.rowIs k t n f:=fun k t n f h ht =>
       h.of_block (hgrow.block k h.lt (fun e=>own_apart h (((uh Hown).alloc _).alloc _) ht e.symm))
     have Hrows':Hid (∀ r,r<i+1→W3.rowIs ((fun r=>if r=i then wr.heap.size else bk r) r) 4 G.rules.length (fun _=>.bool false)∧w.heap.size+1≤(fun r=>if r=i then wr.heap.size else bk r) r):=hide (fun r hr=>by
       by_cases e:r=i
       · simp only[e,if_true]
         exact⟨hkeep _ _ _ _ ((uh Hr0).alloc _) (by decide),by omega⟩
       · simp only[if_neg e]
         have:=uh Hrows r (by omega)
         exact⟨hkeep _ _ _ _ ((this.1.alloc _).alloc _) (by decide),this.2⟩)
     have Hinj':Hid (∀ r s,r<i+1→s<i+1→(fun r=>if r=i then wr.heap.size else bk r) r=(fun r=>if r=i then wr.heap.size else bk r) s→r=s):=hide (fun r s hr hs h=>by
       simp only at h
       by_cases e:r=i <;> by_cases e2:s=i
       · omega
       · rw[if_pos e,if_neg e2] at h
         have:=(uh Hrows s (by omega)).1.lt
         omega
       · rw[if_neg e,if_pos e2] at h
         have:=(uh Hrows r (by omega)).1.lt
         omega
       · rw[if_neg e,if_neg e2] at h
         exact uh Hinj r s (by omega) (by omega) h)
     have Ho4:=hide hown';have Hb4:=hide hb3
     clear hown' hgrow hb3 hkeep
     go_wp2
     go_roundw
     case rel=>exact⟨i+1,_,by go_num,by omega,uh Ho4,uh Hrows',uh Hinj',uh Hb4⟩
     case measure=>simp[intOf];omega
   · obtain rfl:i=G.rules.length:=by omega
     obtain⟨tb,tc,hv⟩:∃ tb tc,Value.slice ua G.rules.length uc=.slice (some ⟨tb,0,none⟩) G.rules.length tc:=by
       obtain⟨hxl,⟨-,h0⟩ | ⟨g,cap,cur,hv,-⟩⟩:=uh Hown
       · omega
       · exact⟨g,cap,hv⟩
     rw[hv] at Hown ⊢
     clear hv
     have Htab:Hid (TabIs wr tb G.rules.length G.rules.length bk (fun _ _=>false)):=hide (by
       obtain⟨hxl,⟨-,h0⟩ | ⟨g,cap,cur,hv,hg,hh,-⟩⟩:=uh Hown
       · omega
       · cases hv
         refine⟨(Array.getElem?_eq_some_iff.1 hh).1,fun r hr=>?_,fun r hr=>(uh Hrows r hr).1,uh Hinj,fun r hr e=>?_⟩
         · rw[(uh Hown).cellAt r (by omega),slicesTo_get hr]
         · exact own_apart (uh Hrows r hr).1 (uh Hown) (by decide) (by rw[e];rfl))
     have Hbk:Hid (∀ r,r<G.rules.length→w.heap.size+1≤bk r):=hide (fun r hr=>(uh Hrows r hr).2)
     have Htbl:Hid (w.heap.size+1≤tb):=hide (by
       obtain⟨hxl,⟨-,h0⟩ | ⟨g,cap,cur,hv,hg,hh,-⟩⟩:=uh Hown
       · omega
       · cases hv;exact hg)
     clear Hown Hrows Hinj
     go_wp2
     go_loopw [8,9,10,11] (fun y _ _ _ W=>∃ (F:Nat→Nat→Bool) (k:Nat),y=.int .i64 k∧k≤G.prods.length∧TabIs W tb G.rules.length G.rules.length bk F∧MksSound G F∧(∀ j,j<k→mksAll G F (G.prods.getD j pd0))∧Below (w.heap.size+1) w1 W) (fun y _ _ _ _=>G.prods.length - (intOf y).toNat)
     case atStart=>exact⟨_,0,rfl,Nat.zero_le _,uh Htab,(fun r k h=>by cases h),fun j hj=>absurd hj (Nat.not_lt_zero _),uh Hb⟩
     case round =>
       obtain⟨F,k,rfl,hk,htab2,hsnd2,hall2,hb2⟩:=hrel
       have Hsnd2:=hide hsnd2;have Hall2:=hide hall2;have Hb2:=hide hb2;have Htab2:=hide htab2
       clear hsnd2 hall2 hb2 htab2 Htab Hb
       have hst:=gst_kept (uh Hb2) hB (uh Hst)
       have g0:=hst.c0;have g1:=hst.c1;have g2:=hst.c2;have g3:=hst.c3;have g4:=hst.c4
       have Hgin:=hide hst.gin
       clear hst
       by_cases hlt:k<G.prods.length
       · have hlt' : (k : Int) < G.prods.length := by omega
         obtain⟨b,off,rfl,hbB,rr,rrc,x3,x4,x5,x6,n6,c6,hrc,hrr,hac,q0,q1,q2,q3,q4,q5,q6⟩:=qrow_at2 (uh Hgin).prods hlt
         obtain⟨hl0,hl1⟩:=(uh HG).pl _ (mem_getP hlt)
         have hpr:=(uh HG).pr _ (mem_getP hlt)
         have hpy:=(uh HG).py _ (mem_getP hlt)
         have Hone:=hide (fun(j:Nat) hj hx he=>Mks.one (G.prods.getD k pd0) (mem_getP hlt) j hj hx he)
         have Hjs:Hid (∀ (F':Nat→Nat→Bool),mksAll G F' (G.prods.getD k pd0)→(∀ j,j<k→mksAll G F' (G.prods.getD j pd0))→∀ j,j<k+1→mksAll G F' (G.prods.getD j pd0)):=hide (fun F' h1 h2 j hj=>by
           by_cases e:j=k
           · subst e;exact h1
           · exact h2 j (by omega))
         have Hma:Hid (∀ F':Nat→Nat→Bool,mksAll G F' (G.prods.getD k pd0)↔∀ j,j<(G.prods.getD k pd0).right.length→mksHas G F' (G.prods.getD k pd0).left.toNat (G.prods.getD k pd0).right j):=hide (fun _=>Iff.rfl)
         generalize G.prods.getD k pd0=p at *
         obtain⟨pl,prt,plv,pac⟩:=p
         simp only at hl0 hl1 hpr hpy hrr hrc hac q0 q1 q2 Hone Hma
         obtain⟨l,rfl⟩:∃ l:Nat,pl=(l:Int):=⟨pl.toNat,by omega⟩
         simp only[Int.toNat_natCast] at Hone Hma
         have hl2:l<G.rules.length:=by unfold Gm.nr at hl1;omega
         have hl1':(l:Int)<G.rules.length:=by omega
         obtain⟨-,-,-,-,-,-,-,hw3,hb3⟩:=boxP wr (.int .i64 (l:Int)) (.slice rr prt.length rrc) (.int .i64 plv) (.int .i64 x3) (.int .i64 x4) (.string x5) (.slice x6 n6 c6) 89
         have hsz2:=(uh Hb2).size
         have Htab3:=hide (tab_below (uh Htab2) hb3 (Nat.le_refl _))
         have HrrA:=hide (nrow_back (below_le (uh Hb2) (by omega)) hrr)
         have Hpy:=hide hpy
         have Hac:=hide hac
         have Hbb:=hide ((uh Hb2).trans (below_le hb3 (by omega)))
         have Hbox:Hid ((wr.alloc (.cells #[.int .i64 (l:Int),.slice rr prt.length rrc,.int .i64 plv,.int .i64 x3,.int .i64 x4,.string x5,.slice x6 n6 c6] 89)).heap[wr.heap.size]? = some (.cells #[.int .i64 (l:Int),.slice rr prt.length rrc,.int .i64 plv,.int .i64 x3,.int .i64 x4,.string x5,.slice x6 n6 c6] 89)):=hide (Go.Deep.blk_alloc_new _ _)
         have Hpbs:Hid ((∀ r,r<G.rules.length→bk r<wr.heap.size)∧tb<wr.heap.size∧w.heap.size<wr.heap.size):=hide ⟨fun r hr=>((uh Htab2).row r hr).lt,(uh Htab2).lt,by omega⟩
         clear hac hpy hrr hb3 Hgin
         go_wp2
         generalize wr.alloc (.cells #[.int .i64 (l:Int),.slice rr prt.length rrc,.int .i64 plv,.int .i64 x3,.int .i64 x4,.string x5,.slice x6 n6 c6] 89)=wp at *
         clear hw3 q0 q1 q2 q3 q4 q5 q6 g0 g1 g2 g3 g4
         generalize wr.heap.size=pb at *
         go_loopw [10,11] (fun y _ W=>∃ (F3:Nat→Nat→Bool) (q:Nat),y=.int .i64 q∧q≤prt.length∧TabIs W tb G.rules.length G.rules.length bk F3∧MksSound G F3∧(∀ j,j<k→mksAll G F3 (G.prods.getD j pd0))∧(∀ j,j<q→mksHas G F3 l prt j)∧Below (w.heap.size+1) w1 W∧W.heap[pb]? = some (.cells #[.int .i64 (l:Int),.slice rr prt.length rrc,.int .i64 plv,.int .i64 x3,.int .i64 x4,.string x5,.slice x6 n6 c6] 89)) (fun y _ _=>prt.length - (intOf y).toNat)
         case atStart=>exact⟨F,0,rfl,Nat.zero_le _,uh Htab3,uh Hsnd2,uh Hall2,fun j hj=>absurd hj (Nat.not_lt_zero _),uh Hbb,uh Hbox⟩
         case round =>
           obtain⟨F3,q,rfl,hq,ht5,hsnd5,hall5,hhas5,hb5,hbx⟩:=hrel
           have hst:=gst_kept hb5 hB (uh Hst)
           have g0:=hst.c0;have g1:=hst.c1;have g2:=hst.c2;have g3:=hst.c3;have g4:=hst.c4
           clear hst
           have p0:wr.cell? ⟨pb,0,none⟩=some (.int .i64 (l:Int)):=by unfold World.cell?;rw[hbx];rfl
           have p1:wr.cell? ⟨pb,1,none⟩=some (.slice rr prt.length rrc):=by unfold World.cell?;rw[hbx];rfl
           have hpe:pb<wr.heap.size:=(Array.getElem?_eq_some_iff.1 hbx).1
           have Ht5:=hide ht5;have Hsnd5:=hide hsnd5;have Hall5:=hide hall5;have Hhas5:=hide hhas5;have Hb5:=hide hb5;have Hbx:=hide hbx
           clear ht5 hsnd5 hall5 hhas5 hb5 hbx
           by_cases hql:q<prt.length
           · have hql' : (q : Int) < prt.length := by omega
             have hrrW:=nrow_kept (below_le (uh Hb5) (by omega)) (uh HrrA)
             obtain⟨xb,xo,rfl,hxb,cx⟩:=nrow_at hrrW hql
             have hcell:∀ j,j<prt.length→wr.cell? ⟨xb,xo+j,none⟩=some (.int .i64 (prt.getD j 0)):=by
               rcases hrrW with h | ⟨b',o',h1,h2,h3⟩
               · rw[h] at hql;simp at hql
               · cases h1;exact h3
             have hsz5:=(uh Hb5).size
             have hsl:=fun w=>slice27 (some ⟨xb,xo,none⟩) prt.length rrc q hql w
             have hsh:=fun w=>slice27h xb xo prt.length rrc q (by omega) w
             obtain⟨o2,ho2,ho3⟩:∃ o2,(if rrc=q+1 then some ⟨xb,xo,none⟩ else(some ⟨xb,xo,none⟩:Option Addr).map (·.add (q+1)))=some ⟨xb,o2,none⟩∧(rrc≠q+1→o2=xo+(q+1)):=by
               by_cases e:rrc=q+1
               · exact⟨xo,by rw[if_pos e],fun h=>absurd e h⟩
               · exact⟨xo+(q+1),by rw[if_neg e];rfl,fun _=>rfl⟩
             rw[ho2] at hsl
             have Hp14:Hid (∀ W:World,Below wr.heap.size wr W→W.cell? ⟨pb,1,none⟩=some (.slice (some ⟨xb,xo,none⟩) prt.length rrc)):=hide (fun W hb=>(hb.cell (p:=⟨pb,1,none⟩) hpe).trans p1)
             have Hn1:Hid (∀ W:World,Below wr.heap.size wr W→∀ j u,(vints (prt.take q))[j]? = some u→W.cell? ((⟨xb,xo,none⟩:Addr).add j)=some u):=hide (fun W hb j u hu=>by
               have hj:j<q:=by
                 have:=(List.getElem?_eq_some_iff.1 hu).1
                 rw[vints_len,List.length_take] at this;omega
               rw[Addr.add_lit]
               rw[hb.cell (p:=⟨xb,xo+j,none⟩) (by show xb<wr.heap.size;omega),hcell j (by omega),← hu]
               unfold vints
               rw[List.getElem?_map,List.getElem?_take,if_pos hj,List.getD_eq_getElem?_getD,List.getElem?_eq_getElem (show j<prt.length by omega)]
               rfl)
             have Hn2:Hid (∀ W:World,Below wr.heap.size wr W→∀ j u,(vints (prt.drop (q+1)))[j]? = some u→W.cell? ((⟨xb,o2,none⟩:Addr).add j)=some u):=hide (fun W hb j u hu=>by
               have hj:j<prt.length - (q+1):=by
                 have:=(List.getElem?_eq_some_iff.1 hu).1
                 rw[vints_len,List.length_drop] at this;omega
               have hoo:=ho3 (by omega)
               subst hoo
               rw[Addr.add_lit]
               rw[hb.cell (p:=⟨xb,xo+(q+1)+j,none⟩) (by show xb<wr.heap.size;omega),Nat.add_assoc,hcell (q+1+j) (by omega),← hu]
               unfold vints
               rw[List.getElem?_map,List.getElem?_drop,List.getD_eq_getElem?_getD,List.getElem?_eq_getElem (show q+1+j<prt.length by omega)]
               rfl)
             have hq1:IntKind.i64.wrap ((q:Int)+1)=(q:Int)+1:=by rw[IntKind.wrap_i64];omega
             have hx:=uh Hpy _ (mem_getD hql)
             have Hon:=hide (fun hx he=>uh Hone q hql hx he)
             have Hhx:Hid (∀ F':Nat→Nat→Bool,mksHas G F' l prt q↔((G.nk:Int)≤prt.getD q 0→emptyB G.nk (nullF G) (restOf prt q)=true→F' l (prt.getD q 0 - G.nk).toNat=true)):=hide (fun _=>Iff.rfl)
             have Hqs:Hid (∀ (F':Nat→Nat→Bool),mksHas G F' l prt q→(∀ j,j<q→mksHas G F' l prt j)→∀ j,j<q+1→mksHas G F' l prt j):=hide (fun F' h1 h2 j hj=>by
               by_cases e:j=q
               · subst e;exact h1
               · exact h2 j (by omega))
             generalize prt.getD q 0=x at *
             have hrl:(restOf prt q).length=q+(prt.length - (q+1)):=by unfold restOf;rw[List.length_append,List.length_take,List.length_drop];omega
             have Hrl:=hide hrl
             clear hrrW hcell ho2 ho3 hrl
             go_wp2
             go_cut [11] from 49 to 60 (fun v wx=>∃ a c,v=.slice a (restOf prt q).length c∧NRow wx.heap.size wx a (restOf prt q)∧Below wr.heap.size wr wx)
             case first =>
               refine wp_region_held_drew (S:=fun W:World=>W.cell? ⟨pb,1,none⟩=some (.slice (some ⟨xb,xo,none⟩) prt.length rrc)) (by kernel_rfl) (p1) (fun hHeld=>?_)
               refine take_dst (i:=1) (dst:=some 50) (v:=?_) rfl rfl (by kernel_rfl) (by kernel_rfl) (by kernel_rfl) (fun _ _ _ h=>h) (Or.inl ⟨by rfl,?_⟩) hHeld ?_
               rotate_left
               · intro w hSw;go_simp;try (with_reducible rfl)
               simp only[Act.put,zsA,zsB,zsC]
               refine take_dst (i:=2) (dst:=some 51) (v:=?_) rfl rfl (by kernel_rfl) (by kernel_rfl) (by kernel_rfl) (fun _ _ _ h=>h) (Or.inl ⟨by rfl,?_⟩) hHeld ?_
               rotate_left
               · intro w hSw;go_simp;try (with_reducible rfl)
               simp only[Act.put,zsA,zsB,zsC]
               refine take_dst (i:=3) (dst:=some 52) (v:=?_) rfl rfl (by kernel_rfl) (by kernel_rfl) (by kernel_rfl) (fun _ _ _ h=>h) (Or.inl ⟨by rfl,?_⟩) hHeld ?_
               rotate_left
               · intro w hSw;go_simp;try (with_reducible rfl)
               simp only[Act.put,zsA,zsB,zsC]
               refine take_dst (i:=4) (dst:=some 53) (v:=?_) rfl rfl (by kernel_rfl) (by kernel_rfl) (by kernel_rfl) (fun _ _ _ h=>h) (Or.inl ⟨by rfl,?_⟩) hHeld ?_
               rotate_left
               · intro w hSw;go_simp;try (with_reducible rfl)
               simp only[Act.put,zsA,zsB,zsC]
               refine take_dst (i:=6) (dst:=some 55) (v:=?_) rfl rfl (by kernel_rfl) (by kernel_rfl) (by kernel_rfl) (fun _ _ _ h=>h) (Or.inl ⟨by rfl,?_⟩) hHeld ?_
               rotate_left
               · intro w hSw;go_simp;try (with_reducible rfl)
               simp only[Act.put,zsA,zsB,zsC]
               refine take_dst (i:=7) (dst:=some 56) (v:=?_) rfl rfl (by kernel_rfl) (by kernel_rfl) (by kernel_rfl) (fun _ _ _ h=>h) (Or.inl ⟨by rfl,?_⟩) hHeld ?_
               rotate_left
               · intro w hSw;go_simp;try (with_reducible rfl)
               simp only[Act.put,zsA,zsB,zsC]
               refine take_dst (i:=8) (dst:=some 57) (v:=?_) rfl rfl (by kernel_rfl) (by kernel_rfl) (by kernel_rfl) (fun _ _ _ h=>h) (Or.inl ⟨by rfl,?_⟩) hHeld ?_
               rotate_left
               · intro w hSw;go_simp;try (with_reducible rfl)
               simp only[Act.put,zsA,zsB,zsC]
               refine take_dst (i:=9) (dst:=some 58) (v:=?_) rfl rfl (by kernel_rfl) (by kernel_rfl) (by kernel_rfl) (fun _ _ _ h=>h) (Or.inl ⟨by rfl,?_⟩) hHeld ?_
               rotate_left
               · intro w hSw;go_simp;try (with_reducible rfl)
               simp only[Act.put,zsA,zsB,zsC]
               refine take_dst (i:=10) (dst:=some 59) (v:=?_) rfl rfl (by kernel_rfl) (by kernel_rfl) (by kernel_rfl) (fun _ _ _ h=>h) (Or.inl ⟨by rfl,?_⟩) hHeld ?_
               rotate_left
               · intro w hSw;go_simp;try (with_reducible rfl)
               simp only[Act.put,zsA,zsB,zsC]
               refine wpAnyH_ready (rs:=[0]) (by kernel_rfl) (by simp) ?_
               refine AllReadyH.cons rfl (fun K hK=>?_) AllReadyH.nil
               go_simp
               refine hK.out _ _ (uh Hp14 _ (Below.refl _ _ |>.drew |>.alloc (Nat.le_refl _) _)) (fun hHeld=>?_)
               clear hK K
               refine wpAnyH_ready (rs:=[5]) (by kernel_rfl) (by simp) ?_
               refine AllReadyH.cons rfl (fun K hK=>?_) AllReadyH.nil
               refine step_append_own rfl (.tmp 49) (.tmp 53) 27 rfl wr.heap.size 3 j0 (.int .i64 0) 1 8 Tryz.underlying27 hj hy0 hy1 hy2 rfl (by decide) (.slice (some ⟨wr.heap.size,0,none⟩) 0 0) 0 [] (by simp[Act.eval]) (World.ownsRow_lit wr.drew #[] 0 (Nat.le_refl _) (by decide) rfl) ⟨xb,xo,none⟩ q rrc (vints (prt.take q)) (by simp[Act.eval]) (by rw[vints_len,List.length_take];omega) (uh Hn1 _ (Below.refl _ _ |>.drew |>.alloc (Nat.le_refl _) _)) (vints_one _) (by unfold maxLen;omega) (by omega) (by simp) ?_
               intro v1 W1 ho1 hg1 _
               have hbw1:Below wr.heap.size wr W1:=(Below.refl _ _ |>.drew |>.alloc (Nat.le_refl _) _).grown hg1 (by simp) (fun j hj=>by cases hj;exact Nat.le_refl _)
               have Hbw1:=hide hbw1;have Ho1:=hide ho1
               clear hbw1 ho1 hg1
               go_simp
               refine hK.out _ _ (uh Hp14 _ (uh Hbw1)) (fun hHeld=>?_)
               clear hK K
               refine wpAnyH_ready (rs:=[11]) (by kernel_rfl) (by simp) ?_
               refine AllReadyH.cons rfl (fun K hK=>?_) AllReadyH.nil
               refine step_append_own rfl (.tmp 54) (.tmp 59) 27 rfl wr.heap.size 3 j0 (.int .i64 0) 1 8 Tryz.underlying27 hj hy0 hy1 hy2 rfl (by decide) v1 (0+q) ([] ++ vints (prt.take q)) (by simp[Act.eval]) (uh Ho1) ⟨xb,o2,none⟩ (prt.length - (q+1)) (rrc - (q+1)) (vints (prt.drop (q+1))) (by simp[Act.eval]) (by rw[vints_len,List.length_drop];omega) (uh Hn2 _ (uh Hbw1)) (vints_one _) (by unfold maxLen;omega) (by omega) (uh Hbw1).size ?_
               intro v2 W2 ho2 hg2 _
               have Hbw2:=hide ((uh Hbw1).grown hg2 (uh Hbw1).size (fun j hj=>((uh Ho1).lt j hj).1));have Ho2:=hide ho2
               clear ho2 hg2
               go_simp
               refine hK.out _ _ (uh Hp14 _ (uh Hbw2)) (fun hHeld=>?_)
               clear hK K
               refine take_dst (i:=12) (dst:=some 11) (v:=?_) rfl rfl (by kernel_rfl) (by kernel_rfl) (by kernel_rfl) (fun _ _ _ h=>h) (Or.inl ⟨by rfl,?_⟩) hHeld ?_
               rotate_left
               · intro w hSw;go_simp;try (with_reducible rfl)
               simp only[Act.put,zsA,zsB,zsC]
               refine wpAnyH_done (by kernel_rfl) ?_ _
               go_wp2_with fail
               go_meet
               have ho:=uh Ho2
               rw[List.nil_append,Nat.zero_add,← uh Hrl,show vints (prt.take q) ++ vints (prt.drop (q+1))=vints (restOf prt q) by simp[vints,restOf]] at ho
               obtain⟨a,c,rfl,hnr9⟩:=own_nrow ho
               exact⟨a,c,rfl,hnr9,uh Hbw2⟩
             case rest =>
               obtain⟨ra9,rc9,rfl,hnr9,hbc⟩:=hcut
               have hszc:=hbc.size
               have HS9:Hid (∀ W:World,Below wr.heap.size wr W→W.cell? ⟨w.heap.size,0,none⟩=some (.slice ka G.kinds.length kc)∧W.cell? ⟨w.heap.size,1,none⟩=some (.slice pa G.precs.length pc)∧W.cell? ⟨w.heap.size,2,none⟩=some (.slice ra G.rules.length rc)∧W.cell? ⟨w.heap.size,3,none⟩=some (.slice (some ⟨b,off,none⟩) G.prods.length qc)∧W.cell? ⟨w.heap.size,4,none⟩=some (.int .i64 G.start)∧W.cell? ⟨pb,0,none⟩=some (.int .i64 (l:Int))∧W.cell? ⟨pb,1,none⟩=some (.slice (some ⟨xb,xo,none⟩) prt.length rrc)∧W.cell? ⟨xb,xo+q,none⟩=some (.int .i64 x)):=hide (fun W hb=>by
                 have k1:=fun(i:Nat) (v:Value) (h:wr.cell? ⟨w.heap.size,i,none⟩=some v)=>(hb.cell (p:=⟨w.heap.size,i,none⟩) (by show w.heap.size<wr.heap.size;omega)).trans h
                 have k2:=fun(i:Nat) (v:Value) (h:wr.cell? ⟨pb,i,none⟩=some v)=>(hb.cell (p:=⟨pb,i,none⟩) hpe).trans h
                 exact⟨k1 _ _ g0,k1 _ _ g1,k1 _ _ g2,k1 _ _ g3,k1 _ _ g4,k2 _ _ p0,k2 _ _ p1,(hb.cell (p:=⟨xb,xo+q,none⟩) (by show xb<wr.heap.size;omega)).trans cx⟩)
               obtain⟨c0,c1,c2,c3,c4,c5,c6',c7⟩:=uh HS9 wc hbc
               have HK:Hid (∀ W:World,Below wr.heap.size wr W→TabIs W tb G.rules.length G.rules.length bk F3∧Below (w.heap.size+1) w1 W∧W.heap[pb]? = some (.cells #[.int .i64 (l:Int),.slice (some ⟨xb,xo,none⟩) prt.length rrc,.int .i64 plv,.int .i64 x3,.int .i64 x4,.string x5,.slice x6 n6 c6] 89)):=hide (fun W hb=>⟨tab_below (uh Ht5) hb (Nat.le_refl _),(uh Hb5).trans (below_le hb (by omega)),(hb.block pb hpe).trans (uh Hbx)⟩)
               have Ht6:=hide (uh HK wc hbc).1
               have Hb6:=hide (uh HK wc hbc).2.1
               have Hbx6:=hide (uh HK wc hbc).2.2
               have Hbc:=hide hbc
               have Hnr9:=hide hnr9
               clear hnr9 hbc hsl hsh Hn1 Hn2 Hp14 g0 g1 g2 g3 g4 p0 p1 cx Ht5 Hb5 Hbx
               by_cases hxk:x<G.kinds.length
               · have hx2:decide ((G.kinds.length:Int)≤x)=false:=by rw[decide_eq_false_iff_not];omega
                 have Hh6:=hide (uh Hqs F3 ((uh Hhx F3).2 (fun h _=>by unfold Gm.nk at h;omega)) (uh Hhas5))
                 clear Hqs Hhx Hon Hhas5
                 go_wp2
                 go_quiet (fail)
                 go_wp2
                 go_roundw
                 case rel=>exact⟨F3,q+1,by go_num,by omega,tab_kept (uh Ht6) (Nat.le_refl _) (fun _ _=>rfl),uh Hsnd5,uh Hall5,uh Hh6,below_drewN (uh Hb6) _,uh Hbx6⟩
                 case measure=>simp[intOf];omega
               · obtain ⟨r, hxr⟩ : ∃ r : Nat, x - (G.kinds.length : Int) = r := ⟨(x - G.kinds.length).toNat, by omega⟩
                 have hr2:r<G.rules.length:=by unfold Gm.nk Gm.nr at *;omega
                 have hr2':(r:Int)<G.rules.length:=by omega
                 have hwr:=wN r (by omega)
                 have hx2:decide ((G.kinds.length:Int)≤x)=true:=by rw[decide_eq_true_eq];omega
                 have hxe:(x - (G.nk:Int)).toNat=r:=by unfold Gm.nk;omega
                 have Hxk:Hid ((G.nk:Int)≤x):=hide (by unfold Gm.nk;omega)
                 rw[hxe] at Hon Hhx
                 have hbw7:=(uh Hb1).trans (below_le (uh Hb6) (by omega))
                 have Hnn7:=hide (show wc.drew.rowIs nb 4 G.rules.length (fun r=>.bool (nullF G r)) from(uh Hn).of_block (hbw7.block _ (uh Hn).lt))
                 have HE:=hide (rEmpty_any ka pa ra (some ⟨b,off,none⟩) G.kinds.length kc G.precs.length pc G.rules.length rc G.prods.length qc G.start nb nc (nullF G) ra9 rc9 (restOf prt q) wc.heap.size wc.drew (Nat.le_refl _) hnr (by rw[uh Hrl];omega) (uh Hnr9) (fun y hy=>by
                   unfold restOf at hy
                   rcases List.mem_append.1 hy with h | h
                   · exact uh Hpy y (List.mem_of_mem_take h)
                   · exact uh Hpy y (List.mem_of_mem_drop h)) (uh Hnn7))
                 have hS:Below wr.heap.size wr wc.drew:=(uh Hbc).drew
                 have hszc2:wr.heap.size≤wc.drew.heap.size:=hszc
                 clear hbw7 Hnn7 hxe
                 cases hE:emptyB G.kinds.length (nullF G) (restOf prt q)
                 · rw[hE] at HE
                   have Hh6:=hide (uh Hqs F3 ((uh Hhx F3).2 (fun _ h=>by rw[show emptyB G.nk (nullF G) (restOf prt q)=emptyB G.kinds.length (nullF G) (restOf prt q) from rfl,hE] at h;cases h)) (uh Hhas5))
                   clear Hqs Hhx Hon Hhas5 hE
                   go_wp2
                   go_cut [75] from 61 to 75 (fun s wx=>s=.bool false∧Below wr.heap.size wr wx)
                   case first =>
                     go_region_held3 (fun W:World=>W.cell? ⟨w.heap.size,0,none⟩=some (.slice ka G.kinds.length kc)∧W.cell? ⟨w.heap.size,1,none⟩=some (.slice pa G.precs.length pc)∧W.cell? ⟨w.heap.size,2,none⟩=some (.slice ra G.rules.length rc)∧W.cell? ⟨w.heap.size,3,none⟩=some (.slice (some ⟨b,off,none⟩) G.prods.length qc)∧W.cell? ⟨w.heap.size,4,none⟩=some (.int .i64 G.start)∧W.cell? ⟨pb,0,none⟩=some (.int .i64 (l:Int))∧W.cell? ⟨pb,1,none⟩=some (.slice (some ⟨xb,xo,none⟩) prt.length rrc)∧W.cell? ⟨xb,xo+q,none⟩=some (.int .i64 x))
                       (first | exact uh HS9 _ hS | fail)
                       (first
                         | (go_at_call 50;refine(uh HE).mono ?_;rintro e W3 ⟨rfl,hb3⟩;have hS:=hS.trans (below_le hb3 hszc2);clear hb3)
                         | fail)
                     all_goals
                       go_wp2_with fail
                       go_meet
                       exact⟨rfl,hS⟩
                   case rest =>
                     obtain⟨rfl,hbd⟩:=hcut
                     obtain⟨ht8,hb8,hbx8⟩:=uh HK wc hbd
                     have Ht8:=hide ht8;have Hb8:=hide hb8;have Hbx8:=hide hbx8;have Hbd:=hide hbd
                     clear ht8 hb8 hbx8 hbd
                     go_wp2
                     go_roundw
                     case rel=>exact⟨F3,q+1,by go_num,by omega,uh Ht8,uh Hsnd5,uh Hall5,uh Hh6,uh Hb8,uh Hbx8⟩
                     case measure=>simp[intOf];omega
                 · rw[hE] at HE
                   have Hon2:=hide (uh Hon (uh Hxk) hE)
                   clear Hon hE
                   go_wp2
                   go_cut [75] from 61 to 75 (fun s wx=>s=.bool true∧Below wr.heap.size wr wx)
                   case first =>
                     go_region_held3 (fun W:World=>W.cell? ⟨w.heap.size,0,none⟩=some (.slice ka G.kinds.length kc)∧W.cell? ⟨w.heap.size,1,none⟩=some (.slice pa G.precs.length pc)∧W.cell? ⟨w.heap.size,2,none⟩=some (.slice ra G.rules.length rc)∧W.cell? ⟨w.heap.size,3,none⟩=some (.slice (some ⟨b,off,none⟩) G.prods.length qc)∧W.cell? ⟨w.heap.size,4,none⟩=some (.int .i64 G.start)∧W.cell? ⟨pb,0,none⟩=some (.int .i64 (l:Int))∧W.cell? ⟨pb,1,none⟩=some (.slice (some ⟨xb,xo,none⟩) prt.length rrc)∧W.cell? ⟨xb,xo+q,none⟩=some (.int .i64 x))
                       (first | exact uh HS9 _ hS | fail)
                       (first
                         | (go_at_call 50;refine(uh HE).mono ?_;rintro e W3 ⟨rfl,hb3⟩;have hS:=hS.trans (below_le hb3 hszc2);clear hb3)
                         | fail)
                     all_goals
                       go_wp2_with fail
                       go_meet
                       exact⟨rfl,hS⟩
                   case rest =>
                     obtain⟨rfl,hbd⟩:=hcut
                     obtain⟨ht8,hb8,hbx8⟩:=uh HK wc hbd
                     have Ht8:=hide ht8;have Hb8:=hide hb8;have Hbx8:=hide hbx8;have Hbd:=hide hbd
                     clear ht8 hb8 hbx8 hbd
                     have Hs9:Hid (MksSound G (updT F3 l (upd (F3 l) r))):=hide (fun a c h=>by
                       rcases(updT_upd a c).1 h with ⟨rfl,rfl⟩ | h
                       · exact uh Hon2
                       · exact uh Hsnd5 a c h)
                     have hup:∀ a c,F3 a c=true→updT F3 l (upd (F3 l) r) a c=true:=fun a c h=>(updT_upd a c).2 (.inr h)
                     have Ha9:Hid (∀ j,j<k→mksAll G (updT F3 l (upd (F3 l) r)) (G.prods.getD j pd0)):=hide (fun j hj i hi=>has_up (uh Hall5 j hj i hi) hup)
                     have Hh9:=hide (uh Hqs (updT F3 l (upd (F3 l) r)) ((uh Hhx _).2 (fun _ _=>(updT_upd l r).2 (.inl ⟨rfl,rfl⟩))) (fun j hj=>has_up (uh Hhas5 j hj) hup))
                     obtain⟨s0,s1,s2,s3,s4,s5,s6,s7⟩:=uh HS9 wc (uh Hbd)
                     have ct:=(uh Ht8).cell l hl2
                     have cr:=((uh Ht8).row l hl2).cell hr2
                     have fr:=((uh Ht8).row l hl2).frozen r
                     have hft:Fr (· = bk l) wc (wc.drew.setCell ⟨bk l,r,none⟩ (.bool true)):=fr_set (O:=fun x=>x=bk l) (p:=⟨bk l,r,none⟩) (show Fr (· = bk l) wc wc.drew from fr_refl _ _) (by show bk l=bk l;rfl) _
                     have HSf:Hid (∀ W:World,Fr (· = bk l) wc W→W.cell? ⟨w.heap.size,0,none⟩=some (.slice ka G.kinds.length kc)∧W.cell? ⟨pb,0,none⟩=some (.int .i64 (l:Int))∧W.cell? ⟨pb,1,none⟩=some (.slice (some ⟨xb,xo,none⟩) prt.length rrc)∧W.cell? ⟨xb,xo+q,none⟩=some (.int .i64 x)∧W.cell? ⟨tb,l,none⟩=some (.slice (some ⟨bk l,0,none⟩) G.rules.length G.rules.length)):=hide (fun W hf=>by
                       have hbl:=uh Hbk l hl2
                       have hbp:=(uh Hpbs).1 l hl2
                       have hwc:wr.heap.size≤wc.heap.size:=(uh Hbd).size
                       have k1:=fun(a:Addr) (v:Value) (h1:a.block<wc.heap.size) (h2:a.block≠bk l) (h:wc.cell? a=some v)=>(World.cell?_of_block (w:=wc) (a:=a) (hf.2.1 _ h1 h2)).trans h
                       exact⟨k1 ⟨w.heap.size,0,none⟩ _ (by show w.heap.size<wc.heap.size;omega) (by show w.heap.size≠bk l;omega) s0,k1 ⟨pb,0,none⟩ _ (by show pb<wc.heap.size;omega) (by show pb≠bk l;omega) s5,k1 ⟨pb,1,none⟩ _ (by show pb<wc.heap.size;omega) (by show pb≠bk l;omega) s6,k1 ⟨xb,xo+q,none⟩ _ (by show xb<wc.heap.size;omega) (by show xb≠bk l;omega) s7,k1 ⟨tb,l,none⟩ _ (uh Ht8).lt (fun e=>(uh Ht8).ne l hl2 e.symm) ct⟩)
                     have Hend:Hid (TabIs (wc.drew.setCell ⟨bk l,r,none⟩ (.bool true)) tb G.rules.length G.rules.length bk (updT F3 l (upd (F3 l) r))∧Below (w.heap.size+1) w1 (wc.drew.setCell ⟨bk l,r,none⟩ (.bool true))∧(wc.drew.setCell ⟨bk l,r,none⟩ (.bool true)).heap[pb]? = some (.cells #[.int .i64 (l:Int),.slice (some ⟨xb,xo,none⟩) prt.length rrc,.int .i64 plv,.int .i64 x3,.int .i64 x4,.string x5,.slice x6 n6 c6] 89)):=hide ⟨tab_upd (uh Ht8) hl2 hft (rowIs_upd (show wc.drew.rowIs (bk l) 4 G.rules.length (fun k=>.bool (F3 l k)) from(uh Ht8).row l hl2) r),(uh Hb8).trans (fr_below hft (by have:=(uh Hb8).size;omega) (fun j hj=>by rw[hj];exact uh Hbk l hl2)),(hft.2.1 pb (Array.getElem?_eq_some_iff.1 (uh Hbx8)).1 (by have:=(uh Hpbs).1 l hl2;omega)).trans (uh Hbx8)⟩
                     clear hup Hqs Hhx Hhas5 Hall5 Hsnd5 Hon2 HE s0 s1 s2 s3 s4 s5 s6 s7
                     go_wp2
                     refine wp_region_held_drew (S:=fun W:World=>W.cell? ⟨w.heap.size,0,none⟩=some (.slice ka G.kinds.length kc)∧W.cell? ⟨pb,0,none⟩=some (.int .i64 (l:Int))∧W.cell? ⟨pb,1,none⟩=some (.slice (some ⟨xb,xo,none⟩) prt.length rrc)∧W.cell? ⟨xb,xo+q,none⟩=some (.int .i64 x)∧W.cell? ⟨tb,l,none⟩=some (.slice (some ⟨bk l,0,none⟩) G.rules.length G.rules.length)) (by kernel_rfl) (uh HSf _ (show Fr (· = bk l) wc wc.drew from fr_refl _ _)) (fun hHeld=>?_)
                     refine take_dst (i:=0) (dst:=some 76) (v:=?_) rfl rfl (by kernel_rfl) (by kernel_rfl) (by kernel_rfl) (fun _ _ _ h=>h) (Or.inl ⟨by rfl,?_⟩) hHeld ?_
                     rotate_left
                     · intro w hSw;obtain⟨k0,k1,k2,k3,k4⟩:=hSw;go_simp;try (with_reducible rfl)
                     simp only[Act.put,zsA,zsB,zsC]
                     refine take_dst (i:=1) (dst:=some 77) (v:=?_) rfl rfl (by kernel_rfl) (by kernel_rfl) (by kernel_rfl) (fun _ _ _ h=>h) (Or.inl ⟨by rfl,?_⟩) hHeld ?_
                     rotate_left
                     · intro w hSw;obtain⟨k0,k1,k2,k3,k4⟩:=hSw;go_simp;try (with_reducible rfl)
                     simp only[Act.put,zsA,zsB,zsC]
                     refine take_dst (i:=2) (dst:=some 78) (v:=?_) rfl rfl (by kernel_rfl) (by kernel_rfl) (by kernel_rfl) (fun _ _ _ h=>h) (Or.inl ⟨by rfl,?_⟩) hHeld ?_
                     rotate_left
                     · intro w hSw;obtain⟨k0,k1,k2,k3,k4⟩:=hSw;go_simp;try (with_reducible rfl)
                     simp only[Act.put,zsA,zsB,zsC]
                     refine take_dst (i:=3) (dst:=some 79) (v:=?_) rfl rfl (by kernel_rfl) (by kernel_rfl) (by kernel_rfl) (fun _ _ _ h=>h) (Or.inl ⟨by rfl,?_⟩) hHeld ?_
                     rotate_left
                     · intro w hSw;obtain⟨k0,k1,k2,k3,k4⟩:=hSw;go_simp;try (with_reducible rfl)
                     simp only[Act.put,zsA,zsB,zsC]
                     refine take_dst (i:=4) (dst:=some 80) (v:=?_) rfl rfl (by kernel_rfl) (by kernel_rfl) (by kernel_rfl) (fun _ _ _ h=>h) (Or.inl ⟨by rfl,?_⟩) hHeld ?_
                     rotate_left
                     · intro w hSw;obtain⟨k0,k1,k2,k3,k4⟩:=hSw;go_simp;try (with_reducible rfl)
                     simp only[Act.put,zsA,zsB,zsC]
                     refine take_dst (i:=5) (dst:=some 81) (v:=?_) rfl rfl (by kernel_rfl) (by kernel_rfl) (by kernel_rfl) (fun _ _ _ h=>h) (Or.inl ⟨by rfl,?_⟩) hHeld ?_
                     rotate_left
                     · intro w hSw;obtain⟨k0,k1,k2,k3,k4⟩:=hSw;go_simp;try (with_reducible rfl)
                     simp only[Act.put,zsA,zsB,zsC]
                     refine take_dst (i:=6) (dst:=some 82) (v:=?_) rfl rfl (by kernel_rfl) (by kernel_rfl) (by kernel_rfl) (fun _ _ _ h=>h) (Or.inl ⟨by rfl,?_⟩) hHeld ?_
                     rotate_left
                     · intro w hSw;obtain⟨k0,k1,k2,k3,k4⟩:=hSw;go_simp;try (with_reducible rfl)
                     simp only[Act.put,zsA,zsB,zsC]
                     refine take_dst (i:=7) (dst:=some 83) (v:=?_) rfl rfl (by kernel_rfl) (by kernel_rfl) (by kernel_rfl) (fun _ _ _ h=>h) (Or.inl ⟨by rfl,?_⟩) hHeld ?_
                     rotate_left
                     · intro w hSw;obtain⟨k0,k1,k2,k3,k4⟩:=hSw;go_simp;try (with_reducible rfl)
                     simp only[Act.put,zsA,zsB,zsC]
                     refine take_dst (i:=8) (dst:=some 84) (v:=?_) rfl rfl (by kernel_rfl) (by kernel_rfl) (by kernel_rfl) (fun _ _ _ h=>h) (Or.inl ⟨by rfl,?_⟩) hHeld ?_
                     rotate_left
                     · intro w hSw;obtain⟨k0,k1,k2,k3,k4⟩:=hSw;go_simp;try (with_reducible rfl)
                     simp only[Act.put,zsA,zsB,zsC]
                     refine take_dst (i:=9) (dst:=some 85) (v:=?_) rfl rfl (by kernel_rfl) (by kernel_rfl) (by kernel_rfl) (fun _ _ _ h=>h) (Or.inl ⟨by rfl,?_⟩) hHeld ?_
                     rotate_left
                     · intro w hSw;obtain⟨k0,k1,k2,k3,k4⟩:=hSw;go_simp;try (with_reducible rfl)
                     simp only[Act.put,zsA,zsB,zsC]
                     refine take_dst (i:=10) (dst:=some 86) (v:=?_) rfl rfl (by kernel_rfl) (by kernel_rfl) (by kernel_rfl) (fun _ _ _ h=>h) (Or.inl ⟨by rfl,?_⟩) hHeld ?_
                     rotate_left
                     · intro w hSw;obtain⟨k0,k1,k2,k3,k4⟩:=hSw;go_simp;try (with_reducible rfl)
                     simp only[Act.put,zsA,zsB,zsC]
                     refine take_dst (i:=11) (dst:=some 87) (v:=?_) rfl rfl (by kernel_rfl) (by kernel_rfl) (by kernel_rfl) (fun _ _ _ h=>h) (Or.inl ⟨by rfl,?_⟩) hHeld ?_
                     rotate_left
                     · intro w hSw;obtain⟨k0,k1,k2,k3,k4⟩:=hSw;go_simp;try (with_reducible rfl)
                     simp only[Act.put,zsA,zsB,zsC]
                     refine take_dst (i:=12) (dst:=some 88) (v:=?_) rfl rfl (by kernel_rfl) (by kernel_rfl) (by kernel_rfl) (fun _ _ _ h=>h) (Or.inl ⟨by rfl,?_⟩) hHeld ?_
                     rotate_left
                     · intro w hSw;obtain⟨k0,k1,k2,k3,k4⟩:=hSw;go_simp;try (with_reducible rfl)
                     simp only[Act.put,zsA,zsB,zsC]
                     refine take_dst (i:=13) (dst:=some 89) (v:=?_) rfl rfl (by kernel_rfl) (by kernel_rfl) (by kernel_rfl) (fun _ _ _ h=>h) (Or.inl ⟨by rfl,?_⟩) hHeld ?_
                     rotate_left
                     · intro w hSw;obtain⟨k0,k1,k2,k3,k4⟩:=hSw;go_simp;try (with_reducible rfl)
                     simp only[Act.put,zsA,zsB,zsC]
                     refine take_dst (i:=14) (dst:=some 90) (v:=?_) rfl rfl (by kernel_rfl) (by kernel_rfl) (by kernel_rfl) (fun _ _ _ h=>h) (Or.inl ⟨by rfl,?_⟩) hHeld ?_
                     rotate_left
                     · intro w hSw;obtain⟨k0,k1,k2,k3,k4⟩:=hSw;go_simp;try (with_reducible rfl)
                     simp only[Act.put,zsA,zsB,zsC]
                     refine wpAnyH_ready (rs:=[15]) (by kernel_rfl) (by simp) ?_
                     refine AllReadyH.cons rfl (fun K hK=>?_) AllReadyH.nil
                     go_simp
                     refine hK.out _ _ (uh HSf _ hft) (fun hHeld=>?_)
                     clear hK K
                     refine wpAnyH_done (by kernel_rfl) ?_ _
                     go_wp2
                     go_roundw
                     case rel=>exact⟨_,q+1,by go_num,by omega,(uh Hend).1,uh Hs9,uh Ha9,uh Hh9,(uh Hend).2.1,(uh Hend).2.2⟩
                     case measure=>simp[intOf];omega
           · obtain rfl:q=prt.length:=by omega
             go_wp2
             go_roundw
             case rel=>exact⟨F3,k+1,by go_num,by omega,uh Ht5,uh Hsnd5,uh Hjs F3 ((uh Hma F3).2 (uh Hhas5)) (uh Hall5),uh Hb5⟩
             case measure=>simp[intOf];omega
       · obtain rfl:k=G.prods.length:=by omega
         go_wp2
         go_loopw [12,13,14] (fun x _ _ W=>∃ (F:Nat→Nat→Bool) (ag:Bool),x=.bool ag∧TabIs W tb G.rules.length G.rules.length bk F∧MksSound G F∧MksBase G F∧(ag=false→MksShut G.rules.length F)∧Below (w.heap.size+1) w1 W) (fun x _ _ W=>2 * cntT (fun r=>markW W (bk r)) G.rules.length G.rules.length+bitOf x)
         case atStart=>exact⟨F,true,rfl,uh Htab2,uh Hsnd2,uh Hall2,(fun h=>by cases h),uh Hb2⟩
         case round =>
           clear Htab2 Hsnd2 Hall2 Hb2 g0 g1 g2 g3 g4 Hgin
           obtain⟨F,ag,rfl,htab,hsnd,hbase,hsh,hb⟩:=hrel
           have hcnt:=cntTW_is htab
           have Hsnd:=hide hsnd;have Hsh:=hide hsh;have Hb:=hide hb;have Hbase:=hide hbase
           have Htab:=hide htab
           clear hsnd hsh hb htab hbase
           cases ag
           · have Hd := hide (mks_done (uh HG) (uh Hsnd) (uh Hbase) (uh Hsh rfl))
             clear Hsh Hsnd hcnt Hbase
             rw[uh Hd] at Htab
             clear Hd
             have hsz3:=(uh Hb).size
             have hr0:=World.rowIs_made wr (.bool false) G.rules.length 4
             have Hr0:=hide hr0
             clear hr0
             have Htab4:=hide (tab_below (uh Htab) ((Below.refl wr.heap.size wr).alloc (Nat.le_refl _) (.cells (madeCells #[.bool false] G.rules.length) 4)) (Nat.le_refl _))
             have Hb4:=hide ((uh Hb).alloc (by omega) (.cells (madeCells #[.bool false] G.rules.length) 4))
             have Hpbs:Hid ((∀ r,r<G.rules.length→bk r<wr.heap.size)∧tb<wr.heap.size):=hide ⟨fun r hr=>((uh Htab).row r hr).lt,(uh Htab).lt⟩
             go_wp2
             generalize wr.alloc (.cells (madeCells #[.bool false] G.rules.length) 4)=w5 at *
             clear Htab Hb
             have hob:w.heap.size+1≤wr.heap.size:=by omega
             generalize wr.heap.size=ob at *
             go_loopw [16] (fun x W=>∃ i:Nat,x=.int .i64 i∧i≤G.rules.length∧W.rowIs ob 4 G.rules.length (fun r=>.bool (decide (r<i) && mksF G r r))∧TabIs W tb G.rules.length G.rules.length bk (mksF G)∧Below (w.heap.size+1) w1 W) (fun x _=>G.rules.length - (intOf x).toNat)
             case atStart=>exact⟨0,rfl,Nat.zero_le _,(uh Hr0).congr (fun j _=>by simp),uh Htab4,uh Hb4⟩
             case round =>
               obtain⟨i,rfl,hile,hro,ht,hb⟩:=hrel
               by_cases hlt:i<G.rules.length
               · have hlt':(i:Int)<G.rules.length:=by omega
                 have ct:=ht.cell i hlt
                 have cr:=(ht.row i hlt).cell hlt
                 have co:=hro.cell hlt
                 have fo:=hro.frozen i
                 have Hnext:Hid (∀ W:World,Fr (· = ob) wr W→W.rowIs ob 4 G.rules.length (fun j=>if j=i then .bool (mksF G i i) else .bool (decide (j<i) && mksF G j j))→W.rowIs ob 4 G.rules.length (fun r=>.bool (decide (r<i+1) && mksF G r r))∧TabIs W tb G.rules.length G.rules.length bk (mksF G)∧Below (w.heap.size+1) w1 W):=hide (fun W hf hr=>⟨hr.congr (fun j hj=>by
                   by_cases e:j=i
                   · subst e;simp
                   · have:decide (j<i+1)=decide (j<i):=by rw[decide_eq_decide];omega
                     rw[if_neg e,this]),tab_kept ht hf.1 (fun j hj=>hf.2.1 j (by
                     rcases hj with rfl | ⟨s,hs,rfl⟩
                     · exact ht.lt
                     · exact(ht.row s hs).lt) (by
                     rcases hj with rfl | ⟨s,hs,rfl⟩
                     · have:=(uh Hpbs).2;omega
                     · have:=(uh Hpbs).1 s hs;omega)),hb.trans (fr_below hf (by have:=hb.size;omega) (fun j hj=>by rw[hj];exact hob))⟩)
                 have Hro:=hide hro
                 clear ht hb hro
                 generalize mksF G i i=mv at *
                 have hft:Fr (· = ob) wr (wr.setCell ⟨ob,i,none⟩ (.bool mv)):=fr_set (O:=fun x=>x=ob) (p:=⟨ob,i,none⟩) (fr_refl _ _) (by show ob=ob;rfl) _
                 have Hend:=hide (uh Hnext _ hft ((uh Hro).set i (.bool mv)))
                 clear hft Hnext
                 go_wp2
                 go_roundw
                 case rel=>exact⟨i+1,by go_num,by omega,(uh Hend).1,(uh Hend).2.1,(uh Hend).2.2⟩
                 case measure=>simp[intOf];omega
               · obtain rfl:i=G.rules.length:=by omega
                 have Hro:=hide (hro.congr (g:=fun r=>.bool (mksF G r r)) (fun j hj=>by simp[hj]))
                 have Hbe:=hide ((uh Hb1).trans (below_le hb (by omega)))
                 clear ht hb hro
                 go_wp2
                 go_ret
                 exact⟨_,rfl,by omega,uh Hro,uh Hbe⟩
           · clear Hsh
             go_wp2
             go_loopw [12,13,14] (fun x y _ W=>∃ (F2:Nat→Nat→Bool) (ag:Bool) (i:Nat),x=.bool ag∧y=.int .i64 i∧i≤G.rules.length∧TabIs W tb G.rules.length G.rules.length bk F2∧MksSound G F2∧MksBase G F2∧((ag=false∧F2=F∧∀ a,a<i→∀ k,k<G.rules.length→mksNew G.rules.length F a k=false)∨(ag=true∧cntT F2 G.rules.length G.rules.length<cntT F G.rules.length G.rules.length))∧Below (w.heap.size+1) w1 W) (fun _ y _ _=>G.rules.length - (intOf y).toNat)
             case atStart=>exact⟨F,false,0,rfl,rfl,Nat.zero_le _,uh Htab,uh Hsnd,uh Hbase,.inl ⟨rfl,rfl,fun j hj=>absurd hj (Nat.not_lt_zero _)⟩,uh Hb⟩
             case round =>
               clear Htab Hsnd Hbase Hb
               obtain⟨F2,ag,i,rfl,rfl,hile,htab2,hsnd2,hbase2,hst2,hb2⟩:=hrel
               have Hsnd2:=hide hsnd2;have Hst2:=hide hst2;have Hb2:=hide hb2;have Htab2:=hide htab2;have Hbase2:=hide hbase2
               clear hsnd2 hst2 hb2 htab2 hbase2
               by_cases hilt:i<G.rules.length
               · have hilt':(i:Int)<G.rules.length:=by omega
                 go_wp2
                 go_loopw [12,14] (fun x y W=>∃ (F3:Nat→Nat→Bool) (ag3:Bool) (q:Nat),x=.bool ag3∧y=.int .i64 q∧q≤G.rules.length∧TabIs W tb G.rules.length G.rules.length bk F3∧MksSound G F3∧MksBase G F3∧((ag3=false∧F3=F∧(∀ a,a<i→∀ k,k<G.rules.length→mksNew G.rules.length F a k=false)∧∀ k,k<q→mksNew G.rules.length F i k=false)∨(ag3=true∧cntT F3 G.rules.length G.rules.length<cntT F G.rules.length G.rules.length))∧Below (w.heap.size+1) w1 W) (fun _ y _=>G.rules.length - (intOf y).toNat)
                 case atStart=>exact⟨F2,ag,0,rfl,rfl,Nat.zero_le _,uh Htab2,uh Hsnd2,uh Hbase2,(by
                   rcases uh Hst2 with ⟨h1,h2,h3⟩ | h
                   · exact .inl ⟨h1,h2,h3,fun k hk=>absurd hk (Nat.not_lt_zero _)⟩
                   · exact .inr h),uh Hb2⟩
                 case round =>
                   clear Hst2 Hsnd2 Hbase2 Htab2 Hb2
                   obtain⟨F3,ag3,q,rfl,rfl,hq,ht5,hsnd5,hbase5,hst5,hb5⟩:=hrel
                   have Ht5:=hide ht5;have Hsnd5:=hide hsnd5;have Hbase5:=hide hbase5;have Hs5:=hide hst5;have Hb5:=hide hb5
                   clear ht5 hsnd5 hbase5 hst5 hb5
                   by_cases hql:q<G.rules.length
                   · have hql':(q:Int)<G.rules.length:=by omega
                     have ci:=(uh Ht5).cell i hilt
                     have cq:=(uh Ht5).cell q hql
                     have cv:=((uh Ht5).row i hilt).cell hql
                     have Hmn:Hid (mksNew G.rules.length F3 i q=(F3 i q && newTo (F3 i) (F3 q) G.rules.length)):=hide rfl
                     have Hkeep:Hid (mksNew G.rules.length F3 i q=false→((ag3=false∧F3=F∧(∀ a,a<i→∀ k,k<G.rules.length→mksNew G.rules.length F a k=false)∧∀ k,k<q+1→mksNew G.rules.length F i k=false)∨(ag3=true∧cntT F3 G.rules.length G.rules.length<cntT F G.rules.length G.rules.length))):=hide (fun hn=>by
                       rcases uh Hs5 with ⟨h1,h2,h3,h4⟩ | h
                       · refine .inl ⟨h1,h2,h3,fun k hk=>?_⟩
                         by_cases e:k=q
                         · rw[e,← h2];exact hn
                         · exact h4 k (by omega)
                       · exact .inr h)
                     cases hv:F3 i q
                     · rw[hv] at cv Hmn
                       have Hs6:=hide (uh Hkeep (uh Hmn))
                       clear Hs5 Hkeep Hmn hv
                       go_wp2
                       go_quiet (fail)
                       go_wp2
                       go_roundw
                       case rel=>exact⟨F3,ag3,q+1,rfl,by go_num,by omega,tab_kept (uh Ht5) (Nat.le_refl _) (fun _ _=>rfl),uh Hsnd5,uh Hbase5,uh Hs6,below_drewN (uh Hb5) _⟩
                       case measure=>simp[intOf];omega
                     · rw[hv] at cv Hmn
                       rw[Bool.true_and] at Hmn
                       have HJ:=hide (rJoined_any (bk i) (bk q) G.rules.length G.rules.length G.rules.length (F3 i) (F3 q) (by omega) wr.drew ((uh Ht5).row i hilt) ((uh Ht5).row q hql))
                       have Hjs:=hide (mks_join (n:=G.rules.length) (uh Hsnd5) hv)
                       have Hbs:Hid (MksBase G (updT F3 i (joinTo (F3 i) (F3 q) G.rules.length))):=hide (fun a ha j hj=>has_up (uh Hbase5 a ha j hj) (updT_up (fun k hk=>joinTo_up hk)))
                       have Hcn:=hide (fun h=>cntT_join (F:=F3) (g:=F3 q) (nk:=G.rules.length) hilt h)
                       have Hjn:=hide (fun h=>join_none (F:=F3) (l:=i) (g:=F3 q) (nk:=G.rules.length) h)
                       have Hle:Hid (cntT F3 G.rules.length G.rules.length≤cntT F G.rules.length G.rules.length):=hide (by
                         rcases uh Hs5 with ⟨h1,h2,-⟩ | h
                         · rw[h2];exact Nat.le_refl _
                         · exact Nat.le_of_lt h.2)
                       obtain⟨N,hN⟩:∃ N,Hid (newTo (F3 i) (F3 q) G.rules.length=N):=⟨_,hide rfl⟩
                       rw[uh hN] at HJ Hmn
                       have Hvt:Hid (∀ W:World,W.rowIs (bk i) 4 G.rules.length (fun k=>.bool (joinTo (F3 i) (F3 q) G.rules.length k))→W.cell? ⟨bk i,q,none⟩=some (.bool true)):=hide (fun W hr=>(hr.cell hql).trans (by rw[joinTo_up hv]))
                       have HS:Hid (∀ W:World,Fr (· = bk i) wr W∧W.cell? ⟨bk i,q,none⟩=some (.bool true)→W.cell? ⟨tb,i,none⟩=some (.slice (some ⟨bk i,0,none⟩) G.rules.length G.rules.length)∧W.cell? ⟨tb,q,none⟩=some (.slice (some ⟨bk q,0,none⟩) G.rules.length G.rules.length)∧W.cell? ⟨bk i,q,none⟩=some (.bool true)):=hide (fun W ⟨hf,hc⟩=>⟨(World.cell?_of_block (w:=wr) (a:=⟨tb,i,none⟩) (hf.2.1 _ (uh Ht5).lt (fun e=>(uh Ht5).ne i hilt e.symm))).trans ci,(World.cell?_of_block (w:=wr) (a:=⟨tb,q,none⟩) (hf.2.1 _ (uh Ht5).lt (fun e=>(uh Ht5).ne i hilt e.symm))).trans cq,hc⟩)
                       have hS:Fr (· = bk i) wr wr.drew∧wr.drew.cell? ⟨bk i,q,none⟩=some (.bool true):=⟨fr_refl _ _,cv⟩
                       have Htu:Hid (∀ W:World,Fr (· = bk i) wr W→W.rowIs (bk i) 4 G.rules.length (fun k=>.bool (joinTo (F3 i) (F3 q) G.rules.length k))→TabIs W tb G.rules.length G.rules.length bk (updT F3 i (joinTo (F3 i) (F3 q) G.rules.length))∧Below (w.heap.size+1) w1 W):=hide (fun W hf hr=>⟨tab_upd (uh Ht5) hilt hf hr,(uh Hb5).trans (fr_below hf (by have:=(uh Hb5).size;omega) (fun j hj=>by rw[hj];exact uh Hbk i hilt))⟩)
                       clear Hs5 hv
                       go_wp2
                       go_cut [119] from 102 to 119 (fun s wx=>s=.bool N∧TabIs wx tb G.rules.length G.rules.length bk (updT F3 i (joinTo (F3 i) (F3 q) G.rules.length))∧Below (w.heap.size+1) w1 wx)
                       case first =>
                         go_region_held3 (fun W:World=>W.cell? ⟨tb,i,none⟩=some (.slice (some ⟨bk i,0,none⟩) G.rules.length G.rules.length)∧W.cell? ⟨tb,q,none⟩=some (.slice (some ⟨bk q,0,none⟩) G.rules.length G.rules.length)∧W.cell? ⟨bk i,q,none⟩=some (.bool true))
                           (first | exact uh HS _ hS | fail)
                           (first
                             | (go_at_call 92;refine(uh HJ).mono ?_;rintro e W4 ⟨rfl,hr4,hf4⟩;have hS:=And.intro (fr_t hS.1 hf4) (uh Hvt _ hr4);have hE:=uh Htu _ hS.1 hr4;clear hf4 hr4)
                             | fail)
                         all_goals
                           go_wp2_with fail
                           go_meet
                           exact⟨rfl,hE⟩
                       case rest =>
                         obtain⟨rfl,ht6,hb6⟩:=hcut
                         have Ht6:=hide ht6;have Hb6:=hide hb6
                         clear ht6 hb6 hS HS HJ Htu
                         cases N
                         · have Hs6:=hide (uh Hkeep (uh Hmn))
                           rw[uh Hjn (uh hN)] at Ht6
                           clear Hkeep Hmn hN Hjn Hcn
                           go_wp2
                           go_roundw
                           case rel=>exact⟨F3,ag3,q+1,rfl,by go_num,by omega,uh Ht6,uh Hsnd5,uh Hbase5,uh Hs6,uh Hb6⟩
                           case measure=>simp[intOf];omega
                         · have Hs6:=hide (Nat.lt_of_lt_of_le (uh Hcn (uh hN)) (uh Hle))
                           clear Hkeep Hmn hN Hjn Hcn
                           go_wp2
                           go_roundw
                           case rel=>exact⟨_,true,q+1,rfl,by go_num,by omega,uh Ht6,uh Hjs,uh Hbs,.inr ⟨rfl,uh Hs6⟩,uh Hb6⟩
                           case measure=>simp[intOf];omega
                   · obtain rfl:q=G.rules.length:=by omega
                     have Hs6:Hid ((ag3=false∧F3=F∧∀ a,a<i+1→∀ k,k<G.rules.length→mksNew G.rules.length F a k=false)∨(ag3=true∧cntT F3 G.rules.length G.rules.length<cntT F G.rules.length G.rules.length)):=hide (by
                       rcases uh Hs5 with ⟨h1,h2,h3,h4⟩ | h
                       · refine .inl ⟨h1,h2,fun a ha=>?_⟩
                         by_cases e:a=i
                         · rw[e];exact h4
                         · exact h3 a (by omega)
                       · exact .inr h)
                     clear Hs5
                     go_wp2
                     go_roundw
                     case rel=>exact⟨F3,ag3,i+1,rfl,by go_num,by omega,uh Ht5,uh Hsnd5,uh Hbase5,uh Hs6,uh Hb5⟩
                     case measure=>simp[intOf];omega
               · obtain rfl:i=G.rules.length:=by omega
                 have Hst7:Hid ((ag=false→MksShut G.rules.length F2)∧2 * cntT F2 G.rules.length G.rules.length+bitOf (.bool ag)<2 * cntT F G.rules.length G.rules.length+1):=hide (by
                   rcases uh Hst2 with ⟨rfl,rfl,h3⟩ | ⟨rfl,h⟩
                   · exact⟨fun _=>h3,by simp[bitOf]⟩
                   · exact⟨(fun h=>by cases h),(by simp[bitOf];omega)⟩)
                 have hc2:=cntTW_is (uh Htab2)
                 go_wp2
                 go_roundw
                 case rel=>exact⟨F2,ag,rfl,uh Htab2,uh Hsnd2,uh Hbase2,(uh Hst7).1,uh Hb2⟩
                 case measure =>
                   have:=(uh Hst7).2
                   rw[hc2,hcnt]
                   exact this
end Go.Proofs.YtagohbpbgjelaaaGreatDoor

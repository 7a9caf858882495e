/- The document's reached. -/
import Derived.Test.YtagohbpbgjelaaaGreatDoorA2
import Derived.Test.YtagohbpbgjelaaaGreatDoorP0
namespace Go.Proofs.YtagohbpbgjelaaaGreatDoor
open Go.RowKit

theorem zro {l:List Int} {p:Int} (h:p ∈ l):∃ i,i<l.length∧l.getD i 0=p:=by
 obtain⟨i,hi,rfl⟩:=List.getElem_of_mem h
 exact⟨i,hi,by rw[List.getD_eq_getElem?_getD,List.getElem?_eq_getElem hi];rfl⟩
theorem zpd (w:World) (n i:Nat):(w.alloc (.cells ((madeCells #[.bool false] n).setIfInBounds i (.bool true)) 4)).rowIs w.heap.size 4 n (fun r=>.bool (upd (fun _=>false) i r)):=by
 have h:=World.rowIs_alloc w ((madeCells #[.bool false] n).setIfInBounds i (.bool true)) 4 (fun r=>.bool (upd (fun _=>false) i r)) (fun j hj=>by
  rw[Array.size_setIfInBounds,size_madeCells] at hj
  rw[Array.getElem?_setIfInBounds]
  unfold upd
  by_cases e:j=i
  ·subst e;simp[size_madeCells,hj]
  ·rw[if_neg (fun h=>e h.symm),if_neg e]
   simp[madeCells,hj,Nat.mod_one])
 rw[Array.size_setIfInBounds,size_madeCells] at h
 simpa using h
theorem zmY {B:Nat} {w w':World} {a:Option Addr} {l:List Int} (hb:Below B w w') (h:NRow B w' a l):NRow B w a l:=by
 rcases h with rfl | ⟨b,off,rfl,hlt,hc⟩
 ·exact .inl rfl
 ·exact .inr ⟨b,off,rfl,hlt,fun j hj=>(hb.cell hlt).symm.trans (hc j hj)⟩

end Go.Proofs.YtagohbpbgjelaaaGreatDoor

namespace Go.Proofs.YtagohbpbgjelaaaGreatDoor
open Go.RowKit

set_option maxHeartbeats 4000000 in
set_option maxRecDepth 100000 in
theorem zjr (G : Gm) (hG : GOk G) (ka pa ra qa : Option Addr) (kc pc rc qc : Nat) (mb mc : Nat) (m : Nat → Bool) (B : Nat) (w : World) (hB : B ≤ w.heap.size) (hin : GIn B w G ka pa ra qa) (hm : w.rowIs mb 4 G.rules.length (fun r => .bool (m r))) :
    Calls Tryz.prog 40 #[.agg #[.slice ka G.kinds.length kc,.slice pa G.precs.length pc,.slice ra G.rules.length rc,.slice qa G.prods.length qc,.int .i64 G.start],.slice (some ⟨mb,0,none⟩) G.rules.length mc] w fun e w'=>∃ b,e=.returned (.slice (some ⟨b,0,none⟩) G.nr G.nr)∧w.heap.size≤b∧w'.rowIs b 4 G.nr (fun r=>.bool (zp5 G (fun p:Pd=>za9 G.nk m p.right) r))∧Below w.heap.size w w':=by
  have hnr:=hG.r2;have hnr1:=hG.r1;have hqs:=hG.ps;have hs0:=hG.s0;have hs1:=hG.s1;have hnk:=hG.k3
  unfold Gm.nr at hs1 hnr
  have hmk:=fun w=>run_make_row' (P:=Tryz.prog) 28 4 (.bool false) 1 Tryz.underlying28 zlx rfl .i64 .i64 G.rules.length (by omega) (by omega) w
  have HG:=zaa hG;have Hin:=zaa hin;have Hm:=zaa hm
  clear hG hin hm
  generalize hok:(fun p:Pd=>za9 G.nk m p.right)=ok at *
  have Hok:=zaa hok
  clear hok
  have Hst:=zaa (zbt (kc:=kc) (pc:=pc) (rc:=rc) (qc:=qc) hB (uh Hin) 26)
  have hb1:Below w.heap.size w (w.alloc (.cells #[.slice ka G.kinds.length kc,.slice pa G.precs.length pc,.slice ra G.rules.length rc,.slice qa G.prods.length qc,.int .i64 G.start] 26)):=(Below.refl _ _).alloc (Nat.le_refl _) _
  have hw1:(w.alloc (.cells #[.slice ka G.kinds.length kc,.slice pa G.precs.length pc,.slice ra G.rules.length rc,.slice qa G.prods.length qc,.int .i64 G.start] 26)).heap.size=w.heap.size+1:=by simp
  have hr0:=World.rowIs_made (w.alloc (.cells #[.slice ka G.kinds.length kc,.slice pa G.precs.length pc,.slice ra G.rules.length rc,.slice qa G.prods.length qc,.int .i64 G.start] 26)) (.bool false) G.rules.length 4
  rw[hw1] at hr0
  have hbm:=(Below.refl (w.heap.size+1) (w.alloc (.cells #[.slice ka G.kinds.length kc,.slice pa G.precs.length pc,.slice ra G.rules.length rc,.slice qa G.prods.length qc,.int .i64 G.start] 26))).alloc (by omega) (.cells (madeCells #[.bool false] G.rules.length) 4)
  have hstm:=zan hbm hB (uh Hst)
  have d4:=hstm.c4
  have co:=hr0.cell (i:=G.start.toNat) (by omega)
  have fo:=hr0.frozen G.start.toNat
  have hr1:=zpd (w.alloc (.cells #[.slice ka G.kinds.length kc,.slice pa G.precs.length pc,.slice ra G.rules.length rc,.slice qa G.prods.length qc,.int .i64 G.start] 26)) G.rules.length G.start.toNat
  have hbs:=(Below.refl (w.heap.size+1) (w.alloc (.cells #[.slice ka G.kinds.length kc,.slice pa G.precs.length pc,.slice ra G.rules.length rc,.slice qa G.prods.length qc,.int .i64 G.start] 26))).alloc (by omega) (.cells ((madeCells #[.bool false] G.rules.length).setIfInBounds G.start.toNat (.bool true)) 4)
  rw[hw1] at hr1
  have Hr1:=zaa hr1;have Hbs:=zaa hbs;have Hb1:=zaa hb1
  clear hr0 hr1 hbm hbs hstm hb1
  have hnot:=zaG
  go_enter Tryz.func40,Tryz.ntmps40
  go_wp2
  clear d4 co fo hmk
  generalize w.alloc (.cells #[.slice ka G.kinds.length kc,.slice pa G.precs.length pc,.slice ra G.rules.length rc,.slice qa G.prods.length qc,.int .i64 G.start] 26)=w1 at *
  go_loopw [6,10] (fun x _ wr=>∃ (f:Nat→Bool) (ag:Bool),x=.bool ag∧wr.rowIs (w.heap.size+1) 4 G.rules.length (fun r=>.bool (f r))∧zdr G ok f∧(ag=false→zjV G ok f)∧Below (w.heap.size+1) w1 wr) (fun x _ wr=>2 * zcw (znc wr (w.heap.size+1)) G.rules.length+ziX x)
  case atStart=>exact⟨_,true,rfl,uh Hr1,⟨zjY _ _,fun r h=>by rcases zjc h with rfl | h;exact .start;exact absurd h (by simp)⟩,(fun h=>by cases h),uh Hbs⟩
  case round =>
    obtain⟨f,ag,rfl,hrow,hsnd,hsh,hb⟩:=hrel
    have hcnt:=zh4 hrow
    have Hsnd:=zaa hsnd;have Hsh:=zaa hsh;have Hb:=zaa hb;have Hrow:=zaa hrow
    clear hsnd hsh hb hrow Hr1 Hbs
    cases ag
    · have Hd:=zaa (zkc (uh Hsnd) (uh Hsh rfl))
      clear Hsh Hsnd hcnt
      rw[uh Hd] at Hrow
      clear Hd
      go_wp2
      go_ret
      exact⟨_,rfl,by omega,uh Hrow,(uh Hb1).trans (zab (uh Hb) (by omega))⟩
    · clear Hsh
      go_wp2
      go_loopw [6,7,8,9,10] (fun x y _ _ _ W=>∃ (f2:Nat→Bool) (ag:Bool) (k:Nat),x=.bool ag∧y=.int .i64 k∧k≤G.prods.length∧W.rowIs (w.heap.size+1) 4 G.rules.length (fun r=>.bool (f2 r))∧zdr G ok f2∧((ag=false∧f2=f∧∀ j,j<k→ze9 G ok f (G.prods.getD j pd0))∨(ag=true∧zcw f2 G.rules.length<zcw f G.rules.length))∧Below (w.heap.size+1) w1 W) (fun _ y _ _ _ _=>G.prods.length - (intOf y).toNat)
      case atStart=>exact⟨f,false,0,rfl,rfl,Nat.zero_le _,uh Hrow,uh Hsnd,.inl ⟨rfl,rfl,fun j hj=>absurd hj (Nat.not_lt_zero _)⟩,uh Hb⟩
      case round =>
        obtain⟨f2,ag,k,rfl,rfl,hk,hrow2,hsnd2,hst2,hb2⟩:=hrel
        have Hsnd2:=zaa hsnd2;have Hst2:=zaa hst2;have Hb2:=zaa hb2;have Hrow2:=zaa hrow2
        clear hsnd2 hst2 hb2 hrow2 Hrow Hsnd Hb
        have hst:=zan (uh Hb2) hB (uh Hst)
        have g0:=hst.c0;have g1:=hst.c1;have g2:=hst.c2;have g3:=hst.c3;have g4:=hst.c4
        have Hgin:=zaa hst.gin
        clear hst
        by_cases hlt:k<G.prods.length
        · have hlt':(k:Int)<G.prods.length:=by omega
          obtain⟨b,off,rfl,hbB,rr,rrc,x3,x4,x5,x6,n6,c6,hrr,hac,q0,q1,q2,q3,q4,q5,q6⟩:=zbz (uh Hgin).prods hlt
          obtain⟨hl0,hl1⟩:=(uh HG).pl _ (zag hlt)
          have hpr:=(uh HG).pr _ (zag hlt)
          have hpy:=(uh HG).py _ (zag hlt)
          have Hup:=zaa (fun(g:Nat→Bool) (h:zdr G ok g) hl ho (x:Int) hx hk=>zqA (x:=x) h hlt hl ho hx hk)
          have Hfd:Hid (ze9 G ok f (G.prods.getD k pd0)↔(f (G.prods.getD k pd0).left.toNat=true→ok (G.prods.getD k pd0)=true→∀ x,x ∈ (G.prods.getD k pd0).right→(G.nk:Int)≤x→f (x - G.nk).toNat=true)):=zaa Iff.rfl
          have Hjs:Hid (∀ j,j<k+1→G.prods.getD j pd0=G.prods.getD k pd0∨j<k):=zaa (fun j hj=>by
            by_cases e:j=k
            · exact .inl (by rw[e])
            · exact .inr (by omega))
          have Hokp:=zaa (congrFun (uh Hok) (G.prods.getD k pd0))
          generalize G.prods.getD k pd0=p at *
          obtain⟨pl,prt,plv,pac⟩:=p
          simp only at hl0 hl1 hpr hpy hrr hac q0 q1 q2 Hup Hfd Hokp
          obtain⟨l,rfl⟩:∃ l:Nat,pl=(l:Int):=⟨pl.toNat,by omega⟩
          simp only[Int.toNat_natCast] at Hup Hfd
          have hl2:l<G.rules.length:=by unfold Gm.nr at hl1;omega
          have hl1':(l:Int)<G.rules.length:=by omega
          obtain⟨p0,p1,-,-,-,-,-,hw3,hb3⟩:=zrD wr (.int .i64 (l:Int)) (.slice rr prt.length rrc) (.int .i64 plv) (.int .i64 x3) (.int .i64 x4) (.string x5) (.slice x6 n6 c6) 89
          have hrow3:=(uh Hrow2).of_block (hb3.block _ (uh Hrow2).lt)
          have hsz2:=(uh Hb2).size
          have Hrr3:=zaa (zau (zab hb3 (by omega)) hrr)
          have co:=hrow3.cell hl2
          have Hpy:=zaa hpy
          have Hac:=zaa hac
          have HrrA:=zaa (zmY (zab (uh Hb2) (by omega)) hrr)
          clear hac hpy hrr
          have hst3:=zan (zab hb3 (by omega)) hB (zan (uh Hb2) hB (uh Hst))
          have e0:=hst3.c0;have e1:=hst3.c1;have e2:=hst3.c2;have e3:=hst3.c3;have e4:=hst3.c4
          have Hst3:=zaa hst3
          have Hb3:=zaa hb3;have Hrow3:=zaa hrow3
          have Hbb:=zaa ((uh Hb2).trans (zab (uh Hb3) (by omega)))
          have Hst4:Hid (ze9 G ok f ⟨(l:Int),prt,plv,pac⟩∨zcw f2 G.rules.length<zcw f G.rules.length→((ag=false∧f2=f∧∀ j,j<k+1→ze9 G ok f (G.prods.getD j pd0))∨(ag=true∧zcw f2 G.rules.length<zcw f G.rules.length))):=zaa (fun hn=>by
            rcases uh Hst2 with ⟨h1,rfl,h3⟩ | h
            · rcases hn with hn | hn
              · refine .inl ⟨h1,rfl,fun j hj=>?_⟩
                rcases uh Hjs j hj with h | h
                · rw[h];exact hn
                · exact h3 j h
              · omega
            · exact .inr h)
          have Hst5:Hid (f2=f∨zcw f2 G.rules.length<zcw f G.rules.length):=zaa (by
            rcases uh Hst2 with ⟨h1,h2,h3⟩ | h
            · exact .inl h2
            · exact .inr h.2)
          clear hst3 hb3 hrow3 Hgin
          cases hfl:f2 l
          · rw[hfl] at co
            have Hst6:=zaa (uh Hst4 (by
              rcases uh Hst5 with h | h
              · exact .inl ((uh Hfd).2 (fun h'=>by rw[← h,hfl] at h';cases h'))
              · exact .inr h))
            clear hfl Hst4 Hst5 Hup Hfd Hst2 Hjs
            go_wp2
            go_roundw
            case rel=>exact⟨f2,ag,k+1,rfl,by go_num,by omega,uh Hrow3,uh Hsnd2,uh Hst6,uh Hbb⟩
            case measure=>simp[intOf];omega
          · rw [hfl] at co
            have hsz1:=(uh Hb1).size
            have HE:=zaa (zfa ka pa ra (some ⟨b,off,none⟩) G.kinds.length kc G.precs.length pc G.rules.length rc G.prods.length qc G.start mb mc m rr rrc prt B _ (by omega) hnr (by omega) (uh Hrr3) (uh Hpy) ((uh Hm).of_block (((uh Hb1).trans ((uh Hbb).mono (by omega))).block _ (uh Hm).lt)))
            have hmn:decide ((0:Int)<G.rules.length)=true:=by rw[decide_eq_true_eq];omega
            have Hfl:=zaa hfl
            clear hfl
            cases hW:za9 G.kinds.length m prt
            · rw[hW] at HE
              have Hst6:=zaa (uh Hst4 (.inl ((uh Hfd).2 (fun _ h'=>by rw[← uh Hokp,show za9 G.nk m prt=za9 G.kinds.length m prt from rfl,hW] at h';cases h'))))
              clear hW Hst4 Hst5 Hup Hfd Hst2 Hjs
              go_wp2_with fail
              refine(uh HE).mono ?_
              rintro e w4 ⟨rfl,hb4⟩
              have Hb4:=zaa hb4
              clear hb4
              go_wp2
              go_roundw
              case rel=>exact⟨f2,ag,k+1,rfl,by go_num,by omega,(uh Hrow3).of_block ((uh Hb4).block _ (uh Hrow3).lt),uh Hsnd2,uh Hst6,(uh Hbb).trans (zab (uh Hb4) (by omega))⟩
              case measure=>simp[intOf];omega
            · rw [hW] at HE
              have Hokt:Hid (ok ⟨(l:Int),prt,plv,pac⟩=true):=zaa (by rw[← uh Hokp];exact hW)
              clear hW
              go_wp2_with fail
              refine(uh HE).mono ?_
              rintro e w4 ⟨rfl,hb4⟩
              have HrowX:=zaa ((uh Hrow3).of_block (hb4.block _ (uh Hrow3).lt))
              have HbX:=zaa ((uh Hbb).trans (zab hb4 (by omega)))
              have Hp1:=zaa ((hb4.cell (p:=⟨wr.heap.size,1,none⟩) (by show wr.heap.size<_;omega)).trans p1)
              clear hb4
              have Hrr1:=HrrA
              go_wp2
              have Hwr:Hid (wr.heap.size≠w.heap.size+1):=zaa (by have:=(uh Hrow2).lt;omega)
              go_loopw [6,9,10] (fun x y _ W=>∃ (f3:Nat→Bool) (ag3:Bool) (q:Nat),x=.bool ag3∧y=.int .i64 q∧q≤prt.length∧W.rowIs (w.heap.size+1) 4 G.rules.length (fun r=>.bool (f3 r))∧zdr G ok f3∧f3 l=true∧((ag3=ag∧f3=f2∧(zcw f2 G.rules.length<zcw f G.rules.length∨∀ j,j<q→(G.nk:Int)≤prt.getD j 0→f (prt.getD j 0 - G.nk).toNat=true))∨(ag3=true∧zcw f3 G.rules.length<zcw f G.rules.length))∧Below (w.heap.size+1) w1 W∧W.cell? ⟨wr.heap.size,1,none⟩=some (.slice rr prt.length rrc)) (fun _ y _ _=>prt.length - (intOf y).toNat)
              case atStart=>exact⟨f2,ag,0,rfl,rfl,Nat.zero_le _,uh HrowX,uh Hsnd2,uh Hfl,.inl ⟨rfl,rfl,.inr (fun j hj=>absurd hj (Nat.not_lt_zero _))⟩,uh HbX,uh Hp1⟩
              case round =>
                obtain⟨f3,ag3,q,rfl,rfl,hq,hrow5,hsnd5,hf5,hst5,hb5,p15⟩:=hrel
                have Hrow5:=zaa hrow5;have Hsnd5:=zaa hsnd5;have Hf5:=zaa hf5;have Hs5:=zaa hst5;have Hb5:=zaa hb5
                clear hrow5 hsnd5 hf5 hst5 hb5
                have hst:=zan (uh Hb5) hB (uh Hst)
                have a0:=hst.c0
                have Hgin:=zaa hst.gin
                clear hst
                by_cases hql:q<prt.length
                · have hql':(q:Int)<prt.length:=by omega
                  obtain⟨xb,xo,rfl,hxb,cx⟩:=za3 (zau (zab (uh Hb5) (by omega)) (uh Hrr1)) hql
                  have hx:=uh Hpy _ (za5 hql)
                  have Hxu:=zaa (fun ho hk=>uh Hup f3 (uh Hsnd5) (uh Hf5) ho _ (za5 hql) hk)
                  have Hqs:Hid (∀ j,j<q+1→prt.getD j 0=prt.getD q 0∨j<q):=zaa (fun j hj=>by
                    by_cases e:j=q
                    · exact .inl (by rw[e])
                    · exact .inr (by omega))
                  generalize prt.getD q 0=x at *
                  have hwx:IntKind.i64.wrap (x - (G.kinds.length:Int))=x - G.kinds.length:=by rw[IntKind.wrap_i64];unfold Gm.nk Gm.nr at *;omega
                  by_cases hxk:x<G.kinds.length
                  · have hxn:decide (0≤x - (G.kinds.length:Int))=false:=by rw[decide_eq_false_iff_not];omega
                    have Hs6:Hid ((ag3=ag∧f3=f2∧(zcw f2 G.rules.length<zcw f G.rules.length∨∀ j,j<q+1→(G.nk:Int)≤prt.getD j 0→f (prt.getD j 0 - G.nk).toNat=true))∨(ag3=true∧zcw f3 G.rules.length<zcw f G.rules.length)):=zaa (by
                      rcases uh Hs5 with ⟨h1,h2,h3 | h3⟩ | h
                      · exact .inl ⟨h1,h2,.inl h3⟩
                      · refine .inl ⟨h1,h2,.inr (fun j hj hk2=>?_)⟩
                        rcases uh Hqs j hj with h | h
                        · rw[h] at hk2;unfold Gm.nk at hk2;omega
                        · exact h3 j h hk2
                      · exact .inr h)
                    clear Hs5 Hqs Hxu
                    go_wp2
                    go_quiet (fail)
                    have HrowD:Hid ((wr.drewN nq).rowIs (w.heap.size+1) 4 G.rules.length (fun r=>.bool (f3 r))):=Hrow5
                    have HbD:=zaa (zaq (uh Hb5) nq)
                    have pD:Hid ((wr.drewN nq).cell? _=_):=zaa p15
                    clear Hrow5 Hb5 p15 cx a0 Hgin
                    generalize wr.drewN nq=wd at *
                    go_wp2
                    go_roundw
                    case rel=>exact⟨f3,ag3,q+1,rfl,by go_num,by omega,uh HrowD,uh Hsnd5,uh Hf5,uh Hs6,uh HbD,uh pD⟩
                    case measure=>simp[intOf];omega
                  · obtain ⟨r, hxr⟩ : ∃ r : Nat, x - (G.kinds.length : Int) = r := ⟨(x - G.kinds.length).toNat, by omega⟩
                    have hr2:r<G.rules.length:=by unfold Gm.nk Gm.nr at *;omega
                    have hr2':(r:Int)<G.rules.length:=by omega
                    have hr0:(0:Int)≤r:=by omega
                    rw[hxr] at hwx
                    have Hxu2:=zaa (uh Hxu (uh Hokt) (by unfold Gm.nk;omega))
                    have hxe:(x - (G.nk:Int)).toNat=r:=by unfold Gm.nk;omega
                    rw[hxe] at Hxu2
                    have cr:=(uh Hrow5).cell hr2
                    have fr:=(uh Hrow5).frozen r
                    cases hfr:f3 r
                    · rw [hfr] at cr
                      have Hs6:Hid (zcw (upd f3 r) G.rules.length<zcw f G.rules.length):=zaa (by
                        have:=zkP hr2 hfr
                        rcases uh Hs5 with ⟨h1,h2,h3⟩ | h
                        · rw[h2] at this ⊢
                          rcases uh Hst5 with h | h
                          · rw[h] at this ⊢;exact this
                          · omega
                        · have:=h.2;omega)
                      have Hf6:=zaa (zl2 f3 r l (uh Hf5))
                      clear hfr Hs5 Hqs Hxu hxe
                      go_wp2
                      go_quiet (fail)
                      have HrowD:Hid ((wr.drewN nq).rowIs (w.heap.size+1) 4 G.rules.length (fun r=>.bool (f3 r))):=Hrow5
                      have HbD:=zaa (zaq (uh Hb5) nq)
                      have pD:Hid ((wr.drewN nq).cell? _=_):=zaa p15
                      have crD:(wr.drewN nq).cell? _=_:=cr
                      have frD:(wr.drewN nq).frozen? _=_:=fr
                      clear cr fr
                      clear Hrow5 Hb5 p15 cx a0 Hgin
                      generalize wr.drewN nq=wd at *
                      go_wp2
                      go_roundw
                      case rel=>exact⟨upd f3 r,true,q+1,rfl,by go_num,by omega,zil (uh HrowD) r,uh Hxu2,uh Hf6,.inr ⟨rfl,uh Hs6⟩,(uh HbD).setCell (Nat.le_refl _) _,by rw[World.cell?_of_block (Below.heap_setCell _ _ _ _ (uh Hwr))];exact uh pD⟩
                      case measure=>simp[intOf];omega
                    · rw [hfr] at cr
                      have Hs6:Hid ((ag3=ag∧f3=f2∧(zcw f2 G.rules.length<zcw f G.rules.length∨∀ j,j<q+1→(G.nk:Int)≤prt.getD j 0→f (prt.getD j 0 - G.nk).toNat=true))∨(ag3=true∧zcw f3 G.rules.length<zcw f G.rules.length)):=zaa (by
                        rcases uh Hs5 with ⟨h1,h2,h3 | h3⟩ | h
                        · exact .inl ⟨h1,h2,.inl h3⟩
                        · rcases uh Hst5 with h5 | h5
                          · refine .inl ⟨h1,h2,.inr (fun j hj hk2=>?_)⟩
                            rcases uh Hqs j hj with h | h
                            · rw[h,hxe,← h5,← h2];exact hfr
                            · exact h3 j h hk2
                          · exact .inl ⟨h1,h2,.inl h5⟩
                        · exact .inr h)
                      clear hfr Hs5 Hqs Hxu hxe
                      go_wp2
                      go_quiet (fail)
                      have HrowD:Hid ((wr.drewN nq).rowIs (w.heap.size+1) 4 G.rules.length (fun r=>.bool (f3 r))):=Hrow5
                      have HbD:=zaa (zaq (uh Hb5) nq)
                      have pD:Hid ((wr.drewN nq).cell? _=_):=zaa p15
                      have crD:(wr.drewN nq).cell? _=_:=cr
                      have frD:(wr.drewN nq).frozen? _=_:=fr
                      clear cr fr
                      clear Hrow5 Hb5 p15 cx a0 Hgin
                      generalize wr.drewN nq=wd at *
                      go_wp2
                      go_roundw
                      case rel=>exact⟨f3,ag3,q+1,rfl,by go_num,by omega,uh HrowD,uh Hsnd5,uh Hf5,uh Hs6,uh HbD,uh pD⟩
                      case measure=>simp[intOf];omega
                · obtain rfl:q=prt.length:=by omega
                  have Hs6:Hid ((ag3=false∧f3=f∧∀ j,j<k+1→ze9 G ok f (G.prods.getD j pd0))∨(ag3=true∧zcw f3 G.rules.length<zcw f G.rules.length)):=zaa (by
                    rcases uh Hs5 with ⟨rfl,rfl,h3⟩ | h
                    · refine uh Hst4 ?_
                      rcases h3 with h3 | h3
                      · exact .inr h3
                      · refine .inl ((uh Hfd).2 (fun _ _ x hx hk2=>?_))
                        obtain⟨j,hj,rfl⟩:=zro hx
                        exact h3 j hj hk2
                    · exact .inr h)
                  clear Hs5
                  go_wp2
                  go_roundw
                  case rel=>exact⟨f3,ag3,k+1,rfl,by go_num,by omega,uh Hrow5,uh Hsnd5,uh Hs6,uh Hb5⟩
                  case measure=>simp[intOf];omega
        · obtain rfl:k=G.prods.length:=by omega
          have Hst7:Hid ((ag=false→zjV G ok f2)∧2 * zcw f2 G.rules.length+ziX (.bool ag)<2 * zcw f G.rules.length+1):=zaa (by
            rcases uh Hst2 with ⟨rfl,rfl,h3⟩ | ⟨rfl,h⟩
            · exact⟨fun _=>h3,by simp[ziX]⟩
            · exact⟨(fun h=>by cases h),(by simp[ziX];omega)⟩)
          have hc2:=zh4 (uh Hrow2)
          go_wp2
          go_roundw
          case rel=>exact⟨f2,ag,rfl,uh Hrow2,uh Hsnd2,(uh Hst7).1,uh Hb2⟩
          case measure =>
            have:=(uh Hst7).2
            rw[hc2,hcnt]
            exact this
end Go.Proofs.YtagohbpbgjelaaaGreatDoor

namespace Go.Proofs.YtagohbpbgjelaaaGreatDoor
open Go.RowKit

mutual
def zrW:Ac→Nat
  | .mk _ _ _ ks=>zlN ks+1
def zlN:List Ac→Nat
  | []=>0
  | t::ts=>zrW t+zlN ts
end
theorem zpS (t:Ac):1≤zrW t:=by cases t;unfold zrW;omega
theorem zi4:∀ (ks:List Ac) (i:Nat),i<ks.length→zrW (ks.getD i ac0)≤zlN ks
  | [],i,h=>by simp at h
  | t::ts,0,_=>by unfold zlN;simp
  | t::ts,i+1,h=>by
    have:=zi4 ts i (by simpa using h)
    unfold zlN
    simp at this ⊢
    omega
mutual
theorem zcZ {B B':Nat} {w:World} (hB:B≤B'):∀ (t:Ac) (v0 v1 v2 v3:Value),zdh B w t v0 v1 v2 v3→zdh B' w t v0 v1 v2 v3
  | .mk k p n ks,v0,v1,v2,v3,h=>by
    unfold zdh at h ⊢
    obtain⟨h0,h1,h2,a,c,vs,h3,hts,hc⟩:=h
    refine⟨h0,h1,h2,a,c,vs,h3,zia hB ks vs hts,?_⟩
    rcases hc with h | ⟨b,off,h,hlt,hcs⟩
    · exact .inl h
    · exact .inr ⟨b,off,h,by omega,hcs⟩
theorem zia {B B':Nat} {w:World} (hB:B≤B'):∀ (ts:List Ac) (vs:List Value),zgI B w ts vs→zgI B' w ts vs
  | [],vs,h=>by unfold zgI at h ⊢;exact h
  | t::ts,vs,h=>by
    unfold zgI at h ⊢
    obtain⟨u0,u1,u2,u3,rest,rfl,h1,h2⟩:=h
    exact⟨u0,u1,u2,u3,rest,rfl,zcZ hB t _ _ _ _ h1,zia hB ts rest h2⟩
end
theorem zfl {w w':World} (hb:Below w.heap.size w w') {t:Ac} {v0 v1 v2 v3:Value} (h:zdh w.heap.size w t v0 v1 v2 v3):zdh w'.heap.size w' t v0 v1 v2 v3 :=
  zcZ hb.size _ _ _ _ _ (zbd hb _ _ _ _ _ h)
theorem boxAA (w:World) (v0 v1 v2 v3 u0 u1 u2 u3:Value) (t s:TypeId):∃ w1,w1=(w.alloc (.cells #[v0,v1,v2,v3] t)).alloc (.cells #[u0,u1,u2,u3] s)∧w1.cell? ⟨w.heap.size,0,none⟩=some v0∧w1.cell? ⟨w.heap.size,1,none⟩=some v1∧w1.cell? ⟨w.heap.size,2,none⟩=some v2∧w1.cell? ⟨w.heap.size,3,none⟩=some v3∧w1.cell? ⟨w.heap.size+1,0,none⟩=some u0∧w1.cell? ⟨w.heap.size+1,1,none⟩=some u1∧w1.cell? ⟨w.heap.size+1,2,none⟩=some u2∧w1.cell? ⟨w.heap.size+1,3,none⟩=some u3∧w1.heap.size=w.heap.size+2∧Below w.heap.size w w1:=by
  have h0:(w.alloc (.cells #[v0,v1,v2,v3] t)).heap.size=w.heap.size+1:=by simp
  have h1:((w.alloc (.cells #[v0,v1,v2,v3] t)).alloc (.cells #[u0,u1,u2,u3] s)).heap[w.heap.size]? = some (.cells #[v0,v1,v2,v3] t):=(Below.heap_alloc _ _ _ (by omega)).trans (Go.Deep.blk_alloc_new _ _)
  have h2:((w.alloc (.cells #[v0,v1,v2,v3] t)).alloc (.cells #[u0,u1,u2,u3] s)).heap[w.heap.size+1]? = some (.cells #[u0,u1,u2,u3] s):=by rw[← h0];exact Go.Deep.blk_alloc_new _ _
  refine⟨_,rfl,?_,?_,?_,?_,?_,?_,?_,?_,by simp,((Below.refl _ _).alloc (Nat.le_refl _) _).alloc (by omega) _⟩ <;> (unfold World.cell?;first | (rw[h1];rfl) | (rw[h2];rfl))

set_option maxHeartbeats 2000000 in
set_option maxRecDepth 100000 in
theorem zjq (N:Nat):∀ (t:Ac) (w:World) (v0 v1 v2 v3 u0 u1 u2 u3:Value),zrW t≤N→zb5 t→zdh w.heap.size w t v0 v1 v2 v3→zdh w.heap.size w t u0 u1 u2 u3 →
    Calls Tryz.prog 64 #[.agg #[v0,v1,v2,v3],.agg #[u0,u1,u2,u3]] w fun e w'=>e=.returned (.bool true)∧Below w.heap.size w w':=by
  induction N with
  | zero=>intro t _ _ _ _ _ _ _ _ _ h;have:=zpS t;omega
  | succ N ih =>
    rintro⟨k,p,n,ks⟩ w v0 v1 v2 v3 u0 u1 u2 u3 hs hsh hA hC
    unfold zdh at hA hC
    obtain⟨rfl,rfl,rfl,ka,kc,vs,rfl,hts,hkc⟩:=hA
    obtain⟨rfl,rfl,rfl,la,lc,us,rfl,hus,hlc⟩:=hC
    have hsz:zlN ks≤N:=by unfold zrW at hs;omega
    unfold zb5 at hsh
    have hlen:=hsh.1
    have Hsh:=zaa hsh.2
    clear hsh
    obtain⟨w1,hw1,c0,c1,c2,c3,d0,d1,d2,d3,hs1,hb1⟩:=boxAA w (.int .i64 k) (.int .i64 p) (.string (bs n)) (.slice ka ks.length kc) (.int .i64 k) (.int .i64 p) (.string (bs n)) (.slice la ks.length lc) 87 87
    have Hih:=zaa ih;have Hts:=zaa hts;have Hkc:=zaa hkc;have Hus:=zaa hus;have Hlc:=zaa hlc;have Hb1:=zaa hb1
    clear ih hts hkc hus hlc hb1 hs
    have hnot:=zaG
    generalize bs n=s at *
    go_enter Tryz.func64,Tryz.ntmps64
    go_wp2
    rw[← hw1]
    clear hw1
    have Hz3:=zaa c3;have Hy3:=zaa d3;have Hb2:=zaa (uh Hb1)
    have hs2:=hs1
    clear c0 c1 c2 c3 d0 d1 d2 d3 Hb1 hs1
    go_loopw [5] (fun x wr=>∃ i:Nat,x=.int .i64 i∧i≤ks.length∧Below w1.heap.size w1 wr) (fun x _=>ks.length - (intOf x).toNat)
    case atStart=>exact⟨0,rfl,Nat.zero_le _,Below.refl _ _⟩
    case round =>
      obtain⟨i,rfl,hi,hb⟩:=hrel
      have z3:=(hb.cell (p:=⟨w.heap.size,3,none⟩) (by show w.heap.size<w1.heap.size;omega)).trans (uh Hz3)
      have y3:=(hb.cell (p:=⟨w.heap.size+1,3,none⟩) (by show w.heap.size+1<w1.heap.size;omega)).trans (uh Hy3)
      have hb2:=(uh Hb2).trans (zab hb (by omega))
      have Hb:=zaa hb;have HbW:=zaa hb2
      clear hb hb2
      by_cases hlt:i<ks.length
      · have hlt':(i:Int)<ks.length:=by omega
        obtain⟨u0,u1,u2,u3,e0,e1,e2,e3,hu⟩:=zei ks vs (uh Hts) i hlt
        obtain⟨x0,x1,x2,x3,f0,f1,f2,f3,hx⟩:=zei ks us (uh Hus) i hlt
        rcases uh Hkc with h | ⟨b,off,rfl,hbB,hcs⟩
        · rw[h] at hlt;simp at hlt
        rcases uh Hlc with h | ⟨b',off',rfl,hbB',hcs'⟩
        · rw[h] at hlt;simp at hlt
        have hbW:=(uh HbW)
        have c0:=(hbW.cell (p:=⟨b,off+i * 4,none⟩) hbB).trans (hcs _ _ e0)
        have c1:=(hbW.cell (p:=⟨b,off+i * 4+1,none⟩) hbB).trans (hcs _ _ e1)
        have c2:=(hbW.cell (p:=⟨b,off+i * 4+2,none⟩) hbB).trans (hcs _ _ e2)
        have c3:=(hbW.cell (p:=⟨b,off+i * 4+3,none⟩) hbB).trans (hcs _ _ e3)
        have d0:=(hbW.cell (p:=⟨b',off'+i * 4,none⟩) hbB').trans (hcs' _ _ f0)
        have d1:=(hbW.cell (p:=⟨b',off'+i * 4+1,none⟩) hbB').trans (hcs' _ _ f1)
        have d2:=(hbW.cell (p:=⟨b',off'+i * 4+2,none⟩) hbB').trans (hcs' _ _ f2)
        have d3:=(hbW.cell (p:=⟨b',off'+i * 4+3,none⟩) hbB').trans (hcs' _ _ f3)
        have HC:Hid (∀ W:World,Below w.heap.size w W→Calls Tryz.prog 64 #[.agg #[u0,u1,u2,u3],.agg #[x0,x1,x2,x3]] W fun e w'=>e=.returned (.bool true)∧Below W.heap.size W w'):=zaa (fun W hW=>by
          have hU:=zfl hW hu
          have hX:=zfl hW hx
          exact uh Hih (ks.getD i ac0) W _ _ _ _ _ _ _ _ (by have:=zi4 ks i hlt;omega) (zfu ks i hlt (uh Hsh)) hU hX)
        obtain⟨y0,y1,y2,ya,m3,mc,rfl,rfl,rfl,rfl⟩:=zdg hu
        obtain⟨t0,t1,t2,ta,k3,kd,rfl,rfl,rfl,rfl⟩:=zdg hx
        clear hu hx hbW e0 e1 e2 e3 f0 f1 f2 f3 hcs hcs'
        have HS:Hid (∀ W:World,Below wr.heap.size wr W→W.cell? ⟨w.heap.size,3,none⟩=some (.slice (some ⟨b,off,none⟩) ks.length kc)∧W.cell? ⟨w.heap.size+1,3,none⟩=some (.slice (some ⟨b',off',none⟩) ks.length lc)∧W.cell? ⟨b,off+i * 4,none⟩=some (.int .i64 y0)∧W.cell? ⟨b,off+i * 4+1,none⟩=some (.int .i64 y1)∧W.cell? ⟨b,off+i * 4+2,none⟩=some (.string y2)∧W.cell? ⟨b,off+i * 4+3,none⟩=some (.slice ya m3 mc)∧W.cell? ⟨b',off'+i * 4,none⟩=some (.int .i64 t0)∧W.cell? ⟨b',off'+i * 4+1,none⟩=some (.int .i64 t1)∧W.cell? ⟨b',off'+i * 4+2,none⟩=some (.string t2)∧W.cell? ⟨b',off'+i * 4+3,none⟩=some (.slice ta k3 kd)):=zaa (fun W hW=>by
          have hl:=(uh Hb).size
          have hl2:=(uh HbW).size
          exact⟨(hW.cell (p:=⟨w.heap.size,3,none⟩) (by show w.heap.size<wr.heap.size;omega)).trans z3,(hW.cell (p:=⟨w.heap.size+1,3,none⟩) (by show w.heap.size+1<wr.heap.size;omega)).trans y3,(hW.cell (p:=⟨b,off+i * 4,none⟩) (by show b<wr.heap.size;omega)).trans c0,(hW.cell (p:=⟨b,off+i * 4+1,none⟩) (by show b<wr.heap.size;omega)).trans c1,(hW.cell (p:=⟨b,off+i * 4+2,none⟩) (by show b<wr.heap.size;omega)).trans c2,(hW.cell (p:=⟨b,off+i * 4+3,none⟩) (by show b<wr.heap.size;omega)).trans c3,(hW.cell (p:=⟨b',off'+i * 4,none⟩) (by show b'<wr.heap.size;omega)).trans d0,(hW.cell (p:=⟨b',off'+i * 4+1,none⟩) (by show b'<wr.heap.size;omega)).trans d1,(hW.cell (p:=⟨b',off'+i * 4+2,none⟩) (by show b'<wr.heap.size;omega)).trans d2,(hW.cell (p:=⟨b',off'+i * 4+3,none⟩) (by show b'<wr.heap.size;omega)).trans d3⟩)
        have hS:Below wr.heap.size wr wr.drew:=(Below.refl _ _).drew
        go_wp2
        clear z3 y3 c0 c1 c2 c3 d0 d1 d2 d3
        go_region_held3 (fun W:World=>W.cell? ⟨w.heap.size,3,none⟩=some (.slice (some ⟨b,off,none⟩) ks.length kc)∧W.cell? ⟨w.heap.size+1,3,none⟩=some (.slice (some ⟨b',off',none⟩) ks.length lc)∧W.cell? ⟨b,off+i * 4,none⟩=some (.int .i64 y0)∧W.cell? ⟨b,off+i * 4+1,none⟩=some (.int .i64 y1)∧W.cell? ⟨b,off+i * 4+2,none⟩=some (.string y2)∧W.cell? ⟨b,off+i * 4+3,none⟩=some (.slice ya m3 mc)∧W.cell? ⟨b',off'+i * 4,none⟩=some (.int .i64 t0)∧W.cell? ⟨b',off'+i * 4+1,none⟩=some (.int .i64 t1)∧W.cell? ⟨b',off'+i * 4+2,none⟩=some (.string t2)∧W.cell? ⟨b',off'+i * 4+3,none⟩=some (.slice ta k3 kd))
          (first | exact uh HS _ hS | fail)
          (first
            | (go_at_call 64;refine(uh HC _ ((uh HbW).trans (zab hS (uh HbW).size))).mono ?_;rintro e W3 ⟨rfl,hb3⟩;have hS:=hS.trans (zab hb3 hS.size);clear hb3)
            | fail)
        all_goals
          go_wp2
          go_roundw
          case rel=>exact⟨i+1,by go_num,by omega,(uh Hb).trans (zab hS (uh Hb).size)⟩
          case measure=>simp[intOf];omega
      · obtain rfl:i=ks.length:=by omega
        go_wp2
        go_ret
        exact⟨rfl,uh HbW⟩
end Go.Proofs.YtagohbpbgjelaaaGreatDoor

namespace Go.Proofs.YtagohbpbgjelaaaGreatDoor
open Go.RowKit

def zqE (x y:Int):Bool:=decide ((y=0∧x=0)∨(1≤y∧y≤3∧0<x))
set_option maxRecDepth 100000 in
theorem zoR (x y:Int) (w:World):Calls Tryz.prog 116 #[.agg #[.int .i64 x,.int .i64 y]] w fun e w'=>e=.returned (.bool (zqE x y))∧Below w.heap.size w w':=by
  have Hb:=zaa ((Below.refl w.heap.size w).alloc (Nat.le_refl _) (.cells #[.int .i64 x,.int .i64 y] 98))
  have hnot:=zaG
  go_enter Tryz.func116,Tryz.ntmps116
  go_wp2
  all_goals go_ret
  all_goals refine⟨zbQ ?_,uh Hb⟩
  all_goals (unfold zqE;rw[Bool.eq_iff_iff];simp at *;omega)
theorem zfh (ka pa ra qa:Option Addr) (nk kc pn pc nr rc qn qc:Nat) (st x:Int) (w:World):Calls Tryz.prog 65 #[.agg #[.slice ka nk kc,.slice pa pn pc,.slice ra nr rc,.slice qa qn qc,.int .i64 st],.int .i64 x] w fun e w'=>e=.returned (.bool (decide (0≤x∧x<nr)))∧Below w.heap.size w w':=by
  have Hb:=zaa ((Below.refl w.heap.size w).alloc (Nat.le_refl _) (.cells #[.slice ka nk kc,.slice pa pn pc,.slice ra nr rc,.slice qa qn qc,.int .i64 st] 26))
  have hnot:=zaG
  go_enter Tryz.func65,Tryz.ntmps65
  go_wp2
  all_goals go_ret
  all_goals refine⟨zbQ ?_,uh Hb⟩
  all_goals (rw[Bool.eq_iff_iff];simp at *;omega)
set_option maxHeartbeats 1000000 in
set_option maxRecDepth 100000 in
theorem zmJ (ka pa ra qa:Option Addr) (nk kc pc nr rc qn qc:Nat) (st:Int) (l:List (Int × Int)) (hnk:nk≤281474976710656) (B:Nat) (w:World) (hB:B≤w.heap.size) (hrow:zpY B w pa l) :
    Calls Tryz.prog 73 #[.agg #[.slice ka nk kc,.slice pa l.length pc,.slice ra nr rc,.slice qa qn qc,.int .i64 st]] w fun e w'=>e=.returned (.bool (decide (l.length=nk) && zbs l))∧Below w.heap.size w w':=by
  obtain⟨g0,g1,g2,g3,g4,hs1,hb1⟩:=zrE w (.slice ka nk kc) (.slice pa l.length pc) (.slice ra nr rc) (.slice qa qn qc) (.int .i64 st) 26
  have hnot:=zaG
  by_cases hl:l.length=nk
  · subst hl
    have hne:((l.length:Int) != l.length)=false:=by simp
    have Hyes:Hid (zge l l.length→zbs l=true):=zaa fun h=>decide_eq_true h
    have Hno:Hid (¬ zge l l.length→zbs l=false):=zaa fun h=>decide_eq_false h
    have hR:(decide (l.length=l.length) && zbs l)=zbs l:=by simp
    rw[hR]
    clear hR
    generalize zbs l=R at *
    have Hrow:=zaa (zeN (zab hb1 hB) hrow)
    have Hb1:=zaa hb1
    clear hrow hb1
    go_enter Tryz.func73,Tryz.ntmps73
    go_wp2
    generalize w.alloc (.cells #[.slice ka l.length kc,.slice pa l.length pc,.slice ra nr rc,.slice qa qn qc,.int .i64 st] 26)=w1 at *
    have hw1:w1.heap.size=w.heap.size+1:=hs1
    go_loopw [15] (fun x wr=>∃ k:Nat,x=.int .i64 k∧k≤l.length∧zge l k∧Below w1.heap.size w1 wr) (fun x _=>l.length - (intOf x).toNat)
    case atStart=>exact⟨0,rfl,Nat.zero_le _,(fun i hi=>absurd hi (Nat.not_lt_zero _)),Below.refl _ _⟩
    case round =>
      obtain⟨k,rfl,hk,hgood,hbel⟩:=hrel
      have Hg:=zaa hgood;have Hbel:=zaa hbel
      have hszr:=hbel.size
      clear hgood hbel g0 g1 g2 g3 g4
      by_cases hlt:k<l.length
      · have hlt':(k:Int)<l.length:=by omega
        obtain⟨b,off,rfl,hb,c0,c1⟩:=zfe (zeN (zab (uh Hbel) (by omega)) (uh Hrow)) hlt
        have Hs:=zaa (fun(h:lvlB k (l.getD k (0,0))=true)=>show zge l (k+1) from fun i hi=>by
          by_cases e:i=k
          · subst e;exact h
          · exact uh Hg i (by omega))
        have Hn:=zaa (fun(h:lvlB k (l.getD k (0,0))=false)=>uh Hno (fun hd=>by rw[hd k hlt] at h;cases h))
        generalize l.getD k (0,0)=p at *
        obtain⟨x,y⟩:=p
        simp only at c0 c1
        have Hs2:=zaa (fun(h:(x=0∧y=0)∨(1≤x∧1≤y∧y≤3∧2≤k))=>uh Hs (decide_eq_true h))
        have Hn2:=zaa (fun(h:¬ ((x=0∧y=0)∨(1≤x∧1≤y∧y≤3∧2≤k)))=>uh Hn (decide_eq_false h))
        clear Hs Hn
        go_wp2_with fail
        refine(zoR x y _).mono ?_
        rintro e w3 ⟨rfl,hb3⟩
        have hb2:Below wr.heap.size wr (wr.alloc (.cells #[.int .i64 x,.int .i64 y] 98)):=(Below.refl _ _).alloc (Nat.le_refl _) _
        have hb4:=hb2.trans (zab hb3 (by simp))
        have d0:w3.cell? ⟨wr.heap.size,0,none⟩=some (.int .i64 x):=(hb3.cell (p:=⟨wr.heap.size,0,none⟩) (by simp)).trans (by unfold World.cell?;rw[Go.Deep.blk_alloc_new];rfl)
        have Hb3:=zaa ((uh Hbel).trans (zab hb4 (by omega)))
        have Hb5:=zaa ((uh Hb1).trans (zab (uh Hb3) (by omega)))
        clear hb3 hb2 hb4
        cases hpr:zqE x y
        · have h1:=of_decide_eq_false hpr
          go_wp2
          go_ret
          rw[uh Hn2 (by omega)]
          exact⟨rfl,uh Hb5⟩
        · have h1:=of_decide_eq_true hpr
          go_wp2
          all_goals first
            | (go_ret;rw[uh Hn2 (by first | omega | (simp at *;omega))];exact⟨rfl,uh Hb5⟩)
            | (go_roundw
               case rel=>exact⟨k+1,by go_num,by omega,uh Hs2 (by first | omega | (simp at *;omega)),uh Hb3⟩
               case measure=>simp[intOf];omega)
      · obtain rfl:k=l.length:=by omega
        have Hr:Hid (R=true):=zaa (uh Hyes (uh Hg))
        go_wp2
        go_ret
        rw[uh Hr]
        exact⟨rfl,(uh Hb1).trans (zab (uh Hbel) (by omega))⟩
  · have hne:((l.length:Int) != nk)=true:=by simp;omega
    have hR:(decide (l.length=nk) && zbs l)=false:=by simp[hl]
    rw[hR]
    clear hR
    go_enter Tryz.func73,Tryz.ntmps73
    go_wp2
    go_ret
    exact⟨rfl,hb1⟩
end Go.Proofs.YtagohbpbgjelaaaGreatDoor

namespace Go.Proofs.YtagohbpbgjelaaaGreatDoor
open Go.RowKit

set_option maxHeartbeats 1000000 in
set_option maxRecDepth 100000 in
theorem zgN (ka pa ra qa:Option Addr) (nk kc pn pc nr rc qn qc:Nat) (st:Int) (hn:nk+nr≤281474976710656) (ro:Option Addr) (rowc:Nat) (row:List Int) (hl:row.length≤281474976710656) (B:Nat) (w:World) (hB:B≤w.heap.size) (hrow:NRow B w ro row) :
    Calls Tryz.prog 45 #[.agg #[.slice ka nk kc,.slice pa pn pc,.slice ra nr rc,.slice qa qn qc,.int .i64 st],.slice ro row.length rowc] w fun e w'=>e=.returned (.bool (decide (zbV (nk+nr) row row.length)))∧Below w.heap.size w w':=by
  obtain⟨g0,g1,g2,g3,g4,hs1,hb1⟩:=zrE w (.slice ka nk kc) (.slice pa pn pc) (.slice ra nr rc) (.slice qa qn qc) (.int .i64 st) 26
  have hnot:=zaG
  have Hyes:Hid (zbV (nk+nr) row row.length→decide (zbV (nk+nr) row row.length)=true):=zaa fun h=>decide_eq_true h
  have Hno:Hid (¬ zbV (nk+nr) row row.length→decide (zbV (nk+nr) row row.length)=false):=zaa fun h=>decide_eq_false h
  generalize decide (zbV (nk+nr) row row.length)=R at *
  have Hrow:=zaa (zau (zab hb1 hB) hrow)
  have Hb1:=zaa hb1
  have Hg:=zaa (And.intro g0 g2)
  clear hrow hb1 g0 g1 g2 g3 g4
  have hwn:IntKind.i64.wrap ((nk:Int)+nr)=nk+nr:=by rw[IntKind.wrap_i64];omega
  go_enter Tryz.func45,Tryz.ntmps45
  go_wp2
  generalize w.alloc (.cells #[.slice ka nk kc,.slice pa pn pc,.slice ra nr rc,.slice qa qn qc,.int .i64 st] 26)=w1 at *
  have hw1:w1.heap.size=w.heap.size+1:=hs1
  go_loopw [9] (fun x wr=>∃ k:Nat,x=.int .i64 k∧k≤row.length∧zbV (nk+nr) row k∧Below w1.heap.size w1 wr) (fun x _=>row.length - (intOf x).toNat)
  case atStart=>exact⟨0,rfl,Nat.zero_le _,(fun i hi=>absurd hi (Nat.not_lt_zero _)),Below.refl _ _⟩
  case round =>
    obtain⟨k,rfl,hk,hgood,hbel⟩:=hrel
    have g0:=(hbel.cell (p:=⟨w.heap.size,0,none⟩) (by show w.heap.size<_;omega)).trans (uh Hg).1
    have g2:=(hbel.cell (p:=⟨w.heap.size,2,none⟩) (by show w.heap.size<_;omega)).trans (uh Hg).2
    have Hin:=zaa hgood;have Hbel:=zaa hbel
    have hszr:=hbel.size
    have Hb5:=zaa ((uh Hb1).trans (zab hbel (by omega)))
    clear hgood hbel
    by_cases hlt:k<row.length
    · have hlt':(k:Int)<row.length:=by omega
      obtain⟨b,off,rfl,hb,c0⟩:=za3 (zau (zab (uh Hbel) (by omega)) (uh Hrow)) hlt
      have Hs:=zaa (fun(h:1≤row.getD k 0∧row.getD k 0<(nk+nr:Nat))=>show zbV (nk+nr) row (k+1) from fun i hi=>by
        by_cases e:i=k
        · subst e;exact h
        · exact uh Hin i (by omega))
      have Hn:=zaa (fun(h:¬ (1≤row.getD k 0∧row.getD k 0<(nk+nr:Nat)))=>uh Hno (fun hd=>h (hd k hlt)))
      generalize row.getD k 0=x at *
      go_wp2
      all_goals first
        | (go_ret;rw[uh Hn (by first | omega | (simp at *;omega))];exact⟨rfl,uh Hb5⟩)
        | (go_roundw
           case rel=>exact⟨k+1,by go_num,by omega,uh Hs (by first | omega | (simp at *;omega)),uh Hbel⟩
           case measure=>simp[intOf];omega)
    · obtain rfl:k=row.length:=by omega
      have Hr:Hid (R=true):=zaa (uh Hyes (uh Hin))
      go_wp2
      go_ret
      rw[uh Hr]
      exact⟨rfl,uh Hb5⟩
end Go.Proofs.YtagohbpbgjelaaaGreatDoor

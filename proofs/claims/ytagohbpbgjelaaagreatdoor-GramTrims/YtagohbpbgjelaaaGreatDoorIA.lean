/- The code's leasts, walked. -/
import Derived.Test.YtagohbpbgjelaaaGreatDoorHQ
namespace Go.Proofs.YtagohbpbgjelaaaGreatDoor
open Go.RowKit

set_option maxHeartbeats 2000000 in
set_option maxRecDepth 100000 in
theorem zlt (G : Gm) (hG : GOk G) (ka pa ra qa : Option Addr) (kc pc rc qc gb ob ub : Nat) (M : Nat) (w : World) (hM : M ≤ w.heap.size) (hg : GrAt M w G ka kc pa pc ra rc qa qc gb ob ub) :
    Calls Tryz.prog 66 #[.pointer (some ⟨gb,0,none⟩)] w fun e w'=>∃ (b:Nat) (L:Nat→Int),e=.returned (.slice (some ⟨b,0,none⟩) G.rules.length G.rules.length)∧w'.rowIs b 3 G.rules.length (fun r=>.int .i64 (L r))∧zfm G L∧w.heap.size≤b∧Below w.heap.size w w':=by
  have c2:w.cell? ⟨gb,2,none⟩=some (.slice ra G.rules.length rc):=by unfold World.cell?;rw[hg.box];rfl
  have c3:w.cell? ⟨gb,3,none⟩=some (.slice qa G.prods.length qc):=by unfold World.cell?;rw[hg.box];rfl
  have hgl:gb<w.heap.size:=by have:=hg.lt;omega
  have hr1:=hG.r1;have hr2:=hG.r2;have hps:=hG.ps
  unfold Gm.nr at hr1 hr2
  have hb1:Below w.heap.size w (w.alloc (.cells #[.int .i64 (-1)] 3)):=(Below.refl _ _).alloc (Nat.le_refl _) _
  have c2a:=(hb1.cell (p:=⟨gb,2,none⟩) hgl).trans c2
  have Hg:=zaa hg
  clear hg
  go_enter Tryz.func66,Tryz.ntmps66
  go_wp2_with fail
  have hs1:(w.alloc (.cells #[.int .i64 (-1)] 3)).heap.size=w.heap.size+1:=by simp
  refine(zgX w.heap.size G.rules.length (-1) hr1 hr2 _ (Go.Deep.blk_alloc_new _ _)).mono ?_
  rintro e w2 ⟨bb,rfl,hbb,hbl,hb2⟩
  have hbw2:Below w.heap.size w w2:=hb1.trans (zab hb2 (by omega))
  have hs2:=hb2.size
  have hbb2:bb<w2.heap.size:=(Array.getElem?_eq_some_iff.1 hbb).1
  have d3:=(hbw2.cell (p:=⟨gb,3,none⟩) hgl).trans c3
  have HRc:Hid (∀ W,Below w2.heap.size w2 W→Calls Tryz.prog 87 #[.pointer (some ⟨gb,0,none⟩)] W fun e w'=>∃ (b:Nat) (ml:List Int),e=.returned (.slice (some ⟨b,0,none⟩) G.prods.length G.prods.length)∧ml.length=G.prods.length∧(∀ q,q<G.prods.length→atZ ml q=((rlN G q).length:Int))∧w'.ownsRow W.heap.size 3 1 (.slice (some ⟨b,0,none⟩) G.prods.length G.prods.length) ml.length (zal ml)∧Below W.heap.size W w'):=zaa (fun W hW=>zel G hG ka pa ra qa kc pc rc qc gb ob ub M W (by have:=hW.size;omega) (zaJ (uh Hg) (zab (hbw2.trans (zab hW (by omega))) hM)))
  have hmk:=fun w=>run_make_row' (P:=Tryz.prog) 27 3 (.int .i64 0) 8 Tryz.underlying27 zc0 rfl .i64 .i64 G.prods.length (by omega) (by omega) w
  have Hbw2:=zaa hbw2;have Hbb:=zaa hbb
  have HS:Hid (∀ W,Below w2.heap.size w2 W→W.cell? ⟨gb,3,none⟩=some (.slice qa G.prods.length qc)∧True):=zaa (fun W hW=>⟨(hW.cell (p:=⟨gb,3,none⟩) (by show gb<_;omega)).trans d3,trivial⟩)
  have hS:Below w2.heap.size w2 w2:=Below.refl _ _
  have hS2:Below w2.heap.size w2 (w2.alloc (.cells (madeCells #[.int .i64 0] G.prods.length) 3)):=(Below.refl _ _).alloc (Nat.le_refl _) _
  clear hb1 hb2 c2 c3 c2a hbw2 hbb
  go_wp2_with fail
  go_cut [4,5] (fun v4 v5 W=>∃ mb sb ml,v4=.slice (some ⟨mb,0,none⟩) G.prods.length G.prods.length∧v5=.slice (some ⟨sb,0,none⟩) G.prods.length G.prods.length∧ml.length=G.prods.length∧(∀ q,q<G.prods.length→atZ ml q=((rlN G q).length:Int))∧RcM w2 W G.prods.length mb sb ml)
  case first =>
    go_region_held3 (fun W:World=>W.cell? ⟨gb,3,none⟩=some (.slice qa G.prods.length qc)∧True)
      (first | exact uh HS _ hS | exact uh HS _ hS.drew | exact uh HS _ hS2 | exact uh HS _ hS2.drew | exact uh HS _ (hS.alloc hS.size _) | exact uh HS _ (hS.drew.alloc hS.size _) | fail)
      (first
        | (go_at_call 87;first
            | (refine(uh HRc w2.drew hS.drew).mono ?_;rintro e W3 ⟨mb,ml,rfl,hml,hat,hom,hb3⟩;have hb3:Below w2.heap.size w2 W3:=⟨hb3.os,hb3.tape,hb3.output,hb3.size,hb3.block⟩;have HRm:=zaa (rcm_a (w:=w2) hom hb3);have hS:=hb3;clear hom hb3)
            | (refine(uh HRc (w2.alloc (.cells (madeCells #[.int .i64 0] G.prods.length) 3)).drew hS2.drew).mono ?_;rintro e W3 ⟨mb,ml,rfl,hml,hat,hom,hb3⟩;have hb3:Below (w2.alloc (.cells (madeCells #[.int .i64 0] G.prods.length) 3)).heap.size (w2.alloc (.cells (madeCells #[.int .i64 0] G.prods.length) 3)) W3:=⟨hb3.os,hb3.tape,hb3.output,hb3.size,hb3.block⟩;have HRm:=zaa (rcm_b (w:=w2) hom hb3);have hS:=(uh HRm).bl;clear hom hb3)
            | fail)
        | fail)
    all_goals
      go_wp2_with fail
      go_meet
      first
        | exact⟨mb,_,ml,rfl,rfl,hml,hat,uh HRm⟩
  case rest =>
    obtain⟨mb,sb,ml,rfl,rfl,hml,hat,hR⟩:=hcut
    have HNL:=zaa (zjz wc)
    have hbc:Below w.heap.size w wc:=(uh Hbw2).trans (zab hR.bl (uh Hbw2).size)
    have Hbc:=zaa hbc;have HR:=zaa hR;have Hml:=zaa hml;have Hat:=zaa hat
    have hszc:=hbc.size
    have f3:=(hbc.cell (p:=⟨gb,3,none⟩) hgl).trans (show w.cell? ⟨gb,3,none⟩=some (.slice qa G.prods.length qc) by unfold World.cell?;rw[(uh Hg).box];rfl)
    have hal:Below wc.heap.size wc (wc.alloc (.cells #[.slice none 0 0,.map none] 191)):=(Below.refl _ _).alloc (Nat.le_refl _) _
    have f3a:=(hal.cell (p:=⟨gb,3,none⟩) (by show gb<_;omega)).trans f3
    have hLs:LsAt w.heap.size w (wc.alloc (.cells #[.slice none 0 0,.map none] 191)) G.rules.length G.prods.length bb mb sb wc.heap.size (fun _ => -1) (fun _=>0) ml (· = wc.heap.size) (fun _=>none):=by
      have hsR:=hR.bl.size
      have hbbc:wc.heap[bb]? = _:=(hR.bl.block _ hbb2).trans (uh Hbb)
      have hm1:=(hR.ms.lt mb rfl)
      have hs1':=hR.sm.lt
      refine⟨(zim hbbc).of_block (hal.block _ (Array.getElem?_eq_some_iff.1 hbbc).1),zaK (zd9 hR.ms hal) (by omega),hml,hR.sm.of_block (hal.block _ hs1'),⟨[],?_,fun i h1 h2=>by simp at h2,fun r v=>⟨fun h=>(by cases h),fun⟨t,h,_⟩=>(by cases h)⟩⟩,by omega,by omega,by omega,by omega,by have:=hR.lo;omega,hR.ne,fun k hk=>by rw[hk];exact hszc,by omega,by omega,by have:=hR.lo;omega,hbc.trans (zab hal hszc)⟩
      exact Wk.lst_new wc
    have HLs:=zaa hLs
    clear hml hat hR hbc hLs HRc HS hS hS2 hmk
    go_wp2_with fail
    refine(uh HNL).mono ?_
    rintro e w5 ⟨rfl,rfl⟩
    have hs5:w.heap.size≤(wc.alloc (.cells #[.slice none 0 0,.map none] 191)).heap.size:=by have:=hal.size;omega
    clear hal HNL f3
    generalize htb:wc.heap.size=tb at *
    generalize wc.alloc (.cells #[.slice none 0 0,.map none] 191)=w5 at *
    go_wp2
    go_loopw [41] (fun x V=>∃ (k:Nat) (H:Nat→Option Int) (O:Nat→Prop),x=.int .i64 k∧k≤G.prods.length∧LsI G (fun _ => -1) (fun q=>(rlN G q).length) (kcN G) H (zoo G k)∧LsAt w.heap.size w V G.rules.length G.prods.length bb mb sb tb (fun _ => -1) (fun q=>if q<k then kcN G q else 0) ml O H) (fun x _=>G.prods.length - (intOf x).toNat)
    case atStart=>exact⟨0,fun _=>none,_,rfl,Nat.zero_le _,by unfold zoo;rw[List.drop_zero];exact zlu,by simpa using uh HLs⟩
    case round =>
      clear HLs
      obtain⟨k,H,O,rfl,hk,hI,hA⟩:=hrel
      have hszv:w.heap.size≤wr.heap.size:=hA.bl.size
      by_cases hlt:k<G.prods.length
      · have hlt':(k:Int)<G.prods.length:=by omega
        have hgr:=zaJ (uh Hg) (zab hA.bl hM)
        obtain⟨b,off,rfl,hbB,rr,rrc,x3,x4,x5,x6,n6,c6,hrr,-,q0,q1,q2,q3,q4,q5,q6⟩:=zbz hgr.gin.prods hlt
        have hpl:=hG.pl _ (zag hlt)
        have hpr:=hG.pr _ (zag hlt)
        have hkc:kcN G k=((G.prods.getD k pd0).right.length:Int) - (rlN G k).length:=rfl
        have hnn:=znp G k
        have hIn:=zpg hlt hI (by omega)
        unfold lfQ at hIn
        generalize G.prods.getD k pd0=p at *
        obtain⟨pl,prt,plv,pac⟩:=p
        simp only at q0 q1 q2 hpl hpr hkc hIn
        obtain⟨l,rfl⟩:∃ l:Nat,pl=(l:Int):=⟨pl.toNat,by omega⟩
        rw[Int.toNat_natCast] at hIn
        have hl':l<G.rules.length:=by have:=hpl.2;unfold Gm.nr at this;omega
        obtain⟨W2,hW2⟩:∃ W2,W2=wr.alloc (.cells #[.int .i64 (l:Int),.slice rr prt.length rrc,.int .i64 plv,.int .i64 x3,.int .i64 x4,.string x5,.slice x6 n6 c6] 89):=⟨_,rfl⟩
        have hb2:Below wr.heap.size wr W2:=by rw[hW2];exact(Below.refl _ _).alloc (Nat.le_refl _) _
        have hpb:W2.heap[wr.heap.size]? = some (.cells #[.int .i64 (l:Int),.slice rr prt.length rrc,.int .i64 plv,.int .i64 x3,.int .i64 x4,.string x5,.slice x6 n6 c6] 89):=by rw[hW2];exact Go.Deep.blk_alloc_new _ _
        have hA2:=zcC hA hszv hb2
        have p1:W2.cell? ⟨wr.heap.size,1,none⟩=some (.slice rr prt.length rrc):=by unfold World.cell?;rw[hpb];rfl
        have p0:W2.cell? ⟨wr.heap.size,0,none⟩=some (.int .i64 (l:Int)):=by unfold World.cell?;rw[hpb];rfl
        have mk:W2.cell? ⟨mb,k,none⟩=some (.int .i64 ((rlN G k).length:Int)):=by
          have hms:=hA2.ms
          rw[hA2.mln] at hms
          rw[hms.cellAt k (by omega)]
          have emk:ml.getD k 0=((rlN G k).length:Int):=uh Hat k hlt
          unfold zal
          rw[List.getElem?_map,List.getElem?_eq_getElem (by rw[hA2.mln];exact hlt),← emk,List.getD_eq_getElem?_getD,List.getElem?_eq_getElem (by rw[hA2.mln];exact hlt)]
          rfl
        have sk:=hA2.sm.cell hlt
        have fk:=hA2.sm.frozen k
        have hA3:=znf hA2 k (kcN G k)
        have esu:upZ (fun q=>if q<k then kcN G q else 0) k (kcN G k)=fun q=>if q<k+1 then kcN G q else 0:=by
          funext q
          unfold upZ
          by_cases e:q=k
          · subst e;rw[if_pos rfl,if_pos (by omega)]
          · rw[if_neg e]
            show (if q<k then kcN G q else 0)=_
            by_cases e2:q<k
            · rw[if_pos e2,if_pos (by omega)]
            · rw[if_neg e2,if_neg (by omega)]
        rw[esu] at hA3
        have hnsb:¬ mb=sb:=hA2.n3
        have hpn:¬ wr.heap.size=sb:=by have:=hA.sm.lt;omega
        have HA3:=zaa hA3;have HI:=zaa hIn;have Hpb:=zaa hpb
        have hs2z:w.heap.size≤W2.heap.size:=by have:=hb2.size;omega
        generalize hrl:(rlN G k).length=rl at *
        generalize hkn:kcN G k=kn at *
        have hwr:IntKind.i64.wrap ((prt.length:Int) - rl)=kn:=by rw[IntKind.wrap_i64];omega
        have hkn64:kn≤64:=by omega
        clear hA hI hgr hA2 hA3 hIn hb2 hpb esu hkc
        have sk:W2.cell? ⟨sb,k,none⟩=some (.int .i64 0):=by simpa using sk
        go_wp2_with fail
        rw[← hW2]
        clear hW2
        generalize hpbe:wr.heap.size=pb at *
        go_region
        have HA4:=zaa (zcC (uh HA3) (by simp;omega) (Below.refl _ _).drew)
        have p0':(W2.setCell ⟨sb,k,none⟩ (.int .i64 kn)).drew.cell? ⟨pb,0,none⟩=some (.int .i64 (l:Int)):=(World.cell?_of_block (w:=W2) (zaj W2 hpn)).trans p0
        have mk':(W2.setCell ⟨sb,k,none⟩ (.int .i64 kn)).drew.cell? ⟨mb,k,none⟩=some (.int .i64 (rl:Int)):=(World.cell?_of_block (w:=W2) (zaj W2 hnsb)).trans mk
        have sk':(W2.setCell ⟨sb,k,none⟩ (.int .i64 kn)).drew.cell? ⟨sb,k,none⟩=some (.int .i64 kn):=by
          have h1:=(uh HA4).sm.cell hlt
          simpa [hkn] using h1
        have hsz4:w.heap.size≤(W2.setCell ⟨sb,k,none⟩ (.int .i64 kn)).drew.heap.size:=by simp;exact hs2z
        generalize (W2.setCell ⟨sb,k,none⟩ (.int .i64 kn)).drew=W4 at *
        clear HA3 p0 p1 mk sk fk
        by_cases hz:rl=0
        · have hz':((rl:Nat):Int)=0:=by omega
          rw[if_pos hz] at HI
          have HP:Hid (∀ V,Below W4.heap.size W4 V→Calls Tryz.prog 107 #[.pointer (some ⟨tb,0,none⟩),.int .i64 (l:Nat),.int .i64 kn] V fun e V'=>(∃ b,e=.returned (.tuple #[.bool b,.int .i64 0]))∧∃ O',LsAt w.heap.size w V' G.rules.length G.prods.length bb mb sb tb (fun _ => -1) (fun q=>if q<k+1 then kcN G q else 0) ml O' (zfb H l kn)):=zaa (fun V hV=>by
            have h4:=zcC (uh HA4) hsz4 hV
            have hsv:=hV.size
            refine(zp7 tb O H l kn (by omega) (by omega) V h4.td).mono ?_
            rintro e V' ⟨he,hf,O',ht,hO'⟩
            exact⟨he,O',zgf h4 (by omega) hf ht hO'⟩)
          clear hwr
          subst hz
          go_wp2_with fail
          go_region_with (go_at_call 107;refine(uh HP _ (by first | exact Below.refl _ _ | exact(Below.refl _ _).drew)).mono ?_;rintro e V5 ⟨⟨b5,rfl⟩,O5,h5⟩;have H5:=zaa h5;clear h5)
          all_goals
            go_wp2
            go_roundw
            case rel=>exact⟨k+1,_,O5,by go_num,by omega,uh HI,zcC (uh H5) (uh H5).bl.size (by first | exact Below.refl _ _ | exact(Below.refl _ _).drew)⟩
            case measure=>simp[intOf];omega
        · have hz':¬ ((rl:Nat):Int)=0:=by omega
          rw[if_neg hz] at HI
          clear hwr
          go_wp2
          go_roundw
          case rel=>exact⟨k+1,H,O,by go_num,by omega,uh HI,uh HA4⟩
          case measure=>simp[intOf];omega
      · obtain rfl:k=G.prods.length:=by omega
        rw[zoK] at hI
        have hI0:LsI G (fun _ => -1) (atZ ml) (kcN G) H []:=⟨fun q hq=>(uh Hat q hq).trans (hI.miE q hq),hI.suE,hI.hp,hI.rd,hI.mo,hI.lg,hI.rm⟩
        have hA0:LsAt w.heap.size w wr G.rules.length G.prods.length bb mb sb tb (fun _ => -1) (kcN G) ml O H:=⟨hA.ls,hA.ms,hA.mln,hA.sm.congr (fun q hq=>by rw[if_pos hq]),hA.td,hA.o1,hA.o2,hA.o3,hA.n1,hA.n2,hA.n3,hA.ob,hA.b1,hA.b2,hA.b3,hA.bl⟩
        have HI0:=zaa hI0;have HA0:=zaa hA0
        clear hI hA hI0 hA0
        go_wp2
        go_loopw [9,10,11] (fun _ _ _ V=>∃ (L su:Nat→Int) (ml:List Int) (H:Nat→Option Int) (O:Nat→Prop),LsI G L (atZ ml) su H []∧LsAt w.heap.size w V G.rules.length G.prods.length bb mb sb tb L su ml O H) (fun _ _ _ V=>zbM (zp9 V bb) G.rules.length)
        case atStart=>exact⟨_,_,ml,H,O,uh HI0,uh HA0⟩
        case round =>
          clear HI0 HA0
          obtain⟨L,su,ml,H,O,hI,hA⟩:=hrel
          have hszv:w.heap.size≤wr.heap.size:=hA.bl.size
          have HPop:=zaa (pop_h tb O H wr hA.td)
          have HI:=zaa hI;have HA:=zaa hA
          clear hI hA
          go_wp2_with fail
          refine(uh HPop).mono ?_
          rintro e w6 (⟨hH,rfl,rfl⟩ | ⟨r,v,hHr,hmin,rfl,hf6,ht6⟩)
          · have Hend:=zaa (ls_end (uh HI) hH)
            have hnot:=zaG
            go_wp2
            go_ret
            exact⟨bb,L,rfl,(uh HA).ls,uh Hend,(uh HA).b1,(uh HA).bl⟩
          · obtain ⟨hLr, hv0, hv1, hI2⟩ := ls_pop (uh HI) hHr hmin
            have hA6:=zgf (uh HA) hszv hf6 ht6 (fun k hk=>.inl hk)
            obtain⟨-,q9,hq9,hlq9,-⟩:=(uh HI).hp r v hHr
            have hrn:r<G.rules.length:=by
              have h1:=(hG.pl _ (zag hq9)).2
              unfold lfQ at hlq9
              unfold Gm.nr at h1
              omega
            have hrn':(r:Int)<G.rules.length:=by omega
            have lc:=hA6.ls.cell hrn
            have lf:=hA6.ls.frozen r
            have hA7:=zqX hA6 r v
            have hsz7:w.heap.size≤(w6.setCell ⟨bb,r,none⟩ (.int .i64 v)).heap.size:=hA7.bl.size
            have hg7:=zaJ (uh Hg) (zab hA7.bl hM)
            obtain⟨Ou,htu,-⟩:=(uh Hg).uses
            obtain⟨xa,xc,tcu,hxn⟩:=zj0 htu hrn
            rw[zdA] at tcu hxn
            rw[zak] at tcu
            have hub:ub<w.heap.size:=by obtain⟨V9,hV9⟩:=htu;exact hV9.lt _ hV9.own
            have u7:=(hA7.bl.cell (p:=⟨ub,r,none⟩) hub).trans tcu
            have g6:(w6.setCell ⟨bb,r,none⟩ (.int .i64 v)).cell? ⟨gb,6,none⟩=some (.slice (some ⟨ub,0,none⟩) G.rules.length G.rules.length):=by unfold World.cell?;rw[hg7.box];rfl
            have Hsu:=zaa (fun q (hq:q<G.prods.length)=>ls_su hG (uh HI) hq)
            have hul:(zbm G r).length≤300000:=by
              have h1:=zfA hG r
              omega
            have Hlt:Hid (zbM (upZ L r v) G.rules.length<zbM L G.rules.length):=zaa (zgu _ (fun i _ hi=>by
              by_cases e:i=r
              · subst e;rw[zbe];exact hv0
              · rw[zcF e];exact hi) r hrn hLr (by rw[zbe];exact hv0))
            have HLs:=zaa ((uh HA).ls)
            have HA7:=zaa hA7;have HI2:=zaa hI2;have Hxn:=zaa hxn
            clear hA6 hA7 hI2 hxn tcu htu hg7 ht6 hf6
            generalize hw7:w6.setCell ⟨bb,r,none⟩ (.int .i64 v)=W7 at *
            have hnot:=zaG
            go_wp2_with fail
            clear hw7 lc lf
            go_loopw [92] (fun x V=>∃ (i:Nat),x=.int .i64 i∧i≤(zbm G r).length∧LsAt w.heap.size w V G.rules.length G.prods.length bb mb sb tb (upZ L r v) (fun q=>su q+v * (((zbm G r).take i).count q:Nat)) ml O (upH H r none)) (fun x _=>(zbm G r).length - (intOf x).toNat)
            case atStart=>exact⟨0,rfl,Nat.zero_le _,by simpa using uh HA7⟩
            case round =>
              clear HA7
              obtain⟨i,rfl,hi,hA⟩:=hrel
              have hszw:w.heap.size≤wr.heap.size:=hA.bl.size
              by_cases hil:i<(zbm G r).length
              · have hil':(i:Int)<(zbm G r).length:=by omega
                obtain⟨b9,o9,rfl,hb9,hc9⟩:=za3 (zau hA.bl (uh Hxn)) (k:=i) (by rw[zak];exact hil)
                rw[zbF hil] at hc9
                have hqm:(zbm G r).getD i 0 ∈ zbm G r:=by rw[List.getD_eq_getElem?_getD,List.getElem?_eq_getElem hil];exact List.getElem_mem hil
                have hqn:=zdz hqm
                have etk:(zbm G r).take (i+1)=(zbm G r).take i ++ [(zbm G r).getD i 0]:=by rw[List.take_add_one,List.getD_eq_getElem?_getD,List.getElem?_eq_getElem hil];rfl
                have hcnt:∀ j,((zbm G r).take j).count ((zbm G r).getD i 0)≤64:=fun j=>by
                  have h1:((zbm G r).take j).count ((zbm G r).getD i 0)≤(zbm G r).count ((zbm G r).getD i 0):=(List.take_sublist j _).count_le _
                  have h2:=zdV (G:=G) (r:=r) hqn
                  have h3:(rlN G ((zbm G r).getD i 0)).count r≤(rlN G ((zbm G r).getD i 0)).length:=List.count_le_length
                  have h4:=zjo G ((zbm G r).getD i 0)
                  have h5:=hG.pr _ (zag hqn)
                  omega
                have hsu:=uh Hsu _ hqn
                have hA2:=znf hA ((zbm G r).getD i 0) (su ((zbm G r).getD i 0)+v * (((zbm G r).take i).count ((zbm G r).getD i 0):Nat)+v)
                have esu:upZ (fun q=>su q+v * (((zbm G r).take i).count q:Nat)) ((zbm G r).getD i 0) (su ((zbm G r).getD i 0)+v * (((zbm G r).take i).count ((zbm G r).getD i 0):Nat)+v)=fun q=>su q+v * (((zbm G r).take (i+1)).count q:Nat):=by
                  funext q
                  unfold upZ
                  rw[etk,List.count_append]
                  by_cases e:q=(zbm G r).getD i 0
                  · rw[if_pos e,← e]
                    simp
                    rw[Int.mul_add];omega
                  · rw[if_neg e]
                    have:List.count q [(zbm G r).getD i 0]=0:=List.count_eq_zero.2 (by simpa using e)
                    rw[this];rfl
                rw[esu] at hA2
                have sc:=hA.sm.cell hqn
                have sf:=hA.sm.frozen ((zbm G r).getD i 0)
                have h64:=hcnt i
                have hmul:v * (((zbm G r).take i).count ((zbm G r).getD i 0):Nat)≤65537 * 64:=by
                  have h1:v * (((zbm G r).take i).count ((zbm G r).getD i 0):Nat)≤65537 * (((zbm G r).take i).count ((zbm G r).getD i 0):Nat):=Int.mul_le_mul_of_nonneg_right hv1 (by omega)
                  omega
                have hmul0:0≤v * (((zbm G r).take i).count ((zbm G r).getD i 0):Nat):=Int.mul_nonneg hv0 (by omega)
                have HA2:=zaa hA2
                clear hA hA2 esu etk hcnt hqm
                generalize (zbm G r).getD i 0=q at *
                generalize hcc:su q+v * (((zbm G r).take i).count q:Nat)=cc at *
                have hwr:IntKind.i64.wrap (cc+v)=cc+v:=by rw[IntKind.wrap_i64];omega
                have hqn':(q:Int)<G.prods.length:=by omega
                clear hcc hmul hmul0
                go_wp2
                go_roundw
                case rel=>exact⟨i+1,by go_num,by omega,uh HA2⟩
                case measure=>simp[intOf];omega
              · obtain rfl:i=(zbm G r).length:=by omega
                rw[List.take_length] at hA
                have HA:=zaa hA
                clear hA
                go_wp2_with fail
                have hbA:Below wr.heap.size wr (wr.alloc (.cells #[.int .i64 (r:Int)] 3)):=(Below.refl _ _).alloc (Nat.le_refl _) _
                have hAA:=zcC (uh HA) hszw hbA
                have hszA:w.heap.size≤(wr.alloc (.cells #[.int .i64 (r:Int)] 3)).heap.size:=hAA.bl.size
                have hfn:NRow (wr.alloc (.cells #[.int .i64 (r:Int)] 3)).heap.size (wr.alloc (.cells #[.int .i64 (r:Int)] 3)) (some ⟨wr.heap.size,0,none⟩) (zai [r]):=.inr ⟨wr.heap.size,0,rfl,by simp,fun j hj=>by
                  have hj0:j=0:=by simp[zai] at hj;exact hj
                  subst hj0
                  unfold World.cell?
                  rw[show (wr.alloc (.cells #[.int .i64 (r:Int)] 3)).heap[wr.heap.size]? = _ from Go.Deep.blk_alloc_new _ _]
                  rfl⟩
                have hmlt:=((uh HA).ms.lt mb rfl).2
                have HRB:=zaa (zf5 G hG ka pa ra qa kc pc rc qc gb ob ub M (some ⟨wr.heap.size,0,none⟩) 1 [r] (by simp) (by simp;exact hrn) (.slice (some ⟨mb,0,none⟩) G.prods.length G.prods.length) ml hAA.mln (ls_mi hG (uh HI) hAA.mln) _ (by omega) (zaJ (uh Hg) (zab hAA.bl hM)) hfn (zaK hAA.ms hM) (fun x hx h=>by
                  obtain rfl:(⟨wr.heap.size,0,none⟩:Addr)=x:=Option.some.inj hx
                  have e:mb=wr.heap.size:=by simpa [Value.ownBlock] using h
                  omega))
                refine(uh HRB).mono ?_
                rintro e w8 ⟨u8,rfl,hR8⟩
                obtain⟨ml8,ha8,hA8,hy8⟩:=zph hAA hszA hR8
                have efm:[r].flatMap (zbm G)=zbm G r:=by simp
                rw[efm] at ha8 hy8
                obtain⟨ga,gc,rfl⟩:=zad hy8.own
                have hI8:=uh HI2
                rw[← ha8] at hI8
                have hRn:(dcR (zbm G r) (atZ ml)).length≤G.prods.length:=znQ _ _ (fun q hq=>zdz hq)
                generalize hL8:upZ L r v=L8 at *
                generalize (fun q=>su q+v * ((zbm G r).count q:Nat))=su8 at *
                generalize dcR (zbm G r) (atZ ml)=R at *
                generalize upH H r none=H8 at *
                have HA8:=zaa hA8;have HI8:=zaa hI8;have Hy8:=zaa hy8
                rw[zak] at *
                clear HRB hfn hAA hR8 hA8 hI8 hy8 hbA HA HI2 Hsu ha8
                generalize hS8:(wr.alloc (.cells #[.int .i64 (r:Int)] 3)).heap.size=S8 at *
                go_wp2
                go_loopw [110] (fun x V=>∃ (j:Nat) (H9:Nat→Option Int) (O9:Nat→Prop),x=.int .i64 j∧j≤R.length∧LsI G L8 (atZ ml8) su8 H9 (R.drop j)∧LsAt w.heap.size w V G.rules.length G.prods.length bb mb sb tb L8 su8 ml8 O9 H9∧RyAt S8 V (.slice ga R.length gc) R O9) (fun x _=>R.length - (intOf x).toNat)
                case atStart=>exact⟨0,H8,O,rfl,Nat.zero_le _,by simpa using uh HI8,uh HA8,uh Hy8⟩
                case round =>
                  clear HA8 HI8 Hy8
                  obtain⟨j,H9,O9,rfl,hj,hI,hA,hY⟩:=hrel
                  have hszx:w.heap.size≤wr.heap.size:=hA.bl.size
                  by_cases hjl:j<R.length
                  · have hjl':(j:Int)<R.length:=by omega
                    obtain⟨ga',gc',hv9,hnr⟩:=zb2 hY.own
                    obtain⟨rfl,-,rfl⟩:=Value.slice.inj hv9
                    obtain⟨b9,o9,rfl,hb9,hc9⟩:=za3 hnr (k:=j) (by rw[zak];exact hjl)
                    rw[zbF hjl] at hc9
                    have edr:R.drop j=R.getD j 0::R.drop (j+1):=by rw[List.drop_eq_getElem_cons hjl,List.getD_eq_getElem?_getD,List.getElem?_eq_getElem hjl];rfl
                    rw[edr] at hI
                    generalize R.getD j 0=q at *
                    obtain⟨hqn,-,-⟩:=hI.rm q (by simp)
                    have hqn':(q:Int)<G.prods.length:=by omega
                    have hsu:=ls_su hG hI hqn
                    have hgr:=zaJ (uh Hg) (zab hA.bl hM)
                    have c3:wr.cell? ⟨gb,3,none⟩=some (.slice qa G.prods.length qc):=by unfold World.cell?;rw[hgr.box];rfl
                    obtain⟨b,off,rfl,hbB,rr,rrc,x3,x4,x5,x6,n6,c6,hrr,-,q0,q1,q2,q3,q4,q5,q6⟩:=zbz hgr.gin.prods hqn
                    have hpl:=hG.pl _ (zag hqn)
                    have elf:lfQ G q=(G.prods.getD q pd0).left.toNat:=rfl
                    obtain⟨l,hl⟩:∃ l:Nat,(G.prods.getD q pd0).left=(l:Int):=⟨(G.prods.getD q pd0).left.toNat,by omega⟩
                    rw[hl] at q0 hpl elf
                    rw[Int.toNat_natCast] at elf
                    have hl':l<G.rules.length:=by have:=hpl.2;unfold Gm.nr at this;omega
                    have hl'':(l:Int)<G.rules.length:=by omega
                    have lc:=hA.ls.cell hl'
                    have sc:=hA.sm.cell hqn
                    have hlg:=hI.lg l
                    have HA:=zaa hA;have HI:=zaa hI;have HY:=zaa hY
                    clear hA hI hY hgr hnr q1 q2 q3 q4 q5 q6 hrr hpl hv9
                    by_cases hneg:L8 l = -1
                    · have hpu:=ziG (uh HI) (by rw[elf];omega)
                      rw[elf] at hpu
                      obtain⟨mw,hmw⟩:∃ mw,mw=min (su8 q) 65537:=⟨_,rfl⟩
                      rw[← hmw] at hpu
                      have hif:(if (65537:Int)<su8 q then 65537 else su8 q)=mw:=by rw[hmw];split <;> omega
                      have hmw0:0≤mw∧mw≤65537:=by omega
                      have HP:Hid (∀ V,Below wr.heap.size wr V→Calls Tryz.prog 107 #[.pointer (some ⟨tb,0,none⟩),.int .i64 (l:Nat),.int .i64 mw] V fun e V'=>(∃ b,e=.returned (.tuple #[.bool b,.int .i64 0]))∧∃ O',LsAt w.heap.size w V' G.rules.length G.prods.length bb mb sb tb L8 su8 ml8 O' (zfb H9 l mw)∧RyAt S8 V' (.slice (some ⟨b9,o9,none⟩) R.length gc) R O'):=zaa (fun V hV=>by
                        have h4:=zcC (uh HA) hszx hV
                        have hsv:=hV.size
                        have h5:=zk8 (uh HY) hV
                        refine(zp7 tb O9 H9 l mw (by omega) (by omega) V h4.td).mono ?_
                        rintro e V' ⟨he,hf,O',ht,hO'⟩
                        exact⟨he,O',zgf h4 (by omega) hf ht hO',zmu h5 hf hO'⟩)
                      have Hpu:=zaa hpu
                      clear hpu hlg hif
                      go_wp2_with fail
                      rw[← hmw]
                      clear hmw
                      refine(uh HP _ (Below.refl _ _)).mono ?_
                      rintro e V5 ⟨⟨b5,rfl⟩,O5,h5,hy5⟩
                      have H5:=zaa h5;have Hy5:=zaa hy5
                      clear h5 hy5 HP lc sc q0 c3 hc9
                      go_wp2
                      go_roundw
                      case rel=>exact⟨j+1,_,O5,by go_num,by omega,uh Hpu,uh H5,uh Hy5⟩
                      case measure=>simp[intOf];omega
                    · have hnn:0≤L8 l:=by omega
                      have hpa:=zaa (znm (uh HI) (by rw[elf];exact hnn))
                      clear hlg
                      go_wp2
                      go_roundw
                      case rel=>exact⟨j+1,H9,O9,by go_num,by omega,uh hpa,uh HA,uh HY⟩
                      case measure=>simp[intOf];omega
                  · obtain rfl:j=R.length:=by omega
                    rw[List.drop_length] at hI
                    have Hrel:=zaa (And.intro hI hA)
                    have Hme:Hid (zbM (zp9 wr bb) G.rules.length=zbM L8 G.rules.length):=zaa (zcr _ (fun r hr=>zhE hA.ls r hr))
                    have Hmo:=zaa (zcr _ (fun r hr=>zhE (uh HLs) r hr))
                    clear hI hA hY
                    go_wp2
                    go_roundw
                    case rel=>exact⟨L8,su8,ml8,H9,O9,(uh Hrel).1,(uh Hrel).2⟩
                    case measure=>rw[uh Hme,uh Hmo];exact uh Hlt
end Go.Proofs.YtagohbpbgjelaaaGreatDoor

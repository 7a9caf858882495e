/- The document's Check. -/
import Derived.Test.YtagohbpbgjelaaaGreatDoorA4
import Derived.Deep.CutRange
import Derived.Deep.DeepCutAuto
import Derived.Test.YtagohbpbgjelaaaGreatDoorB1
import Derived.Test.YtagohbpbgjelaaaGreatDoorE2
namespace Go.Proofs.YtagohbpbgjelaaaGreatDoor
open Go.RowKit

def prodsTo (G:Gm) (k:Nat):Prop:=∀ i,i<k→prodB G.kinds.length G.rules.length (G.prods.getD i pd0)=true
instance (G:Gm) (k:Nat):Decidable (prodsTo G k):=by unfold prodsTo;infer_instance
def checkB (G:Gm):Bool:=decide (kindsB G.kinds=true∧G.precs.length=G.kinds.length∧levelsB G.precs=true∧namesB G.rules=true∧0≤G.start∧G.start<G.rules.length∧G.prods.length≤4096∧prodsTo G G.prods.length)
def checkV (G:Gm):Int:=if checkB G then 0 else 130
theorem check_ok {G:Gm} (h:checkB G=true):GOk G:=by
 have h:=of_decide_eq_true h
 have hk:=of_decide_eq_true h.1
 have hn:=of_decide_eq_true h.2.2.2.1
 have hp:∀ p,p ∈ G.prods→prodB G.kinds.length G.rules.length p=true:=fun p hp=>by
   obtain⟨i,hi,rfl⟩:=ex_getP hp
   exact h.2.2.2.2.2.2.2 i hi
 refine⟨hk.1,hk.2.1,hn.1,hn.2.1,h.2.2.2.2.1,h.2.2.2.2.2.1,h.2.2.2.2.2.2.1,fun p hq=>?_,fun p hq=>?_,fun p hq x hx=>?_⟩
 · have:=of_decide_eq_true (hp p hq);exact⟨this.1,this.2.1⟩
 · exact(of_decide_eq_true (hp p hq)).2.2.1
 · obtain⟨i,hi,rfl⟩:=List.getElem_of_mem hx
   have:=(of_decide_eq_true (hp p hq)).2.2.2.2.1 i hi
   rw[List.getD_eq_getElem?_getD,List.getElem?_eq_getElem hi] at this
   exact this

set_option maxHeartbeats 4000000 in
set_option maxRecDepth 100000 in
theorem rCheck_any (G : Gm) (ka pa ra qa : Option Addr) (kc pc rc qc : Nat) (B : Nat) (w : World) (hB : B ≤ w.heap.size) (hin : GIn B w G ka pa ra qa) (hsm : ∀ p, p ∈ G.prods → p.right.length ≤ 281474976710656) :
   Calls Tryz.prog 14 #[.agg #[.slice ka G.kinds.length kc,.slice pa G.precs.length pc,.slice ra G.rules.length rc,.slice qa G.prods.length qc,.int .i64 G.start]] w fun e w'=>e=.returned (.int .i64 (checkV G))∧Below w.heap.size w w':=by
 have Hyes:=hide (fun(h:kindsB G.kinds=true∧G.precs.length=G.kinds.length∧levelsB G.precs=true∧namesB G.rules=true∧0≤G.start∧G.start<G.rules.length∧G.prods.length≤4096∧prodsTo G G.prods.length)=>show checkV G=0 by unfold checkV checkB;rw[decide_eq_true h];rfl)
 have Hno:=hide (fun(h:¬ (kindsB G.kinds=true∧G.precs.length=G.kinds.length∧levelsB G.precs=true∧namesB G.rules=true∧0≤G.start∧G.start<G.rules.length∧G.prods.length≤4096∧prodsTo G G.prods.length))=>show checkV G=130 by unfold checkV checkB;rw[decide_eq_false h];rfl)
 generalize checkV G=R at *
 have Hst:=hide (gst_new (kc:=kc) (pc:=pc) (rc:=rc) (qc:=qc) hB hin 26)
 have hb1:Below w.heap.size w (w.alloc (.cells #[.slice ka G.kinds.length kc,.slice pa G.precs.length pc,.slice ra G.rules.length rc,.slice qa G.prods.length qc,.int .i64 G.start] 26)):=(Below.refl _ _).alloc (Nat.le_refl _) _
 have hw1:(w.alloc (.cells #[.slice ka G.kinds.length kc,.slice pa G.precs.length pc,.slice ra G.rules.length rc,.slice qa G.prods.length qc,.int .i64 G.start] 26)).heap.size=w.heap.size+1:=by simp
 have hk:=rKinds_any ka kc G.kinds B (w.alloc (.cells #[.slice ka G.kinds.length kc,.slice pa G.precs.length pc,.slice ra G.rules.length rc,.slice qa G.prods.length qc,.int .i64 G.start] 26)) (by omega) (uh Hst).gin.kinds
 have HK:=hide hk
 have Hb1:=hide hb1
 have Hsm:=hide hsm
 clear hk hb1 hin hsm
 have hnot:=run_not
 have fin:∀ W:World,Below (w.heap.size+1) (w.alloc (.cells #[.slice ka G.kinds.length kc,.slice pa G.precs.length pc,.slice ra G.rules.length rc,.slice qa G.prods.length qc,.int .i64 G.start] 26)) W→Below w.heap.size w W:=fun W h=>(uh Hb1).trans (below_le h (by omega))
 have Hfin:=hide fin
 clear fin
 cases hkb:kindsB G.kinds
 · rw[hkb] at HK
   have Hr:=hide (uh Hno (fun h=>by rw[hkb] at h;exact absurd h.1 (by simp)))
   clear hkb Hno Hyes
   go_enter Tryz.func14,Tryz.ntmps14
   go_wp2_with fail
   refine(uh HK).mono ?_
   rintro e w2 ⟨rfl,hb2⟩
   rw[hw1] at hb2
   have Hb2:=hide (uh Hfin _ hb2)
   clear hb2
   go_wp2
   go_ret
   rw[uh Hr]
   exact⟨rfl,uh Hb2⟩
 · rw [hkb] at HK
   have hkn:=(of_decide_eq_true hkb).2.1
   go_enter Tryz.func14,Tryz.ntmps14
   go_wp2_with fail
   refine(uh HK).mono ?_
   rintro e w2 ⟨rfl,hb2⟩
   rw[hw1] at hb2
   have hst2:=gst_kept hb2 hB (uh Hst)
   have g0:=hst2.c0;have g1:=hst2.c1;have g2:=hst2.c2;have g3:=hst2.c3;have g4:=hst2.c4
   have Hg2:=hide hst2.gin
   have hsz2:=hb2.size
   have Hb2:=hide hb2
   clear hst2 hb2
   by_cases hpl:G.precs.length=G.kinds.length
   · have hpl' : ((G.precs.length : Int) != G.kinds.length) = false := by simp; omega
     have HL:=hide (rLevels_any pa pc G.precs (by omega) B w2 (by omega) (uh Hg2).precs)
     have Hpl:=hide hpl
     clear hpl
     cases hlb:levelsB G.precs
     · rw[hlb] at HL
       have Hr:=hide (uh Hno (fun h=>by rw[hlb] at h;exact absurd h.2.2.1 (by simp)))
       clear hlb Hno Hyes hkb
       go_wp2_with fail
       refine(uh HL).mono ?_
       rintro e w3 ⟨rfl,hb3⟩
       have Hb3:=hide (uh Hfin _ ((uh Hb2).trans (below_le hb3 (by omega))))
       clear hb3
       go_wp2
       go_ret
       rw[uh Hr]
       exact⟨rfl,uh Hb3⟩
     · rw [hlb] at HL
       go_wp2_with fail
       refine(uh HL).mono ?_
       rintro e w3 ⟨rfl,hb3⟩
       have hb3':=(uh Hb2).trans (below_le hb3 (by omega))
       have hst3:=gst_kept hb3' hB (uh Hst)
       have e0:=hst3.c0;have e1:=hst3.c1;have e2:=hst3.c2;have e3:=hst3.c3;have e4:=hst3.c4
       have HN:=hide (rNames_any ra rc G.rules B w3 (by have:=hb3'.size;omega) hst3.gin.rules)
       have Hb3:=hide hb3'
       have hsz3:=hb3'.size
       clear hst3 hb3 hb3'
       cases hnb:namesB G.rules
       · rw[hnb] at HN
         have Hr:=hide (uh Hno (fun h=>by rw[hnb] at h;exact absurd h.2.2.2.1 (by simp)))
         clear hlb hnb Hno Hyes hkb
         go_wp2_with fail
         refine(uh HN).mono ?_
         rintro e w4 ⟨rfl,hb4⟩
         have Hb4:=hide (uh Hfin _ ((uh Hb3).trans (below_le hb4 (by omega))))
         clear hb4
         go_wp2
         go_ret
         rw[uh Hr]
         exact⟨rfl,uh Hb4⟩
       · rw [hnb] at HN
         have hnn:=(of_decide_eq_true hnb).2.1
         have Hyes2:=hide (fun(h:0≤G.start∧G.start<G.rules.length∧G.prods.length≤4096∧prodsTo G G.prods.length)=>uh Hyes ⟨hkb,uh Hpl,hlb,hnb,h⟩)
         have Hno2:=hide (fun(h:¬ (0≤G.start∧G.start<G.rules.length∧G.prods.length≤4096∧prodsTo G G.prods.length))=>uh Hno (fun k=>h k.2.2.2.2))
         clear hlb hnb Hno Hyes hkb
         go_wp2_with fail
         refine(uh HN).mono ?_
         rintro e w4 ⟨rfl,hb4⟩
         have hb4':=(uh Hb3).trans (below_le hb4 (by omega))
         have hst4:=gst_kept hb4' hB (uh Hst)
         have f0:=hst4.c0;have f1:=hst4.c1;have f2:=hst4.c2;have f3:=hst4.c3;have f4:=hst4.c4
         have Hb4:=hide hb4'
         clear hb4 hb4' hst4 g0 g1 g2 g3 g4 e0 e1 e2 e3 e4
         by_cases hs:0≤G.start∧G.start<G.rules.length∧G.prods.length≤4096
         · have h1 : ¬ G.start < 0 := by omega
           have h2:¬ (G.rules.length:Int)≤G.start:=by omega
           have h3:¬ (4096:Int)<G.prods.length:=by omega
           have Hyes3:=hide (fun(h:prodsTo G G.prods.length)=>uh Hyes2 ⟨hs.1,hs.2.1,hs.2.2,h⟩)
           have Hno3:=hide (fun(h:¬ prodsTo G G.prods.length)=>uh Hno2 (fun k=>h k.2.2.2))
           have hq4:=hs.2.2
           clear hs Hyes2 Hno2
           go_wp2
           generalize w.alloc (.cells #[.slice ka G.kinds.length kc,.slice pa G.precs.length pc,.slice ra G.rules.length rc,.slice qa G.prods.length qc,.int .i64 G.start] 26)=w1 at *
           go_loopw [3] (fun x W=>∃ i:Nat,x=.int .i64 i∧i≤G.prods.length∧prodsTo G i∧Below (w.heap.size+1) w1 W) (fun x _=>G.prods.length - (intOf x).toNat)
           case atStart=>exact⟨0,rfl,Nat.zero_le _,fun j hj=>absurd hj (Nat.not_lt_zero _),uh Hb4⟩
           case round =>
             clear f0 f1 f2 f3 f4
             obtain⟨i,rfl,hi,hpt,hb⟩:=hrel
             have hst:=gst_kept hb hB (uh Hst)
             have g0:=hst.c0;have g1:=hst.c1;have g2:=hst.c2;have g3:=hst.c3;have g4:=hst.c4
             have Hg:=hide hst.gin
             have hszw:=hb.size
             have Hpt:=hide hpt;have Hb:=hide hb
             clear hst hb hpt
             by_cases hlt:i<G.prods.length
             · have hlt':(i:Int)<G.prods.length:=by omega
               obtain⟨b,off,rfl,hbB,rr,rrc,x3,x4,x5,x6,n6,c6,hrr,hac,q0,q1,q2,q3,q4,q5,q6⟩:=qrow_at (uh Hg).prods hlt
               have HP:=hide (rProd_any ka pa ra (some ⟨b,off,none⟩) G.kinds.length kc G.precs.length pc G.rules.length rc G.prods.length qc G.start hkn hnn (G.prods.getD i pd0) B wr.drew (by show B≤wr.heap.size;omega) rr rrc x3 x4 x5 x6 n6 c6 hrr (acAt_kept ((Below.refl B wr).drew) _ _ _ _ _ hac) (uh Hsm _ (mem_getP hlt)))
               have Hs:=hide (fun(h:prodB G.kinds.length G.rules.length (G.prods.getD i pd0)=true)=>show prodsTo G (i+1) from fun j hj=>by
                 by_cases e:j=i
                 · subst e;exact h
                 · exact uh Hpt j (by omega))
               have Hn:=hide (fun(h:prodB G.kinds.length G.rules.length (G.prods.getD i pd0)=false)=>uh Hno3 (fun k=>by rw[k i hlt] at h;cases h))
               clear hrr hac
               generalize G.prods.getD i pd0=p at *
               obtain⟨pl,prt,plv,pac⟩:=p
               simp only at q0 q1 q2 HP
               have HS:Hid (∀ W:World,Below wr.heap.size wr W→W.cell? ⟨w.heap.size,0,none⟩=some (.slice ka G.kinds.length kc)∧W.cell? ⟨w.heap.size,1,none⟩=some (.slice pa G.precs.length pc)∧W.cell? ⟨w.heap.size,2,none⟩=some (.slice ra G.rules.length rc)∧W.cell? ⟨w.heap.size,3,none⟩=some (.slice (some ⟨b,off,none⟩) G.prods.length qc)∧W.cell? ⟨w.heap.size,4,none⟩=some (.int .i64 G.start)∧W.cell? ⟨b,off+i * 7,none⟩=some (.int .i64 pl)∧W.cell? ⟨b,off+i * 7+1,none⟩=some (.slice rr prt.length rrc)∧W.cell? ⟨b,off+i * 7+2,none⟩=some (.int .i64 plv)∧W.cell? ⟨b,off+i * 7+3,none⟩=some (.int .i64 x3)∧W.cell? ⟨b,off+i * 7+4,none⟩=some (.int .i64 x4)∧W.cell? ⟨b,off+i * 7+5,none⟩=some (.string x5)∧W.cell? ⟨b,off+i * 7+6,none⟩=some (.slice x6 n6 c6)):=hide (fun W hb=>by
                 have k1:=fun(j:Nat) (v:Value) (h:wr.cell? ⟨w.heap.size,j,none⟩=some v)=>(hb.cell (p:=⟨w.heap.size,j,none⟩) (by show w.heap.size<wr.heap.size;omega)).trans h
                 have k2:=fun(j:Nat) (v:Value) (h:wr.cell? ⟨b,j,none⟩=some v)=>(hb.cell (p:=⟨b,j,none⟩) (by show b<wr.heap.size;omega)).trans h
                 exact⟨k1 _ _ g0,k1 _ _ g1,k1 _ _ g2,k1 _ _ g3,k1 _ _ g4,k2 _ _ q0,k2 _ _ q1,k2 _ _ q2,k2 _ _ q3,k2 _ _ q4,k2 _ _ q5,k2 _ _ q6⟩)
               have hS:Below wr.heap.size wr wr.drew:=(Below.refl _ _).drew
               cases hpb:prodB G.kinds.length G.rules.length ⟨pl,prt,plv,pac⟩
               · rw[hpb] at HP
                 have Hr:=hide (uh Hn hpb)
                 clear hpb Hs Hn
                 go_wp2
                 go_cut [60] from 53 to 60 (fun s wx=>s=.bool true∧Below wr.heap.size wr wx)
                 case first =>
                   go_region_held3 (fun W:World=>W.cell? ⟨w.heap.size,0,none⟩=some (.slice ka G.kinds.length kc)∧W.cell? ⟨w.heap.size,1,none⟩=some (.slice pa G.precs.length pc)∧W.cell? ⟨w.heap.size,2,none⟩=some (.slice ra G.rules.length rc)∧W.cell? ⟨w.heap.size,3,none⟩=some (.slice (some ⟨b,off,none⟩) G.prods.length qc)∧W.cell? ⟨w.heap.size,4,none⟩=some (.int .i64 G.start)∧W.cell? ⟨b,off+i * 7,none⟩=some (.int .i64 pl)∧W.cell? ⟨b,off+i * 7+1,none⟩=some (.slice rr prt.length rrc)∧W.cell? ⟨b,off+i * 7+2,none⟩=some (.int .i64 plv)∧W.cell? ⟨b,off+i * 7+3,none⟩=some (.int .i64 x3)∧W.cell? ⟨b,off+i * 7+4,none⟩=some (.int .i64 x4)∧W.cell? ⟨b,off+i * 7+5,none⟩=some (.string x5)∧W.cell? ⟨b,off+i * 7+6,none⟩=some (.slice x6 n6 c6))
                     (first | exact uh HS _ hS | fail)
                     (first
                       | (go_at_call 54;refine(uh HP).mono ?_;rintro e W3 ⟨rfl,hb3⟩;have hS:=hS.trans hb3;clear hb3)
                       | fail)
                   all_goals
                     go_wp2_with fail
                     go_meet
                     exact⟨rfl,hS⟩
                 case rest =>
                   obtain⟨rfl,hb5⟩:=hcut
                   have Hb5:=hide (uh Hfin _ ((uh Hb).trans (below_le hb5 (by omega))))
                   clear hb5
                   go_wp2
                   go_ret
                   rw[uh Hr]
                   exact⟨rfl,uh Hb5⟩
               · rw[hpb] at HP
                 have Hs2:=hide (uh Hs hpb)
                 clear hpb Hs Hn
                 go_wp2
                 go_cut [60] from 53 to 60 (fun s wx=>s=.bool false∧Below wr.heap.size wr wx)
                 case first =>
                   go_region_held3 (fun W:World=>W.cell? ⟨w.heap.size,0,none⟩=some (.slice ka G.kinds.length kc)∧W.cell? ⟨w.heap.size,1,none⟩=some (.slice pa G.precs.length pc)∧W.cell? ⟨w.heap.size,2,none⟩=some (.slice ra G.rules.length rc)∧W.cell? ⟨w.heap.size,3,none⟩=some (.slice (some ⟨b,off,none⟩) G.prods.length qc)∧W.cell? ⟨w.heap.size,4,none⟩=some (.int .i64 G.start)∧W.cell? ⟨b,off+i * 7,none⟩=some (.int .i64 pl)∧W.cell? ⟨b,off+i * 7+1,none⟩=some (.slice rr prt.length rrc)∧W.cell? ⟨b,off+i * 7+2,none⟩=some (.int .i64 plv)∧W.cell? ⟨b,off+i * 7+3,none⟩=some (.int .i64 x3)∧W.cell? ⟨b,off+i * 7+4,none⟩=some (.int .i64 x4)∧W.cell? ⟨b,off+i * 7+5,none⟩=some (.string x5)∧W.cell? ⟨b,off+i * 7+6,none⟩=some (.slice x6 n6 c6))
                     (first | exact uh HS _ hS | fail)
                     (first
                       | (go_at_call 54;refine(uh HP).mono ?_;rintro e W3 ⟨rfl,hb3⟩;have hS:=hS.trans hb3;clear hb3)
                       | fail)
                   all_goals
                     go_wp2_with fail
                     go_meet
                     exact⟨rfl,hS⟩
                 case rest =>
                   obtain⟨rfl,hb5⟩:=hcut
                   have Hb5:=hide ((uh Hb).trans (below_le hb5 (by omega)))
                   clear hb5
                   go_wp2
                   go_roundw
                   case rel=>exact⟨i+1,by go_num,by omega,uh Hs2,uh Hb5⟩
                   case measure=>simp[intOf];omega
             · obtain rfl:i=G.prods.length:=by omega
               have Hr:=hide (uh Hyes3 (uh Hpt))
               have Hb5:=hide (uh Hfin _ (uh Hb))
               go_wp2
               go_ret
               rw[uh Hr]
               exact⟨rfl,uh Hb5⟩
         · have Hr:=hide (uh Hno2 (fun h=>hs ⟨h.1,h.2.1,h.2.2.1⟩))
           have Hb5:=hide (uh Hfin _ (uh Hb4))
           have Hx:=hide hs
           clear hs Hyes2 Hno2
           go_wp2
           all_goals first
             | (go_ret;rw[uh Hr];exact⟨rfl,uh Hb5⟩)
             | (exfalso;have h1:=uh Hx;first | omega | (simp at *;omega))
   · have hpl':((G.precs.length:Int) != G.kinds.length)=true:=by simp;omega
     have Hr:=hide (uh Hno (fun h=>hpl h.2.1))
     have Hb3:=hide (uh Hfin _ (uh Hb2))
     clear Hno Hyes hkb hpl
     go_wp2
     go_ret
     rw[uh Hr]
     exact⟨rfl,uh Hb3⟩
end Go.Proofs.YtagohbpbgjelaaaGreatDoor

namespace Go.Proofs.YtagohbpbgjelaaaGreatDoor
open Go.RowKit

noncomputable abbrev atF (G:Gm):Nat→Bool:=rchF G (fun _:Pd=>true)
inductive Flw (G:Gm):Nat→Nat→Prop
 | start:Flw G G.start.toNat 0
 | first (p:Pd) (hp:p ∈ G.prods) (hr:atF G p.left.toNat=true) (i:Nat) (hi:i<p.right.length) (hx:(G.nk:Int)≤p.right.getD i 0) (k:Nat) (hk:k<G.nk) (h:begB G.nk (nullF G) (fstF G) (p.right.drop (i+1)) k=true):Flw G (p.right.getD i 0 - G.nk).toNat k
 | behind (p:Pd) (hp:p ∈ G.prods) (hr:atF G p.left.toNat=true) (i:Nat) (hi:i<p.right.length) (hx:(G.nk:Int)≤p.right.getD i 0) (he:emptyB G.nk (nullF G) (p.right.drop (i+1))=true) (k:Nat) (h:Flw G p.left.toNat k):Flw G (p.right.getD i 0 - G.nk).toNat k
open Classical in
noncomputable def flwF (G:Gm):Nat→Nat→Bool:=fun r k=>decide (Flw G r k)
theorem flwF_is (G:Gm) (r k:Nat):flwF G r k=true↔Flw G r k:=by unfold flwF;simp
theorem flw_lt {G:Gm} (hG:GOk G) {r k:Nat} (h:Flw G r k):k<G.nk:=by
 induction h with
 | start=>have:=hG.k2;omega
 | first p hp hr i hi hx k hk h=>exact hk
 | behind p hp hr i hi hx he k h ih=>exact ih
def FlwSound (G:Gm) (F:Nat→Nat→Bool):Prop:=F G.start.toNat 0=true∧∀ r k,F r k=true→Flw G r k
noncomputable def flw1 (G:Gm) (rest:List Int):Nat→Bool:=begB G.nk (nullF G) (fstF G) rest
def flwFull (G:Gm) (F:Nat→Nat→Bool) (l:Nat) (row:List Int) (j:Nat):Prop:=(G.nk:Int)≤row.getD j 0→newTo (F (row.getD j 0 - G.nk).toNat) (flw1 G (row.drop (j+1))) G.nk=false∧(emptyB G.nk (nullF G) (row.drop (j+1))=true→newTo (F (row.getD j 0 - G.nk).toNat) (F l) G.nk=false)
def flwDone (G:Gm) (F:Nat→Nat→Bool) (p:Pd):Prop:=atF G p.left.toNat=true→∀ j,j<p.right.length→flwFull G F p.left.toNat p.right j
def FlwShut (G:Gm) (F:Nat→Nat→Bool):Prop:=∀ i,i<G.prods.length→flwDone G F (G.prods.getD i pd0)
theorem flw_up1 {G:Gm} {F:Nat→Nat→Bool} (h:FlwSound G F) {p:Pd} (hp:p ∈ G.prods) (hr:atF G p.left.toNat=true) {j:Nat} (hj:j<p.right.length) (hx:(G.nk:Int)≤p.right.getD j 0):FlwSound G (updT F (p.right.getD j 0 - G.nk).toNat (joinTo (F (p.right.getD j 0 - G.nk).toNat) (flw1 G (p.right.drop (j+1))) G.nk)):=by
 constructor
 · unfold updT
   split
   · rename_i e;rw[← e];exact joinTo_up h.1
   · exact h.1
 · intro r k hk
   unfold updT at hk
   by_cases e:r=(p.right.getD j 0 - G.nk).toNat
   · rw[if_pos e] at hk
     unfold joinTo at hk
     rw[Bool.or_eq_true,Bool.and_eq_true,decide_eq_true_eq] at hk
     rw[e]
     rcases hk with hk | hk
     · exact h.2 _ _ hk
     · exact .first p hp hr j hj hx k hk.1 hk.2
   · rw[if_neg e] at hk;exact h.2 _ _ hk
theorem flw_up2 {G:Gm} {F:Nat→Nat→Bool} (h:FlwSound G F) {p:Pd} (hp:p ∈ G.prods) (hr:atF G p.left.toNat=true) {j:Nat} (hj:j<p.right.length) (hx:(G.nk:Int)≤p.right.getD j 0) (he:emptyB G.nk (nullF G) (p.right.drop (j+1))=true):FlwSound G (updT F (p.right.getD j 0 - G.nk).toNat (joinTo (F (p.right.getD j 0 - G.nk).toNat) (F p.left.toNat) G.nk)):=by
 constructor
 · unfold updT
   split
   · rename_i e;rw[← e];exact joinTo_up h.1
   · exact h.1
 · intro r k hk
   unfold updT at hk
   by_cases e:r=(p.right.getD j 0 - G.nk).toNat
   · rw[if_pos e] at hk
     unfold joinTo at hk
     rw[Bool.or_eq_true,Bool.and_eq_true] at hk
     rw[e]
     rcases hk with hk | hk
     · exact h.2 _ _ hk
     · exact .behind p hp hr j hj hx he k (h.2 _ _ hk.2)
   · rw[if_neg e] at hk;exact h.2 _ _ hk
theorem flw_done {G:Gm} (hG:GOk G) {F:Nat→Nat→Bool} (h:FlwSound G F) (hs:FlwShut G F):F=flwF G:=by
 funext r k
 rw[Bool.eq_iff_iff,flwF_is]
 refine⟨h.2 r k,fun hn=>?_⟩
 have key:∀ (f g:Nat→Bool) k,k<G.nk→newTo f g G.nk=false→g k=true→f k=true:=fun f g k hk hn hg=>by
   cases hf:f k with
   | true=>rfl
   | false=>rw[newTo_iff.2 ⟨k,hk,hg,hf⟩] at hn;cases hn
 induction hn with
 | start=>exact h.1
 | first p hp hr i hi hx k hk h1 =>
   obtain⟨a,ha,rfl⟩:=ex_getP hp
   exact key _ _ k hk (hs a ha hr i hi hx).1 h1
 | behind p hp hr i hi hx he k h1 ih =>
   obtain⟨a,ha,rfl⟩:=ex_getP hp
   exact key _ _ k (flw_lt hG h1) ((hs a ha hr i hi hx).2 he) ih
end Go.Proofs.YtagohbpbgjelaaaGreatDoor

namespace Go.Proofs.YtagohbpbgjelaaaGreatDoor
open Go.RowKit

def restOf (row:List Int) (j:Nat):List Int:=row.take j ++ row.drop (j+1)
inductive Mks (G:Gm):Nat→Nat→Prop
 | one (p:Pd) (hp:p ∈ G.prods) (j:Nat) (hj:j<p.right.length) (hx:(G.nk:Int)≤p.right.getD j 0) (he:emptyB G.nk (nullF G) (restOf p.right j)=true):Mks G p.left.toNat (p.right.getD j 0 - G.nk).toNat
 | trans (a b c:Nat) (h1:Mks G a b) (h2:Mks G b c):Mks G a c
open Classical in
noncomputable def mksF (G:Gm):Nat→Nat→Bool:=fun r k=>decide (Mks G r k)
theorem mksF_is (G:Gm) (r k:Nat):mksF G r k=true↔Mks G r k:=by unfold mksF;simp
theorem mks_lt {G:Gm} (hG:GOk G) {r k:Nat} (h:Mks G r k):r<G.nr∧k<G.nr:=by
 induction h with
 | one p hp j hj hx he =>
   have h1:=hG.pl p hp
   have h2:=hG.py p hp _ (mem_getD hj)
   omega
 | trans a b c h1 h2 i1 i2=>exact⟨i1.1,i2.2⟩
def MksSound (G:Gm) (F:Nat→Nat→Bool):Prop:=∀ r k,F r k=true→Mks G r k
def mksHas (G:Gm) (F:Nat→Nat→Bool) (l:Nat) (row:List Int) (j:Nat):Prop:=(G.nk:Int)≤row.getD j 0→emptyB G.nk (nullF G) (restOf row j)=true→F l (row.getD j 0 - G.nk).toNat=true
def mksAll (G:Gm) (F:Nat→Nat→Bool) (p:Pd):Prop:=∀ j,j<p.right.length→mksHas G F p.left.toNat p.right j
def MksBase (G:Gm) (F:Nat→Nat→Bool):Prop:=∀ i,i<G.prods.length→mksAll G F (G.prods.getD i pd0)
def mksNew (n:Nat) (F:Nat→Nat→Bool) (i k:Nat):Bool:=F i k && newTo (F i) (F k) n
def MksShut (n:Nat) (F:Nat→Nat→Bool):Prop:=∀ i,i<n→∀ k,k<n→mksNew n F i k=false
theorem has_up {G:Gm} {F F':Nat→Nat→Bool} {l:Nat} {row:List Int} {j:Nat} (h:mksHas G F l row j) (hu:∀ r k,F r k=true→F' r k=true):mksHas G F' l row j:=fun h1 h2=>hu _ _ (h h1 h2)
theorem updT_up {F:Nat→Nat→Bool} {l:Nat} {f:Nat→Bool} (h:∀ k,F l k=true→f k=true):∀ r k,F r k=true→updT F l f r k=true:=by
 intro r k hk
 unfold updT
 by_cases e:r=l
 · subst e;rw[if_pos rfl];exact h k hk
 · rw[if_neg e];exact hk
theorem mks_join {G:Gm} {F:Nat→Nat→Bool} {i k n:Nat} (h:MksSound G F) (hik:F i k=true):MksSound G (updT F i (joinTo (F i) (F k) n)):=by
 intro r m hm
 unfold updT at hm
 by_cases e:r=i
 · rw[if_pos e] at hm
   unfold joinTo at hm
   rw[Bool.or_eq_true,Bool.and_eq_true] at hm
   rw[e]
   rcases hm with hm | hm
   · exact h _ _ hm
   · exact .trans i k m (h _ _ hik) (h _ _ hm.2)
 · rw[if_neg e] at hm;exact h _ _ hm
theorem mks_done {G:Gm} (hG:GOk G) {F:Nat→Nat→Bool} (h:MksSound G F) (hb:MksBase G F) (hs:MksShut G.nr F):F=mksF G:=by
 funext r k
 rw[Bool.eq_iff_iff,mksF_is]
 refine⟨h r k,fun hn=>?_⟩
 induction hn with
 | one p hp j hj hx he =>
   obtain⟨a,ha,rfl⟩:=ex_getP hp
   exact hb a ha j hj hx he
 | trans a b c h1 h2 i1 i2 =>
   have l1:=mks_lt hG h1
   have l2:=mks_lt hG h2
   have:=hs a l1.1 b l1.2
   unfold mksNew at this
   rw[i1,Bool.true_and] at this
   cases hf:F a c with
   | true=>rfl
   | false=>rw[newTo_iff.2 ⟨c,l2.2,i2,hf⟩] at this;cases this
theorem updT_upd {F:Nat→Nat→Bool} {l s:Nat} (r k:Nat):updT F l (upd (F l) s) r k=true↔(r=l∧k=s)∨F r k=true:=by
 unfold updT
 by_cases e:r=l
 · subst e
   rw[if_pos rfl]
   unfold upd
   by_cases e2:k=s
   · simp[e2]
   · simp[e2]
 · rw[if_neg e];simp[e]
end Go.Proofs.YtagohbpbgjelaaaGreatDoor

namespace Go.Proofs.YtagohbpbgjelaaaGreatDoor
open Go.RowKit

theorem own_nrow {w:World} {B:Nat} {v:Value} {l:List Int} (h:w.ownsRow B 3 1 v l.length (vints l)):∃ a c,v=.slice a l.length c∧NRow w.heap.size w a l:=by
 obtain⟨a,c,rfl⟩:=own_form h
 refine⟨a,c,rfl,?_⟩
 rcases h.2 with ⟨hv,hn⟩ | ⟨g,cap,cur,hv,hg,hh,-⟩
 · exact .inl (List.eq_nil_of_length_eq_zero hn)
 · cases hv
   refine .inr ⟨g,0,rfl,(Array.getElem?_eq_some_iff.1 hh).1,fun j hj=>?_⟩
   rw[Nat.zero_add,h.cellAt j (by omega)]
   simp[vints,List.getD_eq_getElem?_getD,hj]
theorem own_two {w:World} {B B' e e' s s' n m:Nat} {v v':Value} {xs ys:List Value} (h:w.ownsRow B e s v n xs) (h':w.ownsRow B' e' s' v' m ys) (hne:e≠e'):∀ k,v.ownBlock=some k→v'.ownBlock≠some k:=by
 intro k hk hk'
 rcases h.2 with ⟨rfl,-⟩ | ⟨g,cap,cur,rfl,-,hg,-⟩
 · simp[Value.ownBlock] at hk
 · rcases h'.2 with ⟨rfl,-⟩ | ⟨g',cap',cur',rfl,-,hg',-⟩
   · simp[Value.ownBlock] at hk'
   · simp[Value.ownBlock] at hk hk'
     subst hk
     subst hk'
     rw[hg] at hg'
     simp at hg'
     exact hne hg'.2
theorem own_grown {w w':World} {B B' e e' s s' n m:Nat} {v v':Value} {xs ys:List Value} (h:w.ownsRow B e s v n xs) (h':w.ownsRow B' e' s' v' m ys) (hg:w.grownBy w' v'.ownBlock) (hne:e≠e'):w'.ownsRow B e s v n xs:=by
 refine⟨h.1,?_⟩
 rcases h.2 with h0 | ⟨g,cap,cur,hv,h1,h2,rest⟩
 · exact .inl h0
 · exact .inr ⟨g,cap,cur,hv,h1,(hg.block g (Array.getElem?_eq_some_iff.1 h2).1 (fun e=>own_two h h' hne g (by rw[hv];rfl) e.symm)).trans h2,rest⟩
theorem own_below {w w':World} {B e s n:Nat} {v:Value} {xs:List Value} (h:w.ownsRow B e s v n xs) (hb:Below w.heap.size w w'):w'.ownsRow B e s v n xs:=by
 refine⟨h.1,?_⟩
 rcases h.2 with h0 | ⟨g,cap,cur,hv,h1,h2,rest⟩
 · exact .inl h0
 · exact .inr ⟨g,cap,cur,hv,h1,(hb.block g (Array.getElem?_eq_some_iff.1 h2).1).trans h2,rest⟩
theorem own_base {w:World} {B B' e s n:Nat} {v:Value} {xs:List Value} (h:w.ownsRow B e s v n xs) (hB:B'≤B):w.ownsRow B' e s v n xs:=by
 refine⟨h.1,?_⟩
 rcases h.2 with h0 | ⟨g,cap,cur,hv,h1,rest⟩
 · exact .inl h0
 · exact .inr ⟨g,cap,cur,hv,by omega,rest⟩
def NNRow (w:World) (a:Option Addr) (ll:List (List Int)):Prop :=
 ll=[]∨∃ b off,a=some ⟨b,off,none⟩∧b<w.heap.size∧∀ j,j<ll.length→∃ ra rc,w.cell? ⟨b,off+j,none⟩=some (.slice ra (ll.getD j []).length rc)∧NRow w.heap.size w ra (ll.getD j [])
theorem nrow_up {w w':World} {a:Option Addr} {l:List Int} (h:NRow w.heap.size w a l) (hb:Below w.heap.size w w'):NRow w'.heap.size w' a l:=by
 rcases nrow_kept hb h with h | ⟨b,off,h1,h2,h3⟩
 · exact .inl h
 · exact .inr ⟨b,off,h1,Nat.lt_of_lt_of_le h2 hb.size,h3⟩
theorem nnrow_up {w w':World} {a:Option Addr} {l:List (List Int)} (h:NNRow w a l) (hb:Below w.heap.size w w'):NNRow w' a l:=by
 rcases h with h | ⟨b,off,h1,h2,h3⟩
 · exact .inl h
 · refine .inr ⟨b,off,h1,Nat.lt_of_lt_of_le h2 hb.size,fun j hj=>?_⟩
   obtain⟨ra,rc,h4,h5⟩:=h3 j hj
   exact⟨ra,rc,(hb.cell h2).trans h4,nrow_up h5 hb⟩
def posT (F:Nat→Nat→Bool) (nk n:Nat):List (List Int):=(List.range n).map fun r=>posL (boolsOf (F r) nk)

def NewKept (lo:Nat) (w W:World):Prop:=w.heap.size≤W.heap.size∧∀ k,lo≤k→k<w.heap.size→W.heap[k]? = w.heap[k]?
theorem newKept_t {lo:Nat} {a b c:World} (h:NewKept lo a b) (k:NewKept lo b c):NewKept lo a c:=⟨Nat.le_trans h.1 k.1,fun j h1 h2=>(k.2 j h1 (Nat.lt_of_lt_of_le h2 h.1)).trans (h.2 j h1 h2)⟩
theorem newKept_below {lo:Nat} {a b:World} (h:Below a.heap.size a b):NewKept lo a b:=⟨h.size,fun k _ hk=>h.block k hk⟩
theorem newKept_fr {lo:Nat} {O:Nat→Prop} {a b:World} (h:Fr O a b) (hO:∀ k,O k→k<lo):NewKept lo a b:=⟨h.1,fun k h1 h2=>h.2.1 k h2 (fun ho=>by have:=hO k ho;omega)⟩
theorem own_newKept {w W:World} {B e s n:Nat} {v:Value} {xs:List Value} (h:w.ownsRow B e s v n xs) (hk:NewKept B w W):W.ownsRow B e s v n xs:=by
 refine⟨h.1,?_⟩
 rcases h.2 with h0 | ⟨g,cap,cur,hv,h1,h2,rest⟩
 · exact .inl h0
 · exact .inr ⟨g,cap,cur,hv,h1,(hk.2 g h1 (Array.getElem?_eq_some_iff.1 h2).1).trans h2,rest⟩

set_option maxHeartbeats 1000000 in
set_option maxRecDepth 100000 in
theorem rLists_any (tb tc nr nk : Nat) (bk : Nat → Nat) (F : Nat → Nat → Bool) (hnr : nr ≤ 1048576) (hnk : nk ≤ 1048576) (w : World) (ht : TabIs w tb nr nk bk F) :
   Calls Tryz.prog 43 #[.slice (some ⟨tb,0,none⟩) nr tc] w fun e w'=>∃ a c,e=.returned (.slice a (posT F nk nr).length c)∧(∀ W,NewKept w.heap.size w' W→NNRow W a (posT F nk nr))∧Below w.heap.size w w':=by
 obtain⟨i0,hi,hz0,hz1,hz2⟩:=info_parts info27
 have Ht:=hide ht
 clear ht
 go_enter Tryz.func43,Tryz.ntmps43
 go_wp2
 go_loopw [3,4] (fun u x wr=>∃ (k:Nat) (vs:List Value),x=.int .i64 k∧k≤nr∧vs.length=k∧wr.ownsRow w.heap.size 27 1 u k vs∧(∀ j,j<k→∃ v,vs[j]? = some v∧wr.ownsRow w.heap.size 3 1 v (posL (boolsOf (F j) nk)).length (vints (posL (boolsOf (F j) nk))))∧Below w.heap.size w wr) (fun _ x _=>nr - (intOf x).toNat)
 case atStart=>exact⟨0,[],rfl,Nat.zero_le _,rfl,World.ownsRow_nil _ _ _ _,fun j hj=>absurd hj (Nat.not_lt_zero _),Below.refl _ _⟩
 case round =>
   obtain⟨k,vs,rfl,hk,hvs,hown,hrows,hb⟩:=hrel
   obtain⟨ua,uc,rfl⟩:=own_form hown
   have hsz:=hb.size
   have Hown:=hide hown;have Hb:=hide hb;have Hrows:=hide hrows;have Hvs:=hide hvs
   clear hown hb hrows hvs
   by_cases hlt:k<nr
   · have hlt':(k:Int)<nr:=by omega
     have htW:=tab_below (uh Ht) (uh Hb) (Nat.le_refl _)
     have ct:=htW.cell k hlt
     have HL:=rList_any (some ⟨bk k,0,none⟩) nk (boolsOf (F k) nk) (by rw[boolsOf_len];omega) wr (mrow_rowIs (htW.row k hlt))
     rw[boolsOf_len] at HL
     have HL:=hide HL
     clear htW
     go_wp2_with fail
     refine(uh HL).mono ?_
     rintro e W2 ⟨v2,rfl,hown2,hb2⟩
     have Hown2:=hide (own_base hown2 hsz)
     have Hb2:=hide ((uh Hb).trans (below_le hb2 hsz))
     have HownW:=hide (own_below (uh Hown) hb2)
     have HrowsW:Hid (∀ j,j<k→∃ v,vs[j]? = some v∧W2.ownsRow w.heap.size 3 1 v (posL (boolsOf (F j) nk)).length (vints (posL (boolsOf (F j) nk)))):=hide (fun j hj=>by
       obtain⟨v,h1,h2⟩:=uh Hrows j hj
       exact⟨v,h1,own_below h2 hb2⟩)
     have hsz2:=(uh Hb2).size
     obtain⟨a2,c2,rfl⟩:=own_form (uh Hown2)
     clear hown2 hb2 Hrows Hown Hb HL
     generalize hP:posL (boolsOf (F k) nk)=P at *
     have HP:=hide hP
     clear hP
     go_wp2_with (at_builtin;refine wpList_append_own _ rfl _ _ 29 rfl w.heap.size 27 i0 (.slice none 0 0) 1 24 Tryz.underlying29 hi hz0 hz1 hz2 rfl (by decide) _ _ _ rfl ((uh HownW).alloc _) ⟨W2.heap.size,0,none⟩ 1 1 [.slice a2 P.length c2] rfl rfl ?zc1 ?zc2 ?zc3 ?zc4 ?zc5 ?_)
     case zc1=>exact new1 _ _ _
     case zc2=>intro u hu;simp at hu;rcases hu with rfl;rfl
     case zc3=>unfold maxLen;omega
     case zc4=>omega
     case zc5=>simp;omega
     intro v' W3 hown' hgrow _
     have Hb4:=hide (((uh Hb2).alloc hsz2 _).grown hgrow (by simp;omega) (fun j hj=>((uh HownW).lt j hj).1))
     have Hr4:Hid (∀ j,j<k+1→∃ v,(vs ++ [.slice a2 P.length c2])[j]? = some v∧W3.ownsRow w.heap.size 3 1 v (posL (boolsOf (F j) nk)).length (vints (posL (boolsOf (F j) nk)))):=hide (fun j hj=>by
       have hv:=uh Hvs
       by_cases e:j=k
       · subst e
         refine⟨.slice a2 P.length c2,by rw[List.getElem?_append_right (by omega),hv];simp,?_⟩
         rw[uh HP]
         exact own_grown ((uh Hown2).alloc _) ((uh HownW).alloc _) hgrow (by decide)
       · obtain⟨v,h1,h2⟩:=uh HrowsW j (by omega)
         refine⟨v,by rw[List.getElem?_append_left (by omega)];exact h1,?_⟩
         exact own_grown (h2.alloc _) ((uh HownW).alloc _) hgrow (by decide))
     have Ho4:=hide hown'
     have Hv4:Hid ((vs ++ [Value.slice a2 P.length c2]).length=k+1):=hide (by rw[List.length_append,uh Hvs];rfl)
     clear hown' hgrow
     go_wp2
     go_roundw
     case rel=>exact⟨k+1,_,by go_num,by omega,uh Hv4,uh Ho4,uh Hr4,uh Hb4⟩
     case measure=>simp[intOf];omega
   · obtain rfl:k=nr:=by omega
     have hpl:(posT F nk k).length=k:=by simp[posT]
     have Hpl:=hide hpl
     clear hpl
     go_wp2
     go_ret
     rw[uh Hpl]
     refine⟨_,_,rfl,fun W hW=>?_,uh Hb⟩
     have HownW:=hide (own_newKept (uh Hown) hW)
     rcases(uh HownW).2 with ⟨hv,hn⟩ | ⟨g,cap,cur,hv,hg,hh,-⟩
     · exact .inl (List.eq_nil_of_length_eq_zero (by rw[uh Hpl];exact hn))
     · cases hv
       refine .inr ⟨g,0,rfl,(Array.getElem?_eq_some_iff.1 hh).1,fun j hj=>?_⟩
       rw[uh Hpl] at hj
       obtain⟨v,h1,h2⟩:=uh Hrows j hj
       obtain⟨a,c,rfl,h3⟩:=own_nrow (own_newKept h2 hW)
       have e:(posT F nk k).getD j []=posL (boolsOf (F j) nk):=by simp[posT,hj]
       rw[e]
       exact⟨a,c,by rw[Nat.zero_add,(uh HownW).cellAt j (by omega)];exact h1,h3⟩
end Go.Proofs.YtagohbpbgjelaaaGreatDoor

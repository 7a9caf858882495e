/- The document's Check. -/
import Derived.Test.YtagohbpbgjelaaaGreatDoorA2
import Derived.Deep.CutRange
import Derived.Deep.DeepCutAuto
import Derived.Test.YtagohbpbgjelaaaGreatDoorP0
import Derived.Test.YtagohbpbgjelaaaGreatDoorR1
namespace Go.Proofs.YtagohbpbgjelaaaGreatDoor
open Go.RowKit

def za2 (G:Gm) (k:Nat):Prop:=∀ i,i<k→zdC G.kinds.length G.rules.length (G.prods.getD i pd0)=true
instance (G:Gm) (k:Nat):Decidable (za2 G k):=by unfold za2;infer_instance
def za6 (G:Gm):Bool:=decide (zca G.kinds=true∧G.precs.length=G.kinds.length∧zbs G.precs=true∧zbW G.rules=true∧0≤G.start∧G.start<G.rules.length∧G.prods.length≤4096∧za2 G G.prods.length)
def zbp (G:Gm):Int:=if za6 G then 0 else 130
theorem zbS {G:Gm} (h:za6 G=true):GOk G:=by
 have h:=of_decide_eq_true h
 have hk:=of_decide_eq_true h.1
 have hn:=of_decide_eq_true h.2.2.2.1
 have hp:∀ p,p ∈ G.prods→zdC G.kinds.length G.rules.length p=true:=fun p hp=>by
  obtain⟨i,hi,rfl⟩:=zdN hp
  exact h.2.2.2.2.2.2.2 i hi
 refine⟨hk.1,hk.2.1,hn.1,hn.2.1,h.2.2.2.2.1,h.2.2.2.2.2.1,h.2.2.2.2.2.2.1,fun p hq=>?_,fun p hq=>?_,fun p hq x hx=>?_⟩
 ·have:=of_decide_eq_true (hp p hq);exact⟨this.1,this.2.1⟩
 ·exact(of_decide_eq_true (hp p hq)).2.2.1
 ·obtain⟨i,hi,rfl⟩:=List.getElem_of_mem hx
  have:=(of_decide_eq_true (hp p hq)).2.2.2.2.1 i hi
  rw[List.getD_eq_getElem?_getD,List.getElem?_eq_getElem hi] at this
  exact this

set_option maxHeartbeats 4000000 in
set_option maxRecDepth 100000 in
theorem zdc (G : Gm) (ka pa ra qa : Option Addr) (kc pc rc qc : Nat) (B : Nat) (w : World) (hB : B ≤ w.heap.size) (hin : GIn B w G ka pa ra qa) (hsm : ∀ p, p ∈ G.prods → p.right.length ≤ 281474976710656) :
    Calls Tryz.prog 14 #[.agg #[.slice ka G.kinds.length kc,.slice pa G.precs.length pc,.slice ra G.rules.length rc,.slice qa G.prods.length qc,.int .i64 G.start]] w fun e w'=>e=.returned (.int .i64 (zbp G))∧Below w.heap.size w w':=by
  have Hyes:=zaa (fun(h:zca G.kinds=true∧G.precs.length=G.kinds.length∧zbs G.precs=true∧zbW G.rules=true∧0≤G.start∧G.start<G.rules.length∧G.prods.length≤4096∧za2 G G.prods.length)=>show zbp G=0 by unfold zbp za6;rw[decide_eq_true h];rfl)
  have Hno:=zaa (fun(h:¬ (zca G.kinds=true∧G.precs.length=G.kinds.length∧zbs G.precs=true∧zbW G.rules=true∧0≤G.start∧G.start<G.rules.length∧G.prods.length≤4096∧za2 G G.prods.length))=>show zbp G=130 by unfold zbp za6;rw[decide_eq_false h];rfl)
  generalize zbp G=R at *
  have Hst:=zaa (zbt (kc:=kc) (pc:=pc) (rc:=rc) (qc:=qc) hB hin 26)
  have hb1:Below w.heap.size w (w.alloc (.cells #[.slice ka G.kinds.length kc,.slice pa G.precs.length pc,.slice ra G.rules.length rc,.slice qa G.prods.length qc,.int .i64 G.start] 26)):=(Below.refl _ _).alloc (Nat.le_refl _) _
  have hw1:(w.alloc (.cells #[.slice ka G.kinds.length kc,.slice pa G.precs.length pc,.slice ra G.rules.length rc,.slice qa G.prods.length qc,.int .i64 G.start] 26)).heap.size=w.heap.size+1:=by simp
  have hk:=zlf ka kc G.kinds B (w.alloc (.cells #[.slice ka G.kinds.length kc,.slice pa G.precs.length pc,.slice ra G.rules.length rc,.slice qa G.prods.length qc,.int .i64 G.start] 26)) (by omega) (uh Hst).gin.kinds
  have HK:=zaa hk
  have Hb1:=zaa hb1
  have Hsm:=zaa hsm
  clear hk hb1 hin hsm
  have hnot:=zaG
  have fin:∀ W:World,Below (w.heap.size+1) (w.alloc (.cells #[.slice ka G.kinds.length kc,.slice pa G.precs.length pc,.slice ra G.rules.length rc,.slice qa G.prods.length qc,.int .i64 G.start] 26)) W→Below w.heap.size w W:=fun W h=>(uh Hb1).trans (zab h (by omega))
  have Hfin:=zaa fin
  clear fin
  cases hkb:zca G.kinds
  · rw[hkb] at HK
    have Hr:=zaa (uh Hno (fun h=>by rw[hkb] at h;exact absurd h.1 (by simp)))
    clear hkb Hno Hyes
    go_enter Tryz.func14,Tryz.ntmps14
    go_wp2_with fail
    refine(uh HK).mono ?_
    rintro e w2 ⟨rfl,hb2⟩
    rw[hw1] at hb2
    have Hb2:=zaa (uh Hfin _ hb2)
    clear hb2
    go_wp2
    go_ret
    rw[uh Hr]
    exact⟨rfl,uh Hb2⟩
  · rw [hkb] at HK
    have hkn:=(of_decide_eq_true hkb).2.1
    go_enter Tryz.func14,Tryz.ntmps14
    go_wp2_with fail
    refine(uh HK).mono ?_
    rintro e w2 ⟨rfl,hb2⟩
    rw[hw1] at hb2
    have hst2:=zan hb2 hB (uh Hst)
    have g0:=hst2.c0;have g1:=hst2.c1;have g2:=hst2.c2;have g3:=hst2.c3;have g4:=hst2.c4
    have Hg2:=zaa hst2.gin
    have hsz2:=hb2.size
    have Hb2:=zaa hb2
    clear hst2 hb2
    by_cases hpl:G.precs.length=G.kinds.length
    · have hpl' : ((G.precs.length : Int) != G.kinds.length) = false := by simp; omega
      have HL:=zaa (zjs pa pc G.precs (by omega) B w2 (by omega) (uh Hg2).precs)
      have Hpl:=zaa hpl
      clear hpl
      cases hlb:zbs G.precs
      · rw[hlb] at HL
        have Hr:=zaa (uh Hno (fun h=>by rw[hlb] at h;exact absurd h.2.2.1 (by simp)))
        clear hlb Hno Hyes hkb
        go_wp2_with fail
        refine(uh HL).mono ?_
        rintro e w3 ⟨rfl,hb3⟩
        have Hb3:=zaa (uh Hfin _ ((uh Hb2).trans (zab hb3 (by omega))))
        clear hb3
        go_wp2
        go_ret
        rw[uh Hr]
        exact⟨rfl,uh Hb3⟩
      · rw [hlb] at HL
        go_wp2_with fail
        refine(uh HL).mono ?_
        rintro e w3 ⟨rfl,hb3⟩
        have hb3':=(uh Hb2).trans (zab hb3 (by omega))
        have hst3:=zan hb3' hB (uh Hst)
        have e0:=hst3.c0;have e1:=hst3.c1;have e2:=hst3.c2;have e3:=hst3.c3;have e4:=hst3.c4
        have HN:=zaa (zld ra rc G.rules B w3 (by have:=hb3'.size;omega) hst3.gin.rules)
        have Hb3:=zaa hb3'
        have hsz3:=hb3'.size
        clear hst3 hb3 hb3'
        cases hnb:zbW G.rules
        · rw[hnb] at HN
          have Hr:=zaa (uh Hno (fun h=>by rw[hnb] at h;exact absurd h.2.2.2.1 (by simp)))
          clear hlb hnb Hno Hyes hkb
          go_wp2_with fail
          refine(uh HN).mono ?_
          rintro e w4 ⟨rfl,hb4⟩
          have Hb4:=zaa (uh Hfin _ ((uh Hb3).trans (zab hb4 (by omega))))
          clear hb4
          go_wp2
          go_ret
          rw[uh Hr]
          exact⟨rfl,uh Hb4⟩
        · rw [hnb] at HN
          have hnn:=(of_decide_eq_true hnb).2.1
          have Hyes2:=zaa (fun(h:0≤G.start∧G.start<G.rules.length∧G.prods.length≤4096∧za2 G G.prods.length)=>uh Hyes ⟨hkb,uh Hpl,hlb,hnb,h⟩)
          have Hno2:=zaa (fun(h:¬ (0≤G.start∧G.start<G.rules.length∧G.prods.length≤4096∧za2 G G.prods.length))=>uh Hno (fun k=>h k.2.2.2.2))
          clear hlb hnb Hno Hyes hkb
          go_wp2_with fail
          refine(uh HN).mono ?_
          rintro e w4 ⟨rfl,hb4⟩
          have hb4':=(uh Hb3).trans (zab hb4 (by omega))
          have hst4:=zan hb4' hB (uh Hst)
          have f0:=hst4.c0;have f1:=hst4.c1;have f2:=hst4.c2;have f3:=hst4.c3;have f4:=hst4.c4
          have Hb4:=zaa hb4'
          clear hb4 hb4' hst4 g0 g1 g2 g3 g4 e0 e1 e2 e3 e4
          by_cases hs:0≤G.start∧G.start<G.rules.length∧G.prods.length≤4096
          · have h1:¬ G.start<0:=by omega
            have h2:¬ (G.rules.length:Int)≤G.start:=by omega
            have h3:¬ (4096:Int)<G.prods.length:=by omega
            have Hyes3:=zaa (fun(h:za2 G G.prods.length)=>uh Hyes2 ⟨hs.1,hs.2.1,hs.2.2,h⟩)
            have Hno3:=zaa (fun(h:¬ za2 G G.prods.length)=>uh Hno2 (fun k=>h k.2.2.2))
            have hq4:=hs.2.2
            clear hs Hyes2 Hno2
            go_wp2
            generalize w.alloc (.cells #[.slice ka G.kinds.length kc,.slice pa G.precs.length pc,.slice ra G.rules.length rc,.slice qa G.prods.length qc,.int .i64 G.start] 26)=w1 at *
            go_loopw [3] (fun x W=>∃ i:Nat,x=.int .i64 i∧i≤G.prods.length∧za2 G i∧Below (w.heap.size+1) w1 W) (fun x _=>G.prods.length - (intOf x).toNat)
            case atStart=>exact⟨0,rfl,Nat.zero_le _,fun j hj=>absurd hj (Nat.not_lt_zero _),uh Hb4⟩
            case round =>
              clear f0 f1 f2 f3 f4
              obtain⟨i,rfl,hi,hpt,hb⟩:=hrel
              have hst:=zan hb hB (uh Hst)
              have g0:=hst.c0;have g1:=hst.c1;have g2:=hst.c2;have g3:=hst.c3;have g4:=hst.c4
              have Hg:=zaa hst.gin
              have hszw:=hb.size
              have Hpt:=zaa hpt;have Hb:=zaa hb
              clear hst hb hpt
              by_cases hlt:i<G.prods.length
              · have hlt':(i:Int)<G.prods.length:=by omega
                obtain⟨b,off,rfl,hbB,rr,rrc,x3,x4,x5,x6,n6,c6,hrr,hac,q0,q1,q2,q3,q4,q5,q6⟩:=zbz (uh Hg).prods hlt
                have HP:=zaa (zmE ka pa ra (some ⟨b,off,none⟩) G.kinds.length kc G.precs.length pc G.rules.length rc G.prods.length qc G.start hkn hnn (G.prods.getD i pd0) B wr.drew (by show B≤wr.heap.size;omega) rr rrc x3 x4 x5 x6 n6 c6 hrr (zbd ((Below.refl B wr).drew) _ _ _ _ _ hac) (uh Hsm _ (zag hlt)))
                have Hs:=zaa (fun(h:zdC G.kinds.length G.rules.length (G.prods.getD i pd0)=true)=>show za2 G (i+1) from fun j hj=>by
                  by_cases e:j=i
                  · subst e;exact h
                  · exact uh Hpt j (by omega))
                have Hn:=zaa (fun(h:zdC G.kinds.length G.rules.length (G.prods.getD i pd0)=false)=>uh Hno3 (fun k=>by rw[k i hlt] at h;cases h))
                clear hrr hac
                generalize G.prods.getD i pd0=p at *
                obtain⟨pl,prt,plv,pac⟩:=p
                simp only at q0 q1 q2 HP
                have HS:Hid (∀ W:World,Below wr.heap.size wr W→W.cell? ⟨w.heap.size,0,none⟩=some (.slice ka G.kinds.length kc)∧W.cell? ⟨w.heap.size,1,none⟩=some (.slice pa G.precs.length pc)∧W.cell? ⟨w.heap.size,2,none⟩=some (.slice ra G.rules.length rc)∧W.cell? ⟨w.heap.size,3,none⟩=some (.slice (some ⟨b,off,none⟩) G.prods.length qc)∧W.cell? ⟨w.heap.size,4,none⟩=some (.int .i64 G.start)∧W.cell? ⟨b,off+i * 7,none⟩=some (.int .i64 pl)∧W.cell? ⟨b,off+i * 7+1,none⟩=some (.slice rr prt.length rrc)∧W.cell? ⟨b,off+i * 7+2,none⟩=some (.int .i64 plv)∧W.cell? ⟨b,off+i * 7+3,none⟩=some (.int .i64 x3)∧W.cell? ⟨b,off+i * 7+4,none⟩=some (.int .i64 x4)∧W.cell? ⟨b,off+i * 7+5,none⟩=some (.string x5)∧W.cell? ⟨b,off+i * 7+6,none⟩=some (.slice x6 n6 c6)):=zaa (fun W hb=>by
                  have k1:=fun(j:Nat) (v:Value) (h:wr.cell? ⟨w.heap.size,j,none⟩=some v)=>(hb.cell (p:=⟨w.heap.size,j,none⟩) (by show w.heap.size<wr.heap.size;omega)).trans h
                  have k2:=fun(j:Nat) (v:Value) (h:wr.cell? ⟨b,j,none⟩=some v)=>(hb.cell (p:=⟨b,j,none⟩) (by show b<wr.heap.size;omega)).trans h
                  exact⟨k1 _ _ g0,k1 _ _ g1,k1 _ _ g2,k1 _ _ g3,k1 _ _ g4,k2 _ _ q0,k2 _ _ q1,k2 _ _ q2,k2 _ _ q3,k2 _ _ q4,k2 _ _ q5,k2 _ _ q6⟩)
                have hS:Below wr.heap.size wr wr.drew:=(Below.refl _ _).drew
                cases hpb:zdC G.kinds.length G.rules.length ⟨pl,prt,plv,pac⟩
                · rw [hpb] at HP
                  have Hr:=zaa (uh Hn hpb)
                  clear hpb Hs Hn
                  go_wp2
                  go_cut [60] from 53 to 60 (fun s wx=>s=.bool true∧Below wr.heap.size wr wx)
                  case first =>
                    go_region_held3 (fun W:World=>W.cell? ⟨w.heap.size,0,none⟩=some (.slice ka G.kinds.length kc)∧W.cell? ⟨w.heap.size,1,none⟩=some (.slice pa G.precs.length pc)∧W.cell? ⟨w.heap.size,2,none⟩=some (.slice ra G.rules.length rc)∧W.cell? ⟨w.heap.size,3,none⟩=some (.slice (some ⟨b,off,none⟩) G.prods.length qc)∧W.cell? ⟨w.heap.size,4,none⟩=some (.int .i64 G.start)∧W.cell? ⟨b,off+i * 7,none⟩=some (.int .i64 pl)∧W.cell? ⟨b,off+i * 7+1,none⟩=some (.slice rr prt.length rrc)∧W.cell? ⟨b,off+i * 7+2,none⟩=some (.int .i64 plv)∧W.cell? ⟨b,off+i * 7+3,none⟩=some (.int .i64 x3)∧W.cell? ⟨b,off+i * 7+4,none⟩=some (.int .i64 x4)∧W.cell? ⟨b,off+i * 7+5,none⟩=some (.string x5)∧W.cell? ⟨b,off+i * 7+6,none⟩=some (.slice x6 n6 c6))
                      (first | exact uh HS _ hS | fail)
                      (first
                        | (go_at_call 54;refine(uh HP).mono ?_;rintro e W3 ⟨rfl,hb3⟩;have hS:=hS.trans hb3;clear hb3)
                        | fail)
                    all_goals
                      go_wp2_with fail
                      go_meet
                      exact⟨rfl,hS⟩
                  case rest =>
                    obtain⟨rfl,hb5⟩:=hcut
                    have Hb5:=zaa (uh Hfin _ ((uh Hb).trans (zab hb5 (by omega))))
                    clear hb5
                    go_wp2
                    go_ret
                    rw[uh Hr]
                    exact⟨rfl,uh Hb5⟩
                · rw [hpb] at HP
                  have Hs2:=zaa (uh Hs hpb)
                  clear hpb Hs Hn
                  go_wp2
                  go_cut [60] from 53 to 60 (fun s wx=>s=.bool false∧Below wr.heap.size wr wx)
                  case first =>
                    go_region_held3 (fun W:World=>W.cell? ⟨w.heap.size,0,none⟩=some (.slice ka G.kinds.length kc)∧W.cell? ⟨w.heap.size,1,none⟩=some (.slice pa G.precs.length pc)∧W.cell? ⟨w.heap.size,2,none⟩=some (.slice ra G.rules.length rc)∧W.cell? ⟨w.heap.size,3,none⟩=some (.slice (some ⟨b,off,none⟩) G.prods.length qc)∧W.cell? ⟨w.heap.size,4,none⟩=some (.int .i64 G.start)∧W.cell? ⟨b,off+i * 7,none⟩=some (.int .i64 pl)∧W.cell? ⟨b,off+i * 7+1,none⟩=some (.slice rr prt.length rrc)∧W.cell? ⟨b,off+i * 7+2,none⟩=some (.int .i64 plv)∧W.cell? ⟨b,off+i * 7+3,none⟩=some (.int .i64 x3)∧W.cell? ⟨b,off+i * 7+4,none⟩=some (.int .i64 x4)∧W.cell? ⟨b,off+i * 7+5,none⟩=some (.string x5)∧W.cell? ⟨b,off+i * 7+6,none⟩=some (.slice x6 n6 c6))
                      (first | exact uh HS _ hS | fail)
                      (first
                        | (go_at_call 54;refine(uh HP).mono ?_;rintro e W3 ⟨rfl,hb3⟩;have hS:=hS.trans hb3;clear hb3)
                        | fail)
                    all_goals
                      go_wp2_with fail
                      go_meet
                      exact⟨rfl,hS⟩
                  case rest =>
                    obtain⟨rfl,hb5⟩:=hcut
                    have Hb5:=zaa ((uh Hb).trans (zab hb5 (by omega)))
                    clear hb5
                    go_wp2
                    go_roundw
                    case rel=>exact⟨i+1,by go_num,by omega,uh Hs2,uh Hb5⟩
                    case measure=>simp[intOf];omega
              · obtain rfl:i=G.prods.length:=by omega
                have Hr:=zaa (uh Hyes3 (uh Hpt))
                have Hb5:=zaa (uh Hfin _ (uh Hb))
                go_wp2
                go_ret
                rw[uh Hr]
                exact⟨rfl,uh Hb5⟩
          · have Hr:=zaa (uh Hno2 (fun h=>hs ⟨h.1,h.2.1,h.2.2.1⟩))
            have Hb5:=zaa (uh Hfin _ (uh Hb4))
            have Hx:=zaa hs
            clear hs Hyes2 Hno2
            go_wp2
            all_goals first
              | (go_ret;rw[uh Hr];exact⟨rfl,uh Hb5⟩)
              | (exfalso;have h1:=uh Hx;first | omega | (simp at *;omega))
    · have hpl':((G.precs.length:Int) != G.kinds.length)=true:=by simp;omega
      have Hr:=zaa (uh Hno (fun h=>hpl h.2.1))
      have Hb3:=zaa (uh Hfin _ (uh Hb2))
      clear Hno Hyes hkb hpl
      go_wp2
      go_ret
      rw[uh Hr]
      exact⟨rfl,uh Hb3⟩
end Go.Proofs.YtagohbpbgjelaaaGreatDoor

namespace Go.Proofs.YtagohbpbgjelaaaGreatDoor
open Go.RowKit

def zh6 (nk:Nat) (null:Nat→Bool) (F:Nat→Nat→Bool):List Int→Nat→Bool
  | [],_=>false
  | x::xs,k=>if x<nk then decide (k=x.toNat) else F (x - nk).toNat k || (null (x - nk).toNat && zh6 nk null F xs k)
end Go.Proofs.YtagohbpbgjelaaaGreatDoor

namespace Go.Proofs.YtagohbpbgjelaaaGreatDoor
open Go.RowKit

theorem zao {P:Program} {e:TypeId} {z:Option Value} {n b:Nat} (h:(P.info? e).map (fun i=>(i.zero,i.size,i.bytes))=some (z,n,b)):∃ i,P.info? e=some i∧i.zero=z∧i.size=n∧i.bytes=b:=by
  cases hi:P.info? e with
  | none=>rw[hi] at h;cases h
  | some i=>rw[hi] at h;simp at h;exact⟨i,rfl,h.1,h.2.1,h.2.2⟩
theorem zg5:(Tryz.prog.info? 27).map (fun i=>(i.zero,i.size,i.bytes))=some (some (.slice none 0 0),1,24):=by kernel_rfl
theorem zc0:(Tryz.prog.info? 3).map (fun i=>(i.zero,i.size,i.bytes))=some (some (.int .i64 0),1,8):=by kernel_rfl
theorem ziC (w:World) (x:Value) (t:TypeId):∀ j u,[x][j]? = some u→(w.alloc (.cells #[x] t)).cell? ((⟨w.heap.size,0,none⟩:Addr).add j)=some u:=by
  intro j u hj
  cases j with
  | zero =>
    simp at hj
    subst hj
    show (w.alloc (.cells #[x] t)).cell? ⟨w.heap.size,0+0,none⟩=some x
    unfold World.cell?
    rw[Go.Deep.blk_alloc_new]
    rfl
  | succ j=>simp at hj
end Go.Proofs.YtagohbpbgjelaaaGreatDoor

namespace Go.Proofs.YtagohbpbgjelaaaGreatDoor
open Go.RowKit

def zrX (w:World) (a:Option Addr) (l:List Bool):Prop :=
  l=[]∨∃ b off,a=some ⟨b,off,none⟩∧b<w.heap.size∧∀ j,j<l.length→w.cell? ⟨b,off+j,none⟩=some (.bool (l.getD j false))
theorem zm9 {w:World} {a:Option Addr} {l:List Bool} (h:zrX w a l) {k:Nat} (hk:k<l.length):∃ b off,a=some ⟨b,off,none⟩∧b<w.heap.size∧w.cell? ⟨b,off+k,none⟩=some (.bool (l.getD k false)):=by
  rcases h with rfl | ⟨b,off,h1,h2,h3⟩
  · simp at hk
  · exact⟨b,off,h1,h2,h3 k hk⟩
def zaC (f:Nat→Bool) (n:Nat):List Bool:=(List.range n).map f
theorem zbk (f:Nat→Bool) (n:Nat):(zaC f n).length=n:=by simp[zaC]
theorem zcW {f:Nat→Bool} {n k:Nat} (h:k<n):(zaC f n).getD k false=f k:=by simp[zaC,h]
theorem zea {w:World} {b n:Nat} {f:Nat→Bool} (h:w.rowIs b 4 n (fun r=>.bool (f r))):zrX w (some ⟨b,0,none⟩) (zaC f n) :=
  .inr ⟨b,0,rfl,h.lt,fun j hj=>by
    rw[zbk] at hj
    rw[zcW hj,Nat.zero_add]
    exact h.cell hj⟩
def zgK (l:List Bool):Nat→List Int
  | 0=>[]
  | k+1=>zgK l k ++ if l.getD k false then[(k:Int)] else[]
def zip (l:List Bool):List Int:=zgK l l.length
def zal (l:List Int):List Value:=l.map (Value.int .i64)
theorem zaN (l:List Int) (x:Int):zal l ++ [.int .i64 x]=zal (l ++ [x]):=by simp[zal]
theorem zbl (l:List Int):(zal l).length=l.length:=by simp[zal]

end Go.Proofs.YtagohbpbgjelaaaGreatDoor

namespace Go.Proofs.YtagohbpbgjelaaaGreatDoor
open Go.RowKit

theorem getD_cons_succ (x:Int) (xs:List Int) (i:Nat):(x::xs).getD (i+1) 0=xs.getD i 0:=rfl
theorem begB_iff {nk:Nat} {null:Nat→Bool} {F:Nat→Nat→Bool} {k:Nat}:∀ {row:List Int},zh6 nk null F row k=true↔∃ i,i<row.length∧zaT nk null (row.take i)=true∧((row.getD i 0<nk∧k=(row.getD i 0).toNat)∨((nk:Int)≤row.getD i 0∧F (row.getD i 0 - nk).toNat k=true))
  | []=>by simp[zh6]
  | x::xs=>by
    unfold zh6
    by_cases hx:x<nk
    · rw [if_pos hx, decide_eq_true_eq]
      constructor
      · intro h
        exact⟨0,by simp,rfl,.inl ⟨hx,h⟩⟩
      · rintro⟨i,hi,he,h⟩
        cases i with
        | zero =>
          rcases h with h | h
          · exact h.2
          · have:=h.1;simp at this;omega
        | succ i =>
          rw[emptyB_iff] at he
          have:=(he x (by simp)).1
          omega
    · rw [if_neg hx, Bool.or_eq_true, Bool.and_eq_true, begB_iff (row := xs)]
      constructor
      · rintro(h | ⟨h0,i,hi,he,h⟩)
        · exact⟨0,by simp,rfl,.inr ⟨by simp;omega,h⟩⟩
        · refine⟨i+1,by simp;exact hi,?_,h⟩
          rw[emptyB_iff] at he ⊢
          intro y hy
          rw[List.take_succ_cons,List.mem_cons] at hy
          rcases hy with rfl | hy
          · exact⟨by omega,h0⟩
          · exact he y hy
      · rintro⟨i,hi,he,h⟩
        cases i with
        | zero =>
          rcases h with h | h
          · exact absurd h.1 hx
          · exact .inl h.2
        | succ i =>
          rw[emptyB_iff] at he
          refine .inr ⟨(he x (by simp)).2,i,by simpa using hi,?_,h⟩
          rw[emptyB_iff]
          exact fun y hy=>he y (by rw[List.take_succ_cons];exact List.mem_cons_of_mem _ hy)

inductive Fst (G:Gm):Nat→Nat→Prop
  | kind (p:Pd) (hp:p ∈ G.prods) (i:Nat) (hi:i<p.right.length) (he:zaT G.nk (zaO G) (p.right.take i)=true) (hx:p.right.getD i 0<G.nk):Fst G p.left.toNat (p.right.getD i 0).toNat
  | rule (p:Pd) (hp:p ∈ G.prods) (i:Nat) (hi:i<p.right.length) (he:zaT G.nk (zaO G) (p.right.take i)=true) (hx:(G.nk:Int)≤p.right.getD i 0) (k:Nat) (h:Fst G (p.right.getD i 0 - G.nk).toNat k):Fst G p.left.toNat k
open Classical in
noncomputable def zeu (G:Gm):Nat→Nat→Bool:=fun r k=>decide (Fst G r k)
theorem zdI (G:Gm) (r k:Nat):zeu G r k=true↔Fst G r k:=by unfold zeu;simp
theorem zqg {G:Gm} (hG:GOk G) {r k:Nat} (h:Fst G r k):k<G.nk:=by
  induction h with
  | kind p hp i hi he hx =>
    have:=hG.py p hp _ (za5 hi)
    omega
  | rule p hp i hi he hx k h ih=>exact ih
end Go.Proofs.YtagohbpbgjelaaaGreatDoor

namespace Go.Proofs.YtagohbpbgjelaaaGreatDoor
open Go.RowKit

noncomputable abbrev atF (G:Gm):Nat→Bool:=zp5 G (fun _:Pd=>true)
inductive Flw (G:Gm):Nat→Nat→Prop
  | start:Flw G G.start.toNat 0
  | first (p:Pd) (hp:p ∈ G.prods) (hr:atF G p.left.toNat=true) (i:Nat) (hi:i<p.right.length) (hx:(G.nk:Int)≤p.right.getD i 0) (k:Nat) (hk:k<G.nk) (h:zh6 G.nk (zaO G) (zeu G) (p.right.drop (i+1)) k=true):Flw G (p.right.getD i 0 - G.nk).toNat k
  | behind (p:Pd) (hp:p ∈ G.prods) (hr:atF G p.left.toNat=true) (i:Nat) (hi:i<p.right.length) (hx:(G.nk:Int)≤p.right.getD i 0) (he:zaT G.nk (zaO G) (p.right.drop (i+1))=true) (k:Nat) (h:Flw G p.left.toNat k):Flw G (p.right.getD i 0 - G.nk).toNat k
open Classical in
noncomputable def zos (G:Gm):Nat→Nat→Bool:=fun r k=>decide (Flw G r k)
theorem znF (G:Gm) (r k:Nat):zos G r k=true↔Flw G r k:=by unfold zos;simp
theorem flw_lt {G:Gm} (hG:GOk G) {r k:Nat} (h:Flw G r k):k<G.nk:=by
  induction h with
  | start=>have:=hG.k2;omega
  | first p hp hr i hi hx k hk h=>exact hk
  | behind p hp hr i hi hx he k h ih=>exact ih
end Go.Proofs.YtagohbpbgjelaaaGreatDoor

namespace Go.Proofs.YtagohbpbgjelaaaGreatDoor
open Go.RowKit

def zkb (row:List Int) (j:Nat):List Int:=row.take j ++ row.drop (j+1)
inductive Mks (G:Gm):Nat→Nat→Prop
  | one (p:Pd) (hp:p ∈ G.prods) (j:Nat) (hj:j<p.right.length) (hx:(G.nk:Int)≤p.right.getD j 0) (he:zaT G.nk (zaO G) (zkb p.right j)=true):Mks G p.left.toNat (p.right.getD j 0 - G.nk).toNat
  | trans (a b c:Nat) (h1:Mks G a b) (h2:Mks G b c):Mks G a c
open Classical in
noncomputable def zop (G:Gm):Nat→Nat→Bool:=fun r k=>decide (Mks G r k)
theorem zqU (G:Gm) (r k:Nat):zop G r k=true↔Mks G r k:=by unfold zop;simp
end Go.Proofs.YtagohbpbgjelaaaGreatDoor

namespace Go.Proofs.YtagohbpbgjelaaaGreatDoor
open Go.RowKit

theorem zac {P:Program} {md:Region.Mode} {ops:Array Oper} {Q:Exit→Act→World→Prop} {S:World→Prop} {i:Nat} {oi:Oper} {v:Value} {dst:Option Nat} {fuel:Nat} {listed:Array Bool} {a:Act} {w:World} (hi:ops[i]? = some oi) (hd:oi.dst=dst)
    (hs:Region.noSelect ops=true) (hf:Region.free md ops listed i=true) (hr:(Region.ready md ops listed).contains i=true)
    (hQ:∀ c a w,Q (.panic c) (a.put dst v) w→Q (.panic c) a w) (hy:YieldsIf P ops S oi v a) (hS:S w)
    (h:wpAnyH P md ops Q S fuel (listed.setIfInBounds i true) (a.put dst v) w):wpAnyH P md ops Q S (fuel+1) listed a w:=by
  subst hd;exact wpAnyH_take hi hs hf hr hQ hy hS h
end Go.Proofs.YtagohbpbgjelaaaGreatDoor

namespace Go.Proofs.YtagohbpbgjelaaaGreatDoor
open Go.RowKit

theorem zgy {nk:Nat} {null:Nat→Bool} {F:Nat→Nat→Bool} (x:Int) (xs:List Int) (k:Nat):zh6 nk null F (x::xs) k=(zh6 nk null F [x] k || (zaT nk null [x] && zh6 nk null F xs k)):=by
  have e:∀ ys:List Int,zh6 nk null F (x::ys) k=if x<nk then decide (k=x.toNat) else(F (x - nk).toNat k || (null (x - nk).toNat && zh6 nk null F ys k)):=fun ys=>by conv=>lhs;unfold zh6
  have e0:zh6 nk null F [] k=false:=by unfold zh6;rfl
  rw[e xs,e [],e0]
  unfold zaT
  by_cases hx:x<nk
  · rw[if_pos hx,if_pos hx]
    have:decide ((nk:Int)≤x)=false:=by rw[decide_eq_false_iff_not];omega
    simp[this]
  · rw[if_neg hx,if_neg hx]
    have:decide ((nk:Int)≤x)=true:=by rw[decide_eq_true_eq];omega
    simp[this]
theorem zev {nk:Nat} {null:Nat→Bool} (x:Int) (xs:List Int):zaT nk null (x::xs)=(zaT nk null [x] && zaT nk null xs):=by
  unfold zaT
  simp
theorem zpb {f:Nat→Bool} {n:Nat} {y:Int}:y ∈ zip (zaC f n)↔∃ k:Nat,y=k∧k<n∧f k=true:=by
  have key:∀ m,m≤n→(y ∈ zgK (zaC f n) m↔∃ k:Nat,y=k∧k<m∧f k=true):=by
    intro m
    induction m with
    | zero=>intro _;simp[zgK]
    | succ m ih =>
      intro hm
      unfold zgK
      rw[List.mem_append,ih (by omega),zcW (by omega)]
      constructor
      · rintro(⟨k,h1,h2,h3⟩ | h)
        · exact⟨k,h1,by omega,h3⟩
        · split at h
          · simp at h
            exact⟨m,h,by omega,by assumption⟩
          · simp at h
      · rintro⟨k,h1,h2,h3⟩
        by_cases e:k=m
        · subst e
          right
          rw[if_pos h3]
          simp[h1]
        · exact .inl ⟨k,h1,by omega,h3⟩
  unfold zip
  rw[zbk]
  exact key n (Nat.le_refl _)
end Go.Proofs.YtagohbpbgjelaaaGreatDoor

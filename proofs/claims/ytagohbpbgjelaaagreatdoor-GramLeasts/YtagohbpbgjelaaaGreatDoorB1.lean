/- Tables of marks; the document's begins. -/
import Derived.Test.YtagohbpbgjelaaaGreatDoorP0
import Derived.Test.YtagohbpbgjelaaaGreatDoorM6
import Derived.Deep.CutRange
import Derived.Deep.DeepCutAuto
import Derived.Test.YtagohbpbgjelaaaGreatDoorM2
namespace Go.Proofs.YtagohbpbgjelaaaGreatDoor
open Go.RowKit

/-- With which kinds a row begins, by what is known of rules. -/
def begB (nk:Nat) (null:Nat → Bool) (F:Nat → Nat → Bool):List Int → Nat → Bool
 | [],_ => false
 | x :: xs,k => if x < nk then decide (k = x.toNat) else F (x - nk).toNat k || (null (x - nk).toNat && begB nk null F xs k)
end Go.Proofs.YtagohbpbgjelaaaGreatDoor

/- The document's table, list. -/
namespace Go.Proofs.YtagohbpbgjelaaaGreatDoor
open Go.RowKit

theorem info_parts {P:Program} {e:TypeId} {z:Option Value} {n b:Nat} (h:(P.info? e).map (fun i => (i.zero,i.size,i.bytes)) = some (z,n,b)):∃ i,P.info? e = some i ∧ i.zero = z ∧ i.size = n ∧ i.bytes = b:=by
 cases hi:P.info? e with
 | none => rw [hi] at h; cases h
 | some i => rw [hi] at h; simp at h; exact ⟨i,rfl,h.1,h.2.1,h.2.2⟩
theorem info27:(Tryz.prog.info? 27).map (fun i => (i.zero,i.size,i.bytes)) = some (some (.slice none 0 0),1,24):=by kernel_rfl
theorem info3:(Tryz.prog.info? 3).map (fun i => (i.zero,i.size,i.bytes)) = some (some (.int .i64 0),1,8):=by kernel_rfl
theorem new1 (w:World) (x:Value) (t:TypeId):∀ j u,[x][j]? = some u → (w.alloc (.cells #[x] t)).cell? ((⟨w.heap.size,0,none⟩:Addr).add j) = some u:=by
 intro j u hj
 cases j with
 | zero =>
   simp at hj
   subst hj
   show (w.alloc (.cells #[x] t)).cell? ⟨w.heap.size,0 + 0,none⟩ = some x
   unfold World.cell?
   rw [Go.Deep.blk_alloc_new]
   rfl
 | succ j => simp at hj
end Go.Proofs.YtagohbpbgjelaaaGreatDoor

/- The document's leasts. -/
namespace Go.Proofs.YtagohbpbgjelaaaGreatDoor
open Go.RowKit

set_option maxHeartbeats 2000000 in
set_option maxRecDepth 100000 in
theorem rLeasts_any (G : Gm) (hG : GOk G) (ka pa ra qa : Option Addr) (kc pc rc qc : Nat) (B : Nat) (w : World) (hB : B ≤ w.heap.size) (hin : GIn B w G ka pa ra qa) :
   Calls Tryz.prog 67 #[.agg #[.slice ka G.kinds.length kc,.slice pa G.precs.length pc,.slice ra G.rules.length rc,.slice qa G.prods.length qc,.int .i64 G.start]] w fun e w' => ∃ b f,e = .returned (.slice (some ⟨b,0,none⟩) G.nr G.nr) ∧ w.heap.size ≤ b ∧ w'.rowIs b 3 G.nr (fun r => .int .i64 (f r)) ∧ LeastIs G f ∧ Below w.heap.size w w':=by
 have hnr:=hG.r2; have hnr1:=hG.r1; have hqs:=hG.ps; have hnk:=hG.k3
 unfold Gm.nr at hnr hnr1
 have hmk:=fun w => run_make_row' (P:=Tryz.prog) 27 3 (.int .i64 0) 8 Tryz.underlying27 info3 rfl .i64 .i64 G.rules.length (by omega) (by omega) w
 have HG:=hide hG; have Hin:=hide hin
 clear hG hin
 have Hst:=hide (gst_new (kc:=kc) (pc:=pc) (rc:=rc) (qc:=qc) hB (unhide Hin) 26)
 have hb1:Below w.heap.size w (w.alloc (.cells #[.slice ka G.kinds.length kc,.slice pa G.precs.length pc,.slice ra G.rules.length rc,.slice qa G.prods.length qc,.int .i64 G.start] 26)):=(Below.refl _ _).alloc (Nat.le_refl _) _
 have hw1:(w.alloc (.cells #[.slice ka G.kinds.length kc,.slice pa G.precs.length pc,.slice ra G.rules.length rc,.slice qa G.prods.length qc,.int .i64 G.start] 26)).heap.size = w.heap.size + 1:=by simp
 go_enter Tryz.func67,Tryz.ntmps67
 go_wp2
 generalize w.alloc (.cells #[.slice ka G.kinds.length kc,.slice pa G.precs.length pc,.slice ra G.rules.length rc,.slice qa G.prods.length qc,.int .i64 G.start] 26) = w1 at *
 have hr0:=World.rowIs_made w1 (.int .i64 0) G.rules.length 3
 rw [hw1] at hr0
 have Hr0:=hide hr0; have Hb1:=hide hb1
 clear hr0 hb1 hmk
 go_loopw [4] (fun x wr => ∃ i:Nat,x = .int .i64 i ∧ i ≤ G.rules.length ∧ wr.rowIs (w.heap.size + 1) 3 G.rules.length (fun r => .int .i64 (if r < i then -1 else 0)) ∧ Below (w.heap.size + 1) w1 wr) (fun x _ => G.rules.length - (intOf x).toNat)
 case atStart => exact ⟨0,rfl,Nat.zero_le _,(unhide Hr0).congr (fun j _ => by simp),(Below.refl _ _).alloc (by omega) _⟩
 case round =>
   obtain ⟨i,rfl,hi,hrow,hb⟩:=hrel
   by_cases hlt:i < G.rules.length
   · have hlt':(i:Int) < G.rules.length:=by omega
     have co:=hrow.cell hlt
     have fo:=hrow.frozen i
     have Hrow:=hide hrow; have Hb:=hide hb
     clear hrow hb
     go_wp2
     go_roundw
     case rel => exact ⟨i + 1,by go_num,by omega,((unhide Hrow).set i (.int .i64 (-1))).congr (fun j _ => by
       by_cases e:j = i
       · subst e; simp
       · simp only [if_neg e]
         congr 1
         by_cases h:j < i
         · rw [if_pos h,if_pos (by omega)]
         · rw [if_neg h,if_neg (by omega)]),(unhide Hb).setCell (Nat.le_refl _) _⟩
     case measure => simp [intOf]; omega
   · obtain rfl:i = G.rules.length:=by omega
     have Hrow:=hide (hrow.congr (g:=fun _ => .int .i64 (-1)) (fun j hj => by rw [if_pos hj]))
     have Hb:=hide hb
     clear hrow hb Hr0
     go_wp2
     go_loopw [5] (fun x wr => ∃ (f:Nat → Int) (ag:Bool),x = .bool ag ∧ wr.rowIs (w.heap.size + 1) 3 G.rules.length (fun r => .int .i64 (f r)) ∧ LngSound G f ∧ (ag = false → LngShut G f) ∧ Below (w.heap.size + 1) w1 wr) (fun x wr => 2 * cntI (numW wr (w.heap.size + 1)) G.rules.length + bitOf x)
     case atStart => exact ⟨fun _ => -1,true,rfl,unhide Hrow,(fun r => .inl rfl),(fun h => by cases h),unhide Hb⟩
     case round =>
       clear Hrow Hb
       obtain ⟨f,ag,rfl,hrow,hsnd,hsh,hb⟩:=hrel
       have hcnt:=cntIW_is hrow
       have Hsnd:=hide hsnd; have Hsh:=hide hsh; have Hb:=hide hb; have Hrow:=hide hrow
       clear hsnd hsh hb hrow
       cases ag
       · have Hd:=hide (lng_done (unhide Hsnd) (unhide Hsh rfl))
         clear Hsh Hsnd hcnt
         go_wp2
         go_ret
         exact ⟨_,f,rfl,by omega,unhide Hrow,unhide Hd,(unhide Hb1).trans (below_le (unhide Hb) (by omega))⟩
       · clear Hsh
         go_wp2
         go_loopw [5,6,7,8] (fun x y _ _ W => ∃ (f2:Nat → Int) (ag:Bool) (k:Nat),x = .bool ag ∧ y = .int .i64 k ∧ k ≤ G.prods.length ∧ W.rowIs (w.heap.size + 1) 3 G.rules.length (fun r => .int .i64 (f2 r)) ∧ LngSound G f2 ∧ ((ag = false ∧ f2 = f ∧ ∀ j,j < k → ¬ lngStep G f (G.prods.getD j pd0)) ∨ (ag = true ∧ cntI f2 G.rules.length < cntI f G.rules.length)) ∧ Below (w.heap.size + 1) w1 W) (fun _ y _ _ _ => G.prods.length - (intOf y).toNat)
         case atStart => exact ⟨f,false,0,rfl,rfl,Nat.zero_le _,unhide Hrow,unhide Hsnd,.inl ⟨rfl,rfl,fun j hj => absurd hj (Nat.not_lt_zero _)⟩,unhide Hb⟩
         case round =>
           clear Hrow Hsnd Hb
           obtain ⟨f2,ag,k,rfl,rfl,hk,hrow2,hsnd2,hst2,hb2⟩:=hrel
           have Hsnd2:=hide hsnd2; have Hst2:=hide hst2; have Hb2:=hide hb2; have Hrow2:=hide hrow2
           clear hsnd2 hst2 hb2 hrow2
           have hst:=gst_kept (unhide Hb2) hB (unhide Hst)
           have g0:=hst.c0; have g1:=hst.c1; have g2:=hst.c2; have g3:=hst.c3; have g4:=hst.c4
           have Hgin:=hide hst.gin
           clear hst
           by_cases hlt:k < G.prods.length
           · have hlt':(k:Int) < G.prods.length:=by omega
             obtain ⟨b,off,rfl,hbB,rr,rrc,x3,x4,x5,x6,n6,c6,hrr,hac,q0,q1,q2,q3,q4,q5,q6⟩:=qrow_at (unhide Hgin).prods hlt
             obtain ⟨hl0,hl1⟩:=(unhide HG).pl _ (mem_getP hlt)
             have hpr:=(unhide HG).pr _ (mem_getP hlt)
             have hpy:=(unhide HG).py _ (mem_getP hlt)
             have Hnu:=hide (fun hs => lng_upd (unhide Hsnd2) hlt hs)
             have Hsp:Hid (lngStep G f2 (G.prods.getD k pd0) ↔ (0 ≤ lenR G.nk f2 (G.prods.getD k pd0).right 0 ∧ (f2 (G.prods.getD k pd0).left.toNat < 0 ∨ lenR G.nk f2 (G.prods.getD k pd0).right 0 < f2 (G.prods.getD k pd0).left.toNat))):=hide Iff.rfl
             have Hjs:Hid (∀ j,j < k + 1 → G.prods.getD j pd0 = G.prods.getD k pd0 ∨ j < k):=hide (fun j hj => by
               by_cases e:j = k
               · exact .inl (by rw [e])
               · exact .inr (by omega))
             generalize G.prods.getD k pd0 = p at *
             obtain ⟨pl,prt,plv,pac⟩:=p
             simp only at hl0 hl1 hpr hpy hrr hac q0 q1 q2 Hsp Hnu
             obtain ⟨l,rfl⟩:∃ l:Nat,pl = (l:Int):=⟨pl.toNat,by omega⟩
             simp only [Int.toNat_natCast] at Hsp Hnu
             have hl2:l < G.rules.length:=by unfold Gm.nr at hl1; omega
             have hl1':(l:Int) < G.rules.length:=by omega
             obtain ⟨p0,p1,-,-,-,-,-,hw3,hb3⟩:=boxP wr (.int .i64 (l:Int)) (.slice rr prt.length rrc) (.int .i64 plv) (.int .i64 x3) (.int .i64 x4) (.string x5) (.slice x6 n6 c6) 89
             have hrow3:=(unhide Hrow2).of_block (hb3.block _ (unhide Hrow2).lt)
             have hsz2:=(unhide Hb2).size
             have hrr3:=nrow_kept (below_le hb3 (by omega)) hrr
             have HE:=hide (rLength_any ka pa ra (some ⟨b,off,none⟩) G.kinds.length kc G.precs.length pc G.rules.length rc G.prods.length qc G.start (w.heap.size + 1) G.rules.length f2 rr rrc prt B _ (by omega) hnr (by omega) hrr3 hpy hrow3 (fun r _ => by
               rcases unhide Hsnd2 r with h | h <;> omega))
             have Hac:=hide hac
             clear hac hpy hrr hrr3
             have hst3:=gst_kept (below_le hb3 (by omega)) hB (gst_kept (unhide Hb2) hB (unhide Hst))
             have e0:=hst3.c0; have e1:=hst3.c1; have e2:=hst3.c2; have e3:=hst3.c3; have e4:=hst3.c4
             have Hb3:=hide hb3; have Hrow3:=hide hrow3
             clear hst3 hb3 hrow3
             have Hbb:=hide ((unhide Hb2).trans (below_le (unhide Hb3) (by omega)))
             have Hst4:Hid (¬ lngStep G f2 ⟨(l:Int),prt,plv,pac⟩ → ((ag = false ∧ f2 = f ∧ ∀ j,j < k + 1 → ¬ lngStep G f (G.prods.getD j pd0)) ∨ (ag = true ∧ cntI f2 G.rules.length < cntI f G.rules.length))):=hide (fun hn => by
               rcases unhide Hst2 with ⟨h1,rfl,h3⟩ | h
               · refine .inl ⟨h1,rfl,fun j hj => ?_⟩
                 rcases unhide Hjs j hj with h | h
                 · rw [h]; exact hn
                 · exact h3 j h
               · exact .inr h)
             have Hst5:Hid (∀ v:Int,0 ≤ v → v ≤ 65537 → (f2 l < 0 ∨ v < f2 l) → cntI (updI f2 l v) G.rules.length < cntI f G.rules.length):=hide (fun v h0 h1 hn => by
               have:=cntI_upd h0 h1 hn G.rules.length hl2
               rcases unhide Hst2 with ⟨h1,rfl,h3⟩ | h
               · exact this
               · have:=h.2; omega)
             have hbd:=lenR_bd (nk:=G.kinds.length) (f:=f2) prt 0 (Int.le_refl _) (by omega)
             clear Hst2 Hjs Hgin
             rw [show lenR G.nk f2 prt 0 = lenR G.kinds.length f2 prt 0 from rfl] at Hsp Hnu
             generalize lenR G.kinds.length f2 prt 0 = V at *
             go_wp2_with fail
             refine (unhide HE).mono ?_
             rintro e w4 ⟨rfl,hb4⟩
             have Hb4:=hide ((unhide Hbb).trans (below_le hb4 (by omega)))
             have hrow4:=(unhide Hrow3).of_block (hb4.block _ (unhide Hrow3).lt)
             have co4:w4.cell? ⟨w.heap.size + 1,l,none⟩ = some (.int .i64 (f2 l)):=hrow4.cell hl2
             have fo4:=hrow4.frozen l
             have p04:=(hb4.cell (p:=⟨wr.heap.size,0,none⟩) (by show wr.heap.size < _; omega)).trans p0
             have Hrow4:=hide hrow4
             clear hb4 hrow4 HE
             by_cases hstep:lngStep G f2 ⟨(l:Int),prt,plv,pac⟩
             · have Hs2:=hide ((unhide Hsp).1 hstep)
               have Hnu2:=hide (unhide Hnu hstep)
               have Hst6:=hide (unhide Hst5 V (unhide Hs2).1 hbd.2 (unhide Hs2).2)
               have hv0:decide (0 ≤ V) = true:=by rw [decide_eq_true_eq]; exact (unhide Hs2).1
               clear hstep Hsp Hnu Hst4 Hst5
               generalize f2 l = z at *
               by_cases hz:z < 0
               · go_wp2
                 go_roundw
                 case rel => exact ⟨updI f2 l V,true,k + 1,rfl,by go_num,by omega,rowIs_updI (unhide Hrow4) l V,unhide Hnu2,.inr ⟨rfl,unhide Hst6⟩,(unhide Hb4).setCell (by show w.heap.size + 1 ≤ w.heap.size + 1; omega) _⟩
                 case measure => simp [intOf]; omega
               · have hz2:V < z:=by have:=(unhide Hs2).2; omega
                 go_wp2
                 go_roundw
                 case rel => exact ⟨updI f2 l V,true,k + 1,rfl,by go_num,by omega,rowIs_updI (unhide Hrow4) l V,unhide Hnu2,.inr ⟨rfl,unhide Hst6⟩,(unhide Hb4).setCell (by show w.heap.size + 1 ≤ w.heap.size + 1; omega) _⟩
                 case measure => simp [intOf]; omega
             · have Hst6:=hide (unhide Hst4 hstep)
               have hs2:¬ (0 ≤ V ∧ (f2 l < 0 ∨ V < f2 l)):=fun h => hstep ((unhide Hsp).2 h)
               clear hstep Hsp Hnu Hst4 Hst5
               generalize f2 l = z at *
               by_cases hv:0 ≤ V
               · have hv0:decide (0 ≤ V) = true:=by rw [decide_eq_true_eq]; exact hv
                 have hz1:¬ z < 0:=by omega
                 have hz2:¬ V < z:=by omega
                 clear hs2
                 go_wp2
                 go_roundw
                 case rel => exact ⟨f2,ag,k + 1,rfl,by go_num,by omega,unhide Hrow4,unhide Hsnd2,unhide Hst6,unhide Hb4⟩
                 case measure => simp [intOf]; omega
               · have hv0:decide (0 ≤ V) = false:=by rw [decide_eq_false_iff_not]; exact hv
                 clear hs2
                 go_wp2
                 go_roundw
                 case rel => exact ⟨f2,ag,k + 1,rfl,by go_num,by omega,unhide Hrow4,unhide Hsnd2,unhide Hst6,unhide Hb4⟩
                 case measure => simp [intOf]; omega
           · obtain rfl:k = G.prods.length:=by omega
             have Hst7:Hid ((ag = false → LngShut G f2) ∧ 2 * cntI f2 G.rules.length + bitOf (.bool ag) < 2 * cntI f G.rules.length + 1):=hide (by
               rcases unhide Hst2 with ⟨rfl,rfl,h3⟩ | ⟨rfl,h⟩
               · exact ⟨fun _ => h3,by simp [bitOf]⟩
               · exact ⟨(fun h => by cases h),(by simp [bitOf]; omega)⟩)
             have hc2:=cntIW_is (unhide Hrow2)
             go_wp2
             go_roundw
             case rel => exact ⟨f2,ag,rfl,unhide Hrow2,unhide Hsnd2,(unhide Hst7).1,unhide Hb2⟩
             case measure =>
               have:=(unhide Hst7).2
               rw [hc2,hcnt]
               exact this
end Go.Proofs.YtagohbpbgjelaaaGreatDoor

/- The document's Check. -/
namespace Go.Proofs.YtagohbpbgjelaaaGreatDoor
open Go.RowKit

def prodsTo (G:Gm) (k:Nat):Prop:=∀ i,i < k → prodB G.kinds.length G.rules.length (G.prods.getD i pd0) = true
instance (G:Gm) (k:Nat):Decidable (prodsTo G k):=by unfold prodsTo; infer_instance
/-- May the grammar be? -/
def checkB (G:Gm):Bool:=decide (kindsB G.kinds = true ∧ G.precs.length = G.kinds.length ∧ levelsB G.precs = true ∧ namesB G.rules = true ∧ 0 ≤ G.start ∧ G.start < G.rules.length ∧ G.prods.length ≤ 4096 ∧ prodsTo G G.prods.length)
def checkV (G:Gm):Int:=if checkB G then 0 else 130
theorem check_ok {G:Gm} (h:checkB G = true):GOk G:=by
 have h:=of_decide_eq_true h
 have hk:=of_decide_eq_true h.1
 have hn:=of_decide_eq_true h.2.2.2.1
 have hp:∀ p,p ∈ G.prods → prodB G.kinds.length G.rules.length p = true:=fun p hp => by
   obtain ⟨i,hi,rfl⟩:=ex_getP hp
   exact h.2.2.2.2.2.2.2 i hi
 refine ⟨hk.1,hk.2.1,hn.1,hn.2.1,h.2.2.2.2.1,h.2.2.2.2.2.1,h.2.2.2.2.2.2.1,fun p hq => ?_,fun p hq => ?_,fun p hq x hx => ?_⟩
 · have:=of_decide_eq_true (hp p hq); exact ⟨this.1,this.2.1⟩
 · exact (of_decide_eq_true (hp p hq)).2.2.1
 · obtain ⟨i,hi,rfl⟩:=List.getElem_of_mem hx
   have:=(of_decide_eq_true (hp p hq)).2.2.2.2.1 i hi
   rw [List.getD_eq_getElem?_getD,List.getElem?_eq_getElem hi] at this
   exact this

set_option maxHeartbeats 4000000 in
set_option maxRecDepth 100000 in
theorem rCheck_any (G : Gm) (ka pa ra qa : Option Addr) (kc pc rc qc : Nat) (B : Nat) (w : World) (hB : B ≤ w.heap.size) (hin : GIn B w G ka pa ra qa) (hsm : ∀ p, p ∈ G.prods → p.right.length ≤ 281474976710656) :
   Calls Tryz.prog 14 #[.agg #[.slice ka G.kinds.length kc,.slice pa G.precs.length pc,.slice ra G.rules.length rc,.slice qa G.prods.length qc,.int .i64 G.start]] w fun e w' => e = .returned (.int .i64 (checkV G)) ∧ Below w.heap.size w w':=by
 have Hyes:=hide (fun (h:kindsB G.kinds = true ∧ G.precs.length = G.kinds.length ∧ levelsB G.precs = true ∧ namesB G.rules = true ∧ 0 ≤ G.start ∧ G.start < G.rules.length ∧ G.prods.length ≤ 4096 ∧ prodsTo G G.prods.length) => show checkV G = 0 by unfold checkV checkB; rw [decide_eq_true h]; rfl)
 have Hno:=hide (fun (h:¬ (kindsB G.kinds = true ∧ G.precs.length = G.kinds.length ∧ levelsB G.precs = true ∧ namesB G.rules = true ∧ 0 ≤ G.start ∧ G.start < G.rules.length ∧ G.prods.length ≤ 4096 ∧ prodsTo G G.prods.length)) => show checkV G = 130 by unfold checkV checkB; rw [decide_eq_false h]; rfl)
 generalize checkV G = R at *
 have Hst:=hide (gst_new (kc:=kc) (pc:=pc) (rc:=rc) (qc:=qc) hB hin 26)
 have hb1:Below w.heap.size w (w.alloc (.cells #[.slice ka G.kinds.length kc,.slice pa G.precs.length pc,.slice ra G.rules.length rc,.slice qa G.prods.length qc,.int .i64 G.start] 26)):=(Below.refl _ _).alloc (Nat.le_refl _) _
 have hw1:(w.alloc (.cells #[.slice ka G.kinds.length kc,.slice pa G.precs.length pc,.slice ra G.rules.length rc,.slice qa G.prods.length qc,.int .i64 G.start] 26)).heap.size = w.heap.size + 1:=by simp
 have hk:=rKinds_any ka kc G.kinds B (w.alloc (.cells #[.slice ka G.kinds.length kc,.slice pa G.precs.length pc,.slice ra G.rules.length rc,.slice qa G.prods.length qc,.int .i64 G.start] 26)) (by omega) (unhide Hst).gin.kinds
 have HK:=hide hk
 have Hb1:=hide hb1
 have Hsm:=hide hsm
 clear hk hb1 hin hsm
 have hnot:=run_not
 have fin:∀ W:World,Below (w.heap.size + 1) (w.alloc (.cells #[.slice ka G.kinds.length kc,.slice pa G.precs.length pc,.slice ra G.rules.length rc,.slice qa G.prods.length qc,.int .i64 G.start] 26)) W → Below w.heap.size w W:=fun W h => (unhide Hb1).trans (below_le h (by omega))
 have Hfin:=hide fin
 clear fin
 cases hkb:kindsB G.kinds
 · rw [hkb] at HK
   have Hr:=hide (unhide Hno (fun h => by rw [hkb] at h; exact absurd h.1 (by simp)))
   clear hkb Hno Hyes
   go_enter Tryz.func14,Tryz.ntmps14
   go_wp2_with fail
   refine (unhide HK).mono ?_
   rintro e w2 ⟨rfl,hb2⟩
   rw [hw1] at hb2
   have Hb2:=hide (unhide Hfin _ hb2)
   clear hb2
   go_wp2
   go_ret
   rw [unhide Hr]
   exact ⟨rfl,unhide Hb2⟩
 · rw [hkb] at HK
   have hkn:=(of_decide_eq_true hkb).2.1
   go_enter Tryz.func14,Tryz.ntmps14
   go_wp2_with fail
   refine (unhide HK).mono ?_
   rintro e w2 ⟨rfl,hb2⟩
   rw [hw1] at hb2
   have hst2:=gst_kept hb2 hB (unhide Hst)
   have g0:=hst2.c0; have g1:=hst2.c1; have g2:=hst2.c2; have g3:=hst2.c3; have g4:=hst2.c4
   have Hg2:=hide hst2.gin
   have hsz2:=hb2.size
   have Hb2:=hide hb2
   clear hst2 hb2
   by_cases hpl:G.precs.length = G.kinds.length
   · have hpl' : ((G.precs.length : Int) != G.kinds.length) = false := by simp; omega
     have HL:=hide (rLevels_any pa pc G.precs (by omega) B w2 (by omega) (unhide Hg2).precs)
     have Hpl:=hide hpl
     clear hpl
     cases hlb:levelsB G.precs
     · rw [hlb] at HL
       have Hr:=hide (unhide Hno (fun h => by rw [hlb] at h; exact absurd h.2.2.1 (by simp)))
       clear hlb Hno Hyes hkb
       go_wp2_with fail
       refine (unhide HL).mono ?_
       rintro e w3 ⟨rfl,hb3⟩
       have Hb3:=hide (unhide Hfin _ ((unhide Hb2).trans (below_le hb3 (by omega))))
       clear hb3
       go_wp2
       go_ret
       rw [unhide Hr]
       exact ⟨rfl,unhide Hb3⟩
     · rw [hlb] at HL
       go_wp2_with fail
       refine (unhide HL).mono ?_
       rintro e w3 ⟨rfl,hb3⟩
       have hb3':=(unhide Hb2).trans (below_le hb3 (by omega))
       have hst3:=gst_kept hb3' hB (unhide Hst)
       have e0:=hst3.c0; have e1:=hst3.c1; have e2:=hst3.c2; have e3:=hst3.c3; have e4:=hst3.c4
       have HN:=hide (rNames_any ra rc G.rules B w3 (by have:=hb3'.size; omega) hst3.gin.rules)
       have Hb3:=hide hb3'
       have hsz3:=hb3'.size
       clear hst3 hb3 hb3'
       cases hnb:namesB G.rules
       · rw [hnb] at HN
         have Hr:=hide (unhide Hno (fun h => by rw [hnb] at h; exact absurd h.2.2.2.1 (by simp)))
         clear hlb hnb Hno Hyes hkb
         go_wp2_with fail
         refine (unhide HN).mono ?_
         rintro e w4 ⟨rfl,hb4⟩
         have Hb4:=hide (unhide Hfin _ ((unhide Hb3).trans (below_le hb4 (by omega))))
         clear hb4
         go_wp2
         go_ret
         rw [unhide Hr]
         exact ⟨rfl,unhide Hb4⟩
       · rw [hnb] at HN
         have hnn:=(of_decide_eq_true hnb).2.1
         have Hyes2:=hide (fun (h:0 ≤ G.start ∧ G.start < G.rules.length ∧ G.prods.length ≤ 4096 ∧ prodsTo G G.prods.length) => unhide Hyes ⟨hkb,unhide Hpl,hlb,hnb,h⟩)
         have Hno2:=hide (fun (h:¬ (0 ≤ G.start ∧ G.start < G.rules.length ∧ G.prods.length ≤ 4096 ∧ prodsTo G G.prods.length)) => unhide Hno (fun k => h k.2.2.2.2))
         clear hlb hnb Hno Hyes hkb
         go_wp2_with fail
         refine (unhide HN).mono ?_
         rintro e w4 ⟨rfl,hb4⟩
         have hb4':=(unhide Hb3).trans (below_le hb4 (by omega))
         have hst4:=gst_kept hb4' hB (unhide Hst)
         have f0:=hst4.c0; have f1:=hst4.c1; have f2:=hst4.c2; have f3:=hst4.c3; have f4:=hst4.c4
         have Hb4:=hide hb4'
         clear hb4 hb4' hst4 g0 g1 g2 g3 g4 e0 e1 e2 e3 e4
         by_cases hs:0 ≤ G.start ∧ G.start < G.rules.length ∧ G.prods.length ≤ 4096
         · have h1 : ¬ G.start < 0 := by omega
           have h2:¬ (G.rules.length:Int) ≤ G.start:=by omega
           have h3:¬ (4096:Int) < G.prods.length:=by omega
           have Hyes3:=hide (fun (h:prodsTo G G.prods.length) => unhide Hyes2 ⟨hs.1,hs.2.1,hs.2.2,h⟩)
           have Hno3:=hide (fun (h:¬ prodsTo G G.prods.length) => unhide Hno2 (fun k => h k.2.2.2))
           have hq4:=hs.2.2
           clear hs Hyes2 Hno2
           go_wp2
           generalize w.alloc (.cells #[.slice ka G.kinds.length kc,.slice pa G.precs.length pc,.slice ra G.rules.length rc,.slice qa G.prods.length qc,.int .i64 G.start] 26) = w1 at *
           go_loopw [3] (fun x W => ∃ i:Nat,x = .int .i64 i ∧ i ≤ G.prods.length ∧ prodsTo G i ∧ Below (w.heap.size + 1) w1 W) (fun x _ => G.prods.length - (intOf x).toNat)
           case atStart => exact ⟨0,rfl,Nat.zero_le _,fun j hj => absurd hj (Nat.not_lt_zero _),unhide Hb4⟩
           case round =>
             clear f0 f1 f2 f3 f4
             obtain ⟨i,rfl,hi,hpt,hb⟩:=hrel
             have hst:=gst_kept hb hB (unhide Hst)
             have g0:=hst.c0; have g1:=hst.c1; have g2:=hst.c2; have g3:=hst.c3; have g4:=hst.c4
             have Hg:=hide hst.gin
             have hszw:=hb.size
             have Hpt:=hide hpt; have Hb:=hide hb
             clear hst hb hpt
             by_cases hlt:i < G.prods.length
             · have hlt':(i:Int) < G.prods.length:=by omega
               obtain ⟨b,off,rfl,hbB,rr,rrc,x3,x4,x5,x6,n6,c6,hrr,hac,q0,q1,q2,q3,q4,q5,q6⟩:=qrow_at (unhide Hg).prods hlt
               have HP:=hide (rProd_any ka pa ra (some ⟨b,off,none⟩) G.kinds.length kc G.precs.length pc G.rules.length rc G.prods.length qc G.start hkn hnn (G.prods.getD i pd0) B wr.drew (by show B ≤ wr.heap.size; omega) rr rrc x3 x4 x5 x6 n6 c6 hrr (acAt_kept ((Below.refl B wr).drew) _ _ _ _ _ hac) (unhide Hsm _ (mem_getP hlt)))
               have Hs:=hide (fun (h:prodB G.kinds.length G.rules.length (G.prods.getD i pd0) = true) => show prodsTo G (i + 1) from fun j hj => by
                 by_cases e:j = i
                 · subst e; exact h
                 · exact unhide Hpt j (by omega))
               have Hn:=hide (fun (h:prodB G.kinds.length G.rules.length (G.prods.getD i pd0) = false) => unhide Hno3 (fun k => by rw [k i hlt] at h; cases h))
               clear hrr hac
               generalize G.prods.getD i pd0 = p at *
               obtain ⟨pl,prt,plv,pac⟩:=p
               simp only at q0 q1 q2 HP
               have HS:Hid (∀ W:World,Below wr.heap.size wr W → W.cell? ⟨w.heap.size,0,none⟩ = some (.slice ka G.kinds.length kc) ∧ W.cell? ⟨w.heap.size,1,none⟩ = some (.slice pa G.precs.length pc) ∧ W.cell? ⟨w.heap.size,2,none⟩ = some (.slice ra G.rules.length rc) ∧ W.cell? ⟨w.heap.size,3,none⟩ = some (.slice (some ⟨b,off,none⟩) G.prods.length qc) ∧ W.cell? ⟨w.heap.size,4,none⟩ = some (.int .i64 G.start) ∧ W.cell? ⟨b,off + i * 7,none⟩ = some (.int .i64 pl) ∧ W.cell? ⟨b,off + i * 7 + 1,none⟩ = some (.slice rr prt.length rrc) ∧ W.cell? ⟨b,off + i * 7 + 2,none⟩ = some (.int .i64 plv) ∧ W.cell? ⟨b,off + i * 7 + 3,none⟩ = some (.int .i64 x3) ∧ W.cell? ⟨b,off + i * 7 + 4,none⟩ = some (.int .i64 x4) ∧ W.cell? ⟨b,off + i * 7 + 5,none⟩ = some (.string x5) ∧ W.cell? ⟨b,off + i * 7 + 6,none⟩ = some (.slice x6 n6 c6)):=hide (fun W hb => by
                 have k1:=fun (j:Nat) (v:Value) (h:wr.cell? ⟨w.heap.size,j,none⟩ = some v) => (hb.cell (p:=⟨w.heap.size,j,none⟩) (by show w.heap.size < wr.heap.size; omega)).trans h
                 have k2:=fun (j:Nat) (v:Value) (h:wr.cell? ⟨b,j,none⟩ = some v) => (hb.cell (p:=⟨b,j,none⟩) (by show b < wr.heap.size; omega)).trans h
                 exact ⟨k1 _ _ g0,k1 _ _ g1,k1 _ _ g2,k1 _ _ g3,k1 _ _ g4,k2 _ _ q0,k2 _ _ q1,k2 _ _ q2,k2 _ _ q3,k2 _ _ q4,k2 _ _ q5,k2 _ _ q6⟩)
               have hS:Below wr.heap.size wr wr.drew:=(Below.refl _ _).drew
               cases hpb:prodB G.kinds.length G.rules.length ⟨pl,prt,plv,pac⟩
               · rw [hpb] at HP
                 have Hr:=hide (unhide Hn hpb)
                 clear hpb Hs Hn
                 go_wp2
                 go_cut [60] from 53 to 60 (fun s wx => s = .bool true ∧ Below wr.heap.size wr wx)
                 case first =>
                   go_region_held3 (fun W:World => W.cell? ⟨w.heap.size,0,none⟩ = some (.slice ka G.kinds.length kc) ∧ W.cell? ⟨w.heap.size,1,none⟩ = some (.slice pa G.precs.length pc) ∧ W.cell? ⟨w.heap.size,2,none⟩ = some (.slice ra G.rules.length rc) ∧ W.cell? ⟨w.heap.size,3,none⟩ = some (.slice (some ⟨b,off,none⟩) G.prods.length qc) ∧ W.cell? ⟨w.heap.size,4,none⟩ = some (.int .i64 G.start) ∧ W.cell? ⟨b,off + i * 7,none⟩ = some (.int .i64 pl) ∧ W.cell? ⟨b,off + i * 7 + 1,none⟩ = some (.slice rr prt.length rrc) ∧ W.cell? ⟨b,off + i * 7 + 2,none⟩ = some (.int .i64 plv) ∧ W.cell? ⟨b,off + i * 7 + 3,none⟩ = some (.int .i64 x3) ∧ W.cell? ⟨b,off + i * 7 + 4,none⟩ = some (.int .i64 x4) ∧ W.cell? ⟨b,off + i * 7 + 5,none⟩ = some (.string x5) ∧ W.cell? ⟨b,off + i * 7 + 6,none⟩ = some (.slice x6 n6 c6))
                     (first | exact unhide HS _ hS | fail)
                     (first
                       | (go_at_call 54; refine (unhide HP).mono ?_; rintro e W3 ⟨rfl,hb3⟩; have hS:=hS.trans hb3; clear hb3)
                       | fail)
                   all_goals
                     go_wp2_with fail
                     go_meet
                     exact ⟨rfl,hS⟩
                 case rest =>
                   obtain ⟨rfl,hb5⟩:=hcut
                   have Hb5:=hide (unhide Hfin _ ((unhide Hb).trans (below_le hb5 (by omega))))
                   clear hb5
                   go_wp2
                   go_ret
                   rw [unhide Hr]
                   exact ⟨rfl,unhide Hb5⟩
               · rw [hpb] at HP
                 have Hs2:=hide (unhide Hs hpb)
                 clear hpb Hs Hn
                 go_wp2
                 go_cut [60] from 53 to 60 (fun s wx => s = .bool false ∧ Below wr.heap.size wr wx)
                 case first =>
                   go_region_held3 (fun W:World => W.cell? ⟨w.heap.size,0,none⟩ = some (.slice ka G.kinds.length kc) ∧ W.cell? ⟨w.heap.size,1,none⟩ = some (.slice pa G.precs.length pc) ∧ W.cell? ⟨w.heap.size,2,none⟩ = some (.slice ra G.rules.length rc) ∧ W.cell? ⟨w.heap.size,3,none⟩ = some (.slice (some ⟨b,off,none⟩) G.prods.length qc) ∧ W.cell? ⟨w.heap.size,4,none⟩ = some (.int .i64 G.start) ∧ W.cell? ⟨b,off + i * 7,none⟩ = some (.int .i64 pl) ∧ W.cell? ⟨b,off + i * 7 + 1,none⟩ = some (.slice rr prt.length rrc) ∧ W.cell? ⟨b,off + i * 7 + 2,none⟩ = some (.int .i64 plv) ∧ W.cell? ⟨b,off + i * 7 + 3,none⟩ = some (.int .i64 x3) ∧ W.cell? ⟨b,off + i * 7 + 4,none⟩ = some (.int .i64 x4) ∧ W.cell? ⟨b,off + i * 7 + 5,none⟩ = some (.string x5) ∧ W.cell? ⟨b,off + i * 7 + 6,none⟩ = some (.slice x6 n6 c6))
                     (first | exact unhide HS _ hS | fail)
                     (first
                       | (go_at_call 54; refine (unhide HP).mono ?_; rintro e W3 ⟨rfl,hb3⟩; have hS:=hS.trans hb3; clear hb3)
                       | fail)
                   all_goals
                     go_wp2_with fail
                     go_meet
                     exact ⟨rfl,hS⟩
                 case rest =>
                   obtain ⟨rfl,hb5⟩:=hcut
                   have Hb5:=hide ((unhide Hb).trans (below_le hb5 (by omega)))
                   clear hb5
                   go_wp2
                   go_roundw
                   case rel => exact ⟨i + 1,by go_num,by omega,unhide Hs2,unhide Hb5⟩
                   case measure => simp [intOf]; omega
             · obtain rfl:i = G.prods.length:=by omega
               have Hr:=hide (unhide Hyes3 (unhide Hpt))
               have Hb5:=hide (unhide Hfin _ (unhide Hb))
               go_wp2
               go_ret
               rw [unhide Hr]
               exact ⟨rfl,unhide Hb5⟩
         · have Hr:=hide (unhide Hno2 (fun h => hs ⟨h.1,h.2.1,h.2.2.1⟩))
           have Hb5:=hide (unhide Hfin _ (unhide Hb4))
           have Hx:=hide hs
           clear hs Hyes2 Hno2
           go_wp2
           all_goals first
             | (go_ret; rw [unhide Hr]; exact ⟨rfl,unhide Hb5⟩)
             | (exfalso; have h1:=unhide Hx; first | omega | (simp at *; omega))
   · have hpl':((G.precs.length:Int) != G.kinds.length) = true:=by simp; omega
     have Hr:=hide (unhide Hno (fun h => hpl h.2.1))
     have Hb3:=hide (unhide Hfin _ (unhide Hb2))
     clear Hno Hyes hkb hpl
     go_wp2
     go_ret
     rw [unhide Hr]
     exact ⟨rfl,unhide Hb3⟩
end Go.Proofs.YtagohbpbgjelaaaGreatDoor

/- Plain mathematics: with which kinds rules begin. -/
namespace Go.Proofs.YtagohbpbgjelaaaGreatDoor
open Go.RowKit

theorem getD_cons_succ (x:Int) (xs:List Int) (i:Nat):(x :: xs).getD (i + 1) 0 = xs.getD i 0:=rfl
theorem begB_iff {nk : Nat} {null : Nat → Bool} {F : Nat → Nat → Bool} {k : Nat} : ∀ {row : List Int}, begB nk null F row k = true ↔ ∃ i, i < row.length ∧ emptyB nk null (row.take i) = true ∧ ((row.getD i 0 < nk ∧ k = (row.getD i 0).toNat) ∨ ((nk : Int) ≤ row.getD i 0 ∧ F (row.getD i 0 - nk).toNat k = true))
 | [] => by simp [begB]
 | x :: xs => by
   unfold begB
   by_cases hx:x < nk
   · rw [if_pos hx,decide_eq_true_eq]
     constructor
     · intro h
       exact ⟨0,by simp,rfl,.inl ⟨hx,h⟩⟩
     · rintro ⟨i,hi,he,h⟩
       cases i with
       | zero =>
         rcases h with h | h
         · exact h.2
         · have:=h.1; simp at this; omega
       | succ i =>
         rw [emptyB_iff] at he
         have:=(he x (by simp)).1
         omega
   · rw [if_neg hx,Bool.or_eq_true,Bool.and_eq_true,begB_iff (row:=xs)]
     constructor
     · rintro (h | ⟨h0,i,hi,he,h⟩)
       · exact ⟨0,by simp,rfl,.inr ⟨by simp; omega,h⟩⟩
       · refine ⟨i + 1,by simp; exact hi,?_,h⟩
         rw [emptyB_iff] at he ⊢
         intro y hy
         rw [List.take_succ_cons,List.mem_cons] at hy
         rcases hy with rfl | hy
         · exact ⟨by omega,h0⟩
         · exact he y hy
     · rintro ⟨i,hi,he,h⟩
       cases i with
       | zero =>
         rcases h with h | h
         · exact absurd h.1 hx
         · exact .inl h.2
       | succ i =>
         rw [emptyB_iff] at he
         refine .inr ⟨(he x (by simp)).2,i,by simpa using hi,?_,h⟩
         rw [emptyB_iff]
         exact fun y hy => he y (by rw [List.take_succ_cons]; exact List.mem_cons_of_mem _ hy)

/-- A rule's rows begin with that kind. -/
inductive Fst (G:Gm):Nat → Nat → Prop
 | kind (p:Pd) (hp:p ∈ G.prods) (i:Nat) (hi:i < p.right.length) (he:emptyB G.nk (nullF G) (p.right.take i) = true) (hx:p.right.getD i 0 < G.nk):Fst G p.left.toNat (p.right.getD i 0).toNat
 | rule (p:Pd) (hp:p ∈ G.prods) (i:Nat) (hi:i < p.right.length) (he:emptyB G.nk (nullF G) (p.right.take i) = true) (hx:(G.nk:Int) ≤ p.right.getD i 0) (k:Nat) (h:Fst G (p.right.getD i 0 - G.nk).toNat k):Fst G p.left.toNat k
open Classical in
noncomputable def fstF (G:Gm):Nat → Nat → Bool:=fun r k => decide (Fst G r k)
theorem fstF_is (G:Gm) (r k:Nat):fstF G r k = true ↔ Fst G r k:=by unfold fstF; simp
theorem fst_lt {G:Gm} (hG:GOk G) {r k:Nat} (h:Fst G r k):k < G.nk:=by
 induction h with
 | kind p hp i hi he hx =>
   have:=hG.py p hp _ (mem_getD hi)
   omega
 | rule p hp i hi he hx k h ih => exact ih
/-! ### Counting marks of a table -/
end Go.Proofs.YtagohbpbgjelaaaGreatDoor

/- Plain mathematics: what follows rules. -/
namespace Go.Proofs.YtagohbpbgjelaaaGreatDoor
open Go.RowKit

noncomputable abbrev atF (G:Gm):Nat → Bool:=rchF G (fun _:Pd => true)
/-- What may stand behind a rule. -/
inductive Flw (G:Gm):Nat → Nat → Prop
 | start:Flw G G.start.toNat 0
 | first (p:Pd) (hp:p ∈ G.prods) (hr:atF G p.left.toNat = true) (i:Nat) (hi:i < p.right.length) (hx:(G.nk:Int) ≤ p.right.getD i 0) (k:Nat) (hk:k < G.nk) (h:begB G.nk (nullF G) (fstF G) (p.right.drop (i + 1)) k = true):Flw G (p.right.getD i 0 - G.nk).toNat k
 | behind (p:Pd) (hp:p ∈ G.prods) (hr:atF G p.left.toNat = true) (i:Nat) (hi:i < p.right.length) (hx:(G.nk:Int) ≤ p.right.getD i 0) (he:emptyB G.nk (nullF G) (p.right.drop (i + 1)) = true) (k:Nat) (h:Flw G p.left.toNat k):Flw G (p.right.getD i 0 - G.nk).toNat k
open Classical in
noncomputable def flwF (G:Gm):Nat → Nat → Bool:=fun r k => decide (Flw G r k)
theorem flwF_is (G:Gm) (r k:Nat):flwF G r k = true ↔ Flw G r k:=by unfold flwF; simp
theorem flw_lt {G:Gm} (hG:GOk G) {r k:Nat} (h:Flw G r k):k < G.nk:=by
 induction h with
 | start => have:=hG.k2; omega
 | first p hp hr i hi hx k hk h => exact hk
 | behind p hp hr i hi hx he k h ih => exact ih
end Go.Proofs.YtagohbpbgjelaaaGreatDoor

/- Plain mathematics: rules that make themselves. -/
namespace Go.Proofs.YtagohbpbgjelaaaGreatDoor
open Go.RowKit

def restOf (row:List Int) (j:Nat):List Int:=row.take j ++ row.drop (j + 1)
/-- One rule makes another alone, by one step or more. -/
inductive Mks (G:Gm):Nat → Nat → Prop
 | one (p:Pd) (hp:p ∈ G.prods) (j:Nat) (hj:j < p.right.length) (hx:(G.nk:Int) ≤ p.right.getD j 0) (he:emptyB G.nk (nullF G) (restOf p.right j) = true):Mks G p.left.toNat (p.right.getD j 0 - G.nk).toNat
 | trans (a b c:Nat) (h1:Mks G a b) (h2:Mks G b c):Mks G a c
open Classical in
noncomputable def mksF (G:Gm):Nat → Nat → Bool:=fun r k => decide (Mks G r k)
theorem mksF_is (G:Gm) (r k:Nat):mksF G r k = true ↔ Mks G r k:=by unfold mksF; simp
end Go.Proofs.YtagohbpbgjelaaaGreatDoor

/- The document's list, lists. -/
namespace Go.Proofs.YtagohbpbgjelaaaGreatDoor
open Go.RowKit

/-- A row of marks lies there. -/
def MRow (w:World) (a:Option Addr) (l:List Bool):Prop :=
 l = [] ∨ ∃ b off,a = some ⟨b,off,none⟩ ∧ b < w.heap.size ∧ ∀ j,j < l.length → w.cell? ⟨b,off + j,none⟩ = some (.bool (l.getD j false))
theorem mrow_at {w:World} {a:Option Addr} {l:List Bool} (h:MRow w a l) {k:Nat} (hk:k < l.length):∃ b off,a = some ⟨b,off,none⟩ ∧ b < w.heap.size ∧ w.cell? ⟨b,off + k,none⟩ = some (.bool (l.getD k false)):=by
 rcases h with rfl | ⟨b,off,h1,h2,h3⟩
 · simp at hk
 · exact ⟨b,off,h1,h2,h3 k hk⟩
def boolsOf (f:Nat → Bool) (n:Nat):List Bool:=(List.range n).map f
theorem boolsOf_len (f:Nat → Bool) (n:Nat):(boolsOf f n).length = n:=by simp [boolsOf]
theorem boolsOf_getD {f:Nat → Bool} {n k:Nat} (h:k < n):(boolsOf f n).getD k false = f k:=by simp [boolsOf,h]
theorem mrow_rowIs {w:World} {b n:Nat} {f:Nat → Bool} (h:w.rowIs b 4 n (fun r => .bool (f r))):MRow w (some ⟨b,0,none⟩) (boolsOf f n) :=
 .inr ⟨b,0,rfl,h.lt,fun j hj => by
   rw [boolsOf_len] at hj
   rw [boolsOf_getD hj,Nat.zero_add]
   exact h.cell hj⟩
/-- The places of marks, rising. -/
def posTo (l:List Bool):Nat → List Int
 | 0 => []
 | k + 1 => posTo l k ++ if l.getD k false then [(k:Int)] else []
def posL (l:List Bool):List Int:=posTo l l.length
def vints (l:List Int):List Value:=l.map (Value.int .i64)
theorem vints_snoc (l:List Int) (x:Int):vints l ++ [.int .i64 x] = vints (l ++ [x]):=by simp [vints]
theorem vints_len (l:List Int):(vints l).length = l.length:=by simp [vints]

end Go.Proofs.YtagohbpbgjelaaaGreatDoor

/- The document's lists. -/
namespace Go.Proofs.YtagohbpbgjelaaaGreatDoor
open Go.RowKit

theorem own_nrow {w:World} {B:Nat} {v:Value} {l:List Int} (h:w.ownsRow B 3 1 v l.length (vints l)):∃ a c,v = .slice a l.length c ∧ NRow w.heap.size w a l:=by
 obtain ⟨a,c,rfl⟩:=own_form h
 refine ⟨a,c,rfl,?_⟩
 rcases h.2 with ⟨hv,hn⟩ | ⟨g,cap,cur,hv,hg,hh,-⟩
 · exact .inl (List.eq_nil_of_length_eq_zero hn)
 · cases hv
   refine .inr ⟨g,0,rfl,(Array.getElem?_eq_some_iff.1 hh).1,fun j hj => ?_⟩
   rw [Nat.zero_add,h.cellAt j (by omega)]
   simp [vints,List.getD_eq_getElem?_getD,hj]
theorem own_two {w:World} {B B' e e' s s' n m:Nat} {v v':Value} {xs ys:List Value} (h:w.ownsRow B e s v n xs) (h':w.ownsRow B' e' s' v' m ys) (hne:e ≠ e'):∀ k,v.ownBlock = some k → v'.ownBlock ≠ some k:=by
 intro k hk hk'
 rcases h.2 with ⟨rfl,-⟩ | ⟨g,cap,cur,rfl,-,hg,-⟩
 · simp [Value.ownBlock] at hk
 · rcases h'.2 with ⟨rfl,-⟩ | ⟨g',cap',cur',rfl,-,hg',-⟩
   · simp [Value.ownBlock] at hk'
   · simp [Value.ownBlock] at hk hk'
     subst hk
     subst hk'
     rw [hg] at hg'
     simp at hg'
     exact hne hg'.2
theorem own_grown {w w':World} {B B' e e' s s' n m:Nat} {v v':Value} {xs ys:List Value} (h:w.ownsRow B e s v n xs) (h':w.ownsRow B' e' s' v' m ys) (hg:w.grownBy w' v'.ownBlock) (hne:e ≠ e'):w'.ownsRow B e s v n xs:=by
 refine ⟨h.1,?_⟩
 rcases h.2 with h0 | ⟨g,cap,cur,hv,h1,h2,rest⟩
 · exact .inl h0
 · exact .inr ⟨g,cap,cur,hv,h1,(hg.block g (Array.getElem?_eq_some_iff.1 h2).1 (fun e => own_two h h' hne g (by rw [hv]; rfl) e.symm)).trans h2,rest⟩
theorem own_below {w w':World} {B e s n:Nat} {v:Value} {xs:List Value} (h:w.ownsRow B e s v n xs) (hb:Below w.heap.size w w'):w'.ownsRow B e s v n xs:=by
 refine ⟨h.1,?_⟩
 rcases h.2 with h0 | ⟨g,cap,cur,hv,h1,h2,rest⟩
 · exact .inl h0
 · exact .inr ⟨g,cap,cur,hv,h1,(hb.block g (Array.getElem?_eq_some_iff.1 h2).1).trans h2,rest⟩
theorem own_base {w:World} {B B' e s n:Nat} {v:Value} {xs:List Value} (h:w.ownsRow B e s v n xs) (hB:B' ≤ B):w.ownsRow B' e s v n xs:=by
 refine ⟨h.1,?_⟩
 rcases h.2 with h0 | ⟨g,cap,cur,hv,h1,rest⟩
 · exact .inl h0
 · exact .inr ⟨g,cap,cur,hv,by omega,rest⟩
/-- A row of rows of numbers lies there. -/
def NNRow (w:World) (a:Option Addr) (ll:List (List Int)):Prop :=
 ll = [] ∨ ∃ b off,a = some ⟨b,off,none⟩ ∧ b < w.heap.size ∧ ∀ j,j < ll.length → ∃ ra rc,w.cell? ⟨b,off + j,none⟩ = some (.slice ra (ll.getD j []).length rc) ∧ NRow w.heap.size w ra (ll.getD j [])
theorem nrow_up {w w':World} {a:Option Addr} {l:List Int} (h:NRow w.heap.size w a l) (hb:Below w.heap.size w w'):NRow w'.heap.size w' a l:=by
 rcases nrow_kept hb h with h | ⟨b,off,h1,h2,h3⟩
 · exact .inl h
 · exact .inr ⟨b,off,h1,Nat.lt_of_lt_of_le h2 hb.size,h3⟩
/-- The rows of places of a table's marks. -/
def posT (F:Nat → Nat → Bool) (nk n:Nat):List (List Int):=(List.range n).map fun r => posL (boolsOf (F r) nk)

/-- The blocks from a number on are as they were. -/
def NewKept (lo:Nat) (w W:World):Prop:=w.heap.size ≤ W.heap.size ∧ ∀ k,lo ≤ k → k < w.heap.size → W.heap[k]? = w.heap[k]?
theorem newKept_t {lo:Nat} {a b c:World} (h:NewKept lo a b) (k:NewKept lo b c):NewKept lo a c:=⟨Nat.le_trans h.1 k.1,fun j h1 h2 => (k.2 j h1 (Nat.lt_of_lt_of_le h2 h.1)).trans (h.2 j h1 h2)⟩
theorem newKept_below {lo:Nat} {a b:World} (h:Below a.heap.size a b):NewKept lo a b:=⟨h.size,fun k _ hk => h.block k hk⟩
theorem newKept_fr {lo:Nat} {O:Nat → Prop} {a b:World} (h:Fr O a b) (hO:∀ k,O k → k < lo):NewKept lo a b:=⟨h.1,fun k h1 h2 => h.2.1 k h2 (fun ho => by have:=hO k ho; omega)⟩
theorem own_newKept {w W:World} {B e s n:Nat} {v:Value} {xs:List Value} (h:w.ownsRow B e s v n xs) (hk:NewKept B w W):W.ownsRow B e s v n xs:=by
 refine ⟨h.1,?_⟩
 rcases h.2 with h0 | ⟨g,cap,cur,hv,h1,h2,rest⟩
 · exact .inl h0
 · exact .inr ⟨g,cap,cur,hv,h1,(hk.2 g h1 (Array.getElem?_eq_some_iff.1 h2).1).trans h2,rest⟩

end Go.Proofs.YtagohbpbgjelaaaGreatDoor

/- The document's SameInts, sameMarks, sameLists, sameTexts. -/
namespace Go.Proofs.YtagohbpbgjelaaaGreatDoor
open Go.RowKit

def eqTo {α:Type} (d:α) (a b:List α) (k:Nat):Prop:=∀ j,j < k → a.getD j d = b.getD j d
theorem eq_of {α:Type} {d:α} {a b:List α} (hl:a.length = b.length) (h:eqTo d a b a.length):a = b:=by
 apply List.ext_getElem hl
 intro j h1 h2
 have:=h j h1
 rwa [List.getD_eq_getElem?_getD,List.getD_eq_getElem?_getD,List.getElem?_eq_getElem h1,List.getElem?_eq_getElem h2] at this

set_option maxHeartbeats 1000000 in
set_option maxRecDepth 100000 in
theorem rSameInts_any (a b : Option Addr) (ca cb : Nat) (l m : List Int) (hl : l.length ≤ 281474976710656) (w : World) (h1 : NRow w.heap.size w a l) (h2 : NRow w.heap.size w b m) :
   Calls Tryz.prog 16 #[.slice a l.length ca,.slice b m.length cb] w fun e w' => e = .returned (.bool (decide (l = m))) ∧ ∃ q,w' = w.drewN q:=by
 by_cases hlen:l.length = m.length
 · have hlen':((l.length:Int) != m.length) = false:=by simp; omega
   have Hyes:=hide (fun (h:eqTo 0 l m l.length) => show decide (l = m) = true from decide_eq_true (eq_of hlen h))
   have Hno:=hide (fun (j:Nat) (h:l.getD j 0 ≠ m.getD j 0) => show decide (l = m) = false from decide_eq_false (fun e => h (by rw [e])))
   have H1:=hide h1; have H2:=hide h2
   clear h1 h2
   generalize decide (l = m) = R at *
   go_enter Tryz.func16,Tryz.ntmps16
   go_wp2
   go_loopw [5] (fun x wr => ∃ k:Nat,x = .int .i64 k ∧ k ≤ l.length ∧ eqTo 0 l m k ∧ ∃ q,wr = w.drewN q) (fun x _ => l.length - (intOf x).toNat)
   case atStart => exact ⟨0,rfl,Nat.zero_le _,fun j hj => absurd hj (Nat.not_lt_zero _),0,rfl⟩
   case round =>
     obtain ⟨k,rfl,hk,heq,q,rfl⟩:=hrel
     have Heq:=hide heq
     clear heq
     by_cases hlt:k < l.length
     · have hlt':(k:Int) < l.length:=by omega
       have hlt2':(k:Int) < m.length:=by omega
       obtain ⟨b1,o1,rfl,hb1,c1⟩:=nrow_at (unhide H1) hlt
       obtain ⟨b2,o2,rfl,hb2,c2⟩:=nrow_at (unhide H2) (k:=k) (by omega)
       have d1:(w.drewN q).cell? ⟨b1,o1 + k,none⟩ = some (.int .i64 (l.getD k 0)):=c1
       have d2:(w.drewN q).cell? ⟨b2,o2 + k,none⟩ = some (.int .i64 (m.getD k 0)):=c2
       clear c1 c2
       by_cases he:l.getD k 0 = m.getD k 0
       · have Hs:Hid (eqTo 0 l m (k + 1)):=hide (fun j hj => by
           by_cases e:j = k
           · subst e; exact he
           · exact unhide Heq j (by omega))
         rw [he] at d1
         clear he
         generalize m.getD k 0 = x at *
         generalize hW:w.drewN q = W at *
         go_wp2
         go_quiet (fail)
         go_wp2
         go_roundw
         case rel => exact ⟨k + 1,by go_num,by omega,unhide Hs,q + nq,by rw [← hW,World.drewN_drewN]⟩
         case measure => simp [intOf]; omega
       · have Hr:=hide (unhide Hno k he)
         have hne:(l.getD k 0 != m.getD k 0) = true:=by simpa using he
         clear he
         generalize m.getD k 0 = x at *
         generalize l.getD k 0 = y at *
         generalize hW:w.drewN q = W at *
         go_wp2
         go_quiet (fail)
         go_wp2
         go_ret
         rw [unhide Hr]
         exact ⟨rfl,q + nq,by rw [← hW,World.drewN_drewN]⟩
     · obtain rfl:k = l.length:=by omega
       have Hr:=hide (unhide Hyes (unhide Heq))
       go_wp2
       go_ret
       rw [unhide Hr]
       exact ⟨rfl,q,rfl⟩
 · have hlen':((l.length:Int) != m.length) = true:=by simp; omega
   have Hr:Hid (decide (l = m) = false):=hide (decide_eq_false (fun e => hlen (by rw [e])))
   generalize decide (l = m) = R at *
   clear hlen
   go_enter Tryz.func16,Tryz.ntmps16
   go_wp2
   go_ret
   rw [unhide Hr]
   exact ⟨rfl,0,rfl⟩
end Go.Proofs.YtagohbpbgjelaaaGreatDoor

/- The document's Least. -/
namespace Go.Proofs.YtagohbpbgjelaaaGreatDoor
open Go.RowKit

set_option maxHeartbeats 2000000 in
set_option maxRecDepth 100000 in
theorem rLeast_no (G:Gm) (hc:checkB G = false) (ka pa ra qa:Option Addr) (kc pc rc qc:Nat) (rule:Int) (B:Nat) (w:World) (hB:B ≤ w.heap.size) (hin:GIn B w G ka pa ra qa) (hsm:∀ p,p ∈ G.prods → p.right.length ≤ 281474976710656) :
   Calls Tryz.prog 25 #[.agg #[.slice ka G.kinds.length kc,.slice pa G.precs.length pc,.slice ra G.rules.length rc,.slice qa G.prods.length qc,.int .i64 G.start],.int .i64 rule] w fun e w' => e = .returned (.tuple #[.int .i64 0,.bool false,.int .i64 130]) ∧ Below w.heap.size w w':=by
 have hst:=gst_new (kc:=kc) (pc:=pc) (rc:=rc) (qc:=qc) hB hin 26
 have d0:=hst.c0; have d1:=hst.c1; have d2:=hst.c2; have d3:=hst.c3; have d4:=hst.c4
 have hb1:Below w.heap.size w (w.alloc (.cells #[.slice ka G.kinds.length kc,.slice pa G.precs.length pc,.slice ra G.rules.length rc,.slice qa G.prods.length qc,.int .i64 G.start] 26)):=(Below.refl _ _).alloc (Nat.le_refl _) _
 have hw1:(w.alloc (.cells #[.slice ka G.kinds.length kc,.slice pa G.precs.length pc,.slice ra G.rules.length rc,.slice qa G.prods.length qc,.int .i64 G.start] 26)).heap.size = w.heap.size + 1:=by simp
 have hC:=rCheck_any G ka pa ra qa kc pc rc qc B _ (by rw [hw1]; omega) hst.gin hsm
 rw [show checkV G = 130 by unfold checkV; rw [hc]; rfl] at hC
 have HC:=hide hC
 have Hb1:=hide hb1
 clear hst hC hb1 hin hsm hc
 go_enter Tryz.func25,Tryz.ntmps25
 go_wp2_with fail
 refine (unhide HC).mono ?_
 rintro e w2 ⟨rfl,hb2⟩
 have Hb2:=hide ((unhide Hb1).trans (below_le hb2 (by omega)))
 clear hb2 d0 d1 d2 d3 d4
 go_wp2
 refine bodyPost_ret (v:=.tuple #[.int .i64 0,.bool false,.int .i64 130]) (by simp [results,Tryz.results25,go_sem]) rfl ⟨rfl,unhide Hb2⟩

set_option maxHeartbeats 2000000 in
set_option maxRecDepth 100000 in
theorem rLeast_out (G:Gm) (hc:checkB G = true) (ka pa ra qa:Option Addr) (kc pc rc qc:Nat) (rule:Int) (hr:rule < 0 ∨ (G.rules.length:Int) ≤ rule) (B:Nat) (w:World) (hB:B ≤ w.heap.size) (hin:GIn B w G ka pa ra qa) :
   Calls Tryz.prog 25 #[.agg #[.slice ka G.kinds.length kc,.slice pa G.precs.length pc,.slice ra G.rules.length rc,.slice qa G.prods.length qc,.int .i64 G.start],.int .i64 rule] w fun e w' => e = .returned (.tuple #[.int .i64 0,.bool false,.int .i64 1]) ∧ Below w.heap.size w w':=by
 have hst:=gst_new (kc:=kc) (pc:=pc) (rc:=rc) (qc:=qc) hB hin 26
 have hG:=check_ok hc
 have d0:=hst.c0; have d1:=hst.c1; have d2:=hst.c2; have d3:=hst.c3; have d4:=hst.c4
 have hb1:Below w.heap.size w (w.alloc (.cells #[.slice ka G.kinds.length kc,.slice pa G.precs.length pc,.slice ra G.rules.length rc,.slice qa G.prods.length qc,.int .i64 G.start] 26)):=(Below.refl _ _).alloc (Nat.le_refl _) _
 have hw1:(w.alloc (.cells #[.slice ka G.kinds.length kc,.slice pa G.precs.length pc,.slice ra G.rules.length rc,.slice qa G.prods.length qc,.int .i64 G.start] 26)).heap.size = w.heap.size + 1:=by simp
 have hC:=rCheck_any G ka pa ra qa kc pc rc qc B _ (by rw [hw1]; omega) hst.gin (fun p hp => by have:=hG.pr p hp; omega)
 rw [show checkV G = 0 by unfold checkV; rw [hc]; rfl] at hC
 have HC:=hide hC
 have Hb1:=hide hb1; have Hst:=hide hst
 clear hst hC hb1 hin hc hG
 go_enter Tryz.func25,Tryz.ntmps25
 go_wp2_with fail
 refine (unhide HC).mono ?_
 rintro e w2 ⟨rfl,hb2⟩
 rw [hw1] at hb2
 have hst2:=gst_kept hb2 hB (unhide Hst)
 have e2:=hst2.c2
 have Hb2:=hide ((unhide Hb1).trans (below_le hb2 (by omega)))
 clear hb2 hst2 d0 d1 d2 d3 d4
 by_cases h0:rule < 0
 · go_wp2
   refine bodyPost_ret (v:=.tuple #[.int .i64 0,.bool false,.int .i64 1]) (by simp [results,Tryz.results25,go_sem]) rfl ⟨rfl,unhide Hb2⟩
 · have h1:(G.rules.length:Int) ≤ rule:=by omega
   go_wp2
   refine bodyPost_ret (v:=.tuple #[.int .i64 0,.bool false,.int .i64 1]) (by simp [results,Tryz.results25,go_sem]) rfl ⟨rfl,unhide Hb2⟩

set_option maxHeartbeats 2000000 in
set_option maxRecDepth 100000 in
theorem rLeast_yes (G:Gm) (hc:checkB G = true) (ka pa ra qa:Option Addr) (kc pc rc qc:Nat) (r:Nat) (hr:r < G.rules.length) (B:Nat) (w:World) (hB:B ≤ w.heap.size) (hin:GIn B w G ka pa ra qa) :
   Calls Tryz.prog 25 #[.agg #[.slice ka G.kinds.length kc,.slice pa G.precs.length pc,.slice ra G.rules.length rc,.slice qa G.prods.length qc,.int .i64 G.start],.int .i64 (r:Int)] w fun e w' => ∃ f,LeastIs G f ∧ e = .returned (.tuple #[.int .i64 (max (f r) 0),.bool (decide (0 ≤ f r)),.int .i64 0]) ∧ Below w.heap.size w w':=by
 have hst:=gst_new (kc:=kc) (pc:=pc) (rc:=rc) (qc:=qc) hB hin 26
 have hG:=check_ok hc
 have hnr:=hG.r2
 unfold Gm.nr at hnr
 have d0:=hst.c0; have d1:=hst.c1; have d2:=hst.c2; have d3:=hst.c3; have d4:=hst.c4
 have hb1:Below w.heap.size w (w.alloc (.cells #[.slice ka G.kinds.length kc,.slice pa G.precs.length pc,.slice ra G.rules.length rc,.slice qa G.prods.length qc,.int .i64 G.start] 26)):=(Below.refl _ _).alloc (Nat.le_refl _) _
 have hw1:(w.alloc (.cells #[.slice ka G.kinds.length kc,.slice pa G.precs.length pc,.slice ra G.rules.length rc,.slice qa G.prods.length qc,.int .i64 G.start] 26)).heap.size = w.heap.size + 1:=by simp
 have hC:=rCheck_any G ka pa ra qa kc pc rc qc B _ (by rw [hw1]; omega) hst.gin (fun p hp => by have:=hG.pr p hp; omega)
 rw [show checkV G = 0 by unfold checkV; rw [hc]; rfl] at hC
 have HC:=hide hC
 have Hb1:=hide hb1; have Hst:=hide hst; have HG:=hide hG
 clear hst hC hb1 hin hc hG
 have h0:¬ (r:Int) < 0:=by omega
 have h1:¬ (G.rules.length:Int) ≤ r:=by omega
 have h2:(r:Int) < G.rules.length:=by omega
 go_enter Tryz.func25,Tryz.ntmps25
 go_wp2_with fail
 refine (unhide HC).mono ?_
 rintro e w2 ⟨rfl,hb2⟩
 rw [hw1] at hb2
 have hst2:=gst_kept hb2 hB (unhide Hst)
 have e0:=hst2.c0; have e1:=hst2.c1; have e2:=hst2.c2; have e3:=hst2.c3; have e4:=hst2.c4
 have hs2:=hb2.size
 have HL:=hide (rLeasts_any G (unhide HG) ka pa ra qa kc pc rc qc B w2 (by omega) hst2.gin)
 have Hb2:=hide ((unhide Hb1).trans (below_le hb2 (by omega)))
 clear hb2 hst2 d0 d1 d2 d3 d4
 go_wp2_with fail
 refine (unhide HL).mono ?_
 rintro e w3 ⟨lb,f,rfl,hlb,hlr,hlf,hb3⟩
 have cr:w3.cell? ⟨lb,r,none⟩ = some (.int .i64 (f r)):=hlr.cell hr
 have Hb3:=hide ((unhide Hb2).trans (below_le hb3 (by have:=(unhide Hb2).size; omega)))
 have Hlf:=hide hlf
 have hbd : -1 ≤ f r ∧ f r ≤ 65537:=by rcases hlf.1 r with h | h <;> omega
 clear hb3 hlr hlf e0 e1 e2 e3 e4
 generalize hz:f r = z at *
 have Hz:=hide hz
 clear hz
 by_cases hz0:0 ≤ z
 · have hd:decide (0 ≤ z) = true:=by rw [decide_eq_true_eq]; exact hz0
   have hm:max z 0 = z:=by omega
   go_wp2
   refine bodyPost_ret (v:=.tuple #[.int .i64 z,.bool true,.int .i64 0]) (by simp [results,Tryz.results25,go_sem]) rfl ⟨f,unhide Hlf,?_,unhide Hb3⟩
   rw [unhide Hz,hm,hd]
 · have hd:decide (0 ≤ z) = false:=by rw [decide_eq_false_iff_not]; exact hz0
   have hm:max z 0 = 0:=by omega
   go_wp2
   refine bodyPost_ret (v:=.tuple #[.int .i64 0,.bool false,.int .i64 0]) (by simp [results,Tryz.results25,go_sem]) rfl ⟨f,unhide Hlf,?_,unhide Hb3⟩
   rw [unhide Hz,hm,hd]
end Go.Proofs.YtagohbpbgjelaaaGreatDoor

/- The document's sameMarks, sameLists, where both are the same. -/
namespace Go.Proofs.YtagohbpbgjelaaaGreatDoor
open Go.RowKit

theorem nnrow_at {w:World} {a:Option Addr} {ll:List (List Int)} (h:NNRow w a ll) {k:Nat} (hk:k < ll.length):∃ b off,a = some ⟨b,off,none⟩ ∧ b < w.heap.size ∧ ∃ ra rc,w.cell? ⟨b,off + k,none⟩ = some (.slice ra (ll.getD k []).length rc) ∧ NRow w.heap.size w ra (ll.getD k []):=by
 rcases h with rfl | ⟨b,off,h1,h2,h3⟩
 · simp at hk
 · exact ⟨b,off,h1,h2,h3 k hk⟩

end Go.Proofs.YtagohbpbgjelaaaGreatDoor

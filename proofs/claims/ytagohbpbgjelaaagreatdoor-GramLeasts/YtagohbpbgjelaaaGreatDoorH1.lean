/- The document's chosen. -/
import Derived.Test.YtagohbpbgjelaaaGreatDoorM2
import Derived.Test.YtagohbpbgjelaaaGreatDoorB1
import Derived.Test.YtagohbpbgjelaaaGreatDoorM6
import Derived.Test.YtagohbpbgjelaaaGreatDoorW1
namespace Go.Proofs.YtagohbpbgjelaaaGreatDoor
open Go.RowKit

set_option maxRecDepth 100000 in
theorem cellsI_fr {w w':World} {b n k:Nat} {f:Nat → Int} (h:CellsI w b n f) (hf:Fr (· = k) w w') (hne:b ≠ k):CellsI w' b n f :=
 ⟨Nat.lt_of_lt_of_le h.1 hf.1,fun r hr => by
   have:=h.2 r hr
   unfold World.cell? at this ⊢
   rw [hf.2.1 b h.1 hne]
   exact this⟩
set_option maxRecDepth 100000 in
theorem addr_add0 (b j:Nat):Addr.add ⟨b,0,none⟩ j = ⟨b,j,none⟩:=by cases j <;> simp [Addr.add]
set_option maxRecDepth 100000 in
theorem own_empty (w:World) (e:TypeId) (s:Nat):(w.alloc (.cells #[] e)).ownsRow w.heap.size e s (.slice (some ⟨w.heap.size,0,none⟩) 0 0) 0 [] :=
 ⟨by simp,.inr ⟨w.heap.size,0,#[],rfl,Nat.le_refl _,Go.Deep.blk_alloc_new _ _,Nat.le_refl _,by unfold maxLen; omega,by simp,by simp⟩⟩
def negC (c:Nat → Int) (n:Nat):Nat:=cntF (fun r => decide (0 ≤ c r)) n
set_option maxRecDepth 100000 in
theorem negC_upd {c:Nat → Int} {i:Nat} {v:Int} (hv:0 ≤ v) (h:c i < 0):∀ n,i < n → negC (updI c i v) n < negC c n
 | 0,hi => by omega
 | n + 1, hi => by
   unfold negC cntF
   by_cases e:i = n
   · subst e
     have:cntF (fun r => decide (0 ≤ updI c i v r)) i = cntF (fun r => decide (0 ≤ c r)) i:=cntF_congr i (fun j hj => by unfold updI; rw [if_neg (by omega)])
     rw [this]
     have h2:updI c i v i = v:=by simp [updI]
     rw [h2,if_pos (by simpa using hv),if_neg (by simp; omega)]
     omega
   · have:=negC_upd hv h n (by omega)
     unfold negC at this
     have h2:updI c i v n = c n:=by unfold updI; rw [if_neg (fun h => e h.symm)]
     rw [h2]; omega
set_option maxRecDepth 100000 in
theorem negC_W {w:World} {b t n:Nat} {f:Nat → Int} (h:w.rowIs b t n (fun r => .int .i64 (f r))):negC (numW w b) n = negC f n:=cntF_congr n (fun r hr => by rw [numW_is h r hr])
def ivals (f:Nat → Int) (n:Nat):List Int:=(List.range n).map f
set_option maxRecDepth 100000 in
theorem ivals_len (f:Nat → Int) (n:Nat):(ivals f n).length = n:=by simp [ivals]
set_option maxRecDepth 100000 in
theorem ivals_get {f:Nat → Int} {n j:Nat} (h:j < n):(ivals f n)[j]? = some (f j):=by simp [ivals,h]
set_option maxRecDepth 100000 in
theorem cells_own {w:World} {B:Nat} {v:Value} {n:Nat} {f:Nat → Int} (hn:1 ≤ n) (h:w.ownsRow B 3 1 v n (vints (ivals f n))):∃ g cap,v = .slice (some ⟨g,0,none⟩) n cap ∧ B ≤ g ∧ CellsI w g n f:=by
 rcases h.2 with ⟨hv,h0⟩ | ⟨g,cap,cur,hv,hg,hh,-⟩
 · omega
 · refine ⟨g,cap,hv,hg,(Array.getElem?_eq_some_iff.1 hh).1,fun r hr => ?_⟩
   subst hv
   rw [h.cellAt r (by omega)]
   unfold vints
   rw [List.getElem?_map,ivals_get hr]
   rfl

set_option maxHeartbeats 4000000 in
set_option maxRecDepth 100000 in
theorem rChosen_any (G : Gm) (hG : GOk G) (ka pa ra qa : Option Addr) (kc pc rc qc : Nat) (lb lc : Nat) (f : Nat → Int) (hf : LeastIs G f) (B : Nat) (w : World) (hB : B ≤ w.heap.size) (hin : GIn B w G ka pa ra qa) (hl : w.rowIs lb 3 G.rules.length (fun r => .int .i64 (f r))) :
   Calls Tryz.prog 71 #[.agg #[.slice ka G.kinds.length kc,.slice pa G.precs.length pc,.slice ra G.rules.length rc,.slice qa G.prods.length qc,.int .i64 G.start],.slice (some ⟨lb,0,none⟩) G.rules.length lc] w fun e w' => ∃ b c,e = .returned (.slice (some ⟨b,0,none⟩) G.nr G.nr) ∧ w.heap.size ≤ b ∧ w'.rowIs b 3 G.nr (fun r => .int .i64 (c r)) ∧ ChosenIs G f c ∧ Below w.heap.size w w':=by
 have hnr:=hG.r2; have hnr1:=hG.r1; have hqs:=hG.ps; have hnk:=hG.k3
 unfold Gm.nr at hnr hnr1
 unfold Gm.nk at hnk
 obtain ⟨i0,hi9,hz0,hz1,hz2⟩:=info_parts info3
 have hmk:=fun w => run_make_row' (P:=Tryz.prog) 27 3 (.int .i64 0) 8 Tryz.underlying27 info3 rfl .i64 .i64 G.rules.length (by omega) (by omega) w
 have HG:=hide hG; have Hin:=hide hin; have Hl:=hide hl; have Hf:=hide hf
 clear hG hin hl hf
 have Hst:=hide (gst_new (kc:=kc) (pc:=pc) (rc:=rc) (qc:=qc) hB (unhide Hin) 26)
 have hb1:Below w.heap.size w (w.alloc (.cells #[.slice ka G.kinds.length kc,.slice pa G.precs.length pc,.slice ra G.rules.length rc,.slice qa G.prods.length qc,.int .i64 G.start] 26)):=(Below.refl _ _).alloc (Nat.le_refl _) _
 have hw1:(w.alloc (.cells #[.slice ka G.kinds.length kc,.slice pa G.precs.length pc,.slice ra G.rules.length rc,.slice qa G.prods.length qc,.int .i64 G.start] 26)).heap.size = w.heap.size + 1:=by simp
 go_enter Tryz.func71,Tryz.ntmps71
 go_wp2
 generalize w.alloc (.cells #[.slice ka G.kinds.length kc,.slice pa G.precs.length pc,.slice ra G.rules.length rc,.slice qa G.prods.length qc,.int .i64 G.start] 26) = w1 at *
 have hr0:=World.rowIs_made w1 (.int .i64 0) G.rules.length 3
 rw [hw1] at hr0
 have Hr0:=hide hr0; have Hb1:=hide hb1
 have Hl1:=hide (rowIs_below (unhide Hl) hb1)
 clear hr0 hb1 hmk
 go_loopw [6] (fun x wr => ∃ i:Nat,x = .int .i64 i ∧ i ≤ G.rules.length ∧ wr.rowIs (w.heap.size + 1) 3 G.rules.length (fun r => .int .i64 (if r < i then -1 else 0)) ∧ Below (w.heap.size + 1) w1 wr) (fun x _ => G.rules.length - (intOf x).toNat)
 case atStart => exact ⟨0,rfl,Nat.zero_le _,(unhide Hr0).congr (fun j _ => by simp),(Below.refl _ _).alloc (by omega) _⟩
 case round =>
   obtain ⟨i,rfl,hi,hrow,hb⟩:=hrel
   by_cases hlt:i < G.rules.length
   · have hlt':(i:Int) < G.rules.length:=by omega
     have co:=hrow.cell hlt
     have fo:=hrow.frozen i
     have Hrow:=hide hrow; have Hb:=hide hb
     clear hrow hb
     go_wp2
     go_roundw
     case rel => exact ⟨i + 1,by go_num,by omega,((unhide Hrow).set i (.int .i64 (-1))).congr (fun j _ => by
       by_cases e:j = i
       · subst e; simp
       · simp only [if_neg e]
         congr 1
         by_cases h:j < i
         · rw [if_pos h,if_pos (by omega)]
         · rw [if_neg h,if_neg (by omega)]),(unhide Hb).setCell (Nat.le_refl _) _⟩
     case measure => simp [intOf]; omega
   · obtain rfl:i = G.rules.length:=by omega
     have Hrow:=hide (hrow.congr (g:=fun _ => .int .i64 (-1)) (fun j hj => by rw [if_pos hj]))
     have Hb:=hide hb
     clear hrow hb Hr0
     go_wp2
     go_loopw [7] (fun x wr => ∃ (n:Nat) (ag:Bool),x = .bool ag ∧ wr.rowIs (w.heap.size + 1) 3 G.rules.length (fun r => .int .i64 (chS G f n r)) ∧ (ag = false → chR G f (chS G f n) = chS G f n) ∧ Below (w.heap.size + 1) w1 wr) (fun x wr => 2 * negC (numW wr (w.heap.size + 1)) G.rules.length + bitOf x)
     case atStart => exact ⟨0,true,rfl,unhide Hrow,(fun h => by cases h),unhide Hb⟩
     case round =>
       clear Hrow Hb
       obtain ⟨n,ag,rfl,hrow,hsh,hb⟩:=hrel
       have hcnt:=negC_W hrow
       have Hsh:=hide hsh; have Hb:=hide hb; have Hrow:=hide hrow
       clear hsh hb hrow
       cases ag
       · have Hch:Hid (ChosenIs G f (chS G f n)):=hide ⟨n,rfl,unhide Hsh rfl⟩
         clear hcnt Hsh
         generalize chS G f n = c at *
         go_wp2
         go_ret
         exact ⟨_,c,rfl,by omega,unhide Hrow,unhide Hch,(unhide Hb1).trans (below_le (unhide Hb) (by omega))⟩
       · clear Hsh
         have hsz:=(unhide Hb).size
         have hrlt:=(unhide Hrow).lt
         have he:=own_empty wr 3 1
         have hnw:∀ j u,(vints (ivals (chS G f n) G.rules.length))[j]? = some u → (wr.alloc (.cells #[] 3)).cell? (Addr.add ⟨w.heap.size + 1,0,none⟩ j) = some u:=fun j u hu => by
           have hj:j < G.rules.length:=by
             have:=(List.getElem?_eq_some_iff.1 hu).1
             rw [vints_len,ivals_len] at this
             exact this
           unfold vints at hu
           rw [List.getElem?_map,ivals_get hj] at hu
           cases hu
           have:=((unhide Hrow).alloc (.cells #[] 3)).cell hj
           rw [addr_add0]
           exact this
         have Hnw:=hide hnw; have He:=hide he
         clear hnw he
         go_wp2_with (at_builtin; refine wpList_append_own _ rfl _ _ 27 rfl wr.heap.size 3 i0 (.int .i64 0) 1 8 Tryz.underlying27 hi9 hz0 hz1 hz2 rfl (by decide) _ 0 [] rfl (unhide He) ⟨w.heap.size + 1,0,none⟩ G.rules.length G.rules.length (vints (ivals (chS G f n) G.rules.length)) rfl (by rw [vints_len,ivals_len,Nat.mul_one]) (unhide Hnw) ?zc2 ?zc3 ?zc4 ?zc5 ?_)
         case zc2 => exact vints_one _
         case zc3 => unfold maxLen; omega
         case zc4 => omega
         case zc5 => simp
         intro v' W3 hown' hgrow _
         obtain ⟨wb,wcp,rfl,hwb,hcw⟩:=cells_own hnr1 hown'
         have hb3:Below wr.heap.size wr W3:=((Below.refl _ _).alloc (Nat.le_refl _) _).grown hgrow (by simp) (fun j hj => by simp [Value.ownBlock] at hj; omega)
         have hrow3:=rowIs_below (unhide Hrow) hb3
         have Hb3:=hide ((unhide Hb).trans (below_le hb3 (by omega)))
         have Hrow3:=hide hrow3; have Hcw:=hide hcw; have Hwb:=hide hwb
         have hsz3:=hb3.size
         clear hown' hgrow hb3 hrow3 hcw hwb Hnw He Hrow Hb
         have Hcn:Hid (negC (chS G f n) G.rules.length = negC (chS G f n) G.rules.length):=hide rfl
         go_wp2
         go_loopw [7,9,10] (fun x y _ W => ∃ (ag:Bool) (k:Nat),x = .bool ag ∧ y = .int .i64 k ∧ k ≤ G.prods.length ∧ W.rowIs (w.heap.size + 1) 3 G.rules.length (fun r => .int .i64 (chTo G f (chS G f n) k r)) ∧ (ag = false → chTo G f (chS G f n) k = chS G f n) ∧ (ag = true → negC (chTo G f (chS G f n) k) G.rules.length < negC (chS G f n) G.rules.length) ∧ Fr (· = w.heap.size + 1) W3 W) (fun _ y _ _ => G.prods.length - (intOf y).toNat)
         case atStart => exact ⟨false,0,rfl,rfl,Nat.zero_le _,unhide Hrow3,(fun _ => rfl),(fun h => by cases h),fr_refl _ _⟩
         case round =>
           obtain ⟨ag,k,rfl,rfl,hk,hrow2,hs1,hs2,hfr⟩:=hrel
           have Hs1:=hide hs1; have Hs2:=hide hs2; have Hfr:=hide hfr; have Hrow2:=hide hrow2
           have hbW:Below (w.heap.size + 1) w1 wr:=(unhide Hb3).trans (fr_below hfr (by omega) (fun j hj => by have hj:j = w.heap.size + 1:=hj; omega))
           have HbW:=hide hbW
           clear hs1 hs2 hfr hrow2 hbW
           have hst:=gst_kept (unhide HbW) hB (unhide Hst)
           have g0:=hst.c0; have g1:=hst.c1; have g2:=hst.c2; have g3:=hst.c3; have g4:=hst.c4
           have Hgin:=hide hst.gin
           clear hst
           by_cases hlt:k < G.prods.length
           · have hlt' : (k : Int) < G.prods.length := by omega
             obtain ⟨b,off,rfl,hbB,rr,rrc,x3,x4,x5,x6,n6,c6,hrr,hac,q0,q1,q2,q3,q4,q5,q6⟩:=qrow_at (unhide Hgin).prods hlt
             obtain ⟨hl0,hl1⟩:=(unhide HG).pl _ (mem_getP hlt)
             have hpr:=(unhide HG).pr _ (mem_getP hlt)
             have hpy:=(unhide HG).py _ (mem_getP hlt)
             have Hstep:Hid (chTo G f (chS G f n) (k + 1) = if chTo G f (chS G f n) k (G.prods.getD k pd0).left.toNat < 0 ∧ okP G f (chS G f n) (G.prods.getD k pd0) = true then updI (chTo G f (chS G f n) k) (G.prods.getD k pd0).left.toNat k else chTo G f (chS G f n) k):=hide rfl
             have Hok:Hid (okP G f (chS G f n) (G.prods.getD k pd0) = (wholeB G.kinds.length (fun r => decide (0 ≤ chS G f n r)) (G.prods.getD k pd0).right && decide (lenR G.kinds.length f (G.prods.getD k pd0).right 0 = f (G.prods.getD k pd0).left.toNat))):=hide rfl
             generalize G.prods.getD k pd0 = p at *
             obtain ⟨pl,prt,plv,pac⟩:=p
             simp only at hl0 hl1 hpr hpy hrr hac q0 q1 q2
             obtain ⟨l,rfl⟩:∃ l:Nat,pl = (l:Int):=⟨pl.toNat,by omega⟩
             have Hstep:Hid (chTo G f (chS G f n) (k + 1) = if chTo G f (chS G f n) k l < 0 ∧ okP G f (chS G f n) ⟨(l:Int),prt,plv,pac⟩ = true then updI (chTo G f (chS G f n) k) l k else chTo G f (chS G f n) k):=hide (unhide Hstep)
             have Hok:Hid (okP G f (chS G f n) ⟨(l:Int),prt,plv,pac⟩ = (wholeB G.kinds.length (fun r => decide (0 ≤ chS G f n r)) prt && decide (lenR G.kinds.length f prt 0 = f l))):=hide (unhide Hok)
             have hl2:l < G.rules.length:=by unfold Gm.nr at hl1; omega
             have hl1':(l:Int) < G.rules.length:=by omega
             obtain ⟨p0,p1,-,-,-,-,-,hw3,hb3⟩:=boxP wr (.int .i64 (l:Int)) (.slice rr prt.length rrc) (.int .i64 plv) (.int .i64 x3) (.int .i64 x4) (.string x5) (.slice x6 n6 c6) 89
             have hszW:=(unhide HbW).size
             have hlbW:=(unhide Hl1).of_block ((unhide HbW).block _ (by have:=(unhide Hl1).lt; omega))
             have hbWp:=(unhide HbW).trans (below_le hb3 (by omega))
             have hcwW:=cellsI_fr (unhide Hcw) (unhide Hfr) (by have:=unhide Hwb; omega)
             have hrow3:=rowIs_below (unhide Hrow2) hb3
             have hlb3:=rowIs_below hlbW hb3
             have hcw3:=cellsI_below hcwW hb3
             have hgin3:=gin_kept (below_le hb3 (by omega)) (unhide Hgin)
             have hrr3:=nrow_kept (below_le hb3 (by omega)) hrr
             have hst3:=gst_kept (below_le hb3 (by omega)) hB (gst_kept (unhide HbW) hB (unhide Hst))
             obtain ⟨wp,hwp⟩:∃ wp,wp = wr.alloc (.cells #[.int .i64 (l:Int),.slice rr prt.length rrc,.int .i64 plv,.int .i64 x3,.int .i64 x4,.string x5,.slice x6 n6 c6] 89):=⟨_,rfl⟩
             rw [← hwp] at p0 p1 hw3 hb3 hbWp hrow3 hlb3 hcw3 hgin3 hrr3 hst3
             have co:=hrow3.cell hl2
             have cl:=hlb3.cell hl2
             have hfl:=(fun r (_:r < G.rules.length) => (show -1 ≤ f r ∧ f r ≤ 65537 by rcases (unhide Hf).1 r with h | h <;> omega))
             have HR:Hid (∀ W:World,Below wp.heap.size wp W → Calls Tryz.prog 113 #[.agg #[.slice ka G.kinds.length kc,.slice pa G.precs.length pc,.slice ra G.rules.length rc,.slice (some ⟨b,off,none⟩) G.prods.length qc,.int .i64 G.start],.slice (some ⟨wb,0,none⟩) G.rules.length wcp,.slice rr prt.length rrc] W fun e w' => e = .returned (.bool (wholeB G.kinds.length (fun r => decide (0 ≤ chS G f n r)) prt)) ∧ Below W.heap.size W w'):=hide (fun W hW => by
               have:=hW.size
               exact rRanked_any ka pa ra _ G.kinds.length kc G.precs.length pc G.rules.length rc G.prods.length qc G.start wb wcp (chS G f n) rr rrc prt B W (by omega) hnr (by omega) (nrow_kept (below_le hW (by omega)) hrr3) hpy (cellsI_below hcw3 hW))
             have HE:Hid (∀ W:World,Below wp.heap.size wp W → Calls Tryz.prog 110 #[.agg #[.slice ka G.kinds.length kc,.slice pa G.precs.length pc,.slice ra G.rules.length rc,.slice (some ⟨b,off,none⟩) G.prods.length qc,.int .i64 G.start],.slice (some ⟨lb,0,none⟩) G.rules.length lc,.slice rr prt.length rrc] W fun e w' => e = .returned (.int .i64 (lenR G.kinds.length f prt 0)) ∧ Below W.heap.size W w'):=hide (fun W hW => by
               have:=hW.size
               exact rLength_any ka pa ra _ G.kinds.length kc G.precs.length pc G.rules.length rc G.prods.length qc G.start lb lc f rr rrc prt B W (by omega) hnr (by omega) (nrow_kept (below_le hW (by omega)) hrr3) hpy (rowIs_below hlb3 hW) hfl)
             have HS:Hid (∀ W:World,Below wp.heap.size wp W → W.cell? ⟨w.heap.size,0,none⟩ = some (.slice ka G.kinds.length kc) ∧ W.cell? ⟨w.heap.size,1,none⟩ = some (.slice pa G.precs.length pc) ∧ W.cell? ⟨w.heap.size,2,none⟩ = some (.slice ra G.rules.length rc) ∧ W.cell? ⟨w.heap.size,3,none⟩ = some (.slice (some ⟨b,off,none⟩) G.prods.length qc) ∧ W.cell? ⟨w.heap.size,4,none⟩ = some (.int .i64 G.start) ∧ W.cell? ⟨wr.heap.size,0,none⟩ = some (.int .i64 (l:Int)) ∧ W.cell? ⟨wr.heap.size,1,none⟩ = some (.slice rr prt.length rrc) ∧ W.cell? ⟨w.heap.size + 1,l,none⟩ = some (.int .i64 (chTo G f (chS G f n) k l)) ∧ W.cell? ⟨lb,l,none⟩ = some (.int .i64 (f l))):=hide (fun W hW => by
               have hg:=gst_kept (below_le hW (by omega)) hB hst3
               exact ⟨hg.c0,hg.c1,hg.c2,hg.c3,hg.c4,(hW.cell (p:=⟨wr.heap.size,0,none⟩) (by show wr.heap.size < wp.heap.size; omega)).trans p0,(hW.cell (p:=⟨wr.heap.size,1,none⟩) (by show wr.heap.size < wp.heap.size; omega)).trans p1,(rowIs_below hrow3 hW).cell hl2,(rowIs_below hlb3 hW).cell hl2⟩)
             have Hrow3':=hide hrow3; have Hb3':=hide hb3; have HbWp:=hide hbWp
             have Hfrp:Hid (Fr (· = w.heap.size + 1) W3 wp):=hide (fr_new (unhide Hfr) hb3)
             have hD:Hid (∀ D,D = (decide (chTo G f (chS G f n) k l < 0) && (wholeB G.kinds.length (fun r => decide (0 ≤ chS G f n r)) prt && decide (lenR G.kinds.length f prt 0 = f l))) → chTo G f (chS G f n) (k + 1) = if D then updI (chTo G f (chS G f n) k) l k else chTo G f (chS G f n) k):=hide (fun D hD => by
               rw [unhide Hstep,unhide Hok,hD]
               congr 1
               simp only [Bool.and_eq_true,decide_eq_true_eq])
             have Hng:Hid (∀ D,D = (decide (chTo G f (chS G f n) k l < 0) && (wholeB G.kinds.length (fun r => decide (0 ≤ chS G f n r)) prt && decide (lenR G.kinds.length f prt 0 = f l))) → D = true → chTo G f (chS G f n) k l < 0):=hide (fun D hD h => by
               rw [hD,Bool.and_eq_true,decide_eq_true_eq] at h
               exact h.1)
             have d0:=hst3.c0; have d1:=hst3.c1; have d2:=hst3.c2; have d3:=hst3.c3; have d4:=hst3.c4
             have Hc2:Hid (∀ r,chTo G f (chS G f n) k r = chTo G f (chS G f n) k r):=hide (fun _ => rfl)
             clear hrow3 hlb3 hcw3 hgin3 hrr3 hst3 hb3 hbWp hlbW hcwW Hstep Hok hfl hrr hac hpy
             obtain ⟨z,hz⟩:∃ z,Hid (chTo G f (chS G f n) k l = z):=⟨_,hide rfl⟩
             obtain ⟨fl,hflz⟩:∃ fl,Hid (f l = fl):=⟨_,hide rfl⟩
             obtain ⟨R,hR⟩:∃ R,Hid (wholeB G.kinds.length (fun r => decide (0 ≤ chS G f n r)) prt = R):=⟨_,hide rfl⟩
             obtain ⟨V,hV⟩:∃ V,Hid (lenR G.kinds.length f prt 0 = V):=⟨_,hide rfl⟩
             rw [unhide hz] at co HS hD Hng
             rw [unhide hflz] at cl HS hD Hng
             rw [unhide hR] at HR hD Hng
             rw [unhide hV] at HE hD Hng
             rw [hwp] at co cl p0 p1 d0 d1 d2 d3 d4
             go_wp2
             rw [← hwp]
             clear hwp co cl p0 p1 d0 d1 d2 d3 d4 g0 g1 g2 g3 g4 q0 q1 q2 q3 q4 q5 q6
             have hS:Below wp.heap.size wp wp.drew:=(Below.refl _ _).drew
             go_cut [65] from 28 to 70 (fun s wx => s = .bool (decide (z < 0) && (R && decide (V = fl))) ∧ Below wp.heap.size wp wx)
             case first =>
               by_cases hz0:z < 0
               · have hz1:decide (z < 0) = true:=decide_eq_true hz0
                 cases R
                 · -- the second call is off
                   refine wp_region_held_drew (S:=fun W:World => W.cell? ⟨w.heap.size,0,none⟩ = some (.slice ka G.kinds.length kc) ∧ W.cell? ⟨w.heap.size,1,none⟩ = some (.slice pa G.precs.length pc) ∧ W.cell? ⟨w.heap.size,2,none⟩ = some (.slice ra G.rules.length rc) ∧ W.cell? ⟨w.heap.size,3,none⟩ = some (.slice (some ⟨b,off,none⟩) G.prods.length qc) ∧ W.cell? ⟨w.heap.size,4,none⟩ = some (.int .i64 G.start) ∧ W.cell? ⟨wr.heap.size,0,none⟩ = some (.int .i64 (l:Int)) ∧ W.cell? ⟨wr.heap.size,1,none⟩ = some (.slice rr prt.length rrc) ∧ W.cell? ⟨w.heap.size + 1,l,none⟩ = some (.int .i64 z) ∧ W.cell? ⟨lb,l,none⟩ = some (.int .i64 fl)) (by kernel_rfl) (unhide HS _ hS) (fun hHeld => ?_)
                   refine take_dst (i:=0) (dst:=some 40) (v:=?_) rfl rfl (by kernel_rfl) (by kernel_rfl) (by kernel_rfl) (fun _ _ _ h => h) (Or.inl ⟨by rfl,?_⟩) hHeld ?_
                   rotate_left
                   · intro w hSw; obtain ⟨k0,k1,k2,k3,k4,k5,k6,k7,k8⟩:=hSw; go_simp; try (with_reducible rfl)
                   simp only [Act.put,List.setIfInBounds_toArray,List.set_cons_zero,List.set_cons_succ]
                   refine take_dst (i:=1) (dst:=some 41) (v:=?_) rfl rfl (by kernel_rfl) (by kernel_rfl) (by kernel_rfl) (fun _ _ _ h => h) (Or.inl ⟨by rfl,?_⟩) hHeld ?_
                   rotate_left
                   · intro w hSw; obtain ⟨k0,k1,k2,k3,k4,k5,k6,k7,k8⟩:=hSw; go_simp; try (with_reducible rfl)
                   simp only [Act.put,List.setIfInBounds_toArray,List.set_cons_zero,List.set_cons_succ]
                   refine take_dst (i:=2) (dst:=some 42) (v:=?_) rfl rfl (by kernel_rfl) (by kernel_rfl) (by kernel_rfl) (fun _ _ _ h => h) (Or.inl ⟨by rfl,?_⟩) hHeld ?_
                   rotate_left
                   · intro w hSw; obtain ⟨k0,k1,k2,k3,k4,k5,k6,k7,k8⟩:=hSw; go_simp; try (with_reducible rfl)
                   simp only [Act.put,List.setIfInBounds_toArray,List.set_cons_zero,List.set_cons_succ]
                   refine take_dst (i:=3) (dst:=some 43) (v:=?_) rfl rfl (by kernel_rfl) (by kernel_rfl) (by kernel_rfl) (fun _ _ _ h => h) (Or.inl ⟨by rfl,?_⟩) hHeld ?_
                   rotate_left
                   · intro w hSw; obtain ⟨k0,k1,k2,k3,k4,k5,k6,k7,k8⟩:=hSw; go_simp; try (with_reducible rfl)
                   simp only [Act.put,List.setIfInBounds_toArray,List.set_cons_zero,List.set_cons_succ]
                   refine take_dst (i:=4) (dst:=some 44) (v:=?_) rfl rfl (by kernel_rfl) (by kernel_rfl) (by kernel_rfl) (fun _ _ _ h => h) (Or.inl ⟨by rfl,?_⟩) hHeld ?_
                   rotate_left
                   · intro w hSw; obtain ⟨k0,k1,k2,k3,k4,k5,k6,k7,k8⟩:=hSw; go_simp; try (with_reducible rfl)
                   simp only [Act.put,List.setIfInBounds_toArray,List.set_cons_zero,List.set_cons_succ]
                   refine take_dst (i:=5) (dst:=some 45) (v:=?_) rfl rfl (by kernel_rfl) (by kernel_rfl) (by kernel_rfl) (fun _ _ _ h => h) (Or.inl ⟨by rfl,?_⟩) hHeld ?_
                   rotate_left
                   · intro w hSw; obtain ⟨k0,k1,k2,k3,k4,k5,k6,k7,k8⟩:=hSw; go_simp; try (with_reducible rfl)
                   simp only [Act.put,List.setIfInBounds_toArray,List.set_cons_zero,List.set_cons_succ]
                   refine take_dst (i:=6) (dst:=some 46) (v:=?_) rfl rfl (by kernel_rfl) (by kernel_rfl) (by kernel_rfl) (fun _ _ _ h => h) (Or.inl ⟨by rfl,?_⟩) hHeld ?_
                   rotate_left
                   · intro w hSw; obtain ⟨k0,k1,k2,k3,k4,k5,k6,k7,k8⟩:=hSw; go_simp; try (with_reducible rfl)
                   simp only [Act.put,List.setIfInBounds_toArray,List.set_cons_zero,List.set_cons_succ]
                   refine take_dst (i:=7) (dst:=some 47) (v:=?_) rfl rfl (by kernel_rfl) (by kernel_rfl) (by kernel_rfl) (fun _ _ _ h => h) (Or.inl ⟨by rfl,?_⟩) hHeld ?_
                   rotate_left
                   · intro w hSw; obtain ⟨k0,k1,k2,k3,k4,k5,k6,k7,k8⟩:=hSw; go_simp; try (with_reducible rfl)
                   simp only [Act.put,List.setIfInBounds_toArray,List.set_cons_zero,List.set_cons_succ]
                   refine take_dst (i:=8) (dst:=some 48) (v:=?_) rfl rfl (by kernel_rfl) (by kernel_rfl) (by kernel_rfl) (fun _ _ _ h => h) (Or.inl ⟨by rfl,?_⟩) hHeld ?_
                   rotate_left
                   · intro w hSw; obtain ⟨k0,k1,k2,k3,k4,k5,k6,k7,k8⟩:=hSw; go_simp; try (with_reducible rfl)
                   simp only [Act.put,List.setIfInBounds_toArray,List.set_cons_zero,List.set_cons_succ]
                   refine take_dst (i:=9) (dst:=some 49) (v:=?_) rfl rfl (by kernel_rfl) (by kernel_rfl) (by kernel_rfl) (fun _ _ _ h => h) (Or.inl ⟨by rfl,?_⟩) hHeld ?_
                   rotate_left
                   · intro w hSw; obtain ⟨k0,k1,k2,k3,k4,k5,k6,k7,k8⟩:=hSw; go_simp; try (with_reducible rfl)
                   simp only [Act.put,List.setIfInBounds_toArray,List.set_cons_zero,List.set_cons_succ]
                   refine take_dst (i:=10) (dst:=some 50) (v:=?_) rfl rfl (by kernel_rfl) (by kernel_rfl) (by kernel_rfl) (fun _ _ _ h => h) (Or.inl ⟨by rfl,?_⟩) hHeld ?_
                   rotate_left
                   · intro w hSw; obtain ⟨k0,k1,k2,k3,k4,k5,k6,k7,k8⟩:=hSw; go_simp; try (with_reducible rfl)
                   simp only [Act.put,List.setIfInBounds_toArray,List.set_cons_zero,List.set_cons_succ]
                   refine wpAnyH_ready (rs:=[11]) (by kernel_rfl) (by simp) ?_
                   refine AllReadyH.cons rfl (fun K hK => ?_) AllReadyH.nil
                   go_simp
                   (go_at_call 113; refine (unhide HR _ hS).mono ?_; rintro e W3 ⟨rfl,hb3⟩; have hS:=hS.trans (below_le hb3 hS.size); clear hb3)
                   go_wp2_with fail
                   refine hK.out _ _ (unhide HS _ hS) (fun hHeld => ?_)
                   clear hK K
                   refine take_dst (i:=12) (dst:=some 52) (v:=?_) rfl rfl (by kernel_rfl) (by kernel_rfl) (by kernel_rfl) (fun _ _ _ h => h) (Or.inl ⟨by rfl,?_⟩) hHeld ?_
                   rotate_left
                   · intro w hSw; obtain ⟨k0,k1,k2,k3,k4,k5,k6,k7,k8⟩:=hSw; go_simp; try (with_reducible rfl)
                   simp only [Act.put,List.setIfInBounds_toArray,List.set_cons_zero,List.set_cons_succ]
                   refine take_dst (i:=13) (dst:=some 53) (v:=?_) rfl rfl (by kernel_rfl) (by kernel_rfl) (by kernel_rfl) (fun _ _ _ h => h) (Or.inl ⟨by rfl,?_⟩) hHeld ?_
                   rotate_left
                   · intro w hSw; obtain ⟨k0,k1,k2,k3,k4,k5,k6,k7,k8⟩:=hSw; go_simp; try (with_reducible rfl)
                   simp only [Act.put,List.setIfInBounds_toArray,List.set_cons_zero,List.set_cons_succ]
                   refine take_dst (i:=14) (dst:=some 54) (v:=undef) rfl rfl (by kernel_rfl) (by kernel_rfl) (by kernel_rfl) (fun _ _ _ h => h) (Or.inr ⟨by rfl,rfl⟩) hHeld ?_
                   simp only [Act.put,List.setIfInBounds_toArray,List.set_cons_zero,List.set_cons_succ]
                   refine take_dst (i:=15) (dst:=some 55) (v:=undef) rfl rfl (by kernel_rfl) (by kernel_rfl) (by kernel_rfl) (fun _ _ _ h => h) (Or.inr ⟨by rfl,rfl⟩) hHeld ?_
                   simp only [Act.put,List.setIfInBounds_toArray,List.set_cons_zero,List.set_cons_succ]
                   refine take_dst (i:=16) (dst:=some 56) (v:=undef) rfl rfl (by kernel_rfl) (by kernel_rfl) (by kernel_rfl) (fun _ _ _ h => h) (Or.inr ⟨by rfl,rfl⟩) hHeld ?_
                   simp only [Act.put,List.setIfInBounds_toArray,List.set_cons_zero,List.set_cons_succ]
                   refine take_dst (i:=17) (dst:=some 57) (v:=undef) rfl rfl (by kernel_rfl) (by kernel_rfl) (by kernel_rfl) (fun _ _ _ h => h) (Or.inr ⟨by rfl,rfl⟩) hHeld ?_
                   simp only [Act.put,List.setIfInBounds_toArray,List.set_cons_zero,List.set_cons_succ]
                   refine take_dst (i:=18) (dst:=some 58) (v:=undef) rfl rfl (by kernel_rfl) (by kernel_rfl) (by kernel_rfl) (fun _ _ _ h => h) (Or.inr ⟨by rfl,rfl⟩) hHeld ?_
                   simp only [Act.put,List.setIfInBounds_toArray,List.set_cons_zero,List.set_cons_succ]
                   refine take_dst (i:=19) (dst:=some 59) (v:=undef) rfl rfl (by kernel_rfl) (by kernel_rfl) (by kernel_rfl) (fun _ _ _ h => h) (Or.inr ⟨by rfl,rfl⟩) hHeld ?_
                   simp only [Act.put,List.setIfInBounds_toArray,List.set_cons_zero,List.set_cons_succ]
                   refine take_dst (i:=20) (dst:=some 60) (v:=undef) rfl rfl (by kernel_rfl) (by kernel_rfl) (by kernel_rfl) (fun _ _ _ h => h) (Or.inr ⟨by rfl,rfl⟩) hHeld ?_
                   simp only [Act.put,List.setIfInBounds_toArray,List.set_cons_zero,List.set_cons_succ]
                   refine take_dst (i:=21) (dst:=some 61) (v:=undef) rfl rfl (by kernel_rfl) (by kernel_rfl) (by kernel_rfl) (fun _ _ _ h => h) (Or.inr ⟨by rfl,rfl⟩) hHeld ?_
                   simp only [Act.put,List.setIfInBounds_toArray,List.set_cons_zero,List.set_cons_succ]
                   refine take_dst (i:=22) (dst:=some 62) (v:=undef) rfl rfl (by kernel_rfl) (by kernel_rfl) (by kernel_rfl) (fun _ _ _ h => h) (Or.inr ⟨by rfl,rfl⟩) hHeld ?_
                   simp only [Act.put,List.setIfInBounds_toArray,List.set_cons_zero,List.set_cons_succ]
                   refine take_dst (i:=23) (dst:=some 63) (v:=undef) rfl rfl (by kernel_rfl) (by kernel_rfl) (by kernel_rfl) (fun _ _ _ h => h) (Or.inr ⟨by rfl,rfl⟩) hHeld ?_
                   simp only [Act.put,List.setIfInBounds_toArray,List.set_cons_zero,List.set_cons_succ]
                   refine take_dst (i:=24) (dst:=some 64) (v:=undef) rfl rfl (by kernel_rfl) (by kernel_rfl) (by kernel_rfl) (fun _ _ _ h => h) (Or.inr ⟨by rfl,rfl⟩) hHeld ?_
                   simp only [Act.put,List.setIfInBounds_toArray,List.set_cons_zero,List.set_cons_succ]
                   refine take_dst (i:=25) (dst:=some 65) (v:=?_) rfl rfl (by kernel_rfl) (by kernel_rfl) (by kernel_rfl) (fun _ _ _ h => h) (Or.inl ⟨by rfl,?_⟩) hHeld ?_
                   rotate_left
                   · intro w hSw; obtain ⟨k0,k1,k2,k3,k4,k5,k6,k7,k8⟩:=hSw; go_simp; try (with_reducible rfl)
                   simp only [Act.put,List.setIfInBounds_toArray,List.set_cons_zero,List.set_cons_succ]
                   refine wpAnyH_done (by kernel_rfl) ?_ _
                   go_wp2_with fail
                   go_meet
                   exact ⟨by simp,hS⟩
                 · go_region_held3 (fun W:World => W.cell? ⟨w.heap.size,0,none⟩ = some (.slice ka G.kinds.length kc) ∧ W.cell? ⟨w.heap.size,1,none⟩ = some (.slice pa G.precs.length pc) ∧ W.cell? ⟨w.heap.size,2,none⟩ = some (.slice ra G.rules.length rc) ∧ W.cell? ⟨w.heap.size,3,none⟩ = some (.slice (some ⟨b,off,none⟩) G.prods.length qc) ∧ W.cell? ⟨w.heap.size,4,none⟩ = some (.int .i64 G.start) ∧ W.cell? ⟨wr.heap.size,0,none⟩ = some (.int .i64 (l:Int)) ∧ W.cell? ⟨wr.heap.size,1,none⟩ = some (.slice rr prt.length rrc) ∧ W.cell? ⟨w.heap.size + 1,l,none⟩ = some (.int .i64 z) ∧ W.cell? ⟨lb,l,none⟩ = some (.int .i64 fl))
                     (first | exact unhide HS _ hS | fail)
                     (first
                       | (go_at_call 113; refine (unhide HR _ hS).mono ?_; rintro e W3 ⟨rfl,hb3⟩; have hS:=hS.trans (below_le hb3 hS.size); clear hb3)
                       | (go_at_call 110; refine (unhide HE _ hS).mono ?_; rintro e W3 ⟨rfl,hb3⟩; have hS:=hS.trans (below_le hb3 hS.size); clear hb3)
                       | fail)
                   all_goals
                     go_wp2_with fail
                     go_meet
                     exact ⟨by rw [hz1]; rfl,hS⟩
               · have hz1:decide (z < 0) = false:=decide_eq_false hz0
                 obtain ⟨k0,k1,k2,k3,k4,k5,k6,k7,k8⟩:=unhide HS _ (Below.refl wp.heap.size wp)
                 go_quiet (fail)
                 go_wp2_with fail
                 go_meet
                 exact ⟨by rw [hz1]; rfl,below_drewN (Below.refl _ _) _⟩
             case rest =>
               obtain ⟨rfl,hS⟩:=hcut
               obtain ⟨D,hDD⟩:∃ D,Hid ((decide (z < 0) && (R && decide (V = fl))) = D):=⟨_,hide rfl⟩
               have Hst1:=hide (unhide hD D (unhide hDD).symm); have Hng1:=hide (unhide Hng D (unhide hDD).symm)
               rw [unhide hDD]
               have hrowc:=rowIs_below (unhide Hrow3') hS
               have Hrowc:=hide hrowc
               have fo:=hrowc.frozen l
               have Hfrc:=hide (fr_new (unhide Hfrp) hS)
               have Hle:Hid (negC (chTo G f (chS G f n) k) G.rules.length ≤ negC (chS G f n) G.rules.length):=hide (by
                 cases ag
                 · rw [unhide Hs1 rfl]; exact Nat.le_refl _
                 · exact Nat.le_of_lt (unhide Hs2 rfl))
               obtain ⟨k0,k1,k2,k3,k4,k5,k6,k7,k8⟩:=unhide HS _ hS
               have hsc:=hS.size
               clear hD Hng hDD HS HR HE hrowc hS
               cases D
               · have Hst2:Hid (chTo G f (chS G f n) (k + 1) = chTo G f (chS G f n) k):=hide (unhide Hst1)
                 have Hr2:Hid (wc.rowIs (w.heap.size + 1) 3 G.rules.length (fun r => .int .i64 (chTo G f (chS G f n) (k + 1) r))):=hide (by rw [unhide Hst2]; exact unhide Hrowc)
                 have Hs3:Hid (ag = false → chTo G f (chS G f n) (k + 1) = chS G f n):=hide (by rw [unhide Hst2]; exact unhide Hs1)
                 have Hs4:Hid (ag = true → negC (chTo G f (chS G f n) (k + 1)) G.rules.length < negC (chS G f n) G.rules.length):=hide (by rw [unhide Hst2]; exact unhide Hs2)
                 clear Hst1 Hng1
                 go_wp2
                 go_roundw
                 case rel => exact ⟨ag,k + 1,rfl,by go_num,by omega,unhide Hr2,unhide Hs3,unhide Hs4,unhide Hfrc⟩
                 case measure => simp [intOf]; omega
               · have Hst2:Hid (chTo G f (chS G f n) (k + 1) = updI (chTo G f (chS G f n) k) l k):=hide (unhide Hst1)
                 have Hr2:Hid ((wc.setCell ⟨w.heap.size + 1,l,none⟩ (.int .i64 (k:Int))).rowIs (w.heap.size + 1) 3 G.rules.length (fun r => .int .i64 (chTo G f (chS G f n) (k + 1) r))):=hide (by rw [unhide Hst2]; exact rowIs_updI (unhide Hrowc) l k)
                 have Hs4:Hid (negC (chTo G f (chS G f n) (k + 1)) G.rules.length < negC (chS G f n) G.rules.length):=hide (by
                   rw [unhide Hst2]
                   have h1:=negC_upd (c:=chTo G f (chS G f n) k) (i:=l) (v:=(k:Int)) (by omega) (by rw [unhide hz]; exact unhide Hng1 rfl) G.rules.length hl2
                   have h2:=unhide Hle
                   omega)
                 clear Hst1 Hng1
                 go_wp2
                 go_roundw
                 case rel => exact ⟨true,k + 1,rfl,by go_num,by omega,unhide Hr2,(fun h => by cases h),(fun _ => unhide Hs4),fr_set (unhide Hfrc) (by rfl) _⟩
                 case measure => simp [intOf]; omega
           · obtain rfl:k = G.prods.length:=by omega
             have Hfin:Hid (∀ b:Bool,ag = b → (b = false → chR G f (chS G f (n + 1)) = chS G f (n + 1)) ∧ 2 * negC (chS G f (n + 1)) G.rules.length + bitOf (.bool b) < 2 * negC (chS G f n) G.rules.length + 1):=hide (by
               intro b hb
               subst hb
               cases ag
               · have h:=unhide Hs1 rfl
                 have h':chS G f (n + 1) = chS G f n:=h
                 rw [h']
                 exact ⟨fun _ => h,by simp [bitOf]⟩
               · have h:negC (chS G f (n + 1)) G.rules.length < negC (chS G f n) G.rules.length:=unhide Hs2 rfl
                 exact ⟨(fun h => by cases h),(by simp [bitOf]; omega)⟩)
             have hc2:=negC_W (unhide Hrow2)
             have Hrow4:Hid (wr.rowIs (w.heap.size + 1) 3 G.rules.length (fun r => .int .i64 (chS G f (n + 1) r))):=hide (unhide Hrow2)
             clear Hs1 Hs2 Hrow2
             go_wp2
             go_roundw
             case rel => exact ⟨n + 1,ag,rfl,unhide Hrow4,(unhide Hfin ag rfl).1,unhide HbW⟩
             case measure =>
               have:=(unhide Hfin ag rfl).2
               rw [hcnt,hc2]
               exact this
end Go.Proofs.YtagohbpbgjelaaaGreatDoor

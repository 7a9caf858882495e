/- The document's spelled. -/
import Derived.Test.YtagohbpbgjelaaaGreatDoorM2
import Derived.Test.YtagohbpbgjelaaaGreatDoorH1
import Derived.Test.YtagohbpbgjelaaaGreatDoorW1
import Derived.Laws.AppendOwnNone
import Derived.Test.YtagohbpbgjelaaaGreatDoorB1
import Derived.Test.YtagohbpbgjelaaaGreatDoorM6
namespace Go.Proofs.YtagohbpbgjelaaaGreatDoor
open Go.RowKit

set_option maxRecDepth 100000 in
theorem vints_app (a b:List Int):vints (a ++ b) = vints a ++ vints b:=by simp [vints]
set_option maxRecDepth 100000 in
theorem step_append_none {P:Program} {w:World} {ops:Array Oper} {o:Oper} {a:Act} {K:Act → World → Prop} {Q:Exit → Act → World → Prop} {E:Prop} (hgd:o.guard = none) (s x:Operand) (t:TypeId)
   (ho:o.op = .call { callee:=.builtin .append,args:=#[s,x],argTypes:=#[t,t] })
   (base:Nat) (e:TypeId) (i:TypeInfo) (size:Nat) (ht:P.underlying t = some (.slice e)) (hi:P.info? e = some i)
   (v:Value) (n:Nat) (xs:List Value) (hs:a.eval s = v) (hown:w.ownsRow base e size v n xs) (hx:a.eval x = .slice none 0 0)
   (h:K (a.put o.dst v) w):if Region.wanted o (yielded ops a.tmps) = true then Oper.wp P o a w K Q else E:=by
 have hw:Region.wanted o (yielded ops a.tmps) = true:=by simp [Region.wanted,hgd]
 rw [if_pos hw]
 have hrun:=run_append_owned_none (P:=P) (w:=w) base t o.type e i size ht hi v n xs hown
 unfold Oper.wp
 simp [execOp,ho,resolve,invoke,builtin,hs,hx,hrun,Result.andThen]
 exact h

set_option maxHeartbeats 1000000 in
set_option maxRecDepth 100000 in
theorem spelled_kind (G:Gm) (ka pa ra qa:Option Addr) (kc pc rc qc lb lc tb tc:Nat) (f c:Nat → Int) (x:Int) (hx:x < G.kinds.length) (n:Nat) (w:World) :
   Calls Tryz.prog 70 #[.agg #[.slice ka G.kinds.length kc,.slice pa G.precs.length pc,.slice ra G.rules.length rc,.slice qa G.prods.length qc,.int .i64 G.start],.slice (some ⟨lb,0,none⟩) G.rules.length lc,.slice (some ⟨tb,0,none⟩) G.rules.length tc,.int .i64 x] w fun e w' => ∃ v,e = .returned v ∧ w'.ownsRow w.heap.size 3 1 v (splF G f c (n + 1) x).length (vints (splF G f c (n + 1) x)) ∧ Below w.heap.size w w':=by
 obtain ⟨g0,-,-,-,-,hw1,hb1⟩:=boxG w (.slice ka G.kinds.length kc) (.slice pa G.precs.length pc) (.slice ra G.rules.length rc) (.slice qa G.prods.length qc) (.int .i64 G.start) 26
 have Hs:Hid (splF G f c (n + 1) x = [x]):=hide (splF_kind hx n)
 have Hb2:=hide (hb1.alloc (show w.heap.size ≤ _ by omega) (.cells #[.int .i64 x] 3))
 have Hown:Hid (((w.alloc (.cells #[.slice ka G.kinds.length kc,.slice pa G.precs.length pc,.slice ra G.rules.length rc,.slice qa G.prods.length qc,.int .i64 G.start] 26)).alloc (.cells #[.int .i64 x] 3)).ownsRow w.heap.size 3 1 (.slice (some ⟨w.heap.size + 1,0,none⟩) 1 1) 1 [.int .i64 x]):=hide (by
   refine ⟨rfl,.inr ⟨w.heap.size + 1,1,#[.int .i64 x],rfl,by omega,?_,by omega,by unfold maxLen; omega,rfl,rfl⟩⟩
   have:=Go.Deep.blk_alloc_new (w.alloc (.cells #[.slice ka G.kinds.length kc,.slice pa G.precs.length pc,.slice ra G.rules.length rc,.slice qa G.prods.length qc,.int .i64 G.start] 26)) (.cells #[.int .i64 x] 3)
   rw [hw1] at this
   exact this)
 clear hb1
 go_enter Tryz.func70,Tryz.ntmps70
 go_wp2
 go_ret
 rw [unhide Hs]
 exact ⟨_,rfl,unhide Hown,unhide Hb2⟩

set_option maxHeartbeats 1000000 in
set_option maxRecDepth 100000 in
theorem spelled_zero (G:Gm) (ka pa ra qa:Option Addr) (kc pc rc qc lb lc tb tc:Nat) (f c:Nat → Int) (hnr:G.rules.length ≤ 2048) (r:Nat) (hr:r < G.rules.length) (x:Int) (hx:x - (G.kinds.length:Int) = r) (h0:f r = 0) (n:Nat) (w:World) (hl:w.rowIs lb 3 G.rules.length (fun r => .int .i64 (f r))) :
   Calls Tryz.prog 70 #[.agg #[.slice ka G.kinds.length kc,.slice pa G.precs.length pc,.slice ra G.rules.length rc,.slice qa G.prods.length qc,.int .i64 G.start],.slice (some ⟨lb,0,none⟩) G.rules.length lc,.slice (some ⟨tb,0,none⟩) G.rules.length tc,.int .i64 x] w fun e w' => ∃ v,e = .returned v ∧ w'.ownsRow w.heap.size 3 1 v (splF G f c (n + 1) x).length (vints (splF G f c (n + 1) x)) ∧ Below w.heap.size w w':=by
 obtain ⟨g0,-,-,-,-,hw1,hb1⟩:=boxG w (.slice ka G.kinds.length kc) (.slice pa G.precs.length pc) (.slice ra G.rules.length rc) (.slice qa G.prods.length qc) (.int .i64 G.start) 26
 have Hs:Hid (splF G f c (n + 1) x = []):=hide (splF_zero (by show ¬ x < (G.kinds.length:Int); omega) (by show f (x - (G.kinds.length:Int)).toNat = 0; rw [hx]; exact h0) n)
 have Hb2:=hide hb1
 have hl1:=(rowIs_below hl hb1).cell hr
 rw [h0] at hl1
 have hxk:¬ x < (G.kinds.length:Int):=by omega
 have hwr:=wN r (by omega)
 have hr':(r:Int) < G.rules.length:=by omega
 clear hb1 hl
 go_enter Tryz.func70,Tryz.ntmps70
 go_wp2
 go_ret
 rw [unhide Hs]
 exact ⟨_,rfl,World.ownsRow_nil _ _ _ _,unhide Hb2⟩

/-- Spelled answers so, of what has a height of at most n. -/
def SpC (G : Gm) (f c : Nat → Int) (ka pa ra qa : Option Addr) (kc pc rc qc lb lc tb tc B : Nat) (n : Nat) : Prop := ∀ (x : Int) (w : World), 1 ≤ x → x < (G.kinds.length + G.rules.length : Nat) → HasC G f n x → lnX G.kinds.length f x ≤ 65536 → B ≤ w.heap.size → GIn B w G ka pa ra qa → w.rowIs lb 3 G.rules.length (fun r => .int .i64 (f r)) → w.rowIs tb 3 G.rules.length (fun r => .int .i64 (c r)) →
   Calls Tryz.prog 70 #[.agg #[.slice ka G.kinds.length kc,.slice pa G.precs.length pc,.slice ra G.rules.length rc,.slice qa G.prods.length qc,.int .i64 G.start],.slice (some ⟨lb,0,none⟩) G.rules.length lc,.slice (some ⟨tb,0,none⟩) G.rules.length tc,.int .i64 x] w fun e w' => ∃ v,e = .returned v ∧ w'.ownsRow w.heap.size 3 1 v (splF G f c (n + 1) x).length (vints (splF G f c (n + 1) x)) ∧ Below w.heap.size w w'

set_option maxHeartbeats 4000000 in
set_option maxRecDepth 100000 in
theorem spelled_step (G : Gm) (hG : GOk G) (f c : Nat → Int) (hc : AgreeC G f c) (ka pa ra qa : Option Addr) (kc pc rc qc lb lc tb tc B : Nat) (n : Nat) (ih : SpC G f c ka pa ra qa kc pc rc qc lb lc tb tc B n)
   (r:Nat) (hr:r < G.rules.length) (x:Int) (hx:x - (G.kinds.length:Int) = r) (h0:¬ f r = 0) (hch:0 ≤ chS G f (n + 1) r) (hfr:f r ≤ 65536) (w:World) (hB:B ≤ w.heap.size) (hin:GIn B w G ka pa ra qa) (hl:w.rowIs lb 3 G.rules.length (fun r => .int .i64 (f r))) (ht:w.rowIs tb 3 G.rules.length (fun r => .int .i64 (c r))) :
   Calls Tryz.prog 70 #[.agg #[.slice ka G.kinds.length kc,.slice pa G.precs.length pc,.slice ra G.rules.length rc,.slice qa G.prods.length qc,.int .i64 G.start],.slice (some ⟨lb,0,none⟩) G.rules.length lc,.slice (some ⟨tb,0,none⟩) G.rules.length tc,.int .i64 x] w fun e w' => ∃ v,e = .returned v ∧ w'.ownsRow w.heap.size 3 1 v (splF G f c (n + 1 + 1) x).length (vints (splF G f c (n + 1 + 1) x)) ∧ Below w.heap.size w w':=by
 have hnr:=hG.r2; have hqs:=hG.ps; have hnk:=hG.k3
 unfold Gm.nr at hnr
 unfold Gm.nk at hnk
 obtain ⟨i0,hi9,hz0,hz1,hz2⟩:=info_parts info3
 obtain ⟨i,hi,h1,h2,h3,h4⟩:=has_prod hc hch
 have hlr:0 ≤ lenR G.nk f (G.prods.getD i pd0).right 0:=by rw [h3]; exact chS_pos _ _ hch
 have heach:∀ y,y ∈ (G.prods.getD i pd0).right → lnX G.kinds.length f y ≤ 65536:=fun y hy => by
   by_cases hy1:(G.nk:Int) ≤ y
   · have:=lenR_each (nk:=G.nk) (f:=f) (G.prods.getD i pd0).right 0 (Int.le_refl _) (by omega) hlr y hy hy1
     rw [h3] at this
     unfold lnX
     rw [if_pos hy1]
     unfold Gm.nk at this
     omega
   · unfold lnX; rw [if_neg hy1]; omega
 have hxk:¬ x < (G.kinds.length:Int):=by omega
 have hsp:splF G f c (n + 1 + 1) x = ((G.prods.getD i pd0).right.map (splF G f c (n + 1))).flatten:=by
   rw [splF_step hxk (by show ¬ f (x - (G.kinds.length:Int)).toNat = 0; rw [hx]; exact h0)]
   show ((G.prods.getD (c (x - (G.kinds.length:Int)).toNat).toNat pd0).right.map _).flatten = _
   rw [hx,Int.toNat_natCast,h1,Int.toNat_natCast]
 have hsl:∀ y,y ∈ (G.prods.getD i pd0).right → ((splF G f c (n + 1) y).length:Int) ≤ 65536:=fun y hy => by
   have:=splF_len hc n y (h4 y hy) (heach y hy)
   have h9:=heach y hy
   unfold Gm.nk at this
   omega
 have hst:=gst_new (kc:=kc) (pc:=pc) (rc:=rc) (qc:=qc) hB hin 26
 have hb1:=(Below.refl w.heap.size w).alloc (Nat.le_refl _) (.cells #[.slice ka G.kinds.length kc,.slice pa G.precs.length pc,.slice ra G.rules.length rc,.slice qa G.prods.length qc,.int .i64 G.start] 26)
 have hw1:(w.alloc (.cells #[.slice ka G.kinds.length kc,.slice pa G.precs.length pc,.slice ra G.rules.length rc,.slice qa G.prods.length qc,.int .i64 G.start] 26)).heap.size = w.heap.size + 1:=by simp
 have hl1:=(rowIs_below hl hb1).cell hr
 have ht1:=(rowIs_below ht hb1).cell hr
 rw [h1] at ht1
 have hwr:=wN r (by omega)
 have hr':(r:Int) < G.rules.length:=by omega
 have hi':(i:Int) < G.prods.length:=by omega
 have hpr:=hG.pr _ (mem_getP hi)
 have hpy:=hG.py _ (mem_getP hi)
 obtain ⟨b,off,rfl,hbB,rr,rrc,x3,x4,x5,x6,n6,c6,hrr,hac,q0,q1,q2,q3,q4,q5,q6⟩:=qrow_at hst.gin.prods hi
 have d0:=hst.c0; have d1:=hst.c1; have d2:=hst.c2; have d3:=hst.c3; have d4:=hst.c4
 have Hst:=hide hst; have Hb1:=hide hb1; have Hl:=hide (rowIs_below hl hb1); have Ht:=hide (rowIs_below ht hb1); have Hsp:=hide hsp; have Hih:=hide ih; have Hrr:=hide hrr; have Hpy:=hide hpy; have Hh4:=hide h4; have Heach:=hide heach; have Hsl:=hide hsl
 clear hst hb1 hl ht hsp ih hrr hac hpy h4 heach hsl h3 hlr hin hch h2 hG
 generalize G.prods.getD i pd0 = p at *
 obtain ⟨pl,prt,plv,pac⟩:=p
 simp only at q0 q1 q2 hpr
 have Hsp:Hid (splF G f c (n + 1 + 1) x = (prt.map (splF G f c (n + 1))).flatten):=hide (unhide Hsp)
 have Hrr:Hid (NRow B (w.alloc (.cells #[.slice ka G.kinds.length kc,.slice pa G.precs.length pc,.slice ra G.rules.length rc,.slice (some ⟨b,off,none⟩) G.prods.length qc,.int .i64 G.start] 26)) rr prt):=hide (unhide Hrr)
 have Hpy:Hid (symsIn (G.kinds.length + G.rules.length) prt):=hide (unhide Hpy)
 have Hh4:Hid (∀ y,y ∈ prt → HasC G f n y):=hide (unhide Hh4)
 have Heach:Hid (∀ y,y ∈ prt → lnX G.kinds.length f y ≤ 65536):=hide (unhide Heach)
 have Hsl:Hid (∀ y,y ∈ prt → ((splF G f c (n + 1) y).length:Int) ≤ 65536):=hide (unhide Hsl)
 go_enter Tryz.func70,Tryz.ntmps70
 go_wp2
 generalize w.alloc (.cells #[.slice ka G.kinds.length kc,.slice pa G.precs.length pc,.slice ra G.rules.length rc,.slice (some ⟨b,off,none⟩) G.prods.length qc,.int .i64 G.start] 26) = w1 at *
 have HS7:Hid (∀ W:World,Below w1.heap.size w1 W → W.cell? ⟨w.heap.size,3,none⟩ = some (.slice (some ⟨b,off,none⟩) G.prods.length qc) ∧ W.cell? ⟨tb,r,none⟩ = some (.int .i64 (i:Int)) ∧ W.cell? ⟨b,off + i * 7,none⟩ = some (.int .i64 pl) ∧ W.cell? ⟨b,off + i * 7 + 1,none⟩ = some (.slice rr prt.length rrc) ∧ W.cell? ⟨b,off + i * 7 + 2,none⟩ = some (.int .i64 plv) ∧ W.cell? ⟨b,off + i * 7 + 3,none⟩ = some (.int .i64 x3) ∧ W.cell? ⟨b,off + i * 7 + 4,none⟩ = some (.int .i64 x4) ∧ W.cell? ⟨b,off + i * 7 + 5,none⟩ = some (.string x5) ∧ W.cell? ⟨b,off + i * 7 + 6,none⟩ = some (.slice x6 n6 c6)):=hide (fun W hW => ⟨(hW.cell (p:=⟨w.heap.size,3,none⟩) (by show w.heap.size < w1.heap.size; omega)).trans d3,(hW.cell (p:=⟨tb,r,none⟩) (unhide Ht).lt).trans ht1,(hW.cell (p:=⟨b,off + i * 7,none⟩) (by show b < w1.heap.size; omega)).trans q0,(hW.cell (p:=⟨b,off + i * 7 + 1,none⟩) (by show b < w1.heap.size; omega)).trans q1,(hW.cell (p:=⟨b,off + i * 7 + 2,none⟩) (by show b < w1.heap.size; omega)).trans q2,(hW.cell (p:=⟨b,off + i * 7 + 3,none⟩) (by show b < w1.heap.size; omega)).trans q3,(hW.cell (p:=⟨b,off + i * 7 + 4,none⟩) (by show b < w1.heap.size; omega)).trans q4,(hW.cell (p:=⟨b,off + i * 7 + 5,none⟩) (by show b < w1.heap.size; omega)).trans q5,(hW.cell (p:=⟨b,off + i * 7 + 6,none⟩) (by show b < w1.heap.size; omega)).trans q6⟩)
 go_cut [11] (fun v wx => ∃ bp,v = .pointer (some ⟨bp,0,none⟩) ∧ wx.heap[bp]? = some (.cells #[.int .i64 pl,.slice rr prt.length rrc,.int .i64 plv,.int .i64 x3,.int .i64 x4,.string x5,.slice x6 n6 c6] 89) ∧ Below w1.heap.size w1 wx)
 case first =>
   clear d0 d1 d2 d3 d4 q0 q1 q2 q3 q4 q5 q6 ht1 hl1
   go_region_held3 (fun W:World => W.cell? ⟨w.heap.size,3,none⟩ = some (.slice (some ⟨b,off,none⟩) G.prods.length qc) ∧ W.cell? ⟨tb,r,none⟩ = some (.int .i64 (i:Int)) ∧ W.cell? ⟨b,off + i * 7,none⟩ = some (.int .i64 pl) ∧ W.cell? ⟨b,off + i * 7 + 1,none⟩ = some (.slice rr prt.length rrc) ∧ W.cell? ⟨b,off + i * 7 + 2,none⟩ = some (.int .i64 plv) ∧ W.cell? ⟨b,off + i * 7 + 3,none⟩ = some (.int .i64 x3) ∧ W.cell? ⟨b,off + i * 7 + 4,none⟩ = some (.int .i64 x4) ∧ W.cell? ⟨b,off + i * 7 + 5,none⟩ = some (.string x5) ∧ W.cell? ⟨b,off + i * 7 + 6,none⟩ = some (.slice x6 n6 c6))
     (first | (refine unhide HS7 _ ?_; repeat (first | exact (Below.refl _ _).drew | exact Below.refl _ _ | refine Below.drew ?_ | refine Below.setCell ?_ (by simp) _ | refine Below.alloc ?_ (by simp) _)) | fail)
     (fail)
   all_goals
     go_wp2_with fail
     go_meet
     exact ⟨_,rfl,(by have h:=Go.Deep.blk_alloc_new w1 (.cells #[.int .i64 pl,.slice rr prt.length rrc,.int .i64 plv,.int .i64 x3,.int .i64 x4,.string x5,.slice x6 n6 c6] 89); rw [hw1] at h; exact h),((Below.refl _ _).alloc (Nat.le_refl _) _).drew⟩
 case rest =>
   obtain ⟨bp,rfl,hbp,hbw⟩:=hcut
   clear d0 d1 d2 d3 d4 q0 q1 q2 q3 q4 q5 q6 ht1 hl1 HS7
   have hsw:=hbw.size
   have hbl:=(Array.getElem?_eq_some_iff.1 hbp).1
   have Hbp:=hide hbp; have Hbw:=hide hbw
   clear hbp hbw
   go_wp2
   go_loopw [10,12] (fun o z W => ∃ j:Nat,z = .int .i64 j ∧ j ≤ prt.length ∧ W.ownsRow wc.heap.size 3 1 o ((prt.take j).map (splF G f c (n + 1))).flatten.length (vints ((prt.take j).map (splF G f c (n + 1))).flatten) ∧ ((prt.take j).map (splF G f c (n + 1))).flatten.length ≤ j * 65536 ∧ Below wc.heap.size wc W) (fun _ z _ => prt.length - (intOf z).toNat)
   case atStart => exact ⟨0,rfl,Nat.zero_le _,World.ownsRow_nil _ _ _ _,by simp,Below.refl _ _⟩
   case round =>
     obtain ⟨j,rfl,hj,hown,hjl,hb⟩:=hrel
     obtain ⟨ua,uc,rfl⟩:=own_form hown
     have hbW:=(unhide Hbw).trans (below_le hb hsw)
     have hstW:=gst_kept (below_le hbW (by omega)) hB (unhide Hst)
     obtain ⟨-,p1,-⟩:=seven_cells ((hb.block _ hbl).trans (unhide Hbp))
     have Hb:=hide hb; have Hown:=hide hown
     have hszW:=hb.size
     clear hown hb
     by_cases hjt:j < prt.length
     · have hjt':(j:Int) < prt.length:=by omega
       obtain ⟨rb,ro,rfl,hrbB,hcx⟩:=nrow_at (nrow_kept (below_le hbW (by omega)) (unhide Hrr)) hjt
       have hmem:=mem_getD hjt
       have hy:=unhide Hpy _ hmem
       have hh:=unhide Hh4 _ hmem
       have he:=unhide Heach _ hmem
       have hsy:=unhide Hsl _ hmem
       have Hsn:Hid (((prt.take (j + 1)).map (splF G f c (n + 1))).flatten = ((prt.take j).map (splF G f c (n + 1))).flatten ++ splF G f c (n + 1) (prt.getD j 0)):=hide (by rw [take_snoc _ _ 0 hjt,List.map_append,List.flatten_append]; simp)
       have HY:Hid (∀ W:World,Below wr.heap.size wr W → Calls Tryz.prog 70 #[.agg #[.slice ka G.kinds.length kc,.slice pa G.precs.length pc,.slice ra G.rules.length rc,.slice (some ⟨b,off,none⟩) G.prods.length qc,.int .i64 G.start],.slice (some ⟨lb,0,none⟩) G.rules.length lc,.slice (some ⟨tb,0,none⟩) G.rules.length tc,.int .i64 (prt.getD j 0)] W fun e w' => ∃ v,e = .returned v ∧ w'.ownsRow W.heap.size 3 1 v (splF G f c (n + 1) (prt.getD j 0)).length (vints (splF G f c (n + 1) (prt.getD j 0))) ∧ Below W.heap.size W w'):=hide (fun W hW => by
         have:=hW.size
         have hbX:=hbW.trans (below_le hW (by omega))
         exact unhide Hih (prt.getD j 0) W hy.1 hy.2 hh he (by omega) (gin_kept (below_le hW (by omega)) hstW.gin) (rowIs_below (unhide Hl) hbX) (rowIs_below (unhide Ht) hbX))
       generalize prt.getD j 0 = y at *
       have HS:Hid (∀ W:World,Below wc.heap.size wc W → W.cell? ⟨w.heap.size,0,none⟩ = some (.slice ka G.kinds.length kc) ∧ W.cell? ⟨w.heap.size,1,none⟩ = some (.slice pa G.precs.length pc) ∧ W.cell? ⟨w.heap.size,2,none⟩ = some (.slice ra G.rules.length rc) ∧ W.cell? ⟨w.heap.size,3,none⟩ = some (.slice (some ⟨b,off,none⟩) G.prods.length qc) ∧ W.cell? ⟨w.heap.size,4,none⟩ = some (.int .i64 G.start) ∧ W.cell? ⟨bp,1,none⟩ = some (.slice (some ⟨rb,ro,none⟩) prt.length rrc) ∧ W.cell? ⟨rb,ro + j,none⟩ = some (.int .i64 y)):=hide (fun W hW => by
         have hg:=gst_kept (below_le ((unhide Hbw).trans (below_le hW hsw)) (by omega)) hB (unhide Hst)
         obtain ⟨-,z1,-⟩:=seven_cells ((hW.block _ hbl).trans (unhide Hbp))
         have hcc:=(hW.cell (p:=⟨rb,ro + j,none⟩) (by show rb < wc.heap.size; omega)).trans (((unhide Hb).cell (p:=⟨rb,ro + j,none⟩) (by show rb < wc.heap.size; omega)).symm.trans hcx)
         exact ⟨hg.c0,hg.c1,hg.c2,hg.c3,hg.c4,z1,hcc⟩)
       have HbW:=hide hbW
       generalize splF G f c (n + 1) y = spy at *
       generalize ((prt.take j).map (splF G f c (n + 1))).flatten = cur at *
       clear hstW hbW hh he hmem hy
       go_wp2
       clear p1 hcx
       have hS:Below wr.heap.size wr wr.drew:=(Below.refl _ _).drew
       have ho4:wr.drew.ownsRow wc.heap.size 3 1 (.slice ua cur.length uc) cur.length (vints cur):=unhide Hown
       have Hlen:Hid ((cur ++ spy).length ≤ (j + 1) * 65536):=hide (by rw [List.length_append]; omega)
       refine wp_region_held_drew (S:=fun W:World => W.cell? ⟨w.heap.size,0,none⟩ = some (.slice ka G.kinds.length kc) ∧ W.cell? ⟨w.heap.size,1,none⟩ = some (.slice pa G.precs.length pc) ∧ W.cell? ⟨w.heap.size,2,none⟩ = some (.slice ra G.rules.length rc) ∧ W.cell? ⟨w.heap.size,3,none⟩ = some (.slice (some ⟨b,off,none⟩) G.prods.length qc) ∧ W.cell? ⟨w.heap.size,4,none⟩ = some (.int .i64 G.start) ∧ W.cell? ⟨bp,1,none⟩ = some (.slice (some ⟨rb,ro,none⟩) prt.length rrc) ∧ W.cell? ⟨rb,ro + j,none⟩ = some (.int .i64 y)) (by kernel_rfl) (unhide HS _ ((unhide Hb).trans (below_le hS hszW))) (fun hHeld => ?_)
       refine take_dst (i:=0) (dst:=some 46) (v:=?_) rfl rfl (by kernel_rfl) (by kernel_rfl) (by kernel_rfl) (fun _ _ _ h => h) (Or.inl ⟨by rfl,?_⟩) hHeld ?_
       rotate_left
       · intro w hSw; obtain ⟨k0,k1,k2,k3,k4,k5,k6⟩:=hSw; go_simp; try (with_reducible rfl)
       simp only [Act.put,List.setIfInBounds_toArray,List.set_cons_zero,List.set_cons_succ]
       refine take_dst (i:=1) (dst:=some 47) (v:=?_) rfl rfl (by kernel_rfl) (by kernel_rfl) (by kernel_rfl) (fun _ _ _ h => h) (Or.inl ⟨by rfl,?_⟩) hHeld ?_
       rotate_left
       · intro w hSw; obtain ⟨k0,k1,k2,k3,k4,k5,k6⟩:=hSw; go_simp; try (with_reducible rfl)
       simp only [Act.put,List.setIfInBounds_toArray,List.set_cons_zero,List.set_cons_succ]
       refine take_dst (i:=2) (dst:=some 48) (v:=?_) rfl rfl (by kernel_rfl) (by kernel_rfl) (by kernel_rfl) (fun _ _ _ h => h) (Or.inl ⟨by rfl,?_⟩) hHeld ?_
       rotate_left
       · intro w hSw; obtain ⟨k0,k1,k2,k3,k4,k5,k6⟩:=hSw; go_simp; try (with_reducible rfl)
       simp only [Act.put,List.setIfInBounds_toArray,List.set_cons_zero,List.set_cons_succ]
       refine take_dst (i:=3) (dst:=some 49) (v:=?_) rfl rfl (by kernel_rfl) (by kernel_rfl) (by kernel_rfl) (fun _ _ _ h => h) (Or.inl ⟨by rfl,?_⟩) hHeld ?_
       rotate_left
       · intro w hSw; obtain ⟨k0,k1,k2,k3,k4,k5,k6⟩:=hSw; go_simp; try (with_reducible rfl)
       simp only [Act.put,List.setIfInBounds_toArray,List.set_cons_zero,List.set_cons_succ]
       refine take_dst (i:=4) (dst:=some 50) (v:=?_) rfl rfl (by kernel_rfl) (by kernel_rfl) (by kernel_rfl) (fun _ _ _ h => h) (Or.inl ⟨by rfl,?_⟩) hHeld ?_
       rotate_left
       · intro w hSw; obtain ⟨k0,k1,k2,k3,k4,k5,k6⟩:=hSw; go_simp; try (with_reducible rfl)
       simp only [Act.put,List.setIfInBounds_toArray,List.set_cons_zero,List.set_cons_succ]
       refine take_dst (i:=5) (dst:=some 51) (v:=?_) rfl rfl (by kernel_rfl) (by kernel_rfl) (by kernel_rfl) (fun _ _ _ h => h) (Or.inl ⟨by rfl,?_⟩) hHeld ?_
       rotate_left
       · intro w hSw; obtain ⟨k0,k1,k2,k3,k4,k5,k6⟩:=hSw; go_simp; try (with_reducible rfl)
       simp only [Act.put,List.setIfInBounds_toArray,List.set_cons_zero,List.set_cons_succ]
       refine take_dst (i:=6) (dst:=some 52) (v:=?_) rfl rfl (by kernel_rfl) (by kernel_rfl) (by kernel_rfl) (fun _ _ _ h => h) (Or.inl ⟨by rfl,?_⟩) hHeld ?_
       rotate_left
       · intro w hSw; obtain ⟨k0,k1,k2,k3,k4,k5,k6⟩:=hSw; go_simp; try (with_reducible rfl)
       simp only [Act.put,List.setIfInBounds_toArray,List.set_cons_zero,List.set_cons_succ]
       refine take_dst (i:=7) (dst:=some 53) (v:=?_) rfl rfl (by kernel_rfl) (by kernel_rfl) (by kernel_rfl) (fun _ _ _ h => h) (Or.inl ⟨by rfl,?_⟩) hHeld ?_
       rotate_left
       · intro w hSw; obtain ⟨k0,k1,k2,k3,k4,k5,k6⟩:=hSw; go_simp; try (with_reducible rfl)
       simp only [Act.put,List.setIfInBounds_toArray,List.set_cons_zero,List.set_cons_succ]
       refine take_dst (i:=8) (dst:=some 54) (v:=?_) rfl rfl (by kernel_rfl) (by kernel_rfl) (by kernel_rfl) (fun _ _ _ h => h) (Or.inl ⟨by rfl,?_⟩) hHeld ?_
       rotate_left
       · intro w hSw; obtain ⟨k0,k1,k2,k3,k4,k5,k6⟩:=hSw; go_simp; try (with_reducible rfl)
       simp only [Act.put,List.setIfInBounds_toArray,List.set_cons_zero,List.set_cons_succ]
       refine wpAnyH_ready (rs:=[9]) (by kernel_rfl) (by simp) ?_
       refine AllReadyH.cons rfl (fun K hK => ?_) AllReadyH.nil
       go_simp
       (go_at_call 70; refine (unhide HY _ hS).mono ?_; rintro e W5 ⟨v5,rfl,ho5,hb5⟩; have Ho5:=hide ho5; have hu4:=own_below ho4 hb5; have hS:=hS.trans (below_le hb5 hS.size); clear hb5 ho5)
       go_wp2_with fail
       refine hK.out _ _ (unhide HS _ ((unhide Hb).trans (below_le hS hszW))) (fun hHeld => ?_)
       clear hK K
       rcases (unhide Ho5).2 with ⟨hv5,hn5⟩ | ⟨g5,cap5,cur5,hv5,hg5,hh5,-⟩
       · have hsp0:spy = []:=List.eq_nil_of_length_eq_zero hn5
         subst hv5
         refine wpAnyH_ready (rs:=[10]) (by kernel_rfl) (by simp) ?_
         refine AllReadyH.cons rfl (fun K hK => ?_) AllReadyH.nil
         refine step_append_none rfl (.tmp 46) (.tmp 55) 27 rfl wc.heap.size 3 i0 1 Tryz.underlying27 hi9 (.slice ua cur.length uc) cur.length (vints cur) (by simp [Act.eval]) hu4 (by simp [Act.eval]) ?_
         go_simp
         refine hK.out _ _ (unhide HS _ ((unhide Hb).trans (below_le hS hszW))) (fun hHeld => ?_)
         clear hK K
         refine take_dst (i:=11) (dst:=some 10) (v:=?_) rfl rfl (by kernel_rfl) (by kernel_rfl) (by kernel_rfl) (fun _ _ _ h => h) (Or.inl ⟨by rfl,?_⟩) hHeld ?_
         rotate_left
         · intro w hSw; go_simp; try (with_reducible rfl)
         simp only [Act.put,List.setIfInBounds_toArray,List.set_cons_zero,List.set_cons_succ]
         refine wpAnyH_done (by kernel_rfl) ?_ _
         have Hfin:Hid (W5.ownsRow wc.heap.size 3 1 (.slice ua cur.length uc) (cur ++ spy).length (vints (cur ++ spy))):=hide (by rw [hsp0,List.append_nil]; exact hu4)
         have Hbb:=hide ((unhide Hb).trans (below_le hS hszW))
         clear hsp0 hu4 ho4 hS hn5 Ho5
         go_wp2
         go_roundw
         case rel => exact ⟨j + 1,by go_num,by omega,by rw [unhide Hsn]; exact unhide Hfin,by rw [unhide Hsn]; exact unhide Hlen,unhide Hbb⟩
         case measure => simp [intOf]; omega
       · subst hv5
         have ho5:=unhide Ho5
         have hnw:∀ i u,(vints spy)[i]? = some u → W5.cell? (Addr.add ⟨g5,0,none⟩ i) = some u:=fun i u hu => by
           have hi:i < spy.length:=by
             have:=(List.getElem?_eq_some_iff.1 hu).1
             rw [vints_len] at this
             exact this
           rw [addr_add0,ho5.cellAt i (by omega)]
           exact hu
         refine wpAnyH_ready (rs:=[10]) (by kernel_rfl) (by simp) ?_
         refine AllReadyH.cons rfl (fun K hK => ?_) AllReadyH.nil
         refine step_append_own rfl (.tmp 46) (.tmp 55) 27 rfl wc.heap.size 3 i0 (.int .i64 0) 1 8 Tryz.underlying27 hi9 hz0 hz1 hz2 rfl (by decide) (.slice ua cur.length uc) cur.length (vints cur) (by simp [Act.eval]) hu4 ⟨g5,0,none⟩ spy.length cap5 (vints spy) (by simp [Act.eval]) (by rw [vints_len,Nat.mul_one]) hnw (vints_one _) (by unfold maxLen; omega) (by omega) (Nat.le_trans hszW hS.size) ?_
         intro v6 W6 ho6 hg6 _
         have hb6:Below wc.heap.size wc W6:=((unhide Hb).trans (below_le hS hszW)).grown hg6 (Nat.le_trans hszW hS.size) (fun j hj => (hu4.lt j hj).1)
         have ho6':W6.ownsRow wc.heap.size 3 1 v6 (cur ++ spy).length (vints (cur ++ spy)):=by
           rw [List.length_append,vints_app]; exact ho6
         clear ho6 hg6
         go_simp
         refine hK.out _ _ (unhide HS _ hb6) (fun hHeld => ?_)
         clear hK K
         obtain ⟨va,vc,rfl⟩:=own_form ho6'
         refine take_dst (i:=11) (dst:=some 10) (v:=?_) rfl rfl (by kernel_rfl) (by kernel_rfl) (by kernel_rfl) (fun _ _ _ h => h) (Or.inl ⟨by rfl,?_⟩) hHeld ?_
         rotate_left
         · intro w hSw; go_simp; try (with_reducible rfl)
         simp only [Act.put,List.setIfInBounds_toArray,List.set_cons_zero,List.set_cons_succ]
         refine wpAnyH_done (by kernel_rfl) ?_ _
         have Hfin:=hide ho6'; have Hbb:=hide hb6
         clear ho6' hb6 hu4 ho4 hS ho5 hnw Ho5 hh5
         go_wp2
         go_roundw
         case rel => exact ⟨j + 1,by go_num,by omega,by rw [unhide Hsn,← List.length_append]; exact unhide Hfin,by rw [unhide Hsn]; exact unhide Hlen,unhide Hbb⟩
         case measure => simp [intOf]; omega
     · obtain rfl:j = prt.length:=by omega
       have Hfin:Hid (((prt.take prt.length).map (splF G f c (n + 1))).flatten = splF G f c (n + 1 + 1) x):=hide (by rw [List.take_length]; exact (unhide Hsp).symm)
       generalize ((prt.take prt.length).map (splF G f c (n + 1))).flatten = cur at *
       go_wp2
       go_ret
       rw [← unhide Hfin]
       exact ⟨_,rfl,own_base (unhide Hown) (by omega),(unhide Hb1).trans (below_le ((unhide Hbw).trans (below_le (unhide Hb) hsw)) (by omega))⟩
end Go.Proofs.YtagohbpbgjelaaaGreatDoor

/- The document's Row. -/
namespace Go.Proofs.YtagohbpbgjelaaaGreatDoor
open Go.RowKit

set_option maxRecDepth 100000 in
theorem spelled_any (G : Gm) (hG : GOk G) (f c : Nat → Int) (hc : AgreeC G f c) (ka pa ra qa : Option Addr) (kc pc rc qc lb lc tb tc B : Nat) : ∀ n, SpC G f c ka pa ra qa kc pc rc qc lb lc tb tc B n
 | 0 => fun x w h1 h2 hh hl hB hin hlr htr => by
   rcases hh with h | h
   · exact spelled_kind G ka pa ra qa kc pc rc qc lb lc tb tc f c x h 0 w
   · simp [chS] at h
 | n + 1 => fun x w h1 h2 hh hl hB hin hlr htr => by
   by_cases hk:x < (G.kinds.length:Int)
   · exact spelled_kind G ka pa ra qa kc pc rc qc lb lc tb tc f c x hk (n + 1) w
   · obtain ⟨r,hx⟩:∃ r:Nat,x - (G.kinds.length:Int) = r:=⟨(x - G.kinds.length).toNat,by omega⟩
     have hr:r < G.rules.length:=by omega
     by_cases h0:f r = 0
     · exact spelled_zero G ka pa ra qa kc pc rc qc lb lc tb tc f c hG.r2 r hr x hx h0 (n + 1) w hlr
     · rcases hh with h | h
       · exact absurd h hk
       have hch:0 ≤ chS G f (n + 1) r:=by
         have h:0 ≤ chS G f (n + 1) (x - (G.kinds.length:Int)).toNat:=h
         rw [hx,Int.toNat_natCast] at h; exact h
       have hfr:f r ≤ 65536:=by
         unfold lnX at hl
         rw [if_pos (by omega),hx,Int.toNat_natCast] at hl
         exact hl
       exact spelled_step G hG f c hc ka pa ra qa kc pc rc qc lb lc tb tc B n (spelled_any G hG f c hc ka pa ra qa kc pc rc qc lb lc tb tc B n) r hr x hx h0 hch hfr w hB hin hlr htr
open Classical in
/-- After which round all is chosen. -/
noncomputable def chN (G:Gm):Nat:=if h:∃ n,chR G (lstF G) (chS G (lstF G) n) = chS G (lstF G) n then Classical.choose h else 0
noncomputable def chF (G:Gm):Nat → Int:=chS G (lstF G) (chN G)
set_option maxRecDepth 100000 in
theorem chF_is {G:Gm} {c:Nat → Int} (h:ChosenIs G (lstF G) c):c = chF G ∧ ChosenIs G (lstF G) (chF G):=by
 have h':ChosenIs G (lstF G) (chF G):=by
   obtain ⟨n,rfl,hf⟩:=h
   have hx:∃ n,chR G (lstF G) (chS G (lstF G) n) = chS G (lstF G) n:=⟨n,hf⟩
   refine ⟨chN G,rfl,?_⟩
   unfold chF chN
   rw [dif_pos hx]
   exact Classical.choose_spec hx
 exact ⟨chosen_uniq h h',h'⟩
/-- A rule's shortest row. -/
noncomputable def rowOf (G:Gm) (r:Nat):List Int:=splF G (lstF G) (chF G) (chN G + 1) ((G.kinds.length:Int) + r)
noncomputable def rwV (G:Gm) (rule:Int):Int:=if lsV G rule = 0 then (if lsB G rule = true then (if 65537 ≤ lsN G rule then 3 else 0) else 8) else lsV G rule
noncomputable def rwL (G:Gm) (rule:Int):List Int:=if rwV G rule = 0 then rowOf G rule.toNat else []
def RowC (fn:Nat):Prop:=∀ (G:Gm) (ka pa ra qa:Option Addr) (kc pc rc qc:Nat) (rule:Int) (w:World) (_:GIn w.heap.size w G ka pa ra qa) (_:smG G),Calls Tryz.prog fn #[gV G ka pa ra qa kc pc rc qc,.int .i64 rule] w fun e w' =>
 ∃ a c,e = .returned (.tuple #[.slice a (rwL G rule).length c,.int .i64 (rwV G rule)]) ∧ NRow w'.heap.size w' a (rwL G rule) ∧ (rwL G rule).length ≤ 65536 ∧ Below w.heap.size w w'

set_option maxHeartbeats 4000000 in
set_option maxRecDepth 100000 in
theorem row24C : RowC 27 := fun G ka pa ra qa kc pc rc qc rule w hin hsm => by
 have hst:=gst_new (kc:=kc) (pc:=pc) (rc:=rc) (qc:=qc) (Nat.le_refl _) hin 26
 have hb1:=(Below.refl w.heap.size w).alloc (Nat.le_refl _) (.cells #[.slice ka G.kinds.length kc,.slice pa G.precs.length pc,.slice ra G.rules.length rc,.slice qa G.prods.length qc,.int .i64 G.start] 26)
 have hs1:(w.alloc (.cells #[.slice ka G.kinds.length kc,.slice pa G.precs.length pc,.slice ra G.rules.length rc,.slice qa G.prods.length qc,.int .i64 G.start] 26)).heap.size = w.heap.size + 1:=by simp
 have d0:=hst.c0; have d1:=hst.c1; have d2:=hst.c2; have d3:=hst.c3; have d4:=hst.c4
 have HM:=hide (least22C G ka pa ra qa kc pc rc qc rule _ (gin_up hin hb1) hsm)
 have Hin:=hide hin; have Hb1:=hide hb1; have Hst:=hide hst
 have hnot:=run_not
 clear hst hin hb1
 go_enter Tryz.func27,Tryz.ntmps27
 go_wp2_with fail
 clear d0 d1 d2 d3 d4
 generalize w.alloc (.cells #[.slice ka G.kinds.length kc,.slice pa G.precs.length pc,.slice ra G.rules.length rc,.slice qa G.prods.length qc,.int .i64 G.start] 26) = w1 at *
 refine (unhide HM).mono ?_
 rintro e w2 ⟨rfl,hb2⟩
 have hs2:=hb2.size
 have Hb2:=hide ((unhide Hb1).trans (below_le hb2 (by omega)))
 by_cases hv:lsV G rule = 0
 · by_cases hs:lsB G rule = true
   · by_cases hn:65537 ≤ lsN G rule
     · have Hr:Hid (rwV G rule = 3):=hide (by unfold rwV; rw [if_pos hv,if_pos hs,if_pos hn])
       have Hl:Hid (rwL G rule = []):=hide (by unfold rwL; rw [unhide Hr]; rfl)
       rw [hv,hs]
       have hn':decide (65537 ≤ lsN G rule) = true:=decide_eq_true hn
       generalize lsN G rule = N at *
       clear hb2 HM
       go_wp2
       refine bodyPost_ret (v:=.tuple #[.slice none 0 0,.int .i64 3]) ?zz1 rfl ⟨none,0,?_⟩
       case zz1 => simp [results,Tryz.results27,go_sem]
       rw [unhide Hr,unhide Hl]
       exact ⟨rfl,.inl rfl,Nat.zero_le _,unhide Hb2⟩
     · have Hr:Hid (rwV G rule = 0):=hide (by unfold rwV; rw [if_pos hv,if_pos hs,if_neg hn])
       have Hl:Hid (rwL G rule = rowOf G rule.toNat):=hide (by unfold rwL; rw [unhide Hr]; rfl)
       have hcb:checkB G = true:=by
         cases h:checkB G
         · unfold lsV at hv; rw [h] at hv; simp at hv
         · rfl
       have hrr:¬ (rule < 0 ∨ (G.rules.length:Int) ≤ rule):=fun h => by
         unfold lsV at hv; rw [hcb,if_pos rfl,if_pos h] at hv; simp at hv
       have hls:0 ≤ lstF G rule.toNat:=by
         unfold lsB at hs; rw [hcb,if_pos rfl,if_neg hrr,decide_eq_true_eq] at hs; exact hs
       have hlm:lstF G rule.toNat ≤ 65536:=by
         unfold lsN at hn; rw [hcb,if_pos rfl,if_neg hrr] at hn; omega
       obtain ⟨r,rfl⟩:∃ r:Nat,rule = (r:Int):=⟨rule.toNat,by omega⟩
       rw [Int.toNat_natCast] at hls hlm Hl
       have hr:r < G.rules.length:=by omega
       have hG:=check_ok hcb
       have hnr:=hG.r2; have hnk:=hG.k3; have hk2:=hG.k2
       unfold Gm.nr at hnr
       unfold Gm.nk at hnk hk2
       rw [hv,hs]
       have hn':decide (65537 ≤ lsN G r) = false:=decide_eq_false hn
       have hst2:=gst_kept (below_le hb2 (by omega)) (Nat.le_refl _) (unhide Hst)
       have d0:=hst2.c0; have d1:=hst2.c1; have d2:=hst2.c2; have d3:=hst2.c3; have d4:=hst2.c4
       have HE:=hide (rLeasts_any G hG ka pa ra qa kc pc rc qc w.heap.size w2 (by omega) hst2.gin)
       have Hst2:=hide hst2
       generalize lsN G r = N at *
       clear hb2 HM hst2
       go_wp2_with fail
       refine (unhide HE).mono ?_
       rintro e w3 ⟨lb,f,rfl,hlb,hlr,hlf,hb3⟩
       obtain rfl:lstF G = f:=lstF_is hlf
       have hs3:=hb3.size
       have hst3:=gst_kept (below_le hb3 (by omega)) (Nat.le_refl _) (unhide Hst2)
       have HC:Hid (∀ W:World,Below w3.heap.size w3 W → Calls Tryz.prog 71 #[gV G ka pa ra qa kc pc rc qc,.slice (some ⟨lb,0,none⟩) G.nr G.nr] W fun e w' => ∃ b,e = .returned (.slice (some ⟨b,0,none⟩) G.nr G.nr) ∧ w'.rowIs b 3 G.nr (fun r => .int .i64 (chF G r)) ∧ ChosenIs G (lstF G) (chF G) ∧ Below W.heap.size W w'):=hide (fun W hW => by
         have:=hW.size
         refine (rChosen_any G hG ka pa ra qa kc pc rc qc lb G.nr (lstF G) hlf w.heap.size W (by omega) (gin_kept (below_le hW (by omega)) hst3.gin) (rowIs_below hlr hW)).mono ?_
         rintro e w' ⟨b,c,rfl,-,hr,hc,hb⟩
         obtain ⟨rfl,hc'⟩:=chF_is hc
         exact ⟨b,rfl,hr,hc',hb⟩)
       have HP:Hid (∀ (W:World) (tb:Nat),Below w3.heap.size w3 W → W.rowIs tb 3 G.nr (fun r => .int .i64 (chF G r)) → ChosenIs G (lstF G) (chF G) → Calls Tryz.prog 70 #[gV G ka pa ra qa kc pc rc qc,.slice (some ⟨lb,0,none⟩) G.nr G.nr,.slice (some ⟨tb,0,none⟩) G.nr G.nr,.int .i64 ((G.kinds.length:Int) + r)] W fun e w' => ∃ v,e = .returned v ∧ w'.ownsRow W.heap.size 3 1 v (rowOf G r).length (vints (rowOf G r)) ∧ (rowOf G r).length ≤ 65536 ∧ Below W.heap.size W w'):=hide (fun W tb hW ht hc => by
         have:=hW.size
         have hx:((G.kinds.length:Int) + r - (G.nk:Int)).toNat = r:=by unfold Gm.nk; omega
         have hh:HasC G (lstF G) (chN G) ((G.kinds.length:Int) + r):=.inr (by
           rw [hx]
           exact chosen_all hlf (c:=chF G) hc.choose_spec.2 (lstF G r).toNat r (by omega))
         have hl:lnX G.kinds.length (lstF G) ((G.kinds.length:Int) + r) ≤ 65536:=by
           unfold lnX
           rw [if_pos (by omega)]
           unfold Gm.nk at hx
           rw [hx]
           exact hlm
         have hln:=splF_len (agree_of hc) (chN G) _ hh hl
         have hln2:(rowOf G r).length ≤ 65536:=by
           have h9:((rowOf G r).length:Int) = lnX G.kinds.length (lstF G) ((G.kinds.length:Int) + r):=hln
           omega
         refine (spelled_any G hG (lstF G) (chF G) (agree_of hc) ka pa ra qa kc pc rc qc lb G.nr tb G.nr w.heap.size (chN G) _ W (by omega) (by omega) hh hl (by omega) (gin_kept (below_le hW (by omega)) hst3.gin) (rowIs_below hlr hW) ht).mono ?_
         rintro e w' ⟨v,h1,h2,h3⟩
         exact ⟨v,h1,h2,hln2,h3⟩)
       have HS:Hid (∀ W:World,Below w3.heap.size w3 W → W.cell? ⟨w.heap.size,0,none⟩ = some (.slice ka G.kinds.length kc) ∧ W.cell? ⟨w.heap.size,1,none⟩ = some (.slice pa G.precs.length pc) ∧ W.cell? ⟨w.heap.size,2,none⟩ = some (.slice ra G.rules.length rc) ∧ W.cell? ⟨w.heap.size,3,none⟩ = some (.slice qa G.prods.length qc) ∧ W.cell? ⟨w.heap.size,4,none⟩ = some (.int .i64 G.start)):=hide (fun W hW => by
         have hg:=gst_kept (below_le hW (by omega)) (Nat.le_refl _) hst3
         exact ⟨hg.c0,hg.c1,hg.c2,hg.c3,hg.c4⟩)
       have Hb3:=hide ((unhide Hb2).trans (below_le hb3 (by omega)))
       have hwk:IntKind.i64.wrap ((G.kinds.length:Int) + r) = (G.kinds.length:Int) + r:=by rw [IntKind.wrap_i64]; omega
       have hS:Below w3.heap.size w3 w3.drew:=(Below.refl _ _).drew
       clear hlr hlf hb3 hst3 d0 d1 d2 d3 d4 HE hls hlm
       go_wp2
       go_region_held3 (fun W:World => W.cell? ⟨w.heap.size,0,none⟩ = some (.slice ka G.kinds.length kc) ∧ W.cell? ⟨w.heap.size,1,none⟩ = some (.slice pa G.precs.length pc) ∧ W.cell? ⟨w.heap.size,2,none⟩ = some (.slice ra G.rules.length rc) ∧ W.cell? ⟨w.heap.size,3,none⟩ = some (.slice qa G.prods.length qc) ∧ W.cell? ⟨w.heap.size,4,none⟩ = some (.int .i64 G.start))
         (first | exact unhide HS _ hS | fail)
         (first
           | (go_at_call 71; refine (unhide HC _ hS).mono ?_; rintro e W4 ⟨tb,rfl,ht4,hc4,hb4⟩; have hS:=hS.trans (below_le hb4 hS.size); have HP4:=hide (unhide HP _ tb hS ht4 hc4); clear hb4 ht4 hc4)
           | (go_at_call 70; refine (unhide HP4).mono ?_; rintro e W5 ⟨v5,rfl,ho5,hl5,hb5⟩; have hS:=hS.trans (below_le hb5 hS.size); obtain ⟨a5,c5,rfl,hr5⟩:=own_nrow ho5; have Hr5:=hide hr5; clear hb5 ho5 hr5)
           | fail)
       all_goals
         generalize rowOf G r = RL at *
         go_wp2
         refine bodyPost_ret (v:=.tuple #[.slice a5 RL.length c5,.int .i64 0]) ?zz2 rfl ⟨a5,c5,?_⟩
         case zz2 => simp [results,Tryz.results27,go_sem]
         rw [unhide Hr,unhide Hl]
         exact ⟨rfl,unhide Hr5,hl5,(unhide Hb3).trans (below_le hS (by omega))⟩
   · have Hr:Hid (rwV G rule = 8):=hide (by unfold rwV; rw [if_pos hv,if_neg hs])
     have Hl:Hid (rwL G rule = []):=hide (by unfold rwL; rw [unhide Hr]; rfl)
     have hs':lsB G rule = false:=by simpa using hs
     rw [hv,hs']
     clear hb2 HM
     go_wp2
     refine bodyPost_ret (v:=.tuple #[.slice none 0 0,.int .i64 8]) ?zz3 rfl ⟨none,0,?_⟩
     case zz3 => simp [results,Tryz.results27,go_sem]
     rw [unhide Hr,unhide Hl]
     exact ⟨rfl,.inl rfl,Nat.zero_le _,unhide Hb2⟩
 · have Hr:Hid (rwV G rule = lsV G rule):=hide (by unfold rwV; rw [if_neg hv])
   have Hl:Hid (rwL G rule = []):=hide (by unfold rwL; rw [unhide Hr,if_neg hv])
   have hv':(lsV G rule != 0) = true:=by simpa using hv
   generalize lsV G rule = V at *
   generalize lsB G rule = Bo at *
   generalize lsN G rule = N at *
   clear hb2 HM
   go_wp2
   refine bodyPost_ret (v:=.tuple #[.slice none 0 0,.int .i64 V]) ?zz4 rfl ⟨none,0,?_⟩
   case zz4 => simp [results,Tryz.results27,go_sem]
   rw [unhide Hr,unhide Hl]
   exact ⟨rfl,.inl rfl,Nat.zero_le _,unhide Hb2⟩
end Go.Proofs.YtagohbpbgjelaaaGreatDoor

/- The law GramLeasts, walked. -/
namespace Go.Proofs.YtagohbpbgjelaaaGreatDoor
open Go.RowKit

set_option maxHeartbeats 4000000 in
set_option maxRecDepth 100000 in
theorem leasts_walk (hM:LeastC 24) (hR:RowC 26) (hLY:LookYes 9) (hMY:LeastYes 24) (G:Gm) (ka pa ra qa:Option Addr) (kc pc rc qc:Nat) (rule:Int) (w:World) (hin:GIn w.heap.size w G ka pa ra qa) (hsm:smG G) :
   Calls Tryz.prog 5 #[.agg #[.slice ka G.kinds.length kc,.slice pa G.precs.length pc,.slice ra G.rules.length rc,.slice qa G.prods.length qc,.int .i64 G.start],.int .i64 rule] w fun e w' => e = .returned (.bool true) ∧ Below w.heap.size w w':=by
 have hst:=gst_new (kc:=kc) (pc:=pc) (rc:=rc) (qc:=qc) (Nat.le_refl _) hin 26
 have hb1:=(Below.refl w.heap.size w).alloc (Nat.le_refl _) (.cells #[.slice ka G.kinds.length kc,.slice pa G.precs.length pc,.slice ra G.rules.length rc,.slice qa G.prods.length qc,.int .i64 G.start] 26)
 have hs1:(w.alloc (.cells #[.slice ka G.kinds.length kc,.slice pa G.precs.length pc,.slice ra G.rules.length rc,.slice qa G.prods.length qc,.int .i64 G.start] 26)).heap.size = w.heap.size + 1:=by simp
 have d0:=hst.c0; have d1:=hst.c1; have d2:=hst.c2; have d3:=hst.c3; have d4:=hst.c4
 have HR:=hide hR; have HAw:=hide (fun (W:World) (hW:Below w.heap.size w W) => awake_any hLY hMY W (tb_up hin.tab (Nat.le_refl _) hW))
 have H1:=hide (hM G ka pa ra qa kc pc rc qc rule _ (gin_up hin hb1) hsm)
 have Hin:=hide hin; have Hsm:=hide hsm; have Hb1:=hide hb1; have Hst:=hide hst
 clear hM hR hLY hMY hin hsm hb1 hst
 go_enter Tryz.func5,Tryz.ntmps5
 go_wp2_with fail
 clear d0 d1 d2 d3 d4
 generalize w.alloc (.cells #[.slice ka G.kinds.length kc,.slice pa G.precs.length pc,.slice ra G.rules.length rc,.slice qa G.prods.length qc,.int .i64 G.start] 26) = w1 at *
 refine (unhide H1).mono ?_
 rintro e w2 ⟨rfl,hb2⟩
 have hs2:=hb2.size
 have hst2:=gst_kept (below_le hb2 (by omega)) (Nat.le_refl _) (unhide Hst)
 have d0:=hst2.c0; have d1:=hst2.c1; have d2:=hst2.c2; have d3:=hst2.c3; have d4:=hst2.c4
 have hbw2:=(unhide Hb1).trans (below_le hb2 (by omega))
 have H2:=hide (least22C G ka pa ra qa kc pc rc qc rule w2 (gin_up (unhide Hin) hbw2) (unhide Hsm))
 have Hst2:=hide hst2; have Hbw2:=hide hbw2
 clear hb2 hst2 hbw2 H1
 go_wp2_with fail
 clear d0 d1 d2 d3 d4
 refine (unhide H2).mono ?_
 rintro e w3 ⟨rfl,hb3⟩
 have hs3:=hb3.size
 have hst3:=gst_kept (below_le hb3 (by omega)) (Nat.le_refl _) (unhide Hst2)
 have d0:=hst3.c0; have d1:=hst3.c1; have d2:=hst3.c2; have d3:=hst3.c3; have d4:=hst3.c4
 have hbw3:=(unhide Hbw2).trans (below_le hb3 (by omega))
 have H3:=hide (unhide HR G ka pa ra qa kc pc rc qc rule w3 (gin_up (unhide Hin) hbw3) (unhide Hsm))
 have Hst3:=hide hst3; have Hbw3:=hide hbw3
 clear hb3 hst3 hbw3 H2 HR
 go_wp2_with fail
 clear d0 d1 d2 d3 d4
 refine (unhide H3).mono ?_
 rintro e w4 ⟨a4,c4,rfl,hr4,hl4,hb4⟩
 have hs4:=hb4.size
 have hst4:=gst_kept (below_le hb4 (by omega)) (Nat.le_refl _) (unhide Hst3)
 have d0:=hst4.c0; have d1:=hst4.c1; have d2:=hst4.c2; have d3:=hst4.c3; have d4:=hst4.c4
 have hbw4:=(unhide Hbw3).trans (below_le hb4 (by omega))
 have H4:=hide (row24C G ka pa ra qa kc pc rc qc rule w4 (gin_up (unhide Hin) hbw4) (unhide Hsm))
 have Hbw4:=hide hbw4; have Hr4:=hide hr4
 clear hb4 hst4 hbw4 H3 hr4
 go_wp2_with fail
 clear d0 d1 d2 d3 d4
 refine (unhide H4).mono ?_
 rintro e w5 ⟨a5,c5,rfl,hr5,-,hb5⟩
 have hs5:=hb5.size
 have hI:=rSameInts_any a4 a5 c4 c5 (rwL G rule) (rwL G rule) (by omega) w5 (nrow_up (unhide Hr4) hb5) hr5
 rw [decide_eq_true rfl] at hI
 have HI:=hide hI
 have Hbw5:=hide ((unhide Hbw4).trans (below_le hb5 (by omega)))
 clear hI hb5 hr5 H4
 generalize lsN G rule = N at *
 generalize lsB G rule = Bo at *
 generalize lsV G rule = V at *
 generalize rwL G rule = RL at *
 generalize rwV G rule = RV at *
 go_wp2_with fail
 refine (unhide HI).mono ?_
 rintro e w6 ⟨rfl,q,rfl⟩
 go_wp2_with fail
 refine (unhide HAw _ (below_drewN (unhide Hbw5) q)).mono ?_
 rintro e w7 ⟨rfl,hb7⟩
 have Hb7:=hide ((below_drewN (unhide Hbw5) q).trans (below_le hb7 (by show w.heap.size ≤ w5.heap.size; omega)))
 clear hb7
 go_wp2
 go_ret
 exact ⟨rfl,unhide Hb7⟩
end Go.Proofs.YtagohbpbgjelaaaGreatDoor

/- Plain words for Trim; rows and boxes that lie side by side. -/
namespace Go.Proofs.YtagohbpbgjelaaaGreatDoor
open Go.RowKit

/-! ### Side by side -/
set_option maxRecDepth 100000 in
theorem bx_below {W W':World} {b:Nat} {o:Obj} (h:W.heap[b]? = some o) (hb:Below W.heap.size W W'):W'.heap[b]? = some o:=(hb.block _ (Array.getElem?_eq_some_iff.1 h).1).trans h
set_option maxRecDepth 100000 in
theorem one_new {W:World} {b t:Nat} {x:Value} (h:W.heap[b]? = some (.cells #[x] t)) {j:Nat} {u:Value} (hu:[x][j]? = some u):W.cell? (Addr.add ⟨b,0,none⟩ j) = some u:=by
 rcases j with _ | j
 · cases hu
   rw [addr_add0]
   unfold World.cell?
   rw [h]
   rfl
 · simp at hu
set_option maxRecDepth 100000 in
theorem own_frN {W W':World} {b e B s n:Nat} {v:Value} {xs:List Value} (h':W.ownsRow B e s v n xs) (hf:Fr (· = b) W W') (hb:b < B):W'.ownsRow B e s v n xs:=by
 refine ⟨h'.1,?_⟩
 rcases h'.2 with h0 | ⟨g,cap,cur,hv,h1,h2,rest⟩
 · exact .inl h0
 · exact .inr ⟨g,cap,cur,hv,h1,(hf.2.1 g (Array.getElem?_eq_some_iff.1 h2).1 (fun e => by have e:g = b:=e; omega)).trans h2,rest⟩
/-! ### Productions that are being made -/
end Go.Proofs.YtagohbpbgjelaaaGreatDoor

/- Plain mathematics: a trimmed grammar. -/
namespace Go.Proofs.YtagohbpbgjelaaaGreatDoor
open Go.RowKit

/-! ### Shortest rows exist -/
set_option maxRecDepth 100000 in
open Classical in
theorem least_ex (G : Gm) : ∃ f, LeastIs G f := by
 have key:∀ r,∃ v:Int,(v = -1 ∧ ¬ ∃ n,Lng G r n) ∨ (Lng G r v ∧ ∀ n,Lng G r n → v ≤ n):=by
   intro r
   by_cases h:∃ n,Lng G r n
   · obtain ⟨n, hn⟩ := h
     have hP:∃ m:Nat,Lng G r (m:Int):=⟨n.toNat,by have:=lng_bd hn; rw [Int.toNat_of_nonneg this.1]; exact hn⟩
     obtain ⟨m, hm, hmin⟩ : ∃ m : Nat, Lng G r (m : Int) ∧ ∀ k : Nat, Lng G r (k : Int) → m ≤ k := by
       obtain ⟨m0,hm0⟩:=hP
       induction m0 using Nat.strongRecOn with
       | _ m0 ih =>
         by_cases hx:∃ k:Nat,k < m0 ∧ Lng G r (k:Int)
         · obtain ⟨k,hk,hl⟩:=hx
           exact ih k hk hl
         · exact ⟨m0,hm0,fun k hk => by
             rcases Nat.lt_or_ge k m0 with h | h
             · exact absurd ⟨k,h,hk⟩ hx
             · exact h⟩
     refine ⟨(m:Int),.inr ⟨hm,fun k hk => ?_⟩⟩
     have hb:=lng_bd hk
     have:=hmin k.toNat (by rw [Int.toNat_of_nonneg hb.1]; exact hk)
     omega
   · exact ⟨-1,.inl ⟨rfl,h⟩⟩
 refine ⟨fun r => Classical.choose (key r),fun r => ?_,fun r n hn => ?_⟩
 · rcases Classical.choose_spec (key r) with h | h
   · exact .inl h.1
   · have:=lng_bd h.1
     exact .inr ⟨this.1,this.2,h.1⟩
 · rcases Classical.choose_spec (key r) with h | h
   · exact absurd ⟨n,hn⟩ h.2
   · exact ⟨(lng_bd h.1).1,h.2 n hn⟩
/-! ### New numbers -/
/-! ### What is kept -/
/-! ### All is of use -/
end Go.Proofs.YtagohbpbgjelaaaGreatDoor

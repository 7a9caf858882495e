/- The code's Row, where it tells no row. -/
import Derived.Test.YtagohbpbgjelaaaGreatDoorJA
import Derived.Test.YtagohbpbgjelaaaGreatDoorH2
namespace Go.Proofs.YtagohbpbgjelaaaGreatDoor
open Go.RowKit

set_option maxHeartbeats 2000000 in
set_option maxRecDepth 100000 in
theorem rowno26 (G:Gm) (hc:checkB G = false) (ka pa ra qa:Option Addr) (kc pc rc qc:Nat) (rule:Int) (w:World) (hin:GIn w.heap.size w G ka pa ra qa) (hsm:smG G):Calls Tryz.prog 26 #[gV G ka pa ra qa kc pc rc qc,.int .i64 rule] w fun e w' => e = .returned (.tuple #[.slice none 0 0,.int .i64 130]) ∧ Below w.heap.size w w':=by
 have hst:=gst_new (kc:=kc) (pc:=pc) (rc:=rc) (qc:=qc) (Nat.le_refl _) hin 26
 have hb1:Below w.heap.size w (w.alloc (.cells #[.slice ka G.kinds.length kc,.slice pa G.precs.length pc,.slice ra G.rules.length rc,.slice qa G.prods.length qc,.int .i64 G.start] 26)):=(Below.refl _ _).alloc (Nat.le_refl _) _
 have HM:=hide (mayBe_any G ka pa ra qa kc pc rc qc _ (gin_up hin hb1) hsm)
 rw [hc] at HM
 have Hb1:=hide hb1
 have hnot:=run_not
 clear hst hb1 hin hsm hc
 go_enter Tryz.func26,Tryz.ntmps26
 go_wp2_with fail
 refine (unhide HM).mono ?_
 rintro e w2 ⟨rfl,hb2⟩
 have Hb2:=hide ((unhide Hb1).trans (below_le hb2 (by simp)))
 clear hb2
 go_wp2
 refine bodyPost_ret (v:=.tuple #[.slice none 0 0,.int .i64 130]) ?zz9 rfl ⟨rfl,unhide Hb2⟩
 case zz9 => simp [results,Tryz.results26,go_sem]
set_option maxHeartbeats 2000000 in
set_option maxRecDepth 100000 in
theorem rowout26 (G:Gm) (hc:checkB G = true) (ka pa ra qa:Option Addr) (kc pc rc qc:Nat) (rule:Int) (hr:rule < 0 ∨ (G.rules.length:Int) ≤ rule) (w:World) (hin:GIn w.heap.size w G ka pa ra qa):Calls Tryz.prog 26 #[gV G ka pa ra qa kc pc rc qc,.int .i64 rule] w fun e w' => e = .returned (.tuple #[.slice none 0 0,.int .i64 1]) ∧ Below w.heap.size w w':=by
 have hG:=check_ok hc
 have hst:=gst_new (kc:=kc) (pc:=pc) (rc:=rc) (qc:=qc) (Nat.le_refl _) hin 26
 have hb1:Below w.heap.size w (w.alloc (.cells #[.slice ka G.kinds.length kc,.slice pa G.precs.length pc,.slice ra G.rules.length rc,.slice qa G.prods.length qc,.int .i64 G.start] 26)):=(Below.refl _ _).alloc (Nat.le_refl _) _
 have HM:=hide (mayBe_any G ka pa ra qa kc pc rc qc _ (gin_up hin hb1) (smG_ok hG))
 rw [hc] at HM
 have Hb1:=hide hb1; have Hst:=hide hst
 have hnot:=run_not
 have hs1:(w.alloc (.cells #[.slice ka G.kinds.length kc,.slice pa G.precs.length pc,.slice ra G.rules.length rc,.slice qa G.prods.length qc,.int .i64 G.start] 26)).heap.size = w.heap.size + 1:=by simp
 clear hst hb1 hin hc
 go_enter Tryz.func26,Tryz.ntmps26
 go_wp2_with fail
 generalize w.alloc (.cells #[.slice ka G.kinds.length kc,.slice pa G.precs.length pc,.slice ra G.rules.length rc,.slice qa G.prods.length qc,.int .i64 G.start] 26) = w1 at *
 refine (unhide HM).mono ?_
 rintro e w2 ⟨rfl,hb2⟩
 have hs2:=hb2.size
 have hbw2:=(unhide Hb1).trans (below_le hb2 (by omega))
 have hst2:=gst_kept (below_le hb2 (by omega)) (Nat.le_refl _) (unhide Hst)
 have d0:=hst2.c0; have d1:=hst2.c1; have d2:=hst2.c2; have d3:=hst2.c3; have d4:=hst2.c4
 have HA:=hide (isRule_any ka pa ra qa G.kinds.length kc G.precs.length pc G.rules.length rc G.prods.length qc G.start rule w2)
 have hdec:decide (0 ≤ rule ∧ rule < G.rules.length) = false:=decide_eq_false (by omega)
 rw [hdec] at HA
 have Hbw2:=hide hbw2
 have hs2w:w.heap.size + 1 ≤ w2.heap.size:=by omega
 clear hb2 hbw2 hst2 HM hdec
 go_wp2_with fail
 refine (unhide HA).mono ?_
 rintro e w3 ⟨rfl,hb3⟩
 have Hbw3:=hide ((unhide Hbw2).trans (below_le hb3 (by omega)))
 clear hb3
 go_wp2
 refine bodyPost_ret (v:=.tuple #[.slice none 0 0,.int .i64 1]) ?zz9 rfl ⟨rfl,unhide Hbw3⟩
 case zz9 => simp [results,Tryz.results26,go_sem]
set_option maxHeartbeats 2000000 in
set_option maxRecDepth 100000 in
theorem rownone26 (G:Gm) (hc:checkB G = true) (ka pa ra qa:Option Addr) (kc pc rc qc:Nat) (r:Nat) (hr:r < G.rules.length) (f:Nat → Int) (hf:LeastIs G f) (hfr:f r = -1 ∨ f r = 65537) (w:World) (hin:GIn w.heap.size w G ka pa ra qa):Calls Tryz.prog 26 #[gV G ka pa ra qa kc pc rc qc,.int .i64 (r:Int)] w fun e w' => e = .returned (.tuple #[.slice none 0 0,.int .i64 (if f r = -1 then 8 else 3)]) ∧ Below w.heap.size w w':=by
 have hG:=check_ok hc
 have hst:=gst_new (kc:=kc) (pc:=pc) (rc:=rc) (qc:=qc) (Nat.le_refl _) hin 26
 have hb1:Below w.heap.size w (w.alloc (.cells #[.slice ka G.kinds.length kc,.slice pa G.precs.length pc,.slice ra G.rules.length rc,.slice qa G.prods.length qc,.int .i64 G.start] 26)):=(Below.refl _ _).alloc (Nat.le_refl _) _
 have HM:=hide (mayBe_any G ka pa ra qa kc pc rc qc _ (gin_up hin hb1) (smG_ok hG))
 rw [hc] at HM
 have Hb1:=hide hb1; have Hst:=hide hst; have Hin:=hide hin
 have hnot:=run_not
 have hs1:(w.alloc (.cells #[.slice ka G.kinds.length kc,.slice pa G.precs.length pc,.slice ra G.rules.length rc,.slice qa G.prods.length qc,.int .i64 G.start] 26)).heap.size = w.heap.size + 1:=by simp
 clear hst hb1 hin hc
 go_enter Tryz.func26,Tryz.ntmps26
 go_wp2_with fail
 generalize w.alloc (.cells #[.slice ka G.kinds.length kc,.slice pa G.precs.length pc,.slice ra G.rules.length rc,.slice qa G.prods.length qc,.int .i64 G.start] 26) = w1 at *
 refine (unhide HM).mono ?_
 rintro e w2 ⟨rfl,hb2⟩
 have hs2:=hb2.size
 have hbw2:=(unhide Hb1).trans (below_le hb2 (by omega))
 have hst2:=gst_kept (below_le hb2 (by omega)) (Nat.le_refl _) (unhide Hst)
 have d0:=hst2.c0; have d1:=hst2.c1; have d2:=hst2.c2; have d3:=hst2.c3; have d4:=hst2.c4
 have HA:=hide (isRule_any ka pa ra qa G.kinds.length kc G.precs.length pc G.rules.length rc G.prods.length qc G.start (r:Int) w2)
 have hdec:decide (0 ≤ (r:Int) ∧ (r:Int) < G.rules.length) = true:=decide_eq_true (by omega)
 rw [hdec] at HA
 have Hbw2:=hide hbw2
 have hs2w:w.heap.size + 1 ≤ w2.heap.size:=by omega
 clear hb2 hbw2 hst2 HM hdec
 go_wp2_with fail
 refine (unhide HA).mono ?_
 rintro e w3 ⟨rfl,hb3⟩
 have hs3:=hb3.size
 have hbw3:=(unhide Hbw2).trans (below_le hb3 (by omega))
 have e0:=(hb3.cell (p:=⟨w.heap.size,0,none⟩) (by show w.heap.size < _; omega)).trans d0
 have e1:=(hb3.cell (p:=⟨w.heap.size,1,none⟩) (by show w.heap.size < _; omega)).trans d1
 have e2:=(hb3.cell (p:=⟨w.heap.size,2,none⟩) (by show w.heap.size < _; omega)).trans d2
 have e3:=(hb3.cell (p:=⟨w.heap.size,3,none⟩) (by show w.heap.size < _; omega)).trans d3
 have e4:=(hb3.cell (p:=⟨w.heap.size,4,none⟩) (by show w.heap.size < _; omega)).trans d4
 have HNG:=hide (newGrammar_any G hG ka pa ra qa kc pc rc qc w3 (gin_up (unhide Hin) hbw3))
 have Hbw3:=hide hbw3
 clear hb3 hbw3 d0 d1 d2 d3 d4 HA
 go_wp2_with fail
 refine (unhide HNG).mono ?_
 rintro e w4 ⟨gb,ob,ub,rfl,hg4,hb4⟩
 have hs4:=hb4.size
 have HLE:=hide (leasts_any G hG ka pa ra qa kc pc rc qc gb ob ub w4.heap.size w4 (Nat.le_refl _) hg4)
 have Hbw4:=hide ((unhide Hbw3).trans (below_le hb4 (by have:=(unhide Hbw3).size; omega)))
 clear hg4 hb4 HNG e0 e1 e2 e3 e4
 go_wp2_with fail
 refine (unhide HLE).mono ?_
 rintro e w5 ⟨b,L,rfl,hrow,hL,hbb,hb5⟩
 have Hbw5:=hide ((unhide Hbw4).trans (below_le hb5 (unhide Hbw4).size))
 have lc:=hrow.cell hr
 have hr':(r:Int) < G.rules.length:=by omega
 obtain rfl:=least_uniq hf hL
 clear hb5 HLE hL hrow hf
 rcases hfr with hneg | hlong
 · rw [hneg] at lc
   go_wp2
   refine bodyPost_ret (v:=.tuple #[.slice none 0 0,.int .i64 8]) ?zz9 rfl ⟨rfl,unhide Hbw5⟩
   case zz9 => simp [results,Tryz.results26,go_sem]
 · rw [hlong] at lc
   go_wp2
   refine bodyPost_ret (v:=.tuple #[.slice none 0 0,.int .i64 3]) ?zz9 rfl ⟨rfl,unhide Hbw5⟩
   case zz9 => simp [results,Tryz.results26,go_sem]
end Go.Proofs.YtagohbpbgjelaaaGreatDoor

/- The code's Row. -/
namespace Go.Proofs.YtagohbpbgjelaaaGreatDoor
open Go.RowKit

def RowYes (G:Gm) (r:Nat) (w:World) (e:Ending) (w':World):Prop:=∃ a c,e = .returned (.tuple #[.slice a (rowOf G r).length c,.int .i64 0]) ∧ NRow w'.heap.size w' a (rowOf G r) ∧ (rowOf G r).length ≤ 65536 ∧ Below w.heap.size w w'
theorem least_bounds {G:Gm} {f:Nat → Int} (h:LeastIs G f) (x:Nat) : -1 ≤ f x ∧ f x ≤ 65537:=by
 rcases h.1 x with h1 | ⟨h1,h2,-⟩ <;> omega
theorem row_ready {G:Gm} (hG:GOk G) {c:Nat → Int} {el:Nat → Bool} {n:Nat} (hc:c = stN (lfN G) (rlN G) el G.prods.length n) (hs:stT (lfN G) (rlN G) el G.prods.length c = c) (hel:∀ q,q < G.prods.length → el q = decide (lnN G (lstF G) q = lstF G (lfN G q))) (hf:LeastIs G (lstF G)) {r:Nat} (h0:0 ≤ lstF G r) (h1:lstF G r ≤ 65536) :
   ∃ n9,(fun n r => 0 ≤ chS G (lstF G) n r ∧ lstF G r ≤ 65536) n9 r ∧ RhoI G (fun r => rowOf G r) c (fun n r => 0 ≤ chS G (lstF G) n r ∧ lstF G r ≤ 65536) ∧ (rowOf G r).length ≤ 65536 ∧ ∀ n r,(0 ≤ chS G (lstF G) n r ∧ lstF G r ≤ 65536) → (0 ≤ chS G (lstF G) (n + 1) r ∧ lstF G r ≤ 65536):=by
 obtain ⟨c',hch⟩:=chosen_ex' hG (lstF G)
 obtain ⟨rfl,hF⟩:=chF_is hch
 have hst:0 ≤ chS G (lstF G) (chN G) r:=chosen_all hf (c:=chF G) hF.choose_spec.2 (lstF G r).toNat r (by omega)
 refine ⟨chN G,⟨hst,h1⟩,⟨(rho_spl hF).z,fun n r ⟨h2,h3⟩ => ?_⟩,?_,fun n r ⟨h2,h3⟩ => ⟨by rw [chS_mono h2 1]; exact h2,h3⟩⟩
 · obtain ⟨i,hi,h4,h5,h6⟩:=(rho_spl hF).prod n r ⟨h2,h3⟩
   exact ⟨i,hi,(short_chosen hel hc hs hF h3).trans h4,h5,h6⟩
 · have ex:((G.nk:Int) + r - G.nk).toNat = r:=by omega
   have hh:HasC G (lstF G) (chN G) ((G.nk:Int) + r):=.inr (by rw [ex]; exact hst)
   have hl:lnX G.nk (lstF G) ((G.nk:Int) + r) ≤ 65536:=by
     unfold lnX
     rw [if_pos (by omega),ex]
     exact h1
   have h9:((rowOf G r).length:Int) = lnX G.nk (lstF G) ((G.nk:Int) + r):=splF_len (agree_of hF) (chN G) _ hh hl
   omega
set_option maxHeartbeats 2000000 in
set_option maxRecDepth 100000 in
theorem rowyes26 (G:Gm) (hc:checkB G = true) (ka pa ra qa:Option Addr) (kc pc rc qc:Nat) (r:Nat) (hr:r < G.rules.length) (hf:LeastIs G (lstF G)) (hfr:0 ≤ lstF G r ∧ lstF G r ≤ 65536) (w:World) (hin:GIn w.heap.size w G ka pa ra qa):Calls Tryz.prog 26 #[gV G ka pa ra qa kc pc rc qc,.int .i64 (r:Int)] w fun e w' => RowYes G r w e w':=by
 have hG:=check_ok hc
 have hst:=gst_new (kc:=kc) (pc:=pc) (rc:=rc) (qc:=qc) (Nat.le_refl _) hin 26
 have hb1:Below w.heap.size w (w.alloc (.cells #[.slice ka G.kinds.length kc,.slice pa G.precs.length pc,.slice ra G.rules.length rc,.slice qa G.prods.length qc,.int .i64 G.start] 26)):=(Below.refl _ _).alloc (Nat.le_refl _) _
 have HM:=hide (mayBe_any G ka pa ra qa kc pc rc qc _ (gin_up hin hb1) (smG_ok hG))
 rw [hc] at HM
 have Hb1:=hide hb1; have Hst:=hide hst; have Hin:=hide hin
 have hnot:=run_not
 have hs1:(w.alloc (.cells #[.slice ka G.kinds.length kc,.slice pa G.precs.length pc,.slice ra G.rules.length rc,.slice qa G.prods.length qc,.int .i64 G.start] 26)).heap.size = w.heap.size + 1:=by simp
 clear hst hb1 hin hc
 go_enter Tryz.func26,Tryz.ntmps26
 go_wp2_with fail
 generalize w.alloc (.cells #[.slice ka G.kinds.length kc,.slice pa G.precs.length pc,.slice ra G.rules.length rc,.slice qa G.prods.length qc,.int .i64 G.start] 26) = w1 at *
 refine (unhide HM).mono ?_
 rintro e w2 ⟨rfl,hb2⟩
 have hs2:=hb2.size
 have hbw2:=(unhide Hb1).trans (below_le hb2 (by omega))
 have hst2:=gst_kept (below_le hb2 (by omega)) (Nat.le_refl _) (unhide Hst)
 have d0:=hst2.c0; have d1:=hst2.c1; have d2:=hst2.c2; have d3:=hst2.c3; have d4:=hst2.c4
 have HA:=hide (isRule_any ka pa ra qa G.kinds.length kc G.precs.length pc G.rules.length rc G.prods.length qc G.start (r:Int) w2)
 have hdec:decide (0 ≤ (r:Int) ∧ (r:Int) < G.rules.length) = true:=decide_eq_true (by omega)
 rw [hdec] at HA
 have Hbw2:=hide hbw2
 have hs2w:w.heap.size + 1 ≤ w2.heap.size:=by omega
 clear hb2 hbw2 hst2 HM hdec
 go_wp2_with fail
 refine (unhide HA).mono ?_
 rintro e w3 ⟨rfl,hb3⟩
 have hs3:=hb3.size
 have hbw3:=(unhide Hbw2).trans (below_le hb3 (by omega))
 have e0:=(hb3.cell (p:=⟨w.heap.size,0,none⟩) (by show w.heap.size < _; omega)).trans d0
 have e1:=(hb3.cell (p:=⟨w.heap.size,1,none⟩) (by show w.heap.size < _; omega)).trans d1
 have e2:=(hb3.cell (p:=⟨w.heap.size,2,none⟩) (by show w.heap.size < _; omega)).trans d2
 have e3:=(hb3.cell (p:=⟨w.heap.size,3,none⟩) (by show w.heap.size < _; omega)).trans d3
 have e4:=(hb3.cell (p:=⟨w.heap.size,4,none⟩) (by show w.heap.size < _; omega)).trans d4
 have HNG:=hide (newGrammar_any G hG ka pa ra qa kc pc rc qc w3 (gin_up (unhide Hin) hbw3))
 have Hbw3:=hide hbw3
 clear hb3 hbw3 d0 d1 d2 d3 d4 HA
 go_wp2_with fail
 refine (unhide HNG).mono ?_
 rintro e w4 ⟨gb,ob,ub,rfl,hg4,hb4⟩
 have hs4:=hb4.size
 have Hg4:=hide hg4
 have HLE:=hide (leasts_any G hG ka pa ra qa kc pc rc qc gb ob ub w4.heap.size w4 (Nat.le_refl _) hg4)
 have Hbw4:=hide ((unhide Hbw3).trans (below_le hb4 (by have:=(unhide Hbw3).size; omega)))
 clear hg4 hb4 HNG e0 e1 e2 e3 e4
 go_wp2_with fail
 refine (unhide HLE).mono ?_
 rintro e w5 ⟨b,L,rfl,hrow,hL,hbb,hb5⟩
 have Hbw5:=hide ((unhide Hbw4).trans (below_le hb5 (unhide Hbw4).size))
 have lc:=hrow.cell hr
 have hr':(r:Int) < G.rules.length:=by omega
 obtain rfl:=least_uniq hf hL
 have hs5:=hb5.size
 have hg5:=gr_kept (unhide Hg4) hb5
 have HSH:=hide (shortest_any G hG ka pa ra qa kc pc rc qc gb ob ub w4.heap.size b (lstF G) (least_bounds hf) w5 hs5 hg5 hrow)
 have Hg5:=hide hg5
 obtain ⟨hlo,hhi⟩:=hfr
 have hn1:decide (lstF G r = -1) = false:=decide_eq_false (by omega)
 have hn2:decide (lstF G r = 65537) = false:=decide_eq_false (by omega)
 have Hf:=hide hf; have Hlo:=hide hlo; have Hhi:=hide hhi
 generalize hv:lstF G r = lv at *
 clear hb5 HLE hL hrow hf hg5
 go_wp2_with fail
 refine (unhide HSH).mono ?_
 rintro e w6 ⟨b6,n6,c6,el6,rfl,hr6,hc6,hs6,he6,hbb6,hb6⟩
 have hg6:=gr_kept (unhide Hg5) (below_le hb6 hs5)
 obtain ⟨n9,hst9,hρ,hl9,hmono⟩:=row_ready hG hc6 hs6 he6 (unhide Hf) (by rw [hv]; exact unhide Hlo) (by rw [hv]; exact unhide Hhi)
 have HRB:=hide (rowBy_any G hG ka pa ra qa kc pc rc qc gb ob ub w4.heap.size w6 (by have:=hb6.size; omega) hg6 b6 c6 hr6 (fun r => rowOf G r) _ hρ hmono n9 r hst9 hr hl9)
 have Hb6:=hide ((unhide Hbw5).trans (below_le hb6 (unhide Hbw5).size))
 have hl9':(rowOf G r).length ≤ 65536:=hl9
 clear hg6 hρ hst9 hmono hb6 hr6 hc6 hs6 he6 HSH hl9
 go_wp2_with fail
 refine (unhide HRB).mono ?_
 rintro e w7 ⟨v7,rfl,ho7,hb7⟩
 obtain ⟨a7,c7,rfl,hn7⟩:=own_nrow ho7
 have Hn7:=hide hn7
 have Hb7:=hide ((unhide Hb6).trans (below_le hb7 (unhide Hb6).size))
 clear ho7 hb7 hn7 HRB
 generalize hRL:rowOf G r = RL at *
 go_wp2
 refine bodyPost_ret (v:=.tuple #[.slice a7 RL.length c7,.int .i64 0]) ?zz9 rfl ⟨a7,c7,by rw [hRL],by rw [hRL]; exact unhide Hn7,by rw [hRL]; exact hl9',unhide Hb7⟩
 case zz9 => simp [results,Tryz.results26,go_sem]
set_option maxRecDepth 100000 in
theorem row26C : RowC 26 := fun G ka pa ra qa kc pc rc qc rule w hin hsm => by
 cases hc:checkB G with
 | false =>
   refine (rowno26 G hc ka pa ra qa kc pc rc qc rule w hin hsm).mono ?_
   rintro e w' ⟨rfl,hb⟩
   have hV:rwV G rule = 130:=by unfold rwV lsV; rw [hc]; rfl
   have hL:rwL G rule = []:=by unfold rwL; rw [hV]; rfl
   exact ⟨none,0,by rw [hV,hL]; rfl,by rw [hL]; exact .inl rfl,by rw [hL]; exact Nat.zero_le _,hb⟩
 | true =>
   by_cases hr:rule < 0 ∨ (G.rules.length:Int) ≤ rule
   · refine (rowout26 G hc ka pa ra qa kc pc rc qc rule hr w hin).mono ?_
     rintro e w' ⟨rfl,hb⟩
     have hV:rwV G rule = 1:=by unfold rwV lsV; rw [hc,if_pos rfl,if_pos hr]; rfl
     have hL:rwL G rule = []:=by unfold rwL; rw [hV]; rfl
     exact ⟨none,0,by rw [hV,hL]; rfl,by rw [hL]; exact .inl rfl,by rw [hL]; exact Nat.zero_le _,hb⟩
   · obtain ⟨r,rfl⟩:∃ r:Nat,rule = (r:Int):=⟨rule.toNat,by omega⟩
     have hrn:r < G.rules.length:=by omega
     obtain ⟨f0,hf0⟩:=least_ex G
     have hf:LeastIs G (lstF G):=by rw [lstF_is hf0]; exact hf0
     have h0:lsV G (r:Int) = 0:=by unfold lsV; rw [hc,if_pos rfl,if_neg hr]
     have h1:lsB G (r:Int) = decide (0 ≤ lstF G r):=by unfold lsB; rw [hc,if_pos rfl,if_neg hr,Int.toNat_natCast]
     have h2:lsN G (r:Int) = max (lstF G r) 0:=by unfold lsN; rw [hc,if_pos rfl,if_neg hr,Int.toNat_natCast]
     have hbd:=least_bounds hf r
     by_cases hok:0 ≤ lstF G r ∧ lstF G r ≤ 65536
     · refine (rowyes26 G hc ka pa ra qa kc pc rc qc r hrn hf hok w hin).mono ?_
       rintro e w' ⟨a,c,rfl,h3,h4,hb⟩
       have hV:rwV G (r:Int) = 0:=by unfold rwV; rw [h0,h1,h2,if_pos rfl,decide_eq_true hok.1,if_pos rfl,if_neg (by omega)]
       have hL:rwL G (r:Int) = rowOf G r:=by unfold rwL; rw [hV,if_pos rfl,Int.toNat_natCast]
       exact ⟨a,c,by rw [hV,hL],by rw [hL]; exact h3,by rw [hL]; exact h4,hb⟩
     · refine (rownone26 G hc ka pa ra qa kc pc rc qc r hrn (lstF G) hf (by omega) w hin).mono ?_
       rintro e w' ⟨rfl,hb⟩
       have hV:rwV G (r:Int) = if lstF G r = -1 then 8 else 3:=by
         unfold rwV
         rw [h0,h1,h2,if_pos rfl]
         by_cases e:lstF G r = -1
         · rw [if_pos e,if_neg (by rw [decide_eq_true_eq]; omega)]
         · rw [if_neg e,if_pos (by rw [decide_eq_true_eq]; omega),if_pos (by omega)]
       have hL:rwL G (r:Int) = []:=by unfold rwL; rw [hV,if_neg (by split <;> omega)]
       exact ⟨none,0,by rw [hV,hL]; rfl,by rw [hL]; exact .inl rfl,by rw [hL]; exact Nat.zero_le _,hb⟩
end Go.Proofs.YtagohbpbgjelaaaGreatDoor

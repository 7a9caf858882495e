/- The code's Look where it is refused, Trim and Lines there; what is reached by every production. -/
import Derived.Test.YtagohbpbgjelaaaGreatDoorIB
import Derived.Test.YtagohbpbgjelaaaGreatDoorGU
import Derived.Test.YtagohbpbgjelaaaGreatDoorA5
import Derived.Test.YtagohbpbgjelaaaGreatDoorGT
import Derived.Test.YtagohbpbgjelaaaGreatDoorH2
namespace Go.Proofs.YtagohbpbgjelaaaGreatDoor
open Go.RowKit

set_option maxHeartbeats 2000000 in
set_option maxRecDepth 100000 in
theorem lookno9 : LookNo 9 := fun G hc ka pa ra qa kc pc rc qc w hin hsm => by
  obtain ⟨w1, hw1⟩ : ∃ w1, w1 = (w.alloc (.cells #[.slice ka G.kinds.length kc, .slice pa G.precs.length pc, .slice ra G.rules.length rc, .slice qa G.prods.length qc, .int .i64 G.start] 26)).alloc (.cells #[.slice none 0 0, .slice none 0 0, .slice none 0 0, .slice none 0 0, .slice none 0 0, .slice none 0 0] 31) := ⟨_, rfl⟩
  obtain ⟨hst, hb1, hs1, hbx⟩ := look_in kc pc rc qc (Nat.le_refl _) hin hw1
  have d0 := hst.c0; have d1 := hst.c1; have d2 := hst.c2; have d3 := hst.c3; have d4 := hst.c4
  have hC := mayBe_any G ka pa ra qa kc pc rc qc w1 (gin_up hin hb1) hsm
  rw [hc] at hC
  have hnot := run_not
  have HC := hide hC
  have Hb1 := hide hb1; have Hbx := hide hbx
  clear hst hC hb1 hin hsm hc hbx
  go_enter Tryz.func9, Tryz.ntmps9
  rw [hw1] at d0 d1 d2 d3 d4
  go_wp2_with fail
  rw [← hw1]
  refine (unhide HC).mono ?_
  rintro e w2 ⟨rfl, hb2⟩
  have hbx2 := (hb2.block _ (by omega)).trans (unhide Hbx)
  have hlt := (Array.getElem?_eq_some_iff.1 hbx2).1
  have r0 : w2.cell? ⟨w.heap.size + 1, 0, none⟩ = some (.slice none 0 0) := by unfold World.cell?; rw [hbx2]; rfl
  have f0 : w2.frozen? ⟨w.heap.size + 1, 0, none⟩ = false := by unfold World.frozen?; rw [hbx2]; rfl
  have r1 : w2.cell? ⟨w.heap.size + 1, 1, none⟩ = some (.slice none 0 0) := by unfold World.cell?; rw [hbx2]; rfl
  have f1 : w2.frozen? ⟨w.heap.size + 1, 1, none⟩ = false := by unfold World.frozen?; rw [hbx2]; rfl
  have r2 : w2.cell? ⟨w.heap.size + 1, 2, none⟩ = some (.slice none 0 0) := by unfold World.cell?; rw [hbx2]; rfl
  have f2 : w2.frozen? ⟨w.heap.size + 1, 2, none⟩ = false := by unfold World.frozen?; rw [hbx2]; rfl
  have r3 : w2.cell? ⟨w.heap.size + 1, 3, none⟩ = some (.slice none 0 0) := by unfold World.cell?; rw [hbx2]; rfl
  have f3 : w2.frozen? ⟨w.heap.size + 1, 3, none⟩ = false := by unfold World.frozen?; rw [hbx2]; rfl
  have r4 : w2.cell? ⟨w.heap.size + 1, 4, none⟩ = some (.slice none 0 0) := by unfold World.cell?; rw [hbx2]; rfl
  have f4 : w2.frozen? ⟨w.heap.size + 1, 4, none⟩ = false := by unfold World.frozen?; rw [hbx2]; rfl
  have r5 : w2.cell? ⟨w.heap.size + 1, 5, none⟩ = some (.slice none 0 0) := by unfold World.cell?; rw [hbx2]; rfl
  have f5 : w2.frozen? ⟨w.heap.size + 1, 5, none⟩ = false := by unfold World.frozen?; rw [hbx2]; rfl
  have Hb2 := hide hb2
  clear hb2 hbx2
  clear d0 d1 d2 d3 d4
  go_wp2
  refine bodyPost_ret (v := .tuple #[.agg #[.slice none 0 0, .slice none 0 0, .slice none 0 0, .slice none 0 0, .slice none 0 0, .slice none 0 0], .int .i64 130]) ?zz8 rfl ⟨rfl, ?_⟩
  case zz8 => simp [results, Tryz.results9, go_sem, r0, r1, r2, r3, r4, r5]
  have hb := (unhide Hb1).trans (below_le (unhide Hb2) (by omega))
  exact (((((hb.setCell (p := ⟨w.heap.size + 1, 0, none⟩) (by show w.heap.size ≤ w.heap.size + 1; omega) _).setCell (p := ⟨w.heap.size + 1, 1, none⟩) (by show w.heap.size ≤ w.heap.size + 1; omega) _).setCell (p := ⟨w.heap.size + 1, 2, none⟩) (by show w.heap.size ≤ w.heap.size + 1; omega) _).setCell (p := ⟨w.heap.size + 1, 3, none⟩) (by show w.heap.size ≤ w.heap.size + 1; omega) _).setCell (p := ⟨w.heap.size + 1, 4, none⟩) (by show w.heap.size ≤ w.heap.size + 1; omega) _).setCell (p := ⟨w.heap.size + 1, 5, none⟩) (by show w.heap.size ≤ w.heap.size + 1; omega) _
theorem reached33_any (G : Gm) (hG : GOk G) (ka pa ra qa : Option Addr) (kc pc rc qc gb ob ub : Nat) (M : Nat) (w : World) (hM : M ≤ w.heap.size) (hg : GrAt M w G ka kc pa pc ra rc qa qc gb ob ub) :
    Calls Tryz.prog 32 #[.pointer (some ⟨gb, 0, none⟩), .func (.func 33) #[] #[]] w fun e w' => ∃ b : Nat, e = .returned (.slice (some ⟨b, 0, none⟩) G.rules.length G.rules.length) ∧ w'.rowIs b 4 G.rules.length (fun r => .bool (atF G r)) ∧ w.heap.size ≤ b ∧ Below w.heap.size w w' :=
  reached_any G hG ka pa ra qa kc pc rc qc gb ob ub M 33 #[] (fun _ => true) (fun _ => true) (fun _ _ => rfl) callF33 w hM hg (fun W q hq _ => (everyProd_any q W).mono fun e W' ⟨h1, h2⟩ => ⟨h1, by rw [h2]; exact Below.refl _ _⟩)
end Go.Proofs.YtagohbpbgjelaaaGreatDoor

/- The code's write, and rowBy. -/
namespace Go.Proofs.YtagohbpbgjelaaaGreatDoor
open Go.RowKit Go.Maps

def WritePost (G : Gm) (ρ : Nat → List Int) (st : Nat → Prop) (w0 : World) (wb gb cb mb r : Nat) (R : List Int) (M : Nat → Option (Nat × Nat)) (w' : World) : Prop := ∃ rv' M', WrAt w0.heap.size G.rules.length wb gb cb mb (R ++ ρ r) M' rv' w' ∧ SpI ρ (R ++ ρ r) M' ∧ (∀ s, M' s ≠ none → M s ≠ none ∨ st s) ∧ Below w0.heap.size w0 w'
set_option maxHeartbeats 4000000 in
set_option maxRecDepth 100000 in
theorem write_any (G : Gm) (hG : GOk G) (ka pa ra qa : Option Addr) (kc pc rc qc gb ob ub Mg : Nat) (w0 : World) (hMg : Mg ≤ w0.heap.size) (hg : GrAt Mg w0 G ka kc pa pc ra rc qa qc gb ob ub) (cb : Nat) (c : Nat → Int) (hcb : w0.rowIs cb 3 G.rules.length (fun r => .int .i64 (c r))) (ρ : Nat → List Int) (st : Nat → Nat → Prop) (hρ : RhoI G ρ c st) (hmono : ∀ n r, st n r → st (n + 1) r) (wb mb : Nat) :
    ∀ (n r : Nat), st n r → r < G.rules.length → ∀ (R : List Int) (M : Nat → Option (Nat × Nat)) (rv : Value) (w : World), Below w0.heap.size w0 w → WrAt w0.heap.size G.rules.length wb gb cb mb R M rv w → SpI ρ R M → R.length + (ρ r).length ≤ 65536 →
      Calls Tryz.prog 111 #[.pointer (some ⟨wb, 0, none⟩), .int .i64 (r : Nat)] w fun e w' => (∃ v, e = .returned v) ∧ WritePost G ρ (st n) w0 wb gb cb mb r R M w' := by
  intro n
  induction n with
  | zero => intro r h; exact absurd h (hρ.z r)
  | succ n ih =>
  intro r hst hr R M rv w hw hW hS hl
  have hr2 := hG.r2; have hk3 := hG.k3
  unfold Gm.nr at hr2
  unfold Gm.nk at hk3
  have hszw := hw.size
  by_cases hsn : st n r
  · refine (ih r hsn hr R M rv w hw hW hS hl).mono ?_
    rintro e w' ⟨he, rv', M', h1, h2, h3, h4⟩
    exact ⟨he, rv', M', h1, h2, fun s hs => (h3 s hs).imp id (hmono n s), h4⟩
  cases hM : M r with
  | some p =>
    obtain ⟨h1, h2, h3⟩ := hS r p.1 p.2 hM
    refine (write_found w0.heap.size G.rules.length wb gb cb mb r R M rv hr2 hr p h1 h2 (by rw [← h3] at hl; rw [List.length_drop, List.length_take] at hl; omega) hM w hszw hW).mono ?_
    rintro e w' ⟨he, rv', h4, h5⟩
    rw [h3] at h4
    exact ⟨he, rv', M, h4, sp_more hS, fun s hs => .inl hs, hw.trans h5⟩
  | none =>
    obtain ⟨i, hi, hci, hkids, hrow⟩ := hρ.prod n r hst
    obtain ⟨i3, hi3, hz30, hz31, hz32⟩ := info_parts info3
    have hgr := gr_kept hg (below_le hw hMg)
    obtain ⟨pb, off, rfl, hbB, rr, rrc, x3, x4, x5, x6, n6, c6, hrr, -, q0, q1, q2, q3, q4, q5, q6⟩ := qrow_at hgr.gin.prods hi
    have hpr := hG.pr _ (mem_getP hi)
    have hpy := hG.py _ (mem_getP hi)
    have hi' : (i : Int) < G.prods.length := by omega
    have hr' : (r : Int) < G.rules.length := by omega
    have hcr := (hcb.of_block (hw.block _ hcb.lt)).cell hr
    rw [hci] at hcr
    have hrr0 : NRow w0.heap.size w0 rr (G.prods.getD i pd0).right := by
      rcases hrr with h | ⟨b9, o9, h1, h2, h3⟩
      · exact .inl h
      · exact .inr ⟨b9, o9, h1, by omega, fun j hj => (hw.cell (p := ⟨b9, o9 + j, none⟩) (by show b9 < _; omega)).symm.trans (h3 j hj)⟩
    obtain ⟨va, vc, rfl⟩ := own_form hW.row
    have hbx := hW.bx
    have c0 : w.cell? ⟨wb, 0, none⟩ = some (.pointer (some ⟨gb, 0, none⟩)) := by unfold World.cell?; rw [hbx]; rfl
    have c1 : w.cell? ⟨wb, 1, none⟩ = some (.slice (some ⟨cb, 0, none⟩) G.rules.length G.rules.length) := by unfold World.cell?; rw [hbx]; rfl
    have c2 : w.cell? ⟨wb, 2, none⟩ = some (.slice va R.length vc) := by unfold World.cell?; rw [hbx]; rfl
    have c3 : w.cell? ⟨wb, 3, none⟩ = some (.map (some mb)) := by unfold World.cell?; rw [hbx]; rfl
    have g3 : w.cell? ⟨gb, 3, none⟩ = some (.slice (some ⟨pb, off, none⟩) G.prods.length qc) := by unfold World.cell?; rw [hgr.box]; rfl
    have hlk := wr_look hW hr hr2
    rw [hM] at hlk
    replace hlk : (Instr.lookup 156 (.map (some mb)) (.int .i64 (r : Nat)) true).run Tryz.prog w = .ok (.tuple #[.agg #[.int .i64 0, .int .i64 0], .bool false]) w := hlk
    have hlr : (ρ r).length = (((G.prods.getD i pd0).right.map (symR G.nk ρ)).flatten).length := by rw [hrow]
    have Hrow := hide hrow; have Hkids := hide hkids
    have Hle := hide (fun k (h : k ≤ (G.prods.getD i pd0).right.length) => preR_le (nk := G.nk) (ρ := ρ) h)
    have Hsc := hide (fun k (h : k < (G.prods.getD i pd0).right.length) => preR_succ (nk := G.nk) (ρ := ρ) h)
    have Hend : Hid (preR G.nk ρ (G.prods.getD i pd0).right (G.prods.getD i pd0).right.length = ρ r) := hide (by rw [hrow]; unfold preR; rw [List.take_length])
    have Hlr := hide hlr
    have hMr0 := hM
    clear hrow hkids hrr hbx hM hci hlr hgr
    generalize G.prods.getD i pd0 = p at *
    obtain ⟨pl, prt, plv, pac⟩ := p
    simp only at q1 hpr hpy hrr0 Hle Hsc Hend Hkids Hrow Hlr
    have hal : Below w.heap.size w (w.alloc (.cells #[.int .i64 0, .int .i64 0] 201)) := (Below.refl _ _).alloc (Nat.le_refl _) _
    have d0 := (hal.cell (p := ⟨wb, 0, none⟩) (World.block_lt_of_cell? w _ c0)).trans c0
    have d1 := (hal.cell (p := ⟨wb, 1, none⟩) (World.block_lt_of_cell? w _ c1)).trans c1
    have d2 := (hal.cell (p := ⟨wb, 2, none⟩) (World.block_lt_of_cell? w _ c2)).trans c2
    have e3 := (hal.cell (p := ⟨gb, 3, none⟩) (World.block_lt_of_cell? w _ g3)).trans g3
    have ecr := (hal.cell (p := ⟨cb, r, none⟩) (World.block_lt_of_cell? w _ hcr)).trans hcr
    have eq1 := (hal.cell (World.block_lt_of_cell? w _ q1)).trans q1
    have HW := hide (wr_below hW hal)
    have Hw := hide (hw.trans (below_le hal hszw))
    have HS := hide hS; have Hrr0 := hide hrr0; have Hpy := hide hpy
    clear hW hS hw hal hrr0 hpy q0 q1 q2 q3 q4 q5 q6
    go_enter Tryz.func111, Tryz.ntmps111
    go_wp2_with fail
    generalize w.alloc (.cells #[.int .i64 0, .int .i64 0] 201) = wA at *
    go_quiet (fail)
    go_wp2_with fail
    go_loopw [62] (fun x V => ∃ (k : Nat) (M' : Nat → Option (Nat × Nat)) (rv' : Value), x = .int .i64 k ∧ k ≤ prt.length ∧ WrAt w0.heap.size G.rules.length wb gb cb mb (R ++ preR G.nk ρ prt k) M' rv' V ∧ SpI ρ (R ++ preR G.nk ρ prt k) M' ∧ (∀ s, M' s ≠ none → M s ≠ none ∨ st n s) ∧ Below w0.heap.size w0 V) (fun x _ => prt.length - (intOf x).toNat)
    case atStart =>
      have e0 : R ++ preR G.nk ρ prt 0 = R := by simp [preR]
      exact ⟨0, M, _, rfl, Nat.zero_le _, by rw [e0]; exact wr_below (unhide HW) (below_drewN (Below.refl _ _) _), by rw [e0]; exact unhide HS, fun s hs => .inl hs, below_drewN (unhide Hw) _⟩
    case round =>
      clear HW HS Hw
      obtain ⟨k, M', rv', rfl, hk, hW, hS, hM', hb⟩ := hrel
      have hszv := hb.size
      obtain ⟨ua, uc, rfl⟩ := own_form hW.row
      have hlk2 := unhide Hle k hk
      have hlr := unhide Hlr
      have hln : (R ++ preR G.nk ρ prt k).length ≤ 65536 := by rw [List.length_append]; omega
      have hln0 : (R ++ preR G.nk ρ prt k).length = R.length + (preR G.nk ρ prt k).length := List.length_append
      have hbx := hW.bx
      have b0 : wr.cell? ⟨wb, 0, none⟩ = some (.pointer (some ⟨gb, 0, none⟩)) := by unfold World.cell?; rw [hbx]; rfl
      have b2 : wr.cell? ⟨wb, 2, none⟩ = some (.slice ua (R ++ preR G.nk ρ prt k).length uc) := by unfold World.cell?; rw [hbx]; rfl
      have f2 : wr.frozen? ⟨wb, 2, none⟩ = false := by unfold World.frozen?; rw [hbx]; rfl
      by_cases hkl : k < prt.length
      · have hkl' : (k : Int) < prt.length := by omega
        have hgr2 := gr_kept hg (below_le hb hMg)
        have hc0 : wr.cell? ⟨gb, 0, none⟩ = some (.slice ka G.kinds.length kc) := by unfold World.cell?; rw [hgr2.box]; rfl
        obtain ⟨b9, o9, rfl, hb9, hc9⟩ := nrow_at (nrow_kept hb (unhide Hrr0)) hkl
        have hxs := unhide Hpy _ (mem_getD hkl)
        unfold Gm.nk Gm.nr at hxs
        have HR := hide (rule_any gb (prt.getD k 0) G.kinds.length ka kc hk3 (by omega) wr hc0)
        have Hsk := hide (unhide Hsc k hkl)
        have hlk3 := unhide Hle (k + 1) hkl
        by_cases hru : (G.kinds.length : Int) ≤ prt.getD k 0
        · rw [if_pos hru, decide_eq_true hru] at HR
          obtain ⟨y, hy⟩ : ∃ y : Nat, prt.getD k 0 - G.kinds.length = (y : Int) := ⟨(prt.getD k 0 - G.kinds.length).toNat, by omega⟩
          have hyn : y < G.rules.length := by omega
          have ey : (prt.getD k 0 - G.nk).toNat = y := by show (prt.getD k 0 - (G.kinds.length : Nat)).toNat = y; omega
          have hsy : symR G.nk ρ (prt.getD k 0) = ρ y := by unfold symR; rw [if_neg (by show ¬ prt.getD k 0 < ((G.kinds.length : Nat) : Int); omega), ey]
          have hstk := unhide Hkids _ (mem_getD hkl) hru
          rw [ey] at hstk
          rw [hsy] at Hsk
          have hl3 : (R ++ preR G.nk ρ prt k).length + (ρ y).length ≤ 65536 := by
            have h1 := unhide Hsk
            have h2 := congrArg List.length h1
            rw [List.length_append] at h2
            omega
          have HIH := hide (ih y hstk hyn _ M' _ wr hb hW hS hl3)
          rw [hy] at HR
          have HM' := hide hM'
          have Hsk2 : Hid (R ++ preR G.nk ρ prt (k + 1) = (R ++ preR G.nk ρ prt k) ++ ρ y) := hide (by rw [unhide Hsk, List.append_assoc])
          clear hW hS hb hbx hsy hl3 hln0 hM' f2 hgr2 Hsk hlk2 hlk3
          generalize prt.getD k 0 = x at *
          generalize R ++ preR G.nk ρ prt k = RR at *
          go_wp2_with fail
          refine (unhide HR).mono ?_
          rintro e w9 ⟨rfl, rfl⟩
          go_wp2_with fail
          refine (unhide HIH).mono ?_
          rintro e W5 ⟨⟨v5, rfl⟩, rv5, M5, hW5, hS5, hM5, hb5⟩
          rw [← unhide Hsk2] at hW5 hS5
          have HW5 := hide hW5; have HS5 := hide hS5; have Hb5 := hide hb5
          have HM5 := hide (show ∀ s, M5 s ≠ none → M s ≠ none ∨ st n s from fun s hs => (hM5 s hs).elim (unhide HM' s) .inr)
          clear hW5 hS5 hM5 hb5
          go_wp2
          go_roundw
          case rel => exact ⟨k + 1, M5, rv5, by go_num, by omega, unhide HW5, unhide HS5, unhide HM5, unhide Hb5⟩
          case measure => simp [intOf]; omega
        · rw [if_neg hru, decide_eq_false hru] at HR
          have hsy : symR G.nk ρ (prt.getD k 0) = [prt.getD k 0] := by unfold symR; rw [if_pos (by show prt.getD k 0 < ((G.kinds.length : Nat) : Int); omega)]
          rw [hsy] at Hsk
          have Hsk2 : Hid (R ++ preR G.nk ρ prt (k + 1) = (R ++ preR G.nk ρ prt k) ++ [prt.getD k 0]) := hide (by rw [unhide Hsk, List.append_assoc])
          have hl3 : (R ++ preR G.nk ρ prt k).length + 1 ≤ 65536 := by
            have h2 := congrArg List.length (unhide Hsk)
            rw [List.length_append, List.length_singleton] at h2
            omega
          have HW := hide hW; have HS := hide hS; have HM' := hide hM'; have Hb := hide hb
          clear hW hS hb hM' hsy hln0 Hsk hlk2 hlk3 hgr2 hbx
          generalize prt.getD k 0 = x at *
          generalize R ++ preR G.nk ρ prt k = RR at *
          go_wp2_with fail
          refine (unhide HR).mono ?_
          rintro e w9 ⟨rfl, rfl⟩
          go_wp2_with (at_builtin; refine wpList_append_lies _ rfl _ _ 27 rfl w0.heap.size 3 i3 (.int .i64 0) 1 8 Tryz.underlying27 hi3 hz30 hz31 hz32 rfl (by decide) _ _ _ rfl ((unhide HW).row.alloc _) ⟨wr.heap.size, 0, none⟩ 1 1 [.int .i64 x] rfl rfl (new1 _ _ _) ?zc2 (by decide) ?zc3 ?zc4 ?zc5 (wr.heap.size + 1) (by simp) ?_)
          case zc2 => intro u hu; simp at hu; subst hu; rfl
          case zc3 => unfold maxLen; omega
          case zc4 => omega
          case zc5 => simp; omega
          intro g7 cap7 W7 hown7 hgrow hg7 hl7
          have hal : Below wr.heap.size wr (wr.alloc (.cells #[.int .i64 x] 3)) := (Below.refl _ _).alloc (Nat.le_refl _) _
          have hown8 : W7.ownsRow w0.heap.size 3 1 (.slice (some ⟨g7, 0, none⟩) (RR.length + 1) cap7) (RR ++ [x]).length (vints (RR ++ [x])) := by rw [← vints_snoc, List.length_append]; exact hown7
          have hT7 := wr_push (unhide HW) hal hgrow hown8
          have hbn : (Value.slice ua RR.length uc).ownBlock ≠ some wb := own_other (unhide HW).row (unhide HW).bx (by decide)
          have hbx7 : W7.heap[wb]? = _ := ((hgrow.block wb (by have := (Array.getElem?_eq_some_iff.1 (unhide HW).bx).1; have := hal.size; omega) (fun e => hbn e.symm)).trans (hal.block wb (Array.getElem?_eq_some_iff.1 (unhide HW).bx).1)).trans (unhide HW).bx
          have k2 : W7.cell? ⟨wb, 2, none⟩ = some (.slice ua RR.length uc) := by unfold World.cell?; rw [hbx7]; rfl
          have q2 : W7.frozen? ⟨wb, 2, none⟩ = false := by unfold World.frozen?; rw [hbx7]; rfl
          have hb7 : Below w0.heap.size w0 (W7.setCell ⟨wb, 2, none⟩ (.slice (some ⟨g7, 0, none⟩) (RR.length + 1) cap7)) := (((unhide Hb).trans (below_le hal hszv)).grown hgrow (by have := hal.size; omega) (fun j hj => ((unhide HW).row.lt j hj).1)).setCell (unhide HW).b1 _
          have hS7 : SpI ρ (RR ++ [x]) M' := sp_more (unhide HS)
          rw [← unhide Hsk2] at hT7 hS7
          have HT7 := hide hT7; have Hb7 := hide hb7; have HS7 := hide hS7
          clear hT7 hb7 hS7 hbn hbx7 hal hown7 hown8 hgrow hg7 hl7
          go_wp2
          go_roundw
          case rel => exact ⟨k + 1, M', _, by go_num, by omega, unhide HT7, unhide HS7, unhide HM', unhide Hb7⟩
          case measure => simp [intOf]; omega
      · obtain rfl : k = prt.length := by omega
        rw [unhide Hend] at hW hS b2 hln
        have hMr : M' r = none := by
          cases h : M' r with
          | none => rfl
          | some q =>
            rcases hM' r (by rw [h]; simp) with h1 | h1
            · exact absurd hMr0 h1
            · exact absurd h1 hsn
        have hS9 : SpI ρ (R ++ ρ r) (upM M' r (R.length, (R ++ ρ r).length)) := sp_put hS (by rw [List.length_append]; omega) (by rw [List.drop_left])
        obtain ⟨W9, hrun, hW9, hb9⟩ := wr_put (wr_below hW (Below.refl _ _).drew) hr hr2 hszv hMr (R.length, (R ++ ρ r).length)
        replace hrun : (Instr.mapUpdate 156 (.map (some mb)) (.int .i64 (r : Nat)) (.agg #[.int .i64 (R.length : Nat), .int .i64 ((R ++ ρ r).length : Nat)])).run Tryz.prog wr.drew = .ok () W9 := hrun
        have b3 : wr.cell? ⟨wb, 3, none⟩ = some (.map (some mb)) := by unfold World.cell?; rw [hbx]; rfl
        have Hfin : Hid (WritePost G ρ (st (n + 1)) w0 wb gb cb mb r R M W9) := hide ⟨_, _, hW9, hS9, fun s hs => by
          unfold upM at hs
          by_cases e : s = r
          · subst e; exact .inr hst
          · rw [if_neg e] at hs; exact (hM' s hs).imp id (hmono n s), hb.drew.trans hb9⟩
        clear hW hS hb hM' hMr hS9 hW9 hb9 hbx hlk2 hlr hln0
        generalize R ++ ρ r = RR at *
        go_wp2_with fail
        go_region
        all_goals (go_end0; exact ⟨⟨_, rfl⟩, unhide Hfin⟩)
set_option maxHeartbeats 2000000 in
set_option maxRecDepth 100000 in
theorem rowBy_any (G : Gm) (hG : GOk G) (ka pa ra qa : Option Addr) (kc pc rc qc gb ob ub Mg : Nat) (w : World) (hMg : Mg ≤ w.heap.size) (hg : GrAt Mg w G ka kc pa pc ra rc qa qc gb ob ub) (cb : Nat) (c : Nat → Int) (hcb : w.rowIs cb 3 G.rules.length (fun r => .int .i64 (c r))) (ρ : Nat → List Int) (st : Nat → Nat → Prop) (hρ : RhoI G ρ c st) (hmono : ∀ n r, st n r → st (n + 1) r)
    (n r : Nat) (hst : st n r) (hr : r < G.rules.length) (hl : (ρ r).length ≤ 65536) :
    Calls Tryz.prog 68 #[.pointer (some ⟨gb, 0, none⟩), .int .i64 (r : Nat), .slice (some ⟨cb, 0, none⟩) G.rules.length G.rules.length] w fun e w' => ∃ v, e = .returned v ∧ w'.ownsRow w.heap.size 3 1 v (ρ r).length (vints (ρ r)) ∧ Below w.heap.size w w' := by
  have hmm := @run_makeMap Tryz.prog
  have hr2 := hG.r2
  unfold Gm.nr at hr2
  obtain ⟨w1, hw1⟩ : ∃ w1, w1 = (w.alloc (.map #[] 0)).alloc (.cells #[.pointer (some ⟨gb, 0, none⟩), .slice (some ⟨cb, 0, none⟩) G.rules.length G.rules.length, .slice none 0 0, .map (some w.heap.size)] 158) := ⟨_, rfl⟩
  have hb1 : Below w.heap.size w w1 := by rw [hw1]; exact ((Below.refl _ _).alloc (Nat.le_refl _) _).alloc (by simp) _
  have hbx : w1.heap[w.heap.size + 1]? = some (.cells #[.pointer (some ⟨gb, 0, none⟩), .slice (some ⟨cb, 0, none⟩) G.rules.length G.rules.length, .slice none 0 0, .map (some w.heap.size)] 158 (0, 0)) := by
    have := Go.Deep.blk_alloc_new (w.alloc (.map #[] 0)) (.cells #[.pointer (some ⟨gb, 0, none⟩), .slice (some ⟨cb, 0, none⟩) G.rules.length G.rules.length, .slice none 0 0, .map (some w.heap.size)] 158 (0, 0))
    rw [World.size_alloc] at this
    rw [hw1]; exact this
  have hmap : w1.ownsMap (H := Unit) Tryz.prog 3 spanE w.heap.size (cntM (fun _ => none) G.rules.length) (.map []) := by
    rw [cntM_none, hw1]
    exact map_fr (O := fun _ => False) (World.ownsMap_made (H := Unit) w Tryz.prog 3 spanE) (below_fr ((Below.refl _ _).alloc (Nat.le_refl _) _)) (fun h => h)
  have hW : WrAt w.heap.size G.rules.length (w.heap.size + 1) gb cb w.heap.size [] (fun _ => none) (.slice none 0 0) w1 := ⟨hbx, World.ownsRow_nil _ _ _ _, ⟨_, hmap, fun s _ => ⟨by simp [Maps.has], by simp [DataW.atKey]⟩⟩, by omega, Nat.le_refl _⟩
  have HWr := hide (write_any G hG ka pa ra qa kc pc rc qc gb ob ub Mg w hMg hg cb c hcb ρ st hρ hmono (w.heap.size + 1) w.heap.size n r hst hr [] (fun _ => none) _ w1 hb1 hW (fun s a b h => by cases h) (by simpa using hl))
  clear hb1 hbx hmap hW
  go_enter Tryz.func68, Tryz.ntmps68
  go_wp2_with fail
  rw [← hw1]
  clear hw1
  refine (unhide HWr).mono ?_
  rintro e W5 ⟨⟨v5, rfl⟩, rv5, M5, hW5, -, -, hb5⟩
  have c2 : W5.cell? ⟨w.heap.size + 1, 2, none⟩ = some rv5 := by unfold World.cell?; rw [hW5.bx]; rfl
  have Ho5 := hide hW5.row; have Hb5 := hide hb5
  obtain ⟨a5, c5, rfl⟩ := own_form hW5.row
  clear hW5 hb5
  go_wp2
  go_ret
  exact ⟨_, rfl, by simpa using unhide Ho5, unhide Hb5⟩
end Go.Proofs.YtagohbpbgjelaaaGreatDoor

/- Plain mathematics: after some rounds nothing more is chosen. -/
namespace Go.Proofs.YtagohbpbgjelaaaGreatDoor
open Go.RowKit

def cntZ (f : Nat → Int) : Nat → Nat
  | 0 => 0
  | k + 1 => cntZ f k + if 0 ≤ f k then 1 else 0
theorem cntZ_le (f : Nat → Int) : ∀ k, cntZ f k ≤ k
  | 0 => Nat.le_refl _
  | k + 1 => by unfold cntZ; have := cntZ_le f k; split <;> omega
theorem cntZ_mono {f g : Nat → Int} (h : ∀ r, 0 ≤ f r → 0 ≤ g r) : ∀ k, cntZ f k ≤ cntZ g k
  | 0 => Nat.le_refl _
  | k + 1 => by
    unfold cntZ
    have := cntZ_mono h k
    by_cases e : 0 ≤ f k
    · rw [if_pos e, if_pos (h k e)]; omega
    · rw [if_neg e]; omega
theorem cntZ_lt {f g : Nat → Int} (h : ∀ r, 0 ≤ f r → 0 ≤ g r) {s : Nat} (h1 : ¬ 0 ≤ f s) (h2 : 0 ≤ g s) : ∀ k, s < k → cntZ f k < cntZ g k
  | 0, hs => by omega
  | k + 1, hs => by
    unfold cntZ
    by_cases e : s = k
    · subst e
      rw [if_neg h1, if_pos h2]
      have := cntZ_mono h s
      omega
    · have := cntZ_lt h h1 h2 k (by omega)
      by_cases e2 : 0 ≤ f k
      · rw [if_pos e2, if_pos (h k e2)]; omega
      · rw [if_neg e2]; omega
theorem chR_keep {G : Gm} {f was : Nat → Int} {r : Nat} (h : 0 ≤ was r) : chR G f was r = was r := chTo_was h _
theorem chR_diff {G : Gm} (hG : GOk G) {f was : Nat → Int} (h : chR G f was ≠ was) : ∃ s, s < G.nr ∧ ¬ 0 ≤ was s ∧ 0 ≤ chR G f was s := by
  refine Classical.byContradiction fun hno => h (funext fun r => ?_)
  by_cases h0 : 0 ≤ was r
  · exact chR_keep h0
  · by_cases h1 : 0 ≤ chR G f was r
    · refine absurd ⟨r, ?_, h0, h1⟩ hno
      rcases chTo_what _ h1 with ⟨h2, -⟩ | ⟨i, hi, -, rfl, -⟩
      · exact absurd h2 h0
      · have := hG.pl _ (mem_getP hi)
        omega
    · have key : ∀ k, chTo G f was k r = was r ∨ 0 ≤ chTo G f was k r := by
        intro k
        induction k with
        | zero => exact .inl rfl
        | succ k ih =>
          unfold chTo
          split
          · unfold updI
            split
            · exact .inr (by omega)
            · exact ih
          · exact ih
      exact (key _).elim id (fun h2 => absurd h2 h1)
theorem chosen_ex' {G : Gm} (hG : GOk G) (f : Nat → Int) : ∃ c, ChosenIs G f c := by
  refine Classical.byContradiction fun hno => ?_
  have hne : ∀ n, chR G f (chS G f n) ≠ chS G f n := fun n h => hno ⟨_, n, rfl, h⟩
  have hc : ∀ n, n ≤ cntZ (chS G f n) G.nr := by
    intro n
    induction n with
    | zero => exact Nat.zero_le _
    | succ n ih =>
      obtain ⟨s, h1, h2, h3⟩ := chR_diff hG (hne n)
      have : cntZ (chS G f n) G.nr < cntZ (chS G f (n + 1)) G.nr := cntZ_lt (fun r hr => by
        show 0 ≤ chR G f (chS G f n) r
        rw [chR_keep hr]; exact hr) h2 h3 _ h1
      omega
  have h1 := hc (G.nr + 1)
  have h2 := cntZ_le (chS G f (G.nr + 1)) G.nr
  omega
end Go.Proofs.YtagohbpbgjelaaaGreatDoor

/- The code's Row. -/
namespace Go.Proofs.YtagohbpbgjelaaaGreatDoor
open Go.RowKit

def RowYes (G : Gm) (r : Nat) (w : World) (e : Ending) (w' : World) : Prop := ∃ a c, e = .returned (.tuple #[.slice a (rowOf G r).length c, .int .i64 0]) ∧ NRow w'.heap.size w' a (rowOf G r) ∧ (rowOf G r).length ≤ 65536 ∧ Below w.heap.size w w'
theorem least_bounds {G : Gm} {f : Nat → Int} (h : LeastIs G f) (x : Nat) : -1 ≤ f x ∧ f x ≤ 65537 := by
  rcases h.1 x with h1 | ⟨h1, h2, -⟩ <;> omega
theorem row_ready {G : Gm} (hG : GOk G) {c : Nat → Int} {el : Nat → Bool} {n : Nat} (hc : c = stN (lfN G) (rlN G) el G.prods.length n) (hs : stT (lfN G) (rlN G) el G.prods.length c = c) (hel : ∀ q, q < G.prods.length → el q = decide (lnN G (lstF G) q = lstF G (lfN G q))) (hf : LeastIs G (lstF G)) {r : Nat} (h0 : 0 ≤ lstF G r) (h1 : lstF G r ≤ 65536) :
    ∃ n9, (fun n r => 0 ≤ chS G (lstF G) n r ∧ lstF G r ≤ 65536) n9 r ∧ RhoI G (fun r => rowOf G r) c (fun n r => 0 ≤ chS G (lstF G) n r ∧ lstF G r ≤ 65536) ∧ (rowOf G r).length ≤ 65536 ∧ ∀ n r, (0 ≤ chS G (lstF G) n r ∧ lstF G r ≤ 65536) → (0 ≤ chS G (lstF G) (n + 1) r ∧ lstF G r ≤ 65536) := by
  obtain ⟨c', hch⟩ := chosen_ex' hG (lstF G)
  obtain ⟨rfl, hF⟩ := chF_is hch
  have hst : 0 ≤ chS G (lstF G) (chN G) r := chosen_all hf (c := chF G) hF.choose_spec.2 (lstF G r).toNat r (by omega)
  refine ⟨chN G, ⟨hst, h1⟩, ⟨(rho_spl hF).z, fun n r ⟨h2, h3⟩ => ?_⟩, ?_, fun n r ⟨h2, h3⟩ => ⟨by rw [chS_mono h2 1]; exact h2, h3⟩⟩
  · obtain ⟨i, hi, h4, h5, h6⟩ := (rho_spl hF).prod n r ⟨h2, h3⟩
    exact ⟨i, hi, (short_chosen hel hc hs hF h3).trans h4, h5, h6⟩
  · have ex : ((G.nk : Int) + r - G.nk).toNat = r := by omega
    have hh : HasC G (lstF G) (chN G) ((G.nk : Int) + r) := .inr (by rw [ex]; exact hst)
    have hl : lnX G.nk (lstF G) ((G.nk : Int) + r) ≤ 65536 := by
      unfold lnX
      rw [if_pos (by omega), ex]
      exact h1
    have h9 : ((rowOf G r).length : Int) = lnX G.nk (lstF G) ((G.nk : Int) + r) := splF_len (agree_of hF) (chN G) _ hh hl
    omega
set_option maxHeartbeats 2000000 in
set_option maxRecDepth 100000 in
theorem rowyes26 (G : Gm) (hc : checkB G = true) (ka pa ra qa : Option Addr) (kc pc rc qc : Nat) (r : Nat) (hr : r < G.rules.length) (hf : LeastIs G (lstF G)) (hfr : 0 ≤ lstF G r ∧ lstF G r ≤ 65536) (w : World) (hin : GIn w.heap.size w G ka pa ra qa) : Calls Tryz.prog 26 #[gV G ka pa ra qa kc pc rc qc, .int .i64 (r : Int)] w fun e w' => RowYes G r w e w' := by
  have hG := check_ok hc
  have hst := gst_new (kc := kc) (pc := pc) (rc := rc) (qc := qc) (Nat.le_refl _) hin 26
  have hb1 : Below w.heap.size w (w.alloc (.cells #[.slice ka G.kinds.length kc, .slice pa G.precs.length pc, .slice ra G.rules.length rc, .slice qa G.prods.length qc, .int .i64 G.start] 26)) := (Below.refl _ _).alloc (Nat.le_refl _) _
  have HM := hide (mayBe_any G ka pa ra qa kc pc rc qc _ (gin_up hin hb1) (smG_ok hG))
  rw [hc] at HM
  have Hb1 := hide hb1; have Hst := hide hst; have Hin := hide hin
  have hnot := run_not
  have hs1 : (w.alloc (.cells #[.slice ka G.kinds.length kc, .slice pa G.precs.length pc, .slice ra G.rules.length rc, .slice qa G.prods.length qc, .int .i64 G.start] 26)).heap.size = w.heap.size + 1 := by simp
  clear hst hb1 hin hc
  go_enter Tryz.func26, Tryz.ntmps26
  go_wp2_with fail
  generalize w.alloc (.cells #[.slice ka G.kinds.length kc, .slice pa G.precs.length pc, .slice ra G.rules.length rc, .slice qa G.prods.length qc, .int .i64 G.start] 26) = w1 at *
  refine (unhide HM).mono ?_
  rintro e w2 ⟨rfl, hb2⟩
  have hs2 := hb2.size
  have hbw2 := (unhide Hb1).trans (below_le hb2 (by omega))
  have hst2 := gst_kept (below_le hb2 (by omega)) (Nat.le_refl _) (unhide Hst)
  have d0 := hst2.c0; have d1 := hst2.c1; have d2 := hst2.c2; have d3 := hst2.c3; have d4 := hst2.c4
  have HA := hide (isRule_any ka pa ra qa G.kinds.length kc G.precs.length pc G.rules.length rc G.prods.length qc G.start (r : Int) w2)
  have hdec : decide (0 ≤ (r : Int) ∧ (r : Int) < G.rules.length) = true := decide_eq_true (by omega)
  rw [hdec] at HA
  have Hbw2 := hide hbw2
  have hs2w : w.heap.size + 1 ≤ w2.heap.size := by omega
  clear hb2 hbw2 hst2 HM hdec
  go_wp2_with fail
  refine (unhide HA).mono ?_
  rintro e w3 ⟨rfl, hb3⟩
  have hs3 := hb3.size
  have hbw3 := (unhide Hbw2).trans (below_le hb3 (by omega))
  have e0 := (hb3.cell (p := ⟨w.heap.size, 0, none⟩) (by show w.heap.size < _; omega)).trans d0
  have e1 := (hb3.cell (p := ⟨w.heap.size, 1, none⟩) (by show w.heap.size < _; omega)).trans d1
  have e2 := (hb3.cell (p := ⟨w.heap.size, 2, none⟩) (by show w.heap.size < _; omega)).trans d2
  have e3 := (hb3.cell (p := ⟨w.heap.size, 3, none⟩) (by show w.heap.size < _; omega)).trans d3
  have e4 := (hb3.cell (p := ⟨w.heap.size, 4, none⟩) (by show w.heap.size < _; omega)).trans d4
  have HNG := hide (newGrammar_any G hG ka pa ra qa kc pc rc qc w3 (gin_up (unhide Hin) hbw3))
  have Hbw3 := hide hbw3
  clear hb3 hbw3 d0 d1 d2 d3 d4 HA
  go_wp2_with fail
  refine (unhide HNG).mono ?_
  rintro e w4 ⟨gb, ob, ub, rfl, hg4, hb4⟩
  have hs4 := hb4.size
  have Hg4 := hide hg4
  have HLE := hide (leasts_any G hG ka pa ra qa kc pc rc qc gb ob ub w4.heap.size w4 (Nat.le_refl _) hg4)
  have Hbw4 := hide ((unhide Hbw3).trans (below_le hb4 (by have := (unhide Hbw3).size; omega)))
  clear hg4 hb4 HNG e0 e1 e2 e3 e4
  go_wp2_with fail
  refine (unhide HLE).mono ?_
  rintro e w5 ⟨b, L, rfl, hrow, hL, hbb, hb5⟩
  have Hbw5 := hide ((unhide Hbw4).trans (below_le hb5 (unhide Hbw4).size))
  have lc := hrow.cell hr
  have hr' : (r : Int) < G.rules.length := by omega
  obtain rfl := least_uniq hf hL
  have hs5 := hb5.size
  have hg5 := gr_kept (unhide Hg4) hb5
  have HSH := hide (shortest_any G hG ka pa ra qa kc pc rc qc gb ob ub w4.heap.size b (lstF G) (least_bounds hf) w5 hs5 hg5 hrow)
  have Hg5 := hide hg5
  obtain ⟨hlo, hhi⟩ := hfr
  have hn1 : decide (lstF G r = -1) = false := decide_eq_false (by omega)
  have hn2 : decide (lstF G r = 65537) = false := decide_eq_false (by omega)
  have Hf := hide hf; have Hlo := hide hlo; have Hhi := hide hhi
  generalize hv : lstF G r = lv at *
  clear hb5 HLE hL hrow hf hg5
  go_wp2_with fail
  refine (unhide HSH).mono ?_
  rintro e w6 ⟨b6, n6, c6, el6, rfl, hr6, hc6, hs6, he6, hbb6, hb6⟩
  have hg6 := gr_kept (unhide Hg5) (below_le hb6 hs5)
  obtain ⟨n9, hst9, hρ, hl9, hmono⟩ := row_ready hG hc6 hs6 he6 (unhide Hf) (by rw [hv]; exact unhide Hlo) (by rw [hv]; exact unhide Hhi)
  have HRB := hide (rowBy_any G hG ka pa ra qa kc pc rc qc gb ob ub w4.heap.size w6 (by have := hb6.size; omega) hg6 b6 c6 hr6 (fun r => rowOf G r) _ hρ hmono n9 r hst9 hr hl9)
  have Hb6 := hide ((unhide Hbw5).trans (below_le hb6 (unhide Hbw5).size))
  have hl9' : (rowOf G r).length ≤ 65536 := hl9
  clear hg6 hρ hst9 hmono hb6 hr6 hc6 hs6 he6 HSH hl9
  go_wp2_with fail
  refine (unhide HRB).mono ?_
  rintro e w7 ⟨v7, rfl, ho7, hb7⟩
  obtain ⟨a7, c7, rfl, hn7⟩ := own_nrow ho7
  have Hn7 := hide hn7
  have Hb7 := hide ((unhide Hb6).trans (below_le hb7 (unhide Hb6).size))
  clear ho7 hb7 hn7 HRB
  generalize hRL : rowOf G r = RL at *
  go_wp2
  refine bodyPost_ret (v := .tuple #[.slice a7 RL.length c7, .int .i64 0]) ?zz9 rfl ⟨a7, c7, by rw [hRL], by rw [hRL]; exact unhide Hn7, by rw [hRL]; exact hl9', unhide Hb7⟩
  case zz9 => simp [results, Tryz.results26, go_sem]
set_option maxRecDepth 100000 in
theorem row26C : RowC 26 := fun G ka pa ra qa kc pc rc qc rule w hin hsm => by
  cases hc : checkB G with
  | false =>
    refine (rowno26 G hc ka pa ra qa kc pc rc qc rule w hin hsm).mono ?_
    rintro e w' ⟨rfl, hb⟩
    have hV : rwV G rule = 130 := by unfold rwV lsV; rw [hc]; rfl
    have hL : rwL G rule = [] := by unfold rwL; rw [hV]; rfl
    exact ⟨none, 0, by rw [hV, hL]; rfl, by rw [hL]; exact .inl rfl, by rw [hL]; exact Nat.zero_le _, hb⟩
  | true =>
    by_cases hr : rule < 0 ∨ (G.rules.length : Int) ≤ rule
    · refine (rowout26 G hc ka pa ra qa kc pc rc qc rule hr w hin).mono ?_
      rintro e w' ⟨rfl, hb⟩
      have hV : rwV G rule = 1 := by unfold rwV lsV; rw [hc, if_pos rfl, if_pos hr]; rfl
      have hL : rwL G rule = [] := by unfold rwL; rw [hV]; rfl
      exact ⟨none, 0, by rw [hV, hL]; rfl, by rw [hL]; exact .inl rfl, by rw [hL]; exact Nat.zero_le _, hb⟩
    · obtain ⟨r, rfl⟩ : ∃ r : Nat, rule = (r : Int) := ⟨rule.toNat, by omega⟩
      have hrn : r < G.rules.length := by omega
      obtain ⟨f0, hf0⟩ := least_ex G
      have hf : LeastIs G (lstF G) := by rw [lstF_is hf0]; exact hf0
      have h0 : lsV G (r : Int) = 0 := by unfold lsV; rw [hc, if_pos rfl, if_neg hr]
      have h1 : lsB G (r : Int) = decide (0 ≤ lstF G r) := by unfold lsB; rw [hc, if_pos rfl, if_neg hr, Int.toNat_natCast]
      have h2 : lsN G (r : Int) = max (lstF G r) 0 := by unfold lsN; rw [hc, if_pos rfl, if_neg hr, Int.toNat_natCast]
      have hbd := least_bounds hf r
      by_cases hok : 0 ≤ lstF G r ∧ lstF G r ≤ 65536
      · refine (rowyes26 G hc ka pa ra qa kc pc rc qc r hrn hf hok w hin).mono ?_
        rintro e w' ⟨a, c, rfl, h3, h4, hb⟩
        have hV : rwV G (r : Int) = 0 := by unfold rwV; rw [h0, h1, h2, if_pos rfl, decide_eq_true hok.1, if_pos rfl, if_neg (by omega)]
        have hL : rwL G (r : Int) = rowOf G r := by unfold rwL; rw [hV, if_pos rfl, Int.toNat_natCast]
        exact ⟨a, c, by rw [hV, hL], by rw [hL]; exact h3, by rw [hL]; exact h4, hb⟩
      · refine (rownone26 G hc ka pa ra qa kc pc rc qc r hrn (lstF G) hf (by omega) w hin).mono ?_
        rintro e w' ⟨rfl, hb⟩
        have hV : rwV G (r : Int) = if lstF G r = -1 then 8 else 3 := by
          unfold rwV
          rw [h0, h1, h2, if_pos rfl]
          by_cases e : lstF G r = -1
          · rw [if_pos e, if_neg (by rw [decide_eq_true_eq]; omega)]
          · rw [if_neg e, if_pos (by rw [decide_eq_true_eq]; omega), if_pos (by omega)]
        have hL : rwL G (r : Int) = [] := by unfold rwL; rw [hV, if_neg (by split <;> omega)]
        exact ⟨none, 0, by rw [hV, hL]; rfl, by rw [hL]; exact .inl rfl, by rw [hL]; exact Nat.zero_le _, hb⟩
end Go.Proofs.YtagohbpbgjelaaaGreatDoor

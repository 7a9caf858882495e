/- The code's productions. -/
import Derived.Test.YtagohbpbgjelaaaGreatDoorGC
import Derived.Test.YtagohbpbgjelaaaGreatDoorA5
import Derived.Test.YtagohbpbgjelaaaGreatDoorY1
import Derived.Test.YtagohbpbgjelaaaGreatDoorTK
import Derived.Test.YtagohbpbgjelaaaGreatDoorWkK1
import Derived.Test.YtagohbpbgjelaaaGreatDoorTB
namespace Go.Proofs.YtagohbpbgjelaaaGreatDoor
open Go.RowKit

set_option maxHeartbeats 2000000 in
set_option maxRecDepth 100000 in
theorem prod_any (ka pa ra qa : Option Addr) (nk kc pn pc nr rc qn qc : Nat) (st : Int) (hnk : nk ≤ 1024) (hnr : nr ≤ 2048) (p : Pd) (B : Nat) (w : World) (hB : B ≤ w.heap.size) (rr : Option Addr) (rrc : Nat) (x3 x4 : Int) (x5 : ByteArray) (x6 : Option Addr) (n6 c6 : Nat) (hrr : NRow B w rr p.right) (hac : AcAt B w p.act (.int .i64 x3) (.int .i64 x4) (.string x5) (.slice x6 n6 c6)) (hsm : p.right.length ≤ 281474976710656) :
    Calls Tryz.prog 119 #[.agg #[.slice ka nk kc, .slice pa pn pc, .slice ra nr rc, .slice qa qn qc, .int .i64 st], .agg #[.int .i64 p.left, .slice rr p.right.length rrc, .int .i64 p.level, .int .i64 x3, .int .i64 x4, .string x5, .slice x6 n6 c6]] w fun e w' => e = .returned (.bool (prodB nk nr p)) ∧ Below w.heap.size w w' := by
  obtain ⟨pl, prt, plv, pac⟩ := p
  simp only at hrr hac hsm ⊢
  have hnot := run_not
  obtain ⟨W2, hW2⟩ : ∃ W2, W2 = (w.alloc (.cells #[.slice ka nk kc, .slice pa pn pc, .slice ra nr rc, .slice qa qn qc, .int .i64 st] 26)).alloc (.cells #[.int .i64 pl, .slice rr prt.length rrc, .int .i64 plv, .int .i64 x3, .int .i64 x4, .string x5, .slice x6 n6 c6] 89) := ⟨_, rfl⟩
  have HX : Hid (∀ W : World, Below W2.heap.size W2 W → (W.cell? ⟨w.heap.size, 0, none⟩ = some (.slice ka nk kc) ∧ W.cell? ⟨w.heap.size, 1, none⟩ = some (.slice pa pn pc) ∧ W.cell? ⟨w.heap.size, 2, none⟩ = some (.slice ra nr rc) ∧ W.cell? ⟨w.heap.size, 3, none⟩ = some (.slice qa qn qc) ∧ W.cell? ⟨w.heap.size, 4, none⟩ = some (.int .i64 st)) ∧ (W.cell? ⟨w.heap.size + 1, 0, none⟩ = some (.int .i64 pl) ∧ W.cell? ⟨w.heap.size + 1, 1, none⟩ = some (.slice rr prt.length rrc) ∧ W.cell? ⟨w.heap.size + 1, 2, none⟩ = some (.int .i64 plv) ∧ W.cell? ⟨w.heap.size + 1, 3, none⟩ = some (.int .i64 x3) ∧ W.cell? ⟨w.heap.size + 1, 4, none⟩ = some (.int .i64 x4) ∧ W.cell? ⟨w.heap.size + 1, 5, none⟩ = some (.string x5) ∧ W.cell? ⟨w.heap.size + 1, 6, none⟩ = some (.slice x6 n6 c6)) ∧ Below w.heap.size w W ∧ w.heap.size + 2 ≤ W.heap.size) := hide (by
    obtain ⟨g0, g1, g2, g3, g4, hs1, hb1⟩ := boxG w (.slice ka nk kc) (.slice pa pn pc) (.slice ra nr rc) (.slice qa qn qc) (.int .i64 st) 26
    obtain ⟨p0, p1, p2, p3, p4, p5, p6, hs2, hb2⟩ := boxP (w.alloc (.cells #[.slice ka nk kc, .slice pa pn pc, .slice ra nr rc, .slice qa qn qc, .int .i64 st] 26)) (.int .i64 pl) (.slice rr prt.length rrc) (.int .i64 plv) (.int .i64 x3) (.int .i64 x4) (.string x5) (.slice x6 n6 c6) 89
    rw [← hW2] at p0 p1 p2 p3 p4 p5 p6 hs2 hb2
    rw [hs1] at p0 p1 p2 p3 p4 p5 p6 hs2 hb2
    intro W hb
    have hb3 := hb2.trans (below_le hb (by omega))
    have k1 := fun (j : Nat) (v : Value) (h : (w.alloc (.cells #[.slice ka nk kc, .slice pa pn pc, .slice ra nr rc, .slice qa qn qc, .int .i64 st] 26)).cell? ⟨w.heap.size, j, none⟩ = some v) => (hb3.cell (p := ⟨w.heap.size, j, none⟩) (by show w.heap.size < _; omega)).trans h
    have k2 := fun (j : Nat) (v : Value) (h : W2.cell? ⟨w.heap.size + 1, j, none⟩ = some v) => (hb.cell (p := ⟨w.heap.size + 1, j, none⟩) (by show w.heap.size + 1 < _; omega)).trans h
    exact ⟨⟨k1 _ _ g0, k1 _ _ g1, k1 _ _ g2, k1 _ _ g3, k1 _ _ g4⟩, ⟨k2 _ _ p0, k2 _ _ p1, k2 _ _ p2, k2 _ _ p3, k2 _ _ p4, k2 _ _ p5, k2 _ _ p6⟩, hb1.trans (below_le hb3 (by omega)), by have := hb.size; omega⟩)
  have HI := hide (fun x W => isRule_any ka pa ra qa nk kc pn pc nr rc qn qc st x W)
  have HY := hide (fun W (hb : Below B w W) => areSymbols_any ka pa ra qa nk kc pn pc nr rc qn qc st (by omega) rr rrc prt hsm B W (by have := hb.size; omega) (nrow_kept hb hrr))
  have HC := hide (fun (W : World) (hb : Below B w W) (pb : Nat) (hpb : B ≤ pb) (hct : W.heap[pb]? = some (.cells #[.int .i64 0] 3)) => act_any B prt.length 257 pac 0 pb W (.int .i64 x3) (.int .i64 x4) (.string x5) (.slice x6 n6 c6) hpb (by have := hb.size; omega) (acAt_kept hb _ _ _ _ _ hac) (by omega) (by omega) (by omega) hct)
  have Hno := hide (fun (h : ¬ (0 ≤ pl ∧ pl < nr ∧ prt.length ≤ 64 ∧ 0 ≤ plv ∧ symsTo (nk + nr) prt prt.length)) => show prodB nk nr ⟨pl, prt, plv, pac⟩ = false from decide_eq_false (fun hd => h ⟨hd.1, hd.2.1, hd.2.2.1, hd.2.2.2.1, hd.2.2.2.2.1⟩))
  have Hyes := hide (fun (h : 0 ≤ pl ∧ pl < nr ∧ prt.length ≤ 64 ∧ 0 ≤ plv ∧ symsTo (nk + nr) prt prt.length) => show prodB nk nr ⟨pl, prt, plv, pac⟩ = decide (0 ≤ partsA pac prt.length (256 - 0)) by unfold prodB; simp only [h, true_and, Int.sub_zero])
  generalize prodB nk nr ⟨pl, prt, plv, pac⟩ = R at *
  clear hrr hac
  go_enter Tryz.func119, Tryz.ntmps119
  go_wp2_with fail
  rw [← hW2]
  clear hW2
  refine (unhide HI _ _).mono ?_
  rintro e w3 ⟨rfl, hb3⟩
  obtain ⟨⟨g0, g1, g2, g3, g4⟩, ⟨p0, p1, p2, p3, p4, p5, p6⟩, hbw, hsw⟩ := unhide HX w3 hb3
  have Hb3 := hide hb3; have Hbw := hide hbw
  clear hb3 hbw
  by_cases hl : 0 ≤ pl ∧ pl < nr
  · have hd : decide (0 ≤ pl ∧ pl < (nr : Int)) = true := decide_eq_true hl
    rw [hd]
    by_cases h64 : prt.length ≤ 64
    · have h64' : ¬ (64 : Int) < prt.length := by omega
      go_wp2_with fail
      refine (unhide HY _ (below_le (unhide Hbw) hB)).mono ?_
      rintro e w4 ⟨rfl, hb4⟩
      have hb4' := (unhide Hb3).trans (below_le hb4 (unhide Hb3).size)
      clear g0 g1 g2 g3 g4 p0 p1 p2 p3 p4 p5 p6
      obtain ⟨⟨g0, g1, g2, g3, g4⟩, ⟨p0, p1, p2, p3, p4, p5, p6⟩, hbw4, hsw4⟩ := unhide HX w4 hb4'
      have Hbw4 := hide hbw4
      clear hb4 hb4' hbw4
      by_cases hsy : symsTo (nk + nr) prt prt.length
      · have hd2 : decide (symsTo (nk + nr) prt prt.length) = true := decide_eq_true hsy
        rw [hd2]
        by_cases hlv : plv < 0
        · have Hr := hide (unhide Hno (fun h => by omega))
          go_wp2
          go_ret
          rw [unhide Hr]
          exact ⟨rfl, unhide Hbw4⟩
        · have Hr := hide (unhide Hyes ⟨hl.1, hl.2, h64, by omega, hsy⟩)
          clear hsy hd2 Hno Hyes
          have hb5 : Below w4.heap.size w4 (w4.alloc (.cells #[.int .i64 0] 3)) := (Below.refl _ _).alloc (Nat.le_refl _) _
          have HC5 := hide (unhide HC _ ((below_le (unhide Hbw4) hB).trans (below_le hb5 (by omega))) w4.heap.size (by omega) (Go.Deep.blk_alloc_new _ _))
          have Hb5 := hide ((unhide Hbw4).trans (below_le hb5 (by omega)))
          have hlt5 : w.heap.size + 1 < w4.heap.size := by omega
          clear hb5
          go_wp2_with fail
          refine (unhide HC5).mono ?_
          rintro e w6 ⟨c', rfl, -, -, hfr⟩
          have Hb6 := hide ((unhide Hb5).trans (fr_below hfr (by have := (unhide Hb5).size; omega) (fun k hk => by have hk : k = w4.heap.size := hk; omega)))
          clear hfr
          generalize decide (0 ≤ partsA pac (prt.length : Int) (256 - 0)) = bb at *
          go_wp2
          go_ret
          rw [unhide Hr]
          exact ⟨rfl, unhide Hb6⟩
      · have hd2 : decide (symsTo (nk + nr) prt prt.length) = false := decide_eq_false hsy
        rw [hd2]
        have Hr := hide (unhide Hno (fun h => hsy h.2.2.2.2))
        go_wp2
        go_ret
        rw [unhide Hr]
        exact ⟨rfl, unhide Hbw4⟩
    · have h64' : (64 : Int) < prt.length := by omega
      have Hr := hide (unhide Hno (fun h => h64 h.2.2.1))
      go_wp2
      go_ret
      rw [unhide Hr]
      exact ⟨rfl, unhide Hbw⟩
  · have hd : decide (0 ≤ pl ∧ pl < (nr : Int)) = false := decide_eq_false hl
    rw [hd]
    have Hr := hide (unhide Hno (fun h => hl ⟨h.1, h.2.1⟩))
    go_wp2
    go_ret
    rw [unhide Hr]
    exact ⟨rfl, unhide Hbw⟩
end Go.Proofs.YtagohbpbgjelaaaGreatDoor

namespace Go.Proofs.YtagohbpbgjelaaaGreatDoor
open Go.RowKit

set_option maxHeartbeats 2000000 in
set_option maxRecDepth 100000 in
theorem prods_any (G : Gm) (hnk : G.kinds.length ≤ 1024) (hnr : G.rules.length ≤ 2048) (ka pa ra qa : Option Addr) (kc pc rc qc : Nat) (B : Nat) (w : World) (hB : B ≤ w.heap.size) (hin : GIn B w G ka pa ra qa) (hsm : smG G) :
    Calls Tryz.prog 75 #[gV G ka pa ra qa kc pc rc qc] w fun e w' => e = .returned (.bool (decide (G.prods.length ≤ 4096 ∧ prodsTo G G.prods.length))) ∧ Below w.heap.size w w' := by
  have hst := gst_new (kc := kc) (pc := pc) (rc := rc) (qc := qc) hB hin 26
  have hb1 : Below w.heap.size w (w.alloc (.cells #[.slice ka G.kinds.length kc, .slice pa G.precs.length pc, .slice ra G.rules.length rc, .slice qa G.prods.length qc, .int .i64 G.start] 26)) := (Below.refl _ _).alloc (Nat.le_refl _) _
  have hw1 : (w.alloc (.cells #[.slice ka G.kinds.length kc, .slice pa G.precs.length pc, .slice ra G.rules.length rc, .slice qa G.prods.length qc, .int .i64 G.start] 26)).heap.size = w.heap.size + 1 := by simp
  have g0 := hst.c0; have g1 := hst.c1; have g2 := hst.c2; have g3 := hst.c3; have g4 := hst.c4
  have Hst := hide hst; have Hb1 := hide hb1; have Hsm := hide hsm
  clear hst hb1 hin hsm
  have hnot := run_not
  by_cases hq : G.prods.length ≤ 4096
  · have hq' : ¬ (4096 : Int) < G.prods.length := by omega
    have Hyes := hide (fun (h : prodsTo G G.prods.length) => decide_eq_true (p := G.prods.length ≤ 4096 ∧ prodsTo G G.prods.length) ⟨hq, h⟩)
    have Hno := hide (fun (h : ¬ prodsTo G G.prods.length) => decide_eq_false (p := G.prods.length ≤ 4096 ∧ prodsTo G G.prods.length) (fun k => h k.2))
    generalize decide (G.prods.length ≤ 4096 ∧ prodsTo G G.prods.length) = R at *
    go_enter Tryz.func75, Tryz.ntmps75
    go_wp2
    generalize w.alloc (.cells #[.slice ka G.kinds.length kc, .slice pa G.precs.length pc, .slice ra G.rules.length rc, .slice qa G.prods.length qc, .int .i64 G.start] 26) = w1 at *
    clear g0 g1 g2 g3 g4
    go_loopw [12] (fun x W => ∃ i : Nat, x = .int .i64 i ∧ i ≤ G.prods.length ∧ prodsTo G i ∧ Below (w.heap.size + 1) w1 W) (fun x _ => G.prods.length - (intOf x).toNat)
    case atStart => exact ⟨0, rfl, Nat.zero_le _, fun j hj => absurd hj (Nat.not_lt_zero _), Below.refl _ _⟩
    case round =>
      obtain ⟨i, rfl, hi, hpt, hb⟩ := hrel
      have hst := gst_kept hb hB (unhide Hst)
      have g0 := hst.c0; have g1 := hst.c1; have g2 := hst.c2; have g3 := hst.c3; have g4 := hst.c4
      have Hg := hide hst.gin
      have hszw := hb.size
      have Hpt := hide hpt; have Hb := hide hb
      clear hst hb hpt
      by_cases hlt : i < G.prods.length
      · have hlt' : (i : Int) < G.prods.length := by omega
        obtain ⟨b, off, rfl, hbB, rr, rrc, x3, x4, x5, x6, n6, c6, hrr, hac, q0, q1, q2, q3, q4, q5, q6⟩ := qrow_at (unhide Hg).prods hlt
        have HP := hide (fun W (hb : Below B wr W) => prod_any ka pa ra (some ⟨b, off, none⟩) G.kinds.length kc G.precs.length pc G.rules.length rc G.prods.length qc G.start hnk hnr (G.prods.getD i pd0) B W (by have := hb.size; omega) rr rrc x3 x4 x5 x6 n6 c6 (nrow_kept hb hrr) (acAt_kept hb _ _ _ _ _ hac) (unhide Hsm _ (mem_getP hlt)))
        have Hs := hide (fun (h : prodB G.kinds.length G.rules.length (G.prods.getD i pd0) = true) => show prodsTo G (i + 1) from fun j hj => by
          by_cases e : j = i
          · subst e; exact h
          · exact unhide Hpt j (by omega))
        have Hn := hide (fun (h : prodB G.kinds.length G.rules.length (G.prods.getD i pd0) = false) => unhide Hno (fun k => by rw [k i hlt] at h; cases h))
        clear hrr hac
        generalize G.prods.getD i pd0 = p at *
        obtain ⟨pl, prt, plv, pac⟩ := p
        simp only at q0 q1 q2 HP
        have hb2 : Below wr.heap.size wr (wr.alloc (.cells #[.int .i64 pl, .slice rr prt.length rrc, .int .i64 plv, .int .i64 x3, .int .i64 x4, .string x5, .slice x6 n6 c6] 89)) := (Below.refl _ _).alloc (Nat.le_refl _) _
        have HP2 := hide (unhide HP _ (below_le hb2 (by omega)))
        have Hb2 := hide hb2
        clear hb2 HP
        have hlt5 : w.heap.size < wr.heap.size := by omega
        go_wp2_with fail
        refine (unhide HP2).mono ?_
        rintro e w3 ⟨rfl, hb3⟩
        have hb4 := (unhide Hb2).trans (below_le hb3 (by simp))
        have Hb4 := hide ((unhide Hb).trans (below_le hb4 (by omega)))
        have Hb5 := hide ((unhide Hb1).trans (below_le (unhide Hb4) (by omega)))
        clear hb3 hb4
        cases hpb : prodB G.kinds.length G.rules.length ⟨pl, prt, plv, pac⟩
        · have Hr := hide (unhide Hn hpb)
          go_wp2
          go_ret
          rw [unhide Hr]
          exact ⟨rfl, unhide Hb5⟩
        · have Hs2 := hide (unhide Hs hpb)
          go_wp2
          go_roundw
          case rel => exact ⟨i + 1, by go_num, by omega, unhide Hs2, unhide Hb4⟩
          case measure => simp [intOf]; omega
      · obtain rfl : i = G.prods.length := by omega
        have Hr := hide (unhide Hyes (unhide Hpt))
        have Hb5 := hide ((unhide Hb1).trans (below_le (unhide Hb) (by omega)))
        go_wp2
        go_ret
        rw [unhide Hr]
        exact ⟨rfl, unhide Hb5⟩
  · have hq' : (4096 : Int) < G.prods.length := by omega
    have Hr := hide (decide_eq_false (p := G.prods.length ≤ 4096 ∧ prodsTo G G.prods.length) (fun k => hq k.1))
    generalize decide (G.prods.length ≤ 4096 ∧ prodsTo G G.prods.length) = R at *
    go_enter Tryz.func75, Tryz.ntmps75
    go_wp2
    go_ret
    rw [unhide Hr]
    exact ⟨rfl, unhide Hb1⟩
end Go.Proofs.YtagohbpbgjelaaaGreatDoor

namespace Go.Proofs.YtagohbpbgjelaaaGreatDoor
open Go.RowKit

theorem wk_below {O : Nat → Prop} {B : Nat} {a b : World} (h : Wk.Off O a b) (hB : B ≤ a.heap.size) (hO : ∀ k, O k → B ≤ k) : Below B a b :=
  ⟨h.os, h.tape, h.output, h.size, fun k hk => h.block k (by omega) (fun ho => by have := hO k ho; omega)⟩
set_option maxRecDepth 100000 in
theorem newIndex_any (w : World) : Calls Tryz.prog 117 #[] w fun e w' => e = .returned (.pointer (some ⟨w.heap.size, 0, none⟩)) ∧ w' = w.alloc (.cells #[.slice none 0 0, .map none] 205) := by
  go_enter Tryz.func117, Tryz.ntmps117
  go_wp2
  go_ret
  exact ⟨rfl, rfl⟩
theorem idx_zero (w : World) : Wk.Idx (w.alloc (.cells #[.slice none 0 0, .map none] 205)) w.heap.size (· = w.heap.size) [] :=
  ⟨rfl, fun k hk => by subst hk; simp, List.nodup_nil, fun s hs => absurd hs (by simp), .slice none 0 0, none, Go.Deep.blk_alloc_new _ _, World.ownsRow_nil _ _ _ _, fun k hk => by simp [Value.ownBlock] at hk, .inl ⟨rfl, rfl⟩⟩

set_option maxHeartbeats 800000 in
set_option maxRecDepth 100000 in
theorem rules_any (G : Gm) (ka pa ra qa : Option Addr) (kc pc rc qc : Nat) (B : Nat) (w : World) (hB : B ≤ w.heap.size) (hin : GIn B w G ka pa ra qa) :
    Calls Tryz.prog 74 #[gV G ka pa ra qa kc pc rc qc] w fun e w' => e = .returned (.bool (decide (namesB G.rules = true ∧ 0 ≤ G.start ∧ G.start < G.rules.length))) ∧ Below w.heap.size w w' := by
  have hst := gst_new (kc := kc) (pc := pc) (rc := rc) (qc := qc) hB hin 26
  have hb1 : Below w.heap.size w (w.alloc (.cells #[.slice ka G.kinds.length kc, .slice pa G.precs.length pc, .slice ra G.rules.length rc, .slice qa G.prods.length qc, .int .i64 G.start] 26)) := (Below.refl _ _).alloc (Nat.le_refl _) _
  have hw1 : (w.alloc (.cells #[.slice ka G.kinds.length kc, .slice pa G.precs.length pc, .slice ra G.rules.length rc, .slice qa G.prods.length qc, .int .i64 G.start] 26)).heap.size = w.heap.size + 1 := by simp
  have g0 := hst.c0; have g1 := hst.c1; have g2 := hst.c2; have g3 := hst.c3; have g4 := hst.c4
  have Hst := hide hst; have Hb1 := hide hb1
  clear hst hb1 hin
  have hnot := run_not
  by_cases hq : G.rules.length ≤ 2048
  · have hq' : ¬ (2048 : Int) < G.rules.length := by omega
    have Hno := hide (fun (h : ¬ (longTo G.rules G.rules.length ∧ G.rules.Nodup)) => decide_eq_false (p := namesB G.rules = true ∧ 0 ≤ G.start ∧ G.start < G.rules.length) (fun k => h ⟨(of_decide_eq_true k.1).2.2.1, (of_decide_eq_true k.1).2.2.2⟩))
    have Hyes := hide (fun (h : longTo G.rules G.rules.length ∧ G.rules.Nodup) => show decide (namesB G.rules = true ∧ 0 ≤ G.start ∧ G.start < G.rules.length) = decide (0 ≤ G.start ∧ G.start < G.rules.length) by
      rw [decide_eq_decide]
      exact ⟨fun k => k.2, fun k => ⟨decide_eq_true ⟨by omega, hq, h.1, h.2⟩, k⟩⟩)
    generalize decide (namesB G.rules = true ∧ 0 ≤ G.start ∧ G.start < G.rules.length) = R at *
    go_enter Tryz.func74, Tryz.ntmps74
    go_wp2_with fail
    generalize w.alloc (.cells #[.slice ka G.kinds.length kc, .slice pa G.precs.length pc, .slice ra G.rules.length rc, .slice qa G.prods.length qc, .int .i64 G.start] 26) = w1 at *
    refine (newIndex_any _).mono ?_
    rintro e w2 ⟨rfl, hw2⟩
    have hI2 := idx_zero w1
    rw [← hw2] at hI2
    have hb2 : Below w1.heap.size w1 w2 := by rw [hw2]; exact (Below.refl _ _).alloc (Nat.le_refl _) _
    have hs2 : w2.heap.size = w1.heap.size + 1 := by rw [hw2]; simp
    have hst2 := gst_kept (below_le hb2 (by omega)) hB (unhide Hst)
    clear g0 g1 g2 g3 g4 hw2
    have g0 := hst2.c0; have g1 := hst2.c1; have g2 := hst2.c2; have g3 := hst2.c3; have g4 := hst2.c4
    have Hst2 := hide hst2
    have HI2 := hide hI2; have Hb2 := hide hb2
    clear hst2 hI2 hb2
    go_wp2
    go_loopw [17] (fun x W => ∃ (k : Nat) (O : Nat → Prop), x = .int .i64 k ∧ k ≤ G.rules.length ∧ longTo G.rules k ∧ Wk.Idx W w1.heap.size O (G.rules.take k) ∧ (∀ j, O j → w1.heap.size ≤ j) ∧ Below w1.heap.size w1 W) (fun x _ => G.rules.length - (intOf x).toNat)
    case atStart => exact ⟨0, _, rfl, Nat.zero_le _, fun j hj => absurd hj (Nat.not_lt_zero _), by simpa using unhide HI2, fun j hj => by have hj : j = w1.heap.size := hj; omega, unhide Hb2⟩
    case round =>
      clear g0 g1 g2 g3 g4
      obtain ⟨k, O, rfl, hk, hlong, hidx, hO, hb⟩ := hrel
      have hst := gst_kept (below_le hb (by omega)) hB (unhide Hst)
      have g0 := hst.c0; have g1 := hst.c1; have g2 := hst.c2; have g3 := hst.c3; have g4 := hst.c4
      have Hg := hide hst.gin
      have hszw := hb.size
      have Hl := hide hlong; have Hb := hide hb; have HO := hide hO
      have hnd := hidx.nodup
      clear hst hb hlong hO
      by_cases hlt : k < G.rules.length
      · have hlt' : (k : Int) < G.rules.length := by omega
        obtain ⟨b, off, rfl, hbB, c0⟩ := srow_at (unhide Hg).rules hlt
        have htk := take_snoc G.rules k [] hlt
        have Hs := hide (fun (h : 1 ≤ (G.rules.getD k []).length ∧ (G.rules.getD k []).length ≤ 4096) => show longTo G.rules (k + 1) from fun j hj => by
          by_cases e : j = k
          · subst e; exact h
          · exact unhide Hl j (by omega))
        have Hn1 := hide (fun (h : ¬ (1 ≤ (G.rules.getD k []).length ∧ (G.rules.getD k []).length ≤ 4096)) => unhide Hno (fun hd => h (hd.1 k hlt)))
        have Hn2 := hide (fun (h : G.rules.getD k [] ∈ G.rules.take k) => unhide Hno (fun hd => by
          have h1 : (G.rules.take (k + 1)).Nodup := hd.2.sublist (List.take_sublist _ _)
          rw [htk] at h1
          exact (List.nodup_append.1 h1).2.2 _ h _ (by simp) rfl))
        have Htk := hide htk
        have hszs : ((bs (G.rules.getD k [])).size : Int) = ((G.rules.getD k []).length : Int) := rfl
        have Hne : Hid ((bs (G.rules.getD k [])).toList = [] ↔ (G.rules.getD k []).length = 0) := hide (by rw [bs_toList]; exact List.length_eq_zero_iff.symm)
        have Hbx := hide ((unhide Hb1).trans (below_le (unhide Hb) (by omega)))
        clear htk
        generalize G.rules.getD k [] = s at *
        by_cases hlen : 1 ≤ s.length ∧ s.length ≤ 4096
        · have hs0 : ((bs s).toList == []) = false := by rw [beq_eq_false_iff_ne]; intro h; have := (unhide Hne).1 h; omega
          have hs1 : ¬ (4096 : Int) < (bs s).size := by rw [hszs]; omega
          have hsm : s.length ≤ maxLen := by unfold maxLen; omega
          have Hs2 := hide (unhide Hs hlen)
          by_cases hold : s ∈ G.rules.take k
          · have HA := hide (Wk.at_old w1.heap.size O _ s hsm hold wr hidx)
            rw [show Wk.bs s = bs s from rfl, hw1] at HA
            have Hr := hide (unhide Hn2 hold)
            clear hidx hold
            go_wp2_with fail
            refine (unhide HA).mono ?_
            rintro e w3 ⟨rfl, hb3⟩
            have Hb3 := hide ((unhide Hbx).trans (below_le hb3 (by omega)))
            clear hb3
            go_wp2
            go_ret
            rw [unhide Hr]
            exact ⟨rfl, unhide Hb3⟩
          · have HA := hide (Wk.at_new w1.heap.size O _ s hsm hold (by rw [List.length_take]; omega) wr hidx)
            rw [show Wk.bs s = bs s from rfl, hw1] at HA
            clear hidx hold
            go_wp2_with fail
            refine (unhide HA).mono ?_
            rintro e w3 ⟨rfl, ho3, hi3⟩
            have hb3 := wk_below ho3 (by omega) (unhide HO)
            have Hb3 := hide ((unhide Hb).trans hb3)
            have Hi3 := hide hi3
            have hsz3 := ho3.size
            clear hb3 ho3 hi3
            go_wp2
            go_roundw
            case rel => exact ⟨k + 1, fun j => O j ∨ wr.heap.size ≤ j ∧ j < w3.heap.size, by go_num, by omega, unhide Hs2, by rw [unhide Htk, hw1]; exact unhide Hi3, fun j hj => hj.elim (unhide HO j) (fun h => by omega), unhide Hb3⟩
            case measure => simp [intOf]; omega
        · have Hr := hide (unhide Hn1 hlen)
          by_cases hz : s.length = 0
          · have hs0 : ((bs s).toList == []) = true := by rw [beq_iff_eq]; exact (unhide Hne).2 hz
            go_wp2
            go_ret
            rw [unhide Hr]
            exact ⟨rfl, unhide Hbx⟩
          · have hs0 : ((bs s).toList == []) = false := by rw [beq_eq_false_iff_ne]; exact fun h => hz ((unhide Hne).1 h)
            have hs1 : (4096 : Int) < (bs s).size := by rw [hszs]; omega
            go_wp2
            go_ret
            rw [unhide Hr]
            exact ⟨rfl, unhide Hbx⟩
      · obtain rfl : k = G.rules.length := by omega
        rw [List.take_length] at hnd
        have Hr := hide (unhide Hyes ⟨unhide Hl, hnd⟩)
        have Hb5 := hide ((unhide Hb1).trans (below_le (unhide Hb) (by omega)))
        clear hidx hnd
        go_wp2_with fail
        refine (isRule_any ka pa ra qa _ kc _ pc _ rc _ qc _ _ _).mono ?_
        rintro e w3 ⟨rfl, hb3⟩
        have Hb6 := hide ((unhide Hb5).trans (below_le hb3 (unhide Hb5).size))
        clear hb3
        generalize decide (0 ≤ G.start ∧ G.start < (G.rules.length : Int)) = bb at *
        go_wp2
        go_ret
        rw [unhide Hr]
        exact ⟨rfl, unhide Hb6⟩
  · have hq' : (2048 : Int) < G.rules.length := by omega
    have Hr := hide (decide_eq_false (p := namesB G.rules = true ∧ 0 ≤ G.start ∧ G.start < G.rules.length) (fun k => hq (of_decide_eq_true k.1).2.1))
    generalize decide (namesB G.rules = true ∧ 0 ≤ G.start ∧ G.start < G.rules.length) = R at *
    go_enter Tryz.func74, Tryz.ntmps74
    go_wp2
    go_ret
    rw [unhide Hr]
    exact ⟨rfl, unhide Hb1⟩
end Go.Proofs.YtagohbpbgjelaaaGreatDoor

namespace Go.Proofs.YtagohbpbgjelaaaGreatDoor
open Go.RowKit

set_option maxHeartbeats 800000 in
set_option maxRecDepth 100000 in
theorem mayBe_any (G : Gm) (ka pa ra qa : Option Addr) (kc pc rc qc : Nat) (w : World) (hin : GIn w.heap.size w G ka pa ra qa) (hsm : smG G) :
    Calls Tryz.prog 29 #[gV G ka pa ra qa kc pc rc qc] w fun e w' => e = .returned (.bool (checkB G)) ∧ Below w.heap.size w w' := by
  have hst := gst_new (kc := kc) (pc := pc) (rc := rc) (qc := qc) (Nat.le_refl _) hin 26
  have hb1 : Below w.heap.size w (w.alloc (.cells #[.slice ka G.kinds.length kc, .slice pa G.precs.length pc, .slice ra G.rules.length rc, .slice qa G.prods.length qc, .int .i64 G.start] 26)) := (Below.refl _ _).alloc (Nat.le_refl _) _
  have hw1 : (w.alloc (.cells #[.slice ka G.kinds.length kc, .slice pa G.precs.length pc, .slice ra G.rules.length rc, .slice qa G.prods.length qc, .int .i64 G.start] 26)).heap.size = w.heap.size + 1 := by simp
  obtain ⟨w1, hw⟩ : ∃ w1, w1 = w.alloc (.cells #[.slice ka G.kinds.length kc, .slice pa G.precs.length pc, .slice ra G.rules.length rc, .slice qa G.prods.length qc, .int .i64 G.start] 26) := ⟨_, rfl⟩
  rw [← hw] at hst hb1 hw1
  have HX : Hid (∀ W, Below w1.heap.size w1 W → GSt w.heap.size W G ka kc pa pc ra rc qa qc w.heap.size ∧ Below w.heap.size w W ∧ w.heap.size + 1 ≤ W.heap.size) := hide (fun W hb => ⟨gst_kept (below_le hb (by omega)) (Nat.le_refl _) hst, hb1.trans (below_le hb (by omega)), by have := hb.size; omega⟩)
  have hnot := run_not
  have HK := hide (kinds_any ka kc G.kinds w1 (by
    rcases hst.gin.kinds with h | ⟨b, off, h1, h2, h3⟩
    · exact .inl h
    · exact .inr ⟨b, off, h1, by omega, h3⟩))
  have Hno := hide (fun (h : ¬ (kindsB G.kinds = true ∧ G.precs.length = G.kinds.length ∧ levelsB G.precs = true ∧ namesB G.rules = true ∧ 0 ≤ G.start ∧ G.start < G.rules.length ∧ G.prods.length ≤ 4096 ∧ prodsTo G G.prods.length)) => show checkB G = false from decide_eq_false h)
  have Hyes := hide (fun (h : kindsB G.kinds = true ∧ G.precs.length = G.kinds.length ∧ levelsB G.precs = true ∧ namesB G.rules = true ∧ 0 ≤ G.start ∧ G.start < G.rules.length ∧ G.prods.length ≤ 4096 ∧ prodsTo G G.prods.length) => show checkB G = true from decide_eq_true h)
  generalize checkB G = R at *
  have Hsm := hide hsm
  clear hst hin hsm
  go_enter Tryz.func29, Tryz.ntmps29
  go_wp2_with fail
  rw [← hw]
  clear hw
  refine (unhide HK).mono ?_
  rintro e w2 ⟨rfl, hb2⟩
  obtain ⟨hst2, hbw2, hs2⟩ := unhide HX w2 hb2
  have g0 := hst2.c0; have g1 := hst2.c1; have g2 := hst2.c2; have g3 := hst2.c3; have g4 := hst2.c4
  have Hg2 := hide hst2.gin; have Hb2 := hide hb2; have Hbw2 := hide hbw2
  clear hst2 hb2 hbw2 HK
  cases hkb : kindsB G.kinds
  · have hv : kindsV G.kinds = 70 := by unfold kindsV; rw [hkb]; rfl
    have Hr := hide (unhide Hno (fun h => by rw [hkb] at h; cases h.1))
    rw [hv]
    clear hkb Hno Hyes
    go_wp2
    go_ret
    rw [unhide Hr]
    exact ⟨rfl, unhide Hbw2⟩
  · have hv : kindsV G.kinds = 0 := by unfold kindsV; rw [hkb]; rfl
    have hnk := (of_decide_eq_true hkb).2.1
    rw [hv]
    have HP := hide (precs_any ka pa ra qa G.kinds.length kc pc G.rules.length rc G.prods.length qc G.start G.precs (by omega) w.heap.size w2 (by omega) (unhide Hg2).precs)
    go_wp2_with fail
    refine (unhide HP).mono ?_
    rintro e w3 ⟨rfl, hb3⟩
    have hb3' := (unhide Hb2).trans (below_le hb3 (unhide Hb2).size)
    obtain ⟨hst3, hbw3, hs3⟩ := unhide HX w3 hb3'
    clear g0 g1 g2 g3 g4
    have g0 := hst3.c0; have g1 := hst3.c1; have g2 := hst3.c2; have g3 := hst3.c3; have g4 := hst3.c4
    have Hg3 := hide hst3.gin; have Hb3 := hide hb3'; have Hbw3 := hide hbw3
    clear hst3 hb3 hb3' hbw3 HP
    cases hpb : (decide (G.precs.length = G.kinds.length) && levelsB G.precs)
    · have Hr := hide (unhide Hno (fun h => by rw [decide_eq_true h.2.1, h.2.2.1] at hpb; cases hpb))
      clear hpb hkb Hno Hyes
      go_wp2
      go_ret
      rw [unhide Hr]
      exact ⟨rfl, unhide Hbw3⟩
    · have hpb2 : G.precs.length = G.kinds.length ∧ levelsB G.precs = true := by simpa using hpb
      have HR := hide (rules_any G ka pa ra qa kc pc rc qc w.heap.size w3 (by omega) (unhide Hg3))
      have Hpb2 := hide hpb2
      clear hpb hpb2
      go_wp2_with fail
      refine (unhide HR).mono ?_
      rintro e w4 ⟨rfl, hb4⟩
      have hb4' := (unhide Hb3).trans (below_le hb4 (unhide Hb3).size)
      obtain ⟨hst4, hbw4, hs4⟩ := unhide HX w4 hb4'
      clear g0 g1 g2 g3 g4
      have g0 := hst4.c0; have g1 := hst4.c1; have g2 := hst4.c2; have g3 := hst4.c3; have g4 := hst4.c4
      have Hg4 := hide hst4.gin; have Hb4 := hide hb4'; have Hbw4 := hide hbw4
      clear hst4 hb4 hb4' hbw4 HR
      cases hrb : decide (namesB G.rules = true ∧ 0 ≤ G.start ∧ G.start < G.rules.length)
      · have hrb2 := of_decide_eq_false hrb
        have Hr := hide (unhide Hno (fun h => hrb2 ⟨h.2.2.2.1, h.2.2.2.2.1, h.2.2.2.2.2.1⟩))
        clear hrb hrb2 hkb Hno Hyes
        go_wp2
        go_ret
        rw [unhide Hr]
        exact ⟨rfl, unhide Hbw4⟩
      · have hrb2 := of_decide_eq_true hrb
        have hnr := (of_decide_eq_true hrb2.1).2.1
        have HQ := hide (prods_any G hnk hnr ka pa ra qa kc pc rc qc w.heap.size w4 (by omega) (unhide Hg4) (unhide Hsm))
        have Hr : Hid (R = decide (G.prods.length ≤ 4096 ∧ prodsTo G G.prods.length)) := hide (by
          by_cases h : G.prods.length ≤ 4096 ∧ prodsTo G G.prods.length
          · rw [decide_eq_true h]; exact unhide Hyes ⟨hkb, (unhide Hpb2).1, (unhide Hpb2).2, hrb2.1, hrb2.2.1, hrb2.2.2, h.1, h.2⟩
          · rw [decide_eq_false h]; exact unhide Hno (fun k => h ⟨k.2.2.2.2.2.2.1, k.2.2.2.2.2.2.2⟩))
        clear hrb hrb2
        go_wp2_with fail
        refine (unhide HQ).mono ?_
        rintro e w5 ⟨rfl, hb5⟩
        have Hb5 := hide ((unhide Hbw4).trans (below_le hb5 (unhide Hbw4).size))
        clear hb5 HQ
        generalize decide (G.prods.length ≤ 4096 ∧ prodsTo G G.prods.length) = bb at *
        go_wp2
        go_ret
        rw [unhide Hr]
        exact ⟨rfl, unhide Hb5⟩
end Go.Proofs.YtagohbpbgjelaaaGreatDoor

namespace Go.Proofs.YtagohbpbgjelaaaGreatDoor
open Go.RowKit

def rulesL (nk : Nat) (row : List Int) : List Int := row.flatMap fun x => if (nk : Int) ≤ x then [x - nk] else []
theorem rulesL_take {nk : Nat} {row : List Int} {k : Nat} (hk : k < row.length) : rulesL nk (row.take (k + 1)) = rulesL nk (row.take k) ++ if (nk : Int) ≤ row.getD k 0 then [row.getD k 0 - nk] else [] := by
  rw [take_snoc row k 0 hk]
  unfold rulesL
  rw [List.flatMap_append]
  simp
theorem rulesL_len {nk : Nat} : ∀ (row : List Int), (rulesL nk row).length ≤ row.length
  | [] => by simp [rulesL]
  | x :: row => by
    have h := rulesL_len (nk := nk) row
    have e : rulesL nk (x :: row) = (if (nk : Int) ≤ x then [x - nk] else []) ++ rulesL nk row := rfl
    rw [e, List.length_append, List.length_cons]
    split <;> simp <;> omega
set_option maxRecDepth 100000 in
theorem rule_any (gb : Nat) (x : Int) (nk : Nat) (ka : Option Addr) (kc : Nat) (hnk : nk ≤ 1024) (hx : 0 ≤ x ∧ x ≤ 281474976710656) (w : World) (c0 : w.cell? ⟨gb, 0, none⟩ = some (.slice ka nk kc)) :
    Calls Tryz.prog 78 #[.pointer (some ⟨gb, 0, none⟩), .int .i64 x] w fun e w' => e = .returned (.tuple #[.int .i64 (if (nk : Int) ≤ x then x - nk else 0), .bool (decide ((nk : Int) ≤ x))]) ∧ w = w' := by
  by_cases h : (nk : Int) ≤ x
  · have h' : ¬ x < (nk : Int) := by omega
    have hw : IntKind.i64.wrap (x - nk) = x - nk := by rw [IntKind.wrap_i64]; omega
    rw [if_pos h, decide_eq_true h]
    go_enter Tryz.func78, Tryz.ntmps78
    go_wp2
    refine bodyPost_ret (v := .tuple #[.int .i64 (x - nk), .bool true]) ?zz9 rfl ⟨rfl, rfl⟩
    case zz9 => simp [results, Tryz.results78, go_sem]
  · have h' : x < (nk : Int) := by omega
    rw [if_neg h, decide_eq_false h]
    go_enter Tryz.func78, Tryz.ntmps78
    go_wp2
    refine bodyPost_ret (v := .tuple #[.int .i64 0, .bool false]) ?zz9 rfl ⟨rfl, rfl⟩
    case zz9 => simp [results, Tryz.results78, go_sem]
set_option maxHeartbeats 1000000 in
set_option maxRecDepth 100000 in
theorem rulesOf_any (gb : Nat) (nk : Nat) (ka : Option Addr) (kc : Nat) (hnk : nk ≤ 1024) (ro : Option Addr) (rowc : Nat) (row : List Int) (hl : row.length ≤ 1048576) (hx : ∀ x, x ∈ row → 0 ≤ x ∧ x ≤ 281474976710656) (w : World) (c0 : w.cell? ⟨gb, 0, none⟩ = some (.slice ka nk kc)) (hgb : gb < w.heap.size) (hrow : NRow w.heap.size w ro row) :
    Calls Tryz.prog 81 #[.pointer (some ⟨gb, 0, none⟩), .slice ro row.length rowc] w fun e w' => ∃ v, e = .returned v ∧ w'.ownsRow w.heap.size 3 1 v (rulesL nk row).length (vints (rulesL nk row)) ∧ Below w.heap.size w w' := by
  obtain ⟨i0, hi, hz0, hz1, hz2⟩ := info_parts info3
  have Hc0 := hide c0; have Hrow := hide hrow; have Hx := hide hx
  clear c0 hrow hx
  go_enter Tryz.func81, Tryz.ntmps81
  go_wp2
  go_loopw [5, 12] (fun u x wr => ∃ k : Nat, x = .int .i64 k ∧ k ≤ row.length ∧ wr.ownsRow w.heap.size 3 1 u (rulesL nk (row.take k)).length (vints (rulesL nk (row.take k))) ∧ Below w.heap.size w wr) (fun _ x _ => row.length - (intOf x).toNat)
  case atStart => exact ⟨0, rfl, Nat.zero_le _, World.ownsRow_nil _ _ _ _, Below.refl _ _⟩
  case round =>
    obtain ⟨k, rfl, hk, hown, hb⟩ := hrel
    obtain ⟨ua, uc, rfl⟩ := own_form hown
    have hsz := hb.size
    have hle := rulesL_len (nk := nk) (row.take k)
    rw [List.length_take] at hle
    have Hown := hide hown; have Hb := hide hb
    clear hown hb
    by_cases hlt : k < row.length
    · have hlt' : (k : Int) < row.length := by omega
      obtain ⟨b, off, rfl, hbl, hc⟩ := nrow_at (nrow_kept (unhide Hb) (unhide Hrow)) hlt
      have hxk := unhide Hx _ (mem_getD hlt)
      have Hs := hide (rulesL_take (nk := nk) hlt)
      have c0 := ((unhide Hb).cell (p := ⟨gb, 0, none⟩) hgb).trans (unhide Hc0)
      have HR := hide (rule_any gb (row.getD k 0) nk ka kc hnk hxk wr c0)
      generalize row.getD k 0 = x at *
      clear c0
      by_cases hr : (nk : Int) ≤ x
      · rw [if_pos hr, decide_eq_true hr] at HR
        rw [if_pos hr] at Hs
        generalize rulesL nk (row.take k) = acc at *
        go_wp2_with fail
        refine (unhide HR).mono ?_
        rintro e w2 ⟨rfl, rfl⟩
        go_wp2_with (at_builtin; refine wpList_append_own _ rfl _ _ 27 rfl w.heap.size 3 i0 (.int .i64 0) 1 8 Tryz.underlying27 hi hz0 hz1 hz2 rfl (by decide) _ _ _ rfl ((unhide Hown).alloc _) ⟨wr.heap.size, 0, none⟩ 1 1 [.int .i64 (x - nk)] rfl rfl ?zc1 ?zc2 ?zc3 ?zc4 ?zc5 ?_)
        case zc1 => exact new1 _ _ _
        case zc2 => intro u hu; simp at hu; rcases hu with rfl; rfl
        case zc3 => unfold maxLen; omega
        case zc4 => omega
        case zc5 => simp; omega
        intro v' W3 hown' hgrow _
        have Hb4 := hide (((unhide Hb).alloc hsz _).grown hgrow (by simp; omega) (fun j hj => ((unhide Hown).lt j hj).1))
        have Ho4 := hide (show W3.ownsRow w.heap.size 3 1 v' (rulesL nk (row.take (k + 1))).length (vints (rulesL nk (row.take (k + 1)))) by rw [unhide Hs, ← vints_snoc, List.length_append]; exact hown')
        clear hown' hgrow
        go_wp2
        go_roundw
        case rel => exact ⟨k + 1, by go_num, by omega, unhide Ho4, unhide Hb4⟩
        case measure => simp [intOf]; omega
      · rw [if_neg hr, decide_eq_false hr] at HR
        rw [if_neg hr, List.append_nil] at Hs
        go_wp2_with fail
        refine (unhide HR).mono ?_
        rintro e w2 ⟨rfl, rfl⟩
        go_wp2
        go_roundw
        case rel => exact ⟨k + 1, by go_num, by omega, by rw [unhide Hs]; exact unhide Hown, unhide Hb⟩
        case measure => simp [intOf]; omega
    · obtain rfl : k = row.length := by omega
      have e1 : row.take row.length = row := List.take_length
      rw [e1] at Hown ⊢
      go_wp2
      go_ret
      exact ⟨_, rfl, unhide Hown, unhide Hb⟩
end Go.Proofs.YtagohbpbgjelaaaGreatDoor

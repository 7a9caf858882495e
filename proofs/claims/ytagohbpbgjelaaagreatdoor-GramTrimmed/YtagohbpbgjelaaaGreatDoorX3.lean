/- The document's Trim and Lines, of any grammar. -/
import Derived.Test.YtagohbpbgjelaaaGreatDoorH2
import Derived.Test.YtagohbpbgjelaaaGreatDoorY1
import Derived.Test.YtagohbpbgjelaaaGreatDoorO2
import Derived.Test.YtagohbpbgjelaaaGreatDoorA5
namespace Go.Proofs.YtagohbpbgjelaaaGreatDoor
open Go.RowKit

def gm0 : Gm := ⟨[], [], [], [], 0⟩
set_option maxRecDepth 100000 in
theorem trim_in {G : Gm} {ka pa ra qa : Option Addr} (kc pc rc qc : Nat) {B : Nat} {w : World} (hB : B ≤ w.heap.size) (hin : GIn B w G ka pa ra qa) : ∃ w1, w1 = (w.alloc (.cells #[.slice ka G.kinds.length kc, .slice pa G.precs.length pc, .slice ra G.rules.length rc, .slice qa G.prods.length qc, .int .i64 G.start] 26)).alloc (.cells #[.slice none 0 0, .slice none 0 0, .slice none 0 0, .slice none 0 0, .int .i64 0] 26) ∧ GSt B w1 G ka kc pa pc ra rc qa qc w.heap.size ∧ Below w.heap.size w w1 ∧ w1.heap.size = w.heap.size + 2 ∧ w1.heap[w.heap.size + 1]? = some (.cells #[.slice none 0 0, .slice none 0 0, .slice none 0 0, .slice none 0 0, .int .i64 0] 26) := by
  have hst := gst_new (kc := kc) (pc := pc) (rc := rc) (qc := qc) hB hin 26
  have h1 : (w.alloc (.cells #[.slice ka G.kinds.length kc, .slice pa G.precs.length pc, .slice ra G.rules.length rc, .slice qa G.prods.length qc, .int .i64 G.start] 26)).heap.size = w.heap.size + 1 := by simp
  refine ⟨_, rfl, gst_kept ((Below.refl _ _).alloc (by omega) _) hB hst, ((Below.refl _ _).alloc (Nat.le_refl _) _).alloc (by omega) _, by simp, ?_⟩
  rw [← h1]
  exact Go.Deep.blk_alloc_new _ _

open Classical in
noncomputable def trG (G : Gm) : Gm := if checkB G = true ∧ prdF G G.start.toNat = true then trimG G else gm0
noncomputable def trV (G : Gm) : Int := if checkB G = true then (if prdF G G.start.toNat = true then 0 else 8) else 130
def TrimC (fn : Nat) : Prop := ∀ (G : Gm) (ka pa ra qa : Option Addr) (kc pc rc qc : Nat) (w : World) (_ : GIn w.heap.size w G ka pa ra qa) (_ : smG G), Calls Tryz.prog fn #[gV G ka pa ra qa kc pc rc qc] w fun e w' =>
  ∃ ka' pa' ra' qa' kc' pc' rc' qc', e = .returned (.tuple #[gV (trG G) ka' pa' ra' qa' kc' pc' rc' qc', .int .i64 (trV G)]) ∧ GIn w'.heap.size w' (trG G) ka' pa' ra' qa' ∧ Below w.heap.size w w'
set_option maxRecDepth 100000 in
theorem gin0 (w : World) (ht : Tb w.heap.size w) : GIn w.heap.size w gm0 none none none none := ⟨.inl rfl, .inl rfl, .inl rfl, .inl rfl, ht⟩
set_option maxRecDepth 100000 in
theorem mem_prodsT {G : Gm} {p : Pd} : ∀ k, k ≤ G.prods.length → p ∈ prodsT G k → ∃ q, q ∈ G.prods ∧ p = pdT G q
  | 0, _, h => by unfold prodsT at h; simp at h
  | k + 1, hk, h => by
    unfold prodsT at h
    rw [List.mem_append] at h
    rcases h with h | h
    · exact mem_prodsT k (by omega) h
    · split at h
      · simp at h
        exact ⟨_, mem_getP (show k < G.prods.length by omega), by simpa using h⟩
      · simp at h
set_option maxRecDepth 100000 in
theorem tr_ok {G : Gm} (hac : acG G) : lenG (trG G) ∧ ∀ p, p ∈ (trG G).prods → p.right.length ≤ 281474976710656 ∧ acShort p.act := by
  unfold trG
  split
  · rename_i h
    have hG := check_ok h.1
    have h1 := hG.k3; have h2 := hG.r2; have h3 := hG.ps
    have h4 := rulesTo_le G G.nr; have h5 := prodsT_le G G.prods.length
    have h6 : G.precs.length = G.kinds.length := (of_decide_eq_true h.1).2.1
    unfold Gm.nk at h1
    unfold Gm.nr at h2 h4
    refine ⟨⟨by show G.kinds.length ≤ _; omega, by show G.precs.length ≤ _; omega, by show (rulesTo G G.rules.length).length ≤ _; omega, by show (prodsT G G.prods.length).length ≤ _; omega⟩, fun p hp => ?_⟩
    obtain ⟨q, hq, rfl⟩ := mem_prodsT G.prods.length (Nat.le_refl _) hp
    have := hG.pr q hq
    exact ⟨by show (q.right.map (symT G)).length ≤ _; rw [List.length_map]; omega, hac q hq⟩
  · exact ⟨⟨by simp [gm0], by simp [gm0], by simp [gm0], by simp [gm0]⟩, fun p hp => by simp [gm0] at hp⟩
end Go.Proofs.YtagohbpbgjelaaaGreatDoor

namespace Go.Proofs.YtagohbpbgjelaaaGreatDoor
open Go.RowKit

set_option maxRecDepth 100000 in
theorem prd_leastT {G : Gm} {f : Nat → Int} (hf : LeastIs G f) {r : Nat} (h : Prdv G r) : 0 ≤ f r := by
  induction h with
  | mk p hp h ih =>
    have h0 := (lenR_mono (nk := G.nk) (f := f) (g := f) p.right 0 0 (Int.le_refl _) (Int.le_refl _) (fun x hx hk => ⟨ih x hx hk, Int.le_refl _⟩)).1
    refine (hf.2 _ _ (Lng.mk p hp f (fun x hx hk => ?_) h0)).1
    rcases hf.1 (x - G.nk).toNat with h1 | h1
    · have := ih x hx hk; omega
    · exact h1.2.2
structure TF (G T : Gm) : Prop where
  ok : checkB T = true
  tr : trG T = T
  tv : trV T = 0
  prd : ∀ i, i < T.rules.length → prdF T i = true
  rch : ∀ i, i < T.rules.length → atF T i = true
  le : ∀ f f', LeastIs G f → LeastIs T f' → f' T.start.toNat = f G.start.toNat ∧ 0 ≤ f G.start.toNat
set_option maxRecDepth 100000 in
theorem least_at {G : Gm} {v : Int} (hMY : LeastYes 24) (hc : checkB G = true) (hv : ∀ f, LeastIs G f → f G.start.toNat = v) (h0 : 0 ≤ v) (ka pa ra qa : Option Addr) (kc pc rc qc : Nat) (w : World) (hin : GIn w.heap.size w G ka pa ra qa) :
    Calls Tryz.prog 24 #[.agg #[.slice ka G.kinds.length kc, .slice pa G.precs.length pc, .slice ra G.rules.length rc, .slice qa G.prods.length qc, .int .i64 G.start], .int .i64 G.start] w fun e w' => e = .returned (.tuple #[.int .i64 v, .bool true, .int .i64 0]) ∧ Below w.heap.size w w' := by
  have hG := check_ok hc
  have h3 := hG.s0; have h4 := hG.s1
  unfold Gm.nr at h4
  have h := hMY G hc ka pa ra qa kc pc rc qc G.start.toNat (by omega) w hin
  rw [Int.toNat_of_nonneg h3] at h
  refine h.mono ?_
  rintro e w' ⟨f, hf, rfl, hb⟩
  rw [hv f hf, decide_eq_true h0, Int.max_eq_left h0]
  exact ⟨rfl, hb⟩
set_option maxRecDepth 100000 in
theorem trim_facts {G : Gm} (hc : checkB G = true) (hs : prdF G G.start.toNat = true) : TF G (trimG G) := by
  have h1 := T_check hc hs
  have hG := check_ok h1
  have h3 := hG.s0; have h4 := hG.s1
  unfold Gm.nr at h4
  have h2 : prdF (trimG G) (trimG G).start.toNat = true := T_prd (by omega)
  refine ⟨h1, ?_, ?_, fun i hi => T_prd hi, fun i hi => T_rch (fun _ _ => rfl) hi, fun f f' hf hf' => ⟨?_, prd_leastT hf ((prdF_is _ _).1 hs)⟩⟩
  · unfold trG
    rw [if_pos ⟨h1, h2⟩]
    exact T_idem h1
  · unfold trV
    rw [h1, h2]; rfl
  · have := T_least hf hf' (start_keep hs)
    have e : (trimG G).start.toNat = nmbF G G.start.toNat := Int.toNat_natCast _
    rw [e]; exact this

set_option maxHeartbeats 4000000 in
set_option maxRecDepth 100000 in
theorem trimmed_walk (hT : TrimC 18) (hLY : LookYes 9) (hMY : LeastYes 24) (G : Gm) (ka pa ra qa : Option Addr) (kc pc rc qc : Nat) (w : World) (hin : GIn w.heap.size w G ka pa ra qa) (hsm : smG G) (hac : acG G) :
    Calls Tryz.prog 7 #[.agg #[.slice ka G.kinds.length kc, .slice pa G.precs.length pc, .slice ra G.rules.length rc, .slice qa G.prods.length qc, .int .i64 G.start]] w fun e w' => e = .returned (.bool true) ∧ Below w.heap.size w w' := by
  have hst := gst_new (kc := kc) (pc := pc) (rc := rc) (qc := qc) (Nat.le_refl _) hin 26
  have hb1 := (Below.refl w.heap.size w).alloc (Nat.le_refl _) (.cells #[.slice ka G.kinds.length kc, .slice pa G.precs.length pc, .slice ra G.rules.length rc, .slice qa G.prods.length qc, .int .i64 G.start] 26)
  have hs1 : (w.alloc (.cells #[.slice ka G.kinds.length kc, .slice pa G.precs.length pc, .slice ra G.rules.length rc, .slice qa G.prods.length qc, .int .i64 G.start] 26)).heap.size = w.heap.size + 1 := by simp
  have d0 := hst.c0; have d1 := hst.c1; have d2 := hst.c2; have d3 := hst.c3; have d4 := hst.c4
  have HT := hide hT; have HLY := hide hLY; have HMY := hide hMY; have HAw := hide (fun (W : World) (hW : Below w.heap.size w W) => awake_any hLY hMY W (tb_up hin.tab (Nat.le_refl _) hW)); have Htr := hide (tr_ok hac)
  have H1 := hide (hT G ka pa ra qa kc pc rc qc _ (gin_up hin hb1) hsm)
  have Hin := hide hin; have Hsm := hide hsm; have Hb1 := hide hb1; have Hst := hide hst
  have hnot := run_not
  clear hT hLY hMY hin hsm hb1 hst hac
  go_enter Tryz.func7, Tryz.ntmps7
  go_wp2_with fail
  clear d0 d1 d2 d3 d4
  generalize w.alloc (.cells #[.slice ka G.kinds.length kc, .slice pa G.precs.length pc, .slice ra G.rules.length rc, .slice qa G.prods.length qc, .int .i64 G.start] 26) = w1 at *
  refine (unhide H1).mono ?_
  rintro e w2 ⟨a0, a1, a2, a3, m0, m1, m2, m3, rfl, hg2, hb2⟩
  have hs2 := hb2.size
  by_cases hyes : checkB G = true ∧ prdF G G.start.toNat = true
  · have e1 : trG G = trimG G := by unfold trG; rw [if_pos hyes]
    have e2 : trV G = 0 := by unfold trV; rw [hyes.1, hyes.2]; rfl
    have Htf := hide (trim_facts hyes.1 hyes.2)
    have Hcg := hide hyes.1
    have Htr := unhide Htr
    rw [e1] at hg2 Htr ⊢
    rw [e2]
    have Htr := hide Htr
    clear e1 e2 hyes H1
    generalize trimG G = T at *
    obtain ⟨w3, hw3⟩ : ∃ w3, w3 = w2.alloc (.cells #[.slice a0 T.kinds.length m0, .slice a1 T.precs.length m1, .slice a2 T.rules.length m2, .slice a3 T.prods.length m3, .int .i64 T.start] 26) := ⟨_, rfl⟩
    have hb3 : Below w2.heap.size w2 w3 := by rw [hw3]; exact (Below.refl _ _).alloc (Nat.le_refl _) _
    have hs3 : w3.heap.size = w2.heap.size + 1 := by rw [hw3]; simp
    have hx3 : w3.heap[w2.heap.size]? = some (.cells #[.slice a0 T.kinds.length m0, .slice a1 T.precs.length m1, .slice a2 T.rules.length m2, .slice a3 T.prods.length m3, .int .i64 T.start] 26) := by rw [hw3]; exact Go.Deep.blk_alloc_new _ _
    have hb13 := hb2.trans (below_le hb3 (by omega))
    have hbw3 := (unhide Hb1).trans (below_le hb13 (by omega))
    obtain ⟨p0, p1, p2, p3, p4, -⟩ := five_cellsZ hx3
    have hg3 := gin_up hg2 hb3
    have hsmT : smG T := fun p hp => ((unhide Htr).2 p hp).1
    have H2 := unhide HT T a0 a1 a2 a3 m0 m1 m2 m3 w3 hg3 hsmT
    rw [(unhide Htf).tr, (unhide Htf).tv] at H2
    have H2 := hide H2
    have Hg3 := hide hg3; have Hx3 := hide hx3; have Hb3 := hide hbw3; have Hst3 := hide (gst_kept (below_le hb13 (by omega)) (Nat.le_refl _) (unhide Hst))
    rw [hw3] at p0 p1 p2 p3 p4
    clear hg2 hb2 hb3 hx3 hb13 hbw3 hg3 hsmT
    go_wp2_with fail
    rw [← hw3]
    clear p0 p1 p2 p3 p4 hw3
    refine (unhide H2).mono ?_
    rintro e w4 ⟨b0, b1, b2, b3, n0, n1, n2, n3, rfl, hg4, hb4⟩
    have hs4 := hb4.size
    obtain ⟨w5, hw5⟩ : ∃ w5, w5 = w4.alloc (.cells #[.slice b0 T.kinds.length n0, .slice b1 T.precs.length n1, .slice b2 T.rules.length n2, .slice b3 T.prods.length n3, .int .i64 T.start] 26) := ⟨_, rfl⟩
    have hb5 : Below w4.heap.size w4 w5 := by rw [hw5]; exact (Below.refl _ _).alloc (Nat.le_refl _) _
    have hs5 : w5.heap.size = w4.heap.size + 1 := by rw [hw5]; simp
    have hx5 : w5.heap[w4.heap.size]? = some (.cells #[.slice b0 T.kinds.length n0, .slice b1 T.precs.length n1, .slice b2 T.rules.length n2, .slice b3 T.prods.length n3, .int .i64 T.start] 26) := by rw [hw5]; exact Go.Deep.blk_alloc_new _ _
    have hb35 := hb4.trans (below_le hb5 (by omega))
    have hxt5 := bx_below (unhide Hx3) hb35
    obtain ⟨p0, p1, p2, p3, p4, -⟩ := five_cellsZ hxt5
    have H3 := hide (unhide HLY T (unhide Htf).ok a0 a1 a2 a3 m0 m1 m2 m3 w5 (gin_up (unhide Hg3) hb35))
    have Hg5 := hide (show GIn w5.heap.size w5 T a0 a1 a2 a3 ∧ GIn w5.heap.size w5 T b0 b1 b2 b3 from ⟨gin_up (unhide Hg3) hb35, gin_up hg4 hb5⟩)
    have Hxt5 := hide hxt5; have Hx5 := hide hx5
    have Hb5 := hide ((unhide Hb3).trans (below_le hb35 (by omega))); have Hst5 := hide (gst_kept (below_le hb35 (by omega)) (Nat.le_refl _) (unhide Hst3))
    rw [hw5] at p0 p1 p2 p3 p4
    clear hg4 hb4 hb5 hx5 hb35 hxt5 H2 Hg3 Hx3 Hb3 Hst3
    go_wp2_with fail
    rw [← hw5]
    clear p0 p1 p2 p3 p4 hw5
    refine (unhide H3).mono ?_
    rintro e w6 ⟨r0, c0, r1, c1, r2, c2, r3, c3, r4, c4, r5, c5, rfl, -, hm1, hm2, -, -, -, hb6⟩
    have hs6 := hb6.size
    have hl1 := boolsOf_len (prdF T) T.nr; have hl2 := boolsOf_len (atF T) T.nr
    have hv1 : ∀ k, k < T.rules.length → (boolsOf (prdF T) T.nr).getD k false = true := fun k hk => by rw [boolsOf_getD hk]; exact (unhide Htf).prd k hk
    have hv2 : ∀ k, k < T.rules.length → (boolsOf (atF T) T.nr).getD k false = true := fun k hk => by rw [boolsOf_getD hk]; exact (unhide Htf).rch k hk
    rw [hl1, hl2]
    generalize boolsOf (prdF T) T.nr = L1 at *
    generalize boolsOf (atF T) T.nr = L2 at *
    generalize (boolsOf (nullF T) T.nr).length = z0 at *
    generalize (boolsOf (fun r => mksF T r r) T.nr).length = z3 at *
    generalize (posT (fstF T) T.nk T.nr).length = z4 at *
    generalize (posT (flwF T) T.nk T.nr).length = z5 at *
    obtain ⟨w7, hw7⟩ : ∃ w7, w7 = w6.alloc (.cells #[.slice r0 z0 c0, .slice r1 T.rules.length c1, .slice r2 T.rules.length c2, .slice r3 z3 c3, .slice r4 z4 c4, .slice r5 z5 c5] 31) := ⟨_, rfl⟩
    have hb7 : Below w6.heap.size w6 w7 := by rw [hw7]; exact (Below.refl _ _).alloc (Nat.le_refl _) _
    have hs7 : w7.heap.size = w6.heap.size + 1 := by rw [hw7]; simp
    have hx7 : w7.heap[w6.heap.size]? = some (.cells #[.slice r0 z0 c0, .slice r1 T.rules.length c1, .slice r2 T.rules.length c2, .slice r3 z3 c3, .slice r4 z4 c4, .slice r5 z5 c5] 31) := by rw [hw7]; exact Go.Deep.blk_alloc_new _ _
    have hb57 := hb6.trans (below_le hb7 (by omega))
    have hxt7 := bx_below (unhide Hxt5) hb57
    have hxu7 := bx_below (unhide Hx5) hb57
    obtain ⟨p0, p1, p2, p3, p4, -⟩ := five_cellsZ hxt7
    obtain ⟨q0, q1, q2, q3, q4, -⟩ := five_cellsZ hxu7
    obtain ⟨⟨t1, t2, t3, t4⟩, t5⟩ := unhide Htr
    have HSm := hide (rSame_eq T a0 a1 a2 a3 b0 b1 b2 b3 m0 m1 m2 m3 n0 n1 n2 n3 w7 (gin_up (unhide Hg5).1 hb57) (gin_up (unhide Hg5).2 hb57) t1 t3 t2 t4 t5)
    have Hgt7 := hide (gin_up (unhide Hg5).1 hb57)
    have Hb7 := hide ((unhide Hb5).trans (below_le hb57 (by omega))); have Hst7 := hide (gst_kept (below_le hb57 (by omega)) (Nat.le_refl _) (unhide Hst5))
    have Hm1 := hide (mrow_below hm1 hb7); have Hm2 := hide (mrow_below hm2 hb7)
    have Hx7 := hide hx7; have Hxt7 := hide hxt7; have Hv1 := hide hv1; have Hv2 := hide hv2
    have Hl1 := hide hl1; have Hl2 := hide hl2
    have htl := t3
    rw [hw7] at p0 p1 p2 p3 p4 q0 q1 q2 q3 q4
    clear hm1 hm2 hb6 hb7 hx7 hb57 hxt7 hxu7 H3 Hg5 Hx5 Hxt5 Hb5 Hst5 t1 t2 t3 t4 t5 hv1 hv2 hl1 hl2 Htr
    go_wp2_with fail
    rw [← hw7]
    clear p0 p1 p2 p3 p4 q0 q1 q2 q3 q4 hw7
    refine (unhide HSm).mono ?_
    rintro e w8 ⟨rfl, hb8⟩
    have hs8 := hb8.size
    have hxt8 := bx_below (unhide Hxt7) hb8
    obtain ⟨p0, p1, p2, p3, p4, -⟩ := five_cellsZ hxt8
    have hx8 := bx_below (unhide Hx7) hb8
    obtain ⟨q0, q1, q2, q3, q4, q5, -⟩ := six_cells hx8
    have Hm18 := hide (mrow_below (unhide Hm1) hb8); have Hm28 := hide (mrow_below (unhide Hm2) hb8)
    have Hg8 := hide (gin_up (unhide Hgt7) hb8)
    have Hb8 := hide ((unhide Hb7).trans (below_le hb8 (by omega)))
    have hst8 := gst_kept (below_le hb8 (by omega)) (Nat.le_refl _) (unhide Hst7)
    have d0 := hst8.c0; have d1 := hst8.c1; have d2 := hst8.c2; have d3 := hst8.c3; have d4 := hst8.c4
    have Hst8 := hide hst8
    clear hb8 hxt8 hx8 hst8 HSm Hm1 Hm2 Hgt7 Hb7 Hst7 Hx7 Hxt7
    go_wp2
    go_loopw [9] (fun x wr => ∃ k : Nat, x = .int .i64 k ∧ k ≤ T.rules.length ∧ ∃ q, wr = w8.drewN q) (fun x _ => T.rules.length - (intOf x).toNat)
    case atStart => exact ⟨0, rfl, Nat.zero_le _, 0, rfl⟩
    case round =>
      obtain ⟨k, rfl, hk, q, rfl⟩ := hrel
      have y0 : (w8.drewN q).cell? ⟨w2.heap.size, 0, none⟩ = _ := p0
      have y1 : (w8.drewN q).cell? ⟨w2.heap.size, 1, none⟩ = _ := p1
      have y2 : (w8.drewN q).cell? ⟨w2.heap.size, 2, none⟩ = _ := p2
      have y3 : (w8.drewN q).cell? ⟨w2.heap.size, 3, none⟩ = _ := p3
      have y4 : (w8.drewN q).cell? ⟨w2.heap.size, 4, none⟩ = _ := p4
      have x1 : (w8.drewN q).cell? ⟨w6.heap.size, 1, none⟩ = _ := q1
      have x2 : (w8.drewN q).cell? ⟨w6.heap.size, 2, none⟩ = _ := q2
      have hszq : (w8.drewN q).heap.size = w8.heap.size := rfl
      have HbQ := hide (below_drewN (Below.refl w8.heap.size w8) q)
      by_cases hlt : k < T.rules.length
      · have hlt' : (k : Int) < T.rules.length := by omega
        obtain ⟨u1, o1, rfl, hu1, cc1⟩ := mrow_at (unhide Hm18) (k := k) (by rw [unhide Hl1]; exact hlt)
        obtain ⟨u2, o2, rfl, hu2, cc2⟩ := mrow_at (unhide Hm28) (k := k) (by rw [unhide Hl2]; exact hlt)
        rw [unhide Hv1 k hlt] at cc1
        rw [unhide Hv2 k hlt] at cc2
        have z1 : (w8.drewN q).cell? ⟨u1, o1 + k, none⟩ = some (.bool true) := cc1
        have z2 : (w8.drewN q).cell? ⟨u2, o2 + k, none⟩ = some (.bool true) := cc2
        clear cc1 cc2 p0 p1 p2 p3 p4 q0 q1 q2 q3 q4 q5 d0 d1 d2 d3 d4 hszq
        generalize hW : w8.drewN q = W at *
        go_wp2
        all_goals first
          | (go_quiet (fail); go_wp2; go_roundw; (case rel => exact ⟨k + 1, by go_num, by omega, q + nq, by rw [← hW, World.drewN_drewN]⟩); (case measure => simp [intOf]; omega))
          | (go_roundw; (case rel => exact ⟨k + 1, by go_num, by omega, q, hW.symm⟩); (case measure => simp [intOf]; omega))
      · obtain rfl : k = T.rules.length := by omega
        obtain ⟨f0, hf0⟩ := least_ex G
        obtain ⟨f1, hf1⟩ := least_ex T
        have hle := (unhide Htf).le f0 f1 hf0 hf1
        obtain ⟨v, hv⟩ : ∃ v, f0 G.start.toNat = v := ⟨_, rfl⟩
        rw [hv] at hle
        have HvG := hide (show ∀ f, LeastIs G f → f G.start.toNat = v from fun f hf => by rw [least_uniq hf hf0]; exact hv)
        have HvT := hide (show ∀ f, LeastIs T f → f T.start.toNat = v from fun f hf => by rw [least_uniq hf hf1]; exact hle.1)
        have hv0 := hle.2
        clear hf0 hf1 hle hv p0 p1 p2 p3 p4 q0 q1 q2 q3 q4 q5 d0 d1 d2 d3 d4 x1 x2 hnot
        have hgq := gin_up (unhide Hg8) (unhide HbQ)
        have HbA := hide (below_drewN (unhide Hb8) q)
        have HstA := hide (gst_kept (below_drewN (Below.refl (w.heap.size + 1) w8) q) (Nat.le_refl _) (unhide Hst8))
        generalize hW : w8.drewN q = W at *
        have H4 := hide (least_at (unhide HMY) (unhide Htf).ok (unhide HvT) hv0 a0 a1 a2 a3 m0 m1 m2 m3 W hgq)
        clear hgq hk
        go_wp2_with fail
        clear y0 y1 y2 y3 y4
        refine (unhide H4).mono ?_
        rintro e w9 ⟨rfl, hb9⟩
        have hs9 := hb9.size
        have hst9 := gst_kept (below_le hb9 (by omega)) (Nat.le_refl _) (unhide HstA)
        have d0 := hst9.c0; have d1 := hst9.c1; have d2 := hst9.c2; have d3 := hst9.c3; have d4 := hst9.c4
        have hb9w := (unhide HbA).trans (below_le hb9 (by omega))
        have H5 := hide (least_at (unhide HMY) (unhide Hcg) (unhide HvG) hv0 ka pa ra qa kc pc rc qc w9 (gin_up (unhide Hin) hb9w))
        have Hb9 := hide hb9w
        clear hb9 hst9 hb9w H4
        go_wp2_with fail
        clear d0 d1 d2 d3 d4
        refine (unhide H5).mono ?_
        rintro e w10 ⟨rfl, hb10⟩
        have hs10 := hb10.size
        have Hb10 := hide ((unhide Hb9).trans (below_le hb10 (by omega)))
        clear hb10 H5
        go_wp2_with fail
        refine (unhide HAw _ (unhide Hb10)).mono ?_
        rintro e w11 ⟨rfl, hb11⟩
        have Hb11 := hide ((unhide Hb10).trans (below_le hb11 (by omega)))
        clear hb11
        go_wp2
        go_ret
        exact ⟨rfl, unhide Hb11⟩
  · have e1 : trG G = gm0 := by unfold trG; rw [if_neg hyes]
    have e2 : trV G = 130 ∨ trV G = 8 := by
      unfold trV
      split
      · rename_i h
        rw [if_neg (fun h2 => hyes ⟨h, h2⟩)]
        exact .inr rfl
      · exact .inl rfl
    rw [e1]
    have Hb2 := hide ((unhide Hb1).trans (below_le hb2 (by omega)))
    clear e1 hyes H1 hg2 hb2 Htr HT HLY HMY
    rcases e2 with e2 | e2
    all_goals
      rw [e2]
      clear e2
      go_wp2_with fail
      refine (unhide HAw _ ((unhide Hb2).trans (below_le ((Below.refl w2.heap.size w2).alloc (Nat.le_refl _) _) (by omega)))).mono ?_
      rintro e w3 ⟨rfl, hb3⟩
      have Hb3 := hide ((unhide Hb2).trans ((below_le ((Below.refl w2.heap.size w2).alloc (Nat.le_refl _) _) (by omega)).trans (below_le hb3 (by simp; omega))))
      clear hb3
      go_wp2
      go_ret
      exact ⟨rfl, unhide Hb3⟩
end Go.Proofs.YtagohbpbgjelaaaGreatDoor

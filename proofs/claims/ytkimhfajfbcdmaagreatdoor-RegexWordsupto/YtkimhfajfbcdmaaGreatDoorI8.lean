/- The reader: a set of one range. -/
import Derived.Test.YtkimhfajfbcdmaaGreatDoorQK
import Derived.Test.YtkimhfajfbcdmaaGreatDoorQO
import Derived.Deep.DeepCutAuto
import Derived.Deep.RegionHeld3
namespace Go.Proofs.YtkimhfajfbcdmaaGreatDoor
open Go.RowKit Go.Maps

theorem held_range {av : Nat → Prop} {w : World} {B B' mb sb n : Nat} {a : Option Addr} {c : Nat} {xs : List Value} (h : w.ownsRow B 45 2 (.slice a n c) n xs) (hn : ∀ k, B ≤ k → ¬ av k) : Held av B' mb sb w a := by
  rintro x rfl
  rcases h.2 with ⟨h0, _⟩ | ⟨g, cap, cur, h0, hg, hh, _⟩
  · cases h0
  · simp only [Value.slice.injEq, Option.some.injEq] at h0
    obtain ⟨rfl, -, -⟩ := h0
    exact ⟨lt_of_some hh, .inr ⟨_, _, _, hh, by simp⟩, hn _ hg⟩
/-- What the first statement of set leaves. -/
def SetCut (W : World) (nx c1 c2 : Nat) (v3 v4 v5 : Value) (wc : World) : Prop :=
  ∃ va vc fb, v3 = .slice va 1 vc ∧ v4 = .int .i64 ((nx + 5 : Nat) : Int) ∧ v5 = .pointer (some ⟨fb, 0, none⟩) ∧ W.heap.size ≤ fb ∧ wc.ownsRow W.heap.size 45 2 (.slice va 1 vc) 1 (flatR [((c1 : Int), (c2 : Int))]) ∧ wc.heap[fb]? = some (.cells #[.int .i64 0, .int .i64 0] 49 (0, 0)) ∧ Below W.heap.size W wc
set_option maxHeartbeats 2000000 in
set_option maxRecDepth 100000 in
theorem rdc_set {B rb pb mb sb : Nat} {txt : ByteArray} {ov : Value} {sn : Nat} {DS : DataW Unit} {s : RSt} {c1 c2 : Nat} (hS : SetAt txt s.nx c1 c2) (hL : s.L.length < 1500000000000) :
    RdC 146 B rb pb mb sb txt ov sn DS s ⟨s.nx + 5, skipN txt (s.nx + 5), s.op, setL s.L [((c1 : Int), (c2 : Int))], s.e⟩ (setX s.L [((c1 : Int), (c2 : Int))]) := by
  intro av W hav hB hR
  have HF := hide (fun W => from1 txt s.nx c1 c2 hS W)
  have c0 := cell_block hR.rd 0 _ rfl
  have cn := cell_block hR.rd 2 _ rfl
  have htx := hS.sz
  have hlt := hS.lt
  have qn := neq49_0
  have g49 := guard49
  have HR := hide hR
  clear hR hS
  go_enter Tryz.func146, Tryz.ntmps146
  go_upto_region 1 with fail
  go_cut [3, 4, 5] (fun v3 v4 v5 wc => SetCut W s.nx c1 c2 v3 v4 v5 wc)
  case first =>
    have HS9 := hide (fun W' (hb : Below W.heap.size W.drew W') => show W'.cell? ⟨rb, 0, none⟩ = some (.string txt) ∧ W'.cell? ⟨rb, 2, none⟩ = some (.int .i64 (s.nx : Int)) from ⟨(hb.cell (p := ⟨rb, 0, none⟩) (rd_lt (unhide HR).rd)).trans c0, (hb.cell (p := ⟨rb, 2, none⟩) (rd_lt (unhide HR).rd)).trans cn⟩)
    refine wp_region_held_drew (S := fun W' : World => W'.cell? ⟨rb, 0, none⟩ = some (.string txt) ∧ W'.cell? ⟨rb, 2, none⟩ = some (.int .i64 (s.nx : Int))) (by kernel_rfl) (unhide HS9 _ (Below.refl _ _)) (fun hHeld => ?_)
    refine take_dst (i := 0) (dst := some 7) (v := ?_) rfl rfl (by kernel_rfl) (by kernel_rfl) (by kernel_rfl) (fun _ _ _ h => h) (Or.inl ⟨by rfl, ?_⟩) hHeld ?_
    rotate_left
    · intro w hSw; obtain ⟨z0, z2⟩ := hSw; go_simp; try (with_reducible rfl)
    simp only [Act.put, List.setIfInBounds_toArray, List.set_cons_zero, List.set_cons_succ]
    refine take_dst (i := 1) (dst := some 8) (v := ?_) rfl rfl (by kernel_rfl) (by kernel_rfl) (by kernel_rfl) (fun _ _ _ h => h) (Or.inl ⟨by rfl, ?_⟩) hHeld ?_
    rotate_left
    · intro w hSw; obtain ⟨z0, z2⟩ := hSw; go_simp; try (with_reducible rfl)
    simp only [Act.put, List.setIfInBounds_toArray, List.set_cons_zero, List.set_cons_succ]
    refine take_dst (i := 2) (dst := some 9) (v := ?_) rfl rfl (by kernel_rfl) (by kernel_rfl) (by kernel_rfl) (fun _ _ _ h => h) (Or.inl ⟨by rfl, ?_⟩) hHeld ?_
    rotate_left
    · intro w hSw; obtain ⟨z0, z2⟩ := hSw; go_simp; try (with_reducible rfl)
    simp only [Act.put, List.setIfInBounds_toArray, List.set_cons_zero, List.set_cons_succ]
    refine take_dst (i := 3) (dst := some 10) (v := ?_) rfl rfl (by kernel_rfl) (by kernel_rfl) (by kernel_rfl) (fun _ _ _ h => h) (Or.inl ⟨by rfl, ?_⟩) hHeld ?_
    rotate_left
    · intro w hSw; obtain ⟨z0, z2⟩ := hSw; go_simp; try (with_reducible rfl)
    simp only [Act.put, List.setIfInBounds_toArray, List.set_cons_zero, List.set_cons_succ]
    refine take_dst (i := 4) (dst := some 11) (v := ?_) rfl rfl (by kernel_rfl) (by kernel_rfl) (by kernel_rfl) (fun _ _ _ h => h) (Or.inl ⟨by rfl, ?_⟩) hHeld ?_
    rotate_left
    · intro w hSw; obtain ⟨z0, z2⟩ := hSw; go_simp; try (with_reducible rfl)
    simp only [Act.put, List.setIfInBounds_toArray, List.set_cons_zero, List.set_cons_succ]
    refine take_dst (i := 5) (dst := some 12) (v := ?_) rfl rfl (by kernel_rfl) (by kernel_rfl) (by kernel_rfl) (fun _ _ _ h => h) (Or.inl ⟨by rfl, ?_⟩) hHeld ?_
    rotate_left
    · intro w hSw; obtain ⟨z0, z2⟩ := hSw; go_simp; try (with_reducible rfl)
    simp only [Act.put, List.setIfInBounds_toArray, List.set_cons_zero, List.set_cons_succ]
    refine take_dst (i := 6) (dst := some 13) (v := ?_) rfl rfl (by kernel_rfl) (by kernel_rfl) (by kernel_rfl) (fun _ _ _ h => h) (Or.inl ⟨by rfl, ?_⟩) hHeld ?_
    rotate_left
    · intro w hSw; obtain ⟨z0, z2⟩ := hSw; go_simp; try (with_reducible rfl)
    simp only [Act.put, List.setIfInBounds_toArray, List.set_cons_zero, List.set_cons_succ]
    refine take_dst (i := 7) (dst := some 14) (v := ?_) rfl rfl (by kernel_rfl) (by kernel_rfl) (by kernel_rfl) (fun _ _ _ h => h) (Or.inl ⟨by rfl, ?_⟩) hHeld ?_
    rotate_left
    · intro w hSw; obtain ⟨z0, z2⟩ := hSw; go_simp; try (with_reducible rfl)
    simp only [Act.put, List.setIfInBounds_toArray, List.set_cons_zero, List.set_cons_succ]
    refine wpAnyH_ready (rs := [8, 13]) (by kernel_rfl) (by simp) ?_
    refine (AllReadyH.cons rfl (fun K hK => ?_) (AllReadyH.cons rfl (fun K hK => ?_) AllReadyH.nil))
    · go_simp
      go_at_call 155
      refine (unhide HF _).mono ?_
      rintro e w1 ⟨v, rfl, ho1, hb1⟩
      obtain ⟨va, vc, rfl⟩ := own_form ho1
      have hb2 : Below W.heap.size W.drew (w1.alloc (.cells #[.int .i64 0, .int .i64 0] 49)) := hb1.alloc hb1.size (.cells #[.int .i64 0, .int .i64 0] 49)
      have hF2 := heap_new w1 (.cells #[.int .i64 0, .int .i64 0] 49)
      have Ho2 := hide (own_lower (B := W.heap.size) (ho1.alloc (.cells #[.int .i64 0, .int .i64 0] 49)) (Nat.le_refl _))
      clear ho1
      have Hb2 : Hid (Below W.heap.size W (w1.alloc (.cells #[.int .i64 0, .int .i64 0] 49))) := hide ⟨hb2.os, hb2.tape, hb2.output, hb2.size, hb2.block⟩
      have HF2 := hide hF2
      have hw1 : W.heap.size ≤ w1.heap.size := hb1.size
      have hSn := unhide HS9 _ hb2
      have hSm := unhide HS9 _ hb1
      clear hb1
      go_wp2_with fail
      refine hK.out _ _ hSm (fun hHeld => ?_)
      clear hK K
      refine take_dst (i := 9) (dst := some 6) (v := ?_) rfl rfl (by kernel_rfl) (by kernel_rfl) (by kernel_rfl) (fun _ _ _ h => h) (Or.inl ⟨by rfl, ?_⟩) hHeld ?_
      rotate_left
      · intro w hSw; obtain ⟨z0, z2⟩ := hSw; go_simp; try (with_reducible rfl)
      simp only [Act.put, List.setIfInBounds_toArray, List.set_cons_zero, List.set_cons_succ]
      refine take_dst (i := 10) (dst := some 16) (v := ?_) rfl rfl (by kernel_rfl) (by kernel_rfl) (by kernel_rfl) (fun _ _ _ h => h) (Or.inl ⟨by rfl, ?_⟩) hHeld ?_
      rotate_left
      · intro w hSw; obtain ⟨z0, z2⟩ := hSw; go_simp; try (with_reducible rfl)
      simp only [Act.put, List.setIfInBounds_toArray, List.set_cons_zero, List.set_cons_succ]
      refine take_dst (i := 11) (dst := some 17) (v := ?_) rfl rfl (by kernel_rfl) (by kernel_rfl) (by kernel_rfl) (fun _ _ _ h => h) (Or.inl ⟨by rfl, ?_⟩) hHeld ?_
      rotate_left
      · intro w hSw; obtain ⟨z0, z2⟩ := hSw; go_simp; try (with_reducible rfl)
      simp only [Act.put, List.setIfInBounds_toArray, List.set_cons_zero, List.set_cons_succ]
      refine take_dst (i := 12) (dst := some 18) (v := ?_) rfl rfl (by kernel_rfl) (by kernel_rfl) (by kernel_rfl) (fun _ _ _ h => h) (Or.inl ⟨by rfl, ?_⟩) hHeld ?_
      rotate_left
      · intro w hSw; obtain ⟨z0, z2⟩ := hSw; go_simp; try (with_reducible rfl)
      simp only [Act.put, List.setIfInBounds_toArray, List.set_cons_zero, List.set_cons_succ]
      refine wpAnyH_ready (rs := [13]) (by kernel_rfl) (by simp) ?_
      refine (AllReadyH.cons rfl (fun K hK => ?_) AllReadyH.nil)
      go_simp
      refine hK.out _ _ (hSn) (fun hHeld => ?_)
      clear hK K
      have d0 := cell_block hF2 0 _ rfl
      have d1 := cell_block hF2 1 _ rfl
      have f0 := frozen_block hF2 0
      have f1 := frozen_block hF2 1
      have s0 := set_self (v := .int .i64 0) hF2 (i := 0) rfl
      have s1 := set_self (v := .int .i64 0) hF2 (i := 1) rfl
      clear hF2 hb2
      refine wpAnyH_ready (rs := [14]) (by kernel_rfl) (by simp) ?_
      refine (AllReadyH.cons rfl (fun K hK => ?_) AllReadyH.nil)
      go_simp
      refine hK.out _ _ (hSn) (fun hHeld => ?_)
      clear hK K
      refine wpAnyH_ready (rs := [15]) (by kernel_rfl) (by simp) ?_
      refine (AllReadyH.cons rfl (fun K hK => ?_) AllReadyH.nil)
      go_simp
      refine hK.out _ _ (hSn) (fun hHeld => ?_)
      clear hK K
      refine wpAnyH_ready (rs := [16]) (by kernel_rfl) (by simp) ?_
      refine (AllReadyH.cons rfl (fun K hK => ?_) AllReadyH.nil)
      go_simp
      refine hK.out _ _ (hSn) (fun hHeld => ?_)
      clear hK K
      refine wpAnyH_done (by kernel_rfl) ?_ _
      go_wp2_with fail
      go_meet
      exact ⟨va, vc, w1.heap.size, rfl, rfl, rfl, hw1, unhide Ho2, unhide HF2, unhide Hb2⟩
    · go_simp
      have hb0 : Below W.heap.size W.drew (W.drew.alloc (.cells #[.int .i64 0, .int .i64 0] 49)) := (Below.refl W.heap.size W.drew).alloc (Nat.le_refl _) (.cells #[.int .i64 0, .int .i64 0] 49)
      have HF0 := hide (heap_new W.drew (.cells #[.int .i64 0, .int .i64 0] 49))
      refine hK.out _ _ (unhide HS9 _ hb0) (fun hHeld => ?_)
      clear hK K
      refine wpAnyH_ready (rs := [8]) (by kernel_rfl) (by simp) ?_
      refine (AllReadyH.cons rfl (fun K hK => ?_) AllReadyH.nil)
      go_simp
      go_at_call 155
      refine (unhide HF _).mono ?_
      rintro e w1 ⟨v, rfl, ho1, hb1⟩
      obtain ⟨va, vc, rfl⟩ := own_form ho1
      have hb2 : Below W.heap.size W.drew w1 := hb0.trans (hb1.mono (by simp))
      have hF2 : w1.heap[W.heap.size]? = some (.cells #[.int .i64 0, .int .i64 0] 49 (0, 0)) := (hb1.block W.heap.size (by simp)).trans (unhide HF0)
      have Ho2 := hide (own_lower (B := W.heap.size) ho1 (by simp))
      clear ho1
      have Hb2 : Hid (Below W.heap.size W w1) := hide ⟨hb2.os, hb2.tape, hb2.output, hb2.size, hb2.block⟩
      have HF2 := hide hF2
      have hSn := unhide HS9 _ hb2
      clear hb1 hb0 hb2 HF0
      go_wp2_with fail
      refine hK.out _ _ hSn (fun hHeld => ?_)
      clear hK K
      refine take_dst (i := 9) (dst := some 6) (v := ?_) rfl rfl (by kernel_rfl) (by kernel_rfl) (by kernel_rfl) (fun _ _ _ h => h) (Or.inl ⟨by rfl, ?_⟩) hHeld ?_
      rotate_left
      · intro w hSw; obtain ⟨z0, z2⟩ := hSw; go_simp; try (with_reducible rfl)
      simp only [Act.put, List.setIfInBounds_toArray, List.set_cons_zero, List.set_cons_succ]
      refine take_dst (i := 10) (dst := some 16) (v := ?_) rfl rfl (by kernel_rfl) (by kernel_rfl) (by kernel_rfl) (fun _ _ _ h => h) (Or.inl ⟨by rfl, ?_⟩) hHeld ?_
      rotate_left
      · intro w hSw; obtain ⟨z0, z2⟩ := hSw; go_simp; try (with_reducible rfl)
      simp only [Act.put, List.setIfInBounds_toArray, List.set_cons_zero, List.set_cons_succ]
      refine take_dst (i := 11) (dst := some 17) (v := ?_) rfl rfl (by kernel_rfl) (by kernel_rfl) (by kernel_rfl) (fun _ _ _ h => h) (Or.inl ⟨by rfl, ?_⟩) hHeld ?_
      rotate_left
      · intro w hSw; obtain ⟨z0, z2⟩ := hSw; go_simp; try (with_reducible rfl)
      simp only [Act.put, List.setIfInBounds_toArray, List.set_cons_zero, List.set_cons_succ]
      refine take_dst (i := 12) (dst := some 18) (v := ?_) rfl rfl (by kernel_rfl) (by kernel_rfl) (by kernel_rfl) (fun _ _ _ h => h) (Or.inl ⟨by rfl, ?_⟩) hHeld ?_
      rotate_left
      · intro w hSw; obtain ⟨z0, z2⟩ := hSw; go_simp; try (with_reducible rfl)
      simp only [Act.put, List.setIfInBounds_toArray, List.set_cons_zero, List.set_cons_succ]
      have d0 := cell_block hF2 0 _ rfl
      have d1 := cell_block hF2 1 _ rfl
      have f0 := frozen_block hF2 0
      have f1 := frozen_block hF2 1
      have s0 := set_self (v := .int .i64 0) hF2 (i := 0) rfl
      have s1 := set_self (v := .int .i64 0) hF2 (i := 1) rfl
      clear hF2
      refine wpAnyH_ready (rs := [14]) (by kernel_rfl) (by simp) ?_
      refine (AllReadyH.cons rfl (fun K hK => ?_) AllReadyH.nil)
      go_simp
      refine hK.out _ _ (hSn) (fun hHeld => ?_)
      clear hK K
      refine wpAnyH_ready (rs := [15]) (by kernel_rfl) (by simp) ?_
      refine (AllReadyH.cons rfl (fun K hK => ?_) AllReadyH.nil)
      go_simp
      refine hK.out _ _ (hSn) (fun hHeld => ?_)
      clear hK K
      refine wpAnyH_ready (rs := [16]) (by kernel_rfl) (by simp) ?_
      refine (AllReadyH.cons rfl (fun K hK => ?_) AllReadyH.nil)
      go_simp
      refine hK.out _ _ (hSn) (fun hHeld => ?_)
      clear hK K
      refine wpAnyH_done (by kernel_rfl) ?_ _
      go_wp2_with fail
      go_meet
      exact ⟨va, vc, W.heap.size, rfl, rfl, rfl, Nat.le_refl _, unhide Ho2, unhide HF2, unhide Hb2⟩
  case rest =>
    obtain ⟨va, vc, fb, rfl, rfl, rfl, hfb, ho, hF, hbel⟩ := hcut
    have hrp := rp_below (unhide HR) hbel
    have HMv := hide (move_any wc rb txt htx s.at' s.nx s.op _ hrp.rd (s.nx + 5) (by omega))
    have hrb : rb < W.heap.size := rd_lt (unhide HR).rd
    have d0 := cell_block hF 0 _ rfl
    have d1 := cell_block hF 1 _ rfl
    have Hrp := hide hrp; have Ho := hide ho; have Hbel := hide hbel
    clear hrp ho hbel hF HF c0 cn HR
    go_wp2_with fail
    refine (unhide HMv).mono ?_
    rintro e w2 ⟨⟨v2, rfl⟩, hr2, ho2⟩
    have hrp2 := rp_rd (unhide Hrp) ho2 hr2
    have hown2 := own_off (unhide Ho) ho2 (fun k hk e => by have := ((unhide Ho).lt k hk).1; omega)
    have hs2 : W.heap.size ≤ w2.heap.size := Nat.le_trans (unhide Hbel).size ho2.size
    have c4 := cell_block hrp2.rd 4 _ rfl
    have HSt := hide (set_any w2 B pb mb sb s.L ov s.e sn DS hrp2.pool (Nat.le_trans hB hs2) va vc [((c1 : Int), (c2 : Int))] (by simp) (rrow_own (l := [((c1 : Int), (c2 : Int))]) hown2).1 (held_range hown2 (fun k hk ha => by have := hav k ha; omega)) hL)
    have Hrp2 := hide hrp2; have Hf2 := hide (rfr_t (rfr_below (unhide Hbel)) (rfr_off (B := B) (mb := mb) (sb := sb) ho2))
    clear hr2 ho2 hrp2 hown2 HMv Hrp Ho Hbel d0 d1
    go_wp2_with fail
    refine (unhide HSt).mono ?_
    rintro e w3 ⟨rfl, hp3, hf3⟩
    have Hrp3 := hide (rp_pool (unhide Hrp2) hf3 hp3); have Hf3 := hide (rfr_t (unhide Hf2) (rfr_fr hf3))
    clear hp3 hf3 HSt Hrp2 Hf2
    go_wp2
    go_ret
    exact ⟨rfl, unhide Hrp3, unhide Hf3⟩
end Go.Proofs.YtkimhfajfbcdmaaGreatDoor

/- The reader: the quoted text of one rune. -/
import Derived.Test.YtkimhfajfbcdmaaGreatDoorI8
namespace Go.Proofs.YtkimhfajfbcdmaaGreatDoor
open Go.RowKit Go.Maps

theorem irow98 {w : World} {B : Nat} {a : Option Addr} {c : Nat} (h : w.ownsRow B 21 1 (.slice a 1 c) 1 [.int .i32 98]) : IRow w a [98] ∧ ∀ (B' mb sb : Nat) x, a = some x → Stay B' mb sb w x.block := by
  rcases h.2 with ⟨h0, hz⟩ | ⟨g, cap, cur, h0, hg, hh, _⟩
  · cases hz
  · simp only [Value.slice.injEq] at h0
    obtain ⟨rfl, -, rfl⟩ := h0
    refine ⟨.inr ⟨g, 0, rfl, lt_of_some hh, fun j hj => ?_⟩, fun B' mb sb x hx => ?_⟩
    · obtain rfl : j = 0 := by simpa using hj
      exact h.cellAt 0 (by omega)
    · cases hx
      exact .inr (.inl ⟨_, 21, _, hh, by decide, by decide, by decide⟩)
/-- What the first statement of quoted leaves. -/
def QuotCut (W : World) (nx : Nat) (v3 v4 v5 : Value) (wc : World) : Prop :=
  ∃ fb, v3 = .string tB ∧ v4 = .int .i64 ((nx + 3 : Nat) : Int) ∧ v5 = .pointer (some ⟨fb, 0, none⟩) ∧ W.heap.size ≤ fb ∧ wc.heap[fb]? = some (.cells #[.int .i64 0, .int .i64 0] 49 (0, 0)) ∧ Below W.heap.size W wc
set_option maxHeartbeats 1000000 in
set_option maxRecDepth 100000 in
theorem rdc_quoted {B rb pb mb sb : Nat} {txt : ByteArray} {ov : Value} {sn : Nat} {DS : DataW Unit} {s : RSt} (htx : txt.size ≤ 281474976710656) (hlt : s.nx + 3 = txt.size) (he : txt.extract s.nx txt.size = tQ) (h2 : 2 ≤ s.L.length) (hcap : (s.L.length + 1) * 2 < 1500000000000) (y : Nat) (hy : (wordA s.L [98]).2 = y) (hyl : y < (wordA s.L [98]).1.length) :
    RdC 147 B rb pb mb sb txt ov sn DS s ⟨s.nx + 3, skipN txt (s.nx + 3), s.op, (wordA s.L [98]).1, heldE (wordA s.L [98]).1 s.e y⟩ (heldX (wordA s.L [98]).1 y) := by
  intro av W hav hB hR
  have HF := hide (fun W => quotedQ txt s.nx htx hlt he W)
  have c0 := cell_block hR.rd 0 _ rfl
  have cn := cell_block hR.rd 2 _ rfl
  have qn := neq49_0
  have g49 := guard49
  have HR := hide hR
  have hle : s.nx + 3 ≤ txt.size := by omega
  clear hR he hlt
  go_enter Tryz.func147, Tryz.ntmps147
  go_upto_region 1 with fail
  go_cut [3, 4, 5] (fun v3 v4 v5 wc => QuotCut W s.nx v3 v4 v5 wc)
  case first =>
    have HS9 := hide (fun W' (hb : Below W.heap.size W.drew W') => show W'.cell? ⟨rb, 0, none⟩ = some (.string txt) ∧ W'.cell? ⟨rb, 2, none⟩ = some (.int .i64 (s.nx : Int)) from ⟨(hb.cell (p := ⟨rb, 0, none⟩) (rd_lt (unhide HR).rd)).trans c0, (hb.cell (p := ⟨rb, 2, none⟩) (rd_lt (unhide HR).rd)).trans cn⟩)
    refine wp_region_held_drew (S := fun W' : World => W'.cell? ⟨rb, 0, none⟩ = some (.string txt) ∧ W'.cell? ⟨rb, 2, none⟩ = some (.int .i64 (s.nx : Int))) (by kernel_rfl) (unhide HS9 _ (Below.refl _ _)) (fun hHeld => ?_)
    refine take_dst (i := 0) (dst := some 8) (v := ?_) rfl rfl (by kernel_rfl) (by kernel_rfl) (by kernel_rfl) (fun _ _ _ h => h) (Or.inl ⟨by rfl, ?_⟩) hHeld ?_
    rotate_left
    · intro w hSw; obtain ⟨z0, z2⟩ := hSw; go_simp; try (with_reducible rfl)
    simp only [Act.put, List.setIfInBounds_toArray, List.set_cons_zero, List.set_cons_succ]
    refine take_dst (i := 1) (dst := some 9) (v := ?_) rfl rfl (by kernel_rfl) (by kernel_rfl) (by kernel_rfl) (fun _ _ _ h => h) (Or.inl ⟨by rfl, ?_⟩) hHeld ?_
    rotate_left
    · intro w hSw; obtain ⟨z0, z2⟩ := hSw; go_simp; try (with_reducible rfl)
    simp only [Act.put, List.setIfInBounds_toArray, List.set_cons_zero, List.set_cons_succ]
    refine take_dst (i := 2) (dst := some 10) (v := ?_) rfl rfl (by kernel_rfl) (by kernel_rfl) (by kernel_rfl) (fun _ _ _ h => h) (Or.inl ⟨by rfl, ?_⟩) hHeld ?_
    rotate_left
    · intro w hSw; obtain ⟨z0, z2⟩ := hSw; go_simp; try (with_reducible rfl)
    simp only [Act.put, List.setIfInBounds_toArray, List.set_cons_zero, List.set_cons_succ]
    refine take_dst (i := 3) (dst := some 11) (v := ?_) rfl rfl (by kernel_rfl) (by kernel_rfl) (by kernel_rfl) (fun _ _ _ h => h) (Or.inl ⟨by rfl, ?_⟩) hHeld ?_
    rotate_left
    · intro w hSw; obtain ⟨z0, z2⟩ := hSw; go_simp; try (with_reducible rfl)
    simp only [Act.put, List.setIfInBounds_toArray, List.set_cons_zero, List.set_cons_succ]
    refine take_dst (i := 4) (dst := some 12) (v := ?_) rfl rfl (by kernel_rfl) (by kernel_rfl) (by kernel_rfl) (fun _ _ _ h => h) (Or.inl ⟨by rfl, ?_⟩) hHeld ?_
    rotate_left
    · intro w hSw; obtain ⟨z0, z2⟩ := hSw; go_simp; try (with_reducible rfl)
    simp only [Act.put, List.setIfInBounds_toArray, List.set_cons_zero, List.set_cons_succ]
    refine take_dst (i := 5) (dst := some 13) (v := ?_) rfl rfl (by kernel_rfl) (by kernel_rfl) (by kernel_rfl) (fun _ _ _ h => h) (Or.inl ⟨by rfl, ?_⟩) hHeld ?_
    rotate_left
    · intro w hSw; obtain ⟨z0, z2⟩ := hSw; go_simp; try (with_reducible rfl)
    simp only [Act.put, List.setIfInBounds_toArray, List.set_cons_zero, List.set_cons_succ]
    refine take_dst (i := 6) (dst := some 14) (v := ?_) rfl rfl (by kernel_rfl) (by kernel_rfl) (by kernel_rfl) (fun _ _ _ h => h) (Or.inl ⟨by rfl, ?_⟩) hHeld ?_
    rotate_left
    · intro w hSw; obtain ⟨z0, z2⟩ := hSw; go_simp; try (with_reducible rfl)
    simp only [Act.put, List.setIfInBounds_toArray, List.set_cons_zero, List.set_cons_succ]
    refine take_dst (i := 7) (dst := some 15) (v := ?_) rfl rfl (by kernel_rfl) (by kernel_rfl) (by kernel_rfl) (fun _ _ _ h => h) (Or.inl ⟨by rfl, ?_⟩) hHeld ?_
    rotate_left
    · intro w hSw; obtain ⟨z0, z2⟩ := hSw; go_simp; try (with_reducible rfl)
    simp only [Act.put, List.setIfInBounds_toArray, List.set_cons_zero, List.set_cons_succ]
    refine wpAnyH_ready (rs := [8, 13]) (by kernel_rfl) (by simp) ?_
    refine (AllReadyH.cons rfl (fun K hK => ?_) (AllReadyH.cons rfl (fun K hK => ?_) AllReadyH.nil))
    · go_simp
      go_at_call 156
      refine (unhide HF _).mono ?_
      rintro e w1 ⟨rfl, hb1⟩
      have hb2 : Below W.heap.size W.drew (w1.alloc (.cells #[.int .i64 0, .int .i64 0] 49)) := hb1.alloc hb1.size (.cells #[.int .i64 0, .int .i64 0] 49)
      have hF2 := heap_new w1 (.cells #[.int .i64 0, .int .i64 0] 49)
      have Hb2 : Hid (Below W.heap.size W (w1.alloc (.cells #[.int .i64 0, .int .i64 0] 49))) := hide ⟨hb2.os, hb2.tape, hb2.output, hb2.size, hb2.block⟩
      have HF2 := hide hF2
      have hw1 : W.heap.size ≤ w1.heap.size := hb1.size
      have hSn := unhide HS9 _ hb2
      have hSm := unhide HS9 _ hb1
      clear hb1
      go_wp2_with fail
      refine hK.out _ _ hSm (fun hHeld => ?_)
      clear hK K
      refine take_dst (i := 9) (dst := some 7) (v := ?_) rfl rfl (by kernel_rfl) (by kernel_rfl) (by kernel_rfl) (fun _ _ _ h => h) (Or.inl ⟨by rfl, ?_⟩) hHeld ?_
      rotate_left
      · intro w hSw; obtain ⟨z0, z2⟩ := hSw; go_simp; try (with_reducible rfl)
      simp only [Act.put, List.setIfInBounds_toArray, List.set_cons_zero, List.set_cons_succ]
      refine take_dst (i := 10) (dst := some 17) (v := ?_) rfl rfl (by kernel_rfl) (by kernel_rfl) (by kernel_rfl) (fun _ _ _ h => h) (Or.inl ⟨by rfl, ?_⟩) hHeld ?_
      rotate_left
      · intro w hSw; obtain ⟨z0, z2⟩ := hSw; go_simp; try (with_reducible rfl)
      simp only [Act.put, List.setIfInBounds_toArray, List.set_cons_zero, List.set_cons_succ]
      refine take_dst (i := 11) (dst := some 18) (v := ?_) rfl rfl (by kernel_rfl) (by kernel_rfl) (by kernel_rfl) (fun _ _ _ h => h) (Or.inl ⟨by rfl, ?_⟩) hHeld ?_
      rotate_left
      · intro w hSw; obtain ⟨z0, z2⟩ := hSw; go_simp; try (with_reducible rfl)
      simp only [Act.put, List.setIfInBounds_toArray, List.set_cons_zero, List.set_cons_succ]
      refine take_dst (i := 12) (dst := some 19) (v := ?_) rfl rfl (by kernel_rfl) (by kernel_rfl) (by kernel_rfl) (fun _ _ _ h => h) (Or.inl ⟨by rfl, ?_⟩) hHeld ?_
      rotate_left
      · intro w hSw; obtain ⟨z0, z2⟩ := hSw; go_simp; try (with_reducible rfl)
      simp only [Act.put, List.setIfInBounds_toArray, List.set_cons_zero, List.set_cons_succ]
      refine wpAnyH_ready (rs := [13]) (by kernel_rfl) (by simp) ?_
      refine (AllReadyH.cons rfl (fun K hK => ?_) AllReadyH.nil)
      go_simp
      refine hK.out _ _ (hSn) (fun hHeld => ?_)
      clear hK K
      have d0 := cell_block hF2 0 _ rfl
      have d1 := cell_block hF2 1 _ rfl
      have f0 := frozen_block hF2 0
      have f1 := frozen_block hF2 1
      have s0 := set_self (v := .int .i64 0) hF2 (i := 0) rfl
      have s1 := set_self (v := .int .i64 0) hF2 (i := 1) rfl
      clear hF2 hb2
      refine wpAnyH_ready (rs := [14]) (by kernel_rfl) (by simp) ?_
      refine (AllReadyH.cons rfl (fun K hK => ?_) AllReadyH.nil)
      go_simp
      refine hK.out _ _ (hSn) (fun hHeld => ?_)
      clear hK K
      refine wpAnyH_ready (rs := [15]) (by kernel_rfl) (by simp) ?_
      refine (AllReadyH.cons rfl (fun K hK => ?_) AllReadyH.nil)
      go_simp
      refine hK.out _ _ (hSn) (fun hHeld => ?_)
      clear hK K
      refine wpAnyH_ready (rs := [16]) (by kernel_rfl) (by simp) ?_
      refine (AllReadyH.cons rfl (fun K hK => ?_) AllReadyH.nil)
      go_simp
      refine hK.out _ _ (hSn) (fun hHeld => ?_)
      clear hK K
      refine wpAnyH_done (by kernel_rfl) ?_ _
      go_wp2_with fail
      go_meet
      exact ⟨w1.heap.size, rfl, rfl, rfl, hw1, unhide HF2, unhide Hb2⟩
    · go_simp
      have hb0 : Below W.heap.size W.drew (W.drew.alloc (.cells #[.int .i64 0, .int .i64 0] 49)) := (Below.refl W.heap.size W.drew).alloc (Nat.le_refl _) (.cells #[.int .i64 0, .int .i64 0] 49)
      have HF0 := hide (heap_new W.drew (.cells #[.int .i64 0, .int .i64 0] 49))
      refine hK.out _ _ (unhide HS9 _ hb0) (fun hHeld => ?_)
      clear hK K
      refine wpAnyH_ready (rs := [8]) (by kernel_rfl) (by simp) ?_
      refine (AllReadyH.cons rfl (fun K hK => ?_) AllReadyH.nil)
      go_simp
      go_at_call 156
      refine (unhide HF _).mono ?_
      rintro e w1 ⟨rfl, hb1⟩
      have hb2 : Below W.heap.size W.drew w1 := hb0.trans (hb1.mono (by simp))
      have hF2 : w1.heap[W.heap.size]? = some (.cells #[.int .i64 0, .int .i64 0] 49 (0, 0)) := (hb1.block W.heap.size (by simp)).trans (unhide HF0)
      have Hb2 : Hid (Below W.heap.size W w1) := hide ⟨hb2.os, hb2.tape, hb2.output, hb2.size, hb2.block⟩
      have HF2 := hide hF2
      have hSn := unhide HS9 _ hb2
      clear hb1 hb0 hb2 HF0
      go_wp2_with fail
      refine hK.out _ _ hSn (fun hHeld => ?_)
      clear hK K
      refine take_dst (i := 9) (dst := some 7) (v := ?_) rfl rfl (by kernel_rfl) (by kernel_rfl) (by kernel_rfl) (fun _ _ _ h => h) (Or.inl ⟨by rfl, ?_⟩) hHeld ?_
      rotate_left
      · intro w hSw; obtain ⟨z0, z2⟩ := hSw; go_simp; try (with_reducible rfl)
      simp only [Act.put, List.setIfInBounds_toArray, List.set_cons_zero, List.set_cons_succ]
      refine take_dst (i := 10) (dst := some 17) (v := ?_) rfl rfl (by kernel_rfl) (by kernel_rfl) (by kernel_rfl) (fun _ _ _ h => h) (Or.inl ⟨by rfl, ?_⟩) hHeld ?_
      rotate_left
      · intro w hSw; obtain ⟨z0, z2⟩ := hSw; go_simp; try (with_reducible rfl)
      simp only [Act.put, List.setIfInBounds_toArray, List.set_cons_zero, List.set_cons_succ]
      refine take_dst (i := 11) (dst := some 18) (v := ?_) rfl rfl (by kernel_rfl) (by kernel_rfl) (by kernel_rfl) (fun _ _ _ h => h) (Or.inl ⟨by rfl, ?_⟩) hHeld ?_
      rotate_left
      · intro w hSw; obtain ⟨z0, z2⟩ := hSw; go_simp; try (with_reducible rfl)
      simp only [Act.put, List.setIfInBounds_toArray, List.set_cons_zero, List.set_cons_succ]
      refine take_dst (i := 12) (dst := some 19) (v := ?_) rfl rfl (by kernel_rfl) (by kernel_rfl) (by kernel_rfl) (fun _ _ _ h => h) (Or.inl ⟨by rfl, ?_⟩) hHeld ?_
      rotate_left
      · intro w hSw; obtain ⟨z0, z2⟩ := hSw; go_simp; try (with_reducible rfl)
      simp only [Act.put, List.setIfInBounds_toArray, List.set_cons_zero, List.set_cons_succ]
      have d0 := cell_block hF2 0 _ rfl
      have d1 := cell_block hF2 1 _ rfl
      have f0 := frozen_block hF2 0
      have f1 := frozen_block hF2 1
      have s0 := set_self (v := .int .i64 0) hF2 (i := 0) rfl
      have s1 := set_self (v := .int .i64 0) hF2 (i := 1) rfl
      clear hF2
      refine wpAnyH_ready (rs := [14]) (by kernel_rfl) (by simp) ?_
      refine (AllReadyH.cons rfl (fun K hK => ?_) AllReadyH.nil)
      go_simp
      refine hK.out _ _ (hSn) (fun hHeld => ?_)
      clear hK K
      refine wpAnyH_ready (rs := [15]) (by kernel_rfl) (by simp) ?_
      refine (AllReadyH.cons rfl (fun K hK => ?_) AllReadyH.nil)
      go_simp
      refine hK.out _ _ (hSn) (fun hHeld => ?_)
      clear hK K
      refine wpAnyH_ready (rs := [16]) (by kernel_rfl) (by simp) ?_
      refine (AllReadyH.cons rfl (fun K hK => ?_) AllReadyH.nil)
      go_simp
      refine hK.out _ _ (hSn) (fun hHeld => ?_)
      clear hK K
      refine wpAnyH_done (by kernel_rfl) ?_ _
      go_wp2_with fail
      go_meet
      exact ⟨W.heap.size, rfl, rfl, rfl, Nat.le_refl _, unhide HF2, unhide Hb2⟩
  case rest =>
    obtain ⟨fb, rfl, rfl, rfl, hfb, hF, hbel⟩ := hcut
    have HRn := hide (runesB wc)
    have hrb : rb < W.heap.size := rd_lt (unhide HR).rd
    have d0 := cell_block hF 0 _ rfl
    have d1 := cell_block hF 1 _ rfl
    have HF0 := hide hF; have Hbel := hide hbel
    clear hbel hF HF c0 cn
    go_wp2_with fail
    refine (unhide HRn).mono ?_
    rintro e w1 ⟨v1, rfl, ho1, hb1⟩
    obtain ⟨va, vc, rfl⟩ := own_form ho1
    have hF1 := (hb1.block fb (lt_of_some (unhide HF0))).trans (unhide HF0)
    have hbel1 := (unhide Hbel).trans (hb1.mono (unhide Hbel).size)
    have hrp := rp_below (unhide HR) hbel1
    have HMv := hide (move_any w1 rb txt htx s.at' s.nx s.op _ hrp.rd (s.nx + 3) (by omega))
    have Hrp := hide hrp; have Ho := hide (own_lower ho1 (unhide Hbel).size); have Hbel1 := hide hbel1
    clear d0 d1 HF0 Hbel hb1 ho1 hrp hbel1 HRn HR
    have d0 := cell_block hF1 0 _ rfl
    have d1 := cell_block hF1 1 _ rfl
    have f0 := frozen_block hF1 0
    have f1 := frozen_block hF1 1
    have s0 := set_self (v := .int .i64 0) hF1 (i := 0) rfl
    have s1 := set_self (v := .int .i64 0) hF1 (i := 1) rfl
    clear hF1
    go_wp2_with fail
    refine (unhide HMv).mono ?_
    rintro e w2 ⟨⟨v2, rfl⟩, hr2, ho2⟩
    have hrp2 := rp_rd (unhide Hrp) ho2 hr2
    have hown2 := own_off (unhide Ho) ho2 (fun k hk e => by have := ((unhide Ho).lt k hk).1; omega)
    have hs2 : W.heap.size ≤ w2.heap.size := Nat.le_trans (unhide Hbel1).size ho2.size
    have hf2 : RFr B mb sb rb W w2 := rfr_t (rfr_below (unhide Hbel1)) (rfr_off (B := B) (mb := mb) (sb := sb) ho2)
    clear d0 d1 f0 f1 s0 s1 hr2 ho2 HMv Hrp Ho Hbel1
    have Hrp2 := hide hrp2; have Hown2 := hide hown2; have Hf2 := hide hf2
    clear hrp2 hown2 hf2
    have hrp3 := rp_below (unhide Hrp2) (w' := w2.drew) (Below.refl _ _).drew
    have c4 := cell_block hrp3.rd 4 _ rfl
    have hir := irow98 (w := w2.drew) (unhide Hown2)
    have hwd := word_any w2.drew B pb mb sb s.L ov s.e sn DS hrp3.pool h2 va vc [98] (by simp) (by simpa using hcap) hir.1 (hir.2 B mb sb) (fun k hk => Nat.lt_of_lt_of_le (hav k hk) hs2)
    rw [hy] at hwd
    have HWd := hide hwd
    have Hrp3 := hide hrp3
    clear hrp3 hir hwd Hrp2 Hown2
    go_wp2_with fail
    go_region_with (first
      | (go_at_call 18; refine (unhide HWd).mono ?_; rintro e6 w6 ⟨rfl, hp6, hf6⟩; have hrp7 := rp_pool (unhide Hrp3) hf6 hp6; have d4 := cell_block hrp7.rd 4 _ rfl; have HH := hide (held_any w6 B pb mb sb _ ov s.e sn DS hp6 y hyl); have Hrp7 := hide hrp7; have Hf6 := hide hf6; clear hrp7 hf6 hp6)
      | (go_at_call 27; refine (unhide HH).mono ?_; rintro e7 w7 ⟨rfl, hp7, hf7⟩; have Hp7 := hide hp7; have Hf7 := hide hf7; clear hp7 hf7))
    all_goals
      go_wp2
      go_ret
      exact ⟨rfl, rp_pool (unhide Hrp7) (unhide Hf7) (unhide Hp7), rfr_t (rfr_t (unhide Hf2) (rfr_d (rfr_fr (unhide Hf6)))) (rfr_fr (unhide Hf7))⟩
end Go.Proofs.YtkimhfajfbcdmaaGreatDoor

/- does: the calls that change a set. -/
import Derived.Test.YtdpphjedjhjdgaaDoorD3
import Derived.Deep.DeepCutAuto
import Derived.Deep.CutRange
import Derived.Deep.RegionHeld3
namespace Go.Proofs.YtdpphjedjhjdgaaDoor
open Go.RowKit Go.Maps

set_option maxHeartbeats 2000000 in
set_option maxRecDepth 100000 in
theorem does_7_0 (w W : World) (Bs Br B0 B1 : Nat) (O0 O1 : Nat → Prop) (bl0 bl1 : List Blk) (v0 v1 : Value) (h : Inv w W Bs Br B0 B1 O0 O1 bl0 bl1 v0 v1 (allL bl0) (allL bl1)) (kd wh n : Int) (hk : (wrap64 (kd.tmod 9 + 9)).tmod 9 = 7) (hw : bits .and .i64 wh 1 = 0) (a : Option Addr) (c : Nat) (l : List Int) :
    Calls Tryd.prog 9 #[.pointer (some ⟨Bs, 0, none⟩), .pointer (some ⟨Br, 0, none⟩), .agg #[.int .i64 kd, .int .i64 wh, .int .i64 n, .slice a l.length c]] W fun e W' => e = .returned (.bool true) ∧ Two w W' Bs Br := by
  obtain ⟨a0, c0, rfl⟩ := rowI_form h.r0
  obtain ⟨a1, c1, rfl⟩ := rowI_form h.r1
  obtain ⟨W1, hW1⟩ : ∃ W1, W1 = W.alloc (.cells #[.int .i64 kd, .int .i64 wh, .int .i64 n, .slice a l.length c] 37) := ⟨_, rfl⟩
  have hb1 : Below W.heap.size W W1 := by rw [hW1]; exact (Below.refl _ _).alloc (Nat.le_refl _) _
  have hact : W1.heap[W.heap.size]? = some (.cells #[.int .i64 kd, .int .i64 wh, .int .i64 n, .slice a l.length c] 37 (0, 0)) := by rw [hW1]; exact (MapKept.heap_alloc W _).1
  have h1 := inv_off h hb1
  have k0 := cell_block hact 0 _ rfl
  have k1 := cell_block hact 1 _ rfl
  have s0 := cell_block h1.s 0 _ rfl
  have s1 := cell_block h1.s 1 _ rfl
  have r0 := cell_block h1.r 0 _ rfl
  have r1 := cell_block h1.r 1 _ rfl
  have hBr := lt_of_some h1.r
  have r0a : ∀ o, (W1.alloc o).cell? ⟨Br, 0, none⟩ = some (.slice a0 (allL bl0).length c0) := fun o => (((Below.refl _ W1).alloc (Nat.le_refl _) o).cell (p := ⟨Br, 0, none⟩) hBr).trans r0
  have r1a : ∀ o, (W1.alloc o).cell? ⟨Br, 1, none⟩ = some (.slice a1 (allL bl1).length c1) := fun o => (((Below.refl _ W1).alloc (Nat.le_refl _) o).cell (p := ⟨Br, 1, none⟩) hBr).trans r1
  have r0b : ∀ o o', ((W1.alloc o).alloc o').cell? ⟨Br, 0, none⟩ = some (.slice a0 (allL bl0).length c0) := fun o o' => ((((Below.refl _ W1).alloc (Nat.le_refl _) o).alloc (by simp) o').cell (p := ⟨Br, 0, none⟩) hBr).trans r0
  have r1b : ∀ o o', ((W1.alloc o).alloc o').cell? ⟨Br, 1, none⟩ = some (.slice a1 (allL bl1).length c1) := fun o o' => ((((Below.refl _ W1).alloc (Nat.le_refl _) o).alloc (by simp) o').cell (p := ⟨Br, 1, none⟩) hBr).trans r1
  have H := hide h; have Hact := hide hact; have Hb1 := hide hb1
  clear h h1 hact hb1
  go_enter Tryd.func9, Tryd.ntmps9
  go_wp2
  rw [← hW1]
  clear hW1
  go_region
  go_wp2_with fail
  go_upto_region 3 with fail
  go_cut [10, 11] (fun p q wx => ∃ bp bq, p = .pointer (some ⟨bp, 0, none⟩) ∧ q = .pointer (some ⟨bq, 0, none⟩) ∧ Laid3 W wx #[.int .i64 kd, .int .i64 wh, .int .i64 n, .slice a l.length c] (.slice a0 (allL bl0).length c0) (.slice a1 (allL bl1).length c1) W.heap.size bp bq)
  case first =>
    go_region
    all_goals
      go_wp2_with fail
      go_meet
      first
        | exact ⟨_, _, rfl, rfl, laid_pq (unhide Hact) (unhide Hb1) _ _⟩
        | exact ⟨_, _, rfl, rfl, laid_qp (unhide Hact) (unhide Hb1) _ _⟩
  case rest =>
    obtain ⟨bp, bq, rfl, rfl, hlaid⟩ := hcut
    have h2 := inv_off (unhide H) hlaid.below
    have k0 := cell_block hlaid.act 0 _ rfl
    have k2 := cell_block hlaid.act 2 _ rfl
    have k3 := cell_block hlaid.act 3 _ rfl
    have p0 := cell_block hlaid.p 0 _ rfl
    have q0 := cell_block hlaid.q 0 _ rfl
    have lA := lt_of_some hlaid.act
    have lP := lt_of_some hlaid.p
    have lQ := lt_of_some hlaid.q
    have g0 := ok_good h2.t0.ok
    have g1 := ok_good h2.t1.ok
    have hl0 := allL_short g0.up g0.fit
    have hl1 := allL_short g1.up g1.fit
    have HX : Hid (Calls Tryd.prog 13 #[.pointer (some ⟨B1, 0, none⟩)] wc.drew fun e W2 => ∃ Z, e = .returned (.pointer (some ⟨Z, 0, none⟩)) ∧ W2.cell? ⟨Bs, 0, none⟩ = some (.pointer (some ⟨B0, 0, none⟩)) ∧ W2.frozen? ⟨Bs, 0, none⟩ = false ∧
        ((W2.setCell ⟨Bs, 0, none⟩ (.pointer (some ⟨Z, 0, none⟩))).cell? ⟨bq, 0, none⟩ = some (.slice a1 (allL bl1).length c1) ∧ (W2.setCell ⟨Bs, 0, none⟩ (.pointer (some ⟨Z, 0, none⟩))).cell? ⟨Br, 0, none⟩ = some (.slice a0 (allL bl0).length c0) ∧ (W2.setCell ⟨Bs, 0, none⟩ (.pointer (some ⟨Z, 0, none⟩))).frozen? ⟨Br, 0, none⟩ = false) ∧
        Two w ((W2.setCell ⟨Bs, 0, none⟩ (.pointer (some ⟨Z, 0, none⟩))).setCell ⟨Br, 0, none⟩ (.slice a1 (allL bl1).length c1)).drew Bs Br ∧ ((W2.setCell ⟨Bs, 0, none⟩ (.pointer (some ⟨Z, 0, none⟩))).setCell ⟨Br, 0, none⟩ (.slice a1 (allL bl1).length c1)).drew.cell? ⟨Bs, 0, none⟩ = some (.pointer (some ⟨Z, 0, none⟩))) := hide (by
      have hdr : Below wc.heap.size wc wc.drew := (Below.refl _ _).drew
      have h3 := inv_off h2 hdr
      refine (copy_any B1 O1 bl1 (cnt 1048576 (hasB bl1)) wc.drew h3.t1.ok).mono ?_
      rintro e W2 ⟨Z, rfl, hb', O', hs, hO'⟩
      have h4 := inv_off h3 hb'
      obtain ⟨O2, h5⟩ := inv_ptr0 h4 hs rfl (fun k hk hx => by
        have := hO' k hk
        rcases hx with hx | hx
        · have := h3.t1.ok.is.lt k hx; omega
        · exact hx) (fun k hk => by have := hO' k hk; have := h3.below.size; omega)
      have h7 := inv_off (inv_row0 h5 h5.r1) ((Below.refl _ _).drew)
      have hQ : W2.heap[bq]? = _ := (hb'.block _ lQ).trans hlaid.q
      have hnB : bq ≠ Bs := fun e => by have h8 := h4.s; rw [← e, hQ] at h8; simp at h8
      have hQ5 : (W2.setCell ⟨Bs, 0, none⟩ (.pointer (some ⟨Z, 0, none⟩))).heap[bq]? = _ := (Below.heap_setCell _ ⟨Bs, 0, none⟩ _ _ hnB).trans hQ
      exact ⟨Z, rfl, cell_block h4.s 0 _ rfl, frozen_block h4.s 0, ⟨cell_block hQ5 0 _ rfl, cell_block h5.r 0 _ rfl, frozen_block h5.r 0⟩, ⟨_, _, _, _, _, _, _, _, h7⟩, cell_block h7.s 0 _ rfl⟩)
    clear h2 hlaid g0 g1 q0
    go_wp2
    go_region_with (go_at_call 13; refine (unhide HX).mono ?_; rintro e W2 ⟨Z, rfl, xs, fs, ⟨qr, xr, fr⟩, htwo, xz⟩; have Htwo := hide htwo; clear htwo)
    all_goals
      generalize W2.setCell ⟨Bs, 0, none⟩ (.pointer (some ⟨Z, 0, none⟩)) = W5 at *
      go_wp2
      go_region
      all_goals
        generalize (W5.setCell ⟨Br, 0, none⟩ (.slice a1 (allL bl1).length c1)).drew = W7 at *
        go_wp2
        go_ret
        exact ⟨rfl, unhide Htwo⟩
set_option maxHeartbeats 2000000 in
set_option maxRecDepth 100000 in
theorem does_7_1 (w W : World) (Bs Br B0 B1 : Nat) (O0 O1 : Nat → Prop) (bl0 bl1 : List Blk) (v0 v1 : Value) (h : Inv w W Bs Br B0 B1 O0 O1 bl0 bl1 v0 v1 (allL bl0) (allL bl1)) (kd wh n : Int) (hk : (wrap64 (kd.tmod 9 + 9)).tmod 9 = 7) (hw : bits .and .i64 wh 1 = 1) (a : Option Addr) (c : Nat) (l : List Int) :
    Calls Tryd.prog 9 #[.pointer (some ⟨Bs, 0, none⟩), .pointer (some ⟨Br, 0, none⟩), .agg #[.int .i64 kd, .int .i64 wh, .int .i64 n, .slice a l.length c]] W fun e W' => e = .returned (.bool true) ∧ Two w W' Bs Br := by
  obtain ⟨a0, c0, rfl⟩ := rowI_form h.r0
  obtain ⟨a1, c1, rfl⟩ := rowI_form h.r1
  obtain ⟨W1, hW1⟩ : ∃ W1, W1 = W.alloc (.cells #[.int .i64 kd, .int .i64 wh, .int .i64 n, .slice a l.length c] 37) := ⟨_, rfl⟩
  have hb1 : Below W.heap.size W W1 := by rw [hW1]; exact (Below.refl _ _).alloc (Nat.le_refl _) _
  have hact : W1.heap[W.heap.size]? = some (.cells #[.int .i64 kd, .int .i64 wh, .int .i64 n, .slice a l.length c] 37 (0, 0)) := by rw [hW1]; exact (MapKept.heap_alloc W _).1
  have h1 := inv_off h hb1
  have k0 := cell_block hact 0 _ rfl
  have k1 := cell_block hact 1 _ rfl
  have s0 := cell_block h1.s 0 _ rfl
  have s1 := cell_block h1.s 1 _ rfl
  have r0 := cell_block h1.r 0 _ rfl
  have r1 := cell_block h1.r 1 _ rfl
  have hBr := lt_of_some h1.r
  have r0a : ∀ o, (W1.alloc o).cell? ⟨Br, 0, none⟩ = some (.slice a0 (allL bl0).length c0) := fun o => (((Below.refl _ W1).alloc (Nat.le_refl _) o).cell (p := ⟨Br, 0, none⟩) hBr).trans r0
  have r1a : ∀ o, (W1.alloc o).cell? ⟨Br, 1, none⟩ = some (.slice a1 (allL bl1).length c1) := fun o => (((Below.refl _ W1).alloc (Nat.le_refl _) o).cell (p := ⟨Br, 1, none⟩) hBr).trans r1
  have r0b : ∀ o o', ((W1.alloc o).alloc o').cell? ⟨Br, 0, none⟩ = some (.slice a0 (allL bl0).length c0) := fun o o' => ((((Below.refl _ W1).alloc (Nat.le_refl _) o).alloc (by simp) o').cell (p := ⟨Br, 0, none⟩) hBr).trans r0
  have r1b : ∀ o o', ((W1.alloc o).alloc o').cell? ⟨Br, 1, none⟩ = some (.slice a1 (allL bl1).length c1) := fun o o' => ((((Below.refl _ W1).alloc (Nat.le_refl _) o).alloc (by simp) o').cell (p := ⟨Br, 1, none⟩) hBr).trans r1
  have H := hide h; have Hact := hide hact; have Hb1 := hide hb1
  clear h h1 hact hb1
  go_enter Tryd.func9, Tryd.ntmps9
  go_wp2
  rw [← hW1]
  clear hW1
  go_region
  go_wp2_with fail
  go_upto_region 3 with fail
  go_cut [10, 11] (fun p q wx => ∃ bp bq, p = .pointer (some ⟨bp, 0, none⟩) ∧ q = .pointer (some ⟨bq, 0, none⟩) ∧ Laid3 W wx #[.int .i64 kd, .int .i64 wh, .int .i64 n, .slice a l.length c] (.slice a1 (allL bl1).length c1) (.slice a0 (allL bl0).length c0) W.heap.size bp bq)
  case first =>
    go_region
    all_goals
      go_wp2_with fail
      go_meet
      first
        | exact ⟨_, _, rfl, rfl, laid_pq (unhide Hact) (unhide Hb1) _ _⟩
        | exact ⟨_, _, rfl, rfl, laid_qp (unhide Hact) (unhide Hb1) _ _⟩
  case rest =>
    obtain ⟨bp, bq, rfl, rfl, hlaid⟩ := hcut
    have h2 := inv_off (unhide H) hlaid.below
    have k0 := cell_block hlaid.act 0 _ rfl
    have k2 := cell_block hlaid.act 2 _ rfl
    have k3 := cell_block hlaid.act 3 _ rfl
    have p0 := cell_block hlaid.p 0 _ rfl
    have q0 := cell_block hlaid.q 0 _ rfl
    have lA := lt_of_some hlaid.act
    have lP := lt_of_some hlaid.p
    have lQ := lt_of_some hlaid.q
    have g0 := ok_good h2.t0.ok
    have g1 := ok_good h2.t1.ok
    have hl0 := allL_short g0.up g0.fit
    have hl1 := allL_short g1.up g1.fit
    have HX : Hid (Calls Tryd.prog 13 #[.pointer (some ⟨B0, 0, none⟩)] wc.drew fun e W2 => ∃ Z, e = .returned (.pointer (some ⟨Z, 0, none⟩)) ∧ W2.cell? ⟨Bs, 1, none⟩ = some (.pointer (some ⟨B1, 0, none⟩)) ∧ W2.frozen? ⟨Bs, 1, none⟩ = false ∧
        ((W2.setCell ⟨Bs, 1, none⟩ (.pointer (some ⟨Z, 0, none⟩))).cell? ⟨bq, 0, none⟩ = some (.slice a0 (allL bl0).length c0) ∧ (W2.setCell ⟨Bs, 1, none⟩ (.pointer (some ⟨Z, 0, none⟩))).cell? ⟨Br, 1, none⟩ = some (.slice a1 (allL bl1).length c1) ∧ (W2.setCell ⟨Bs, 1, none⟩ (.pointer (some ⟨Z, 0, none⟩))).frozen? ⟨Br, 1, none⟩ = false) ∧
        Two w ((W2.setCell ⟨Bs, 1, none⟩ (.pointer (some ⟨Z, 0, none⟩))).setCell ⟨Br, 1, none⟩ (.slice a0 (allL bl0).length c0)).drew Bs Br ∧ ((W2.setCell ⟨Bs, 1, none⟩ (.pointer (some ⟨Z, 0, none⟩))).setCell ⟨Br, 1, none⟩ (.slice a0 (allL bl0).length c0)).drew.cell? ⟨Bs, 1, none⟩ = some (.pointer (some ⟨Z, 0, none⟩))) := hide (by
      have hdr : Below wc.heap.size wc wc.drew := (Below.refl _ _).drew
      have h3 := inv_off h2 hdr
      refine (copy_any B0 O0 bl0 (cnt 1048576 (hasB bl0)) wc.drew h3.t0.ok).mono ?_
      rintro e W2 ⟨Z, rfl, hb', O', hs, hO'⟩
      have h4 := inv_off h3 hb'
      obtain ⟨O2, h5⟩ := inv_ptr1 h4 hs rfl (fun k hk hx => by
        have := hO' k hk
        rcases hx with hx | hx
        · have := h3.t0.ok.is.lt k hx; omega
        · exact hx) (fun k hk => by have := hO' k hk; have := h3.below.size; omega)
      have h7 := inv_off (inv_row1 h5 h5.r0) ((Below.refl _ _).drew)
      have hQ : W2.heap[bq]? = _ := (hb'.block _ lQ).trans hlaid.q
      have hnB : bq ≠ Bs := fun e => by have h8 := h4.s; rw [← e, hQ] at h8; simp at h8
      have hQ5 : (W2.setCell ⟨Bs, 1, none⟩ (.pointer (some ⟨Z, 0, none⟩))).heap[bq]? = _ := (Below.heap_setCell _ ⟨Bs, 1, none⟩ _ _ hnB).trans hQ
      exact ⟨Z, rfl, cell_block h4.s 1 _ rfl, frozen_block h4.s 1, ⟨cell_block hQ5 0 _ rfl, cell_block h5.r 1 _ rfl, frozen_block h5.r 1⟩, ⟨_, _, _, _, _, _, _, _, h7⟩, cell_block h7.s 1 _ rfl⟩)
    clear h2 hlaid g0 g1 q0
    go_wp2
    go_region_with (go_at_call 13; refine (unhide HX).mono ?_; rintro e W2 ⟨Z, rfl, xs, fs, ⟨qr, xr, fr⟩, htwo, xz⟩; have Htwo := hide htwo; clear htwo)
    all_goals
      generalize W2.setCell ⟨Bs, 1, none⟩ (.pointer (some ⟨Z, 0, none⟩)) = W5 at *
      go_wp2
      go_region
      all_goals
        generalize (W5.setCell ⟨Br, 1, none⟩ (.slice a0 (allL bl0).length c0)).drew = W7 at *
        go_wp2
        go_ret
        exact ⟨rfl, unhide Htwo⟩
end Go.Proofs.YtdpphjedjhjdgaaDoor

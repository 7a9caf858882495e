/- does: the calls that only look. (and what it leads to) -/
import Derived.Test.YtdpphjedjhjdgaaDoorD3
import Derived.Deep.DeepCutAuto
import Derived.Deep.CutRange
import Derived.Deep.RegionHeld3
/- does: the calls that only look. -/
namespace Go.Proofs.YtdpphjedjhjdgaaDoor
open Go.RowKit Go.Maps

set_option maxHeartbeats 2000000 in
set_option maxRecDepth 100000 in
theorem does_2_0 (w W : World) (Bs Br B0 B1 : Nat) (O0 O1 : Nat → Prop) (bl0 bl1 : List Blk) (v0 v1 : Value) (h : Inv w W Bs Br B0 B1 O0 O1 bl0 bl1 v0 v1 (allL bl0) (allL bl1)) (kd wh n : Int) (hk : (wrap64 (kd.tmod 9 + 9)).tmod 9 = 2) (hw : bits .and .i64 wh 1 = 0) (a : Option Addr) (c : Nat) (l : List Int) :
    Calls Tryd.prog 9 #[.pointer (some ⟨Bs, 0, none⟩), .pointer (some ⟨Br, 0, none⟩), .agg #[.int .i64 kd, .int .i64 wh, .int .i64 n, .slice a l.length c]] W fun e W' => e = .returned (.bool true) ∧ Two w W' Bs Br := by
  obtain ⟨a0, c0, rfl⟩ := rowI_form h.r0
  obtain ⟨a1, c1, rfl⟩ := rowI_form h.r1
  obtain ⟨W1, hW1⟩ : ∃ W1, W1 = W.alloc (.cells #[.int .i64 kd, .int .i64 wh, .int .i64 n, .slice a l.length c] 37) := ⟨_, rfl⟩
  have hb1 : Below W.heap.size W W1 := by rw [hW1]; exact (Below.refl _ _).alloc (Nat.le_refl _) _
  have hact : W1.heap[W.heap.size]? = some (.cells #[.int .i64 kd, .int .i64 wh, .int .i64 n, .slice a l.length c] 37 (0, 0)) := by rw [hW1]; exact (MapKept.heap_alloc W _).1
  have h1 := inv_off h hb1
  have k0 := cell_block hact 0 _ rfl
  have k1 := cell_block hact 1 _ rfl
  have s0 := cell_block h1.s 0 _ rfl
  have s1 := cell_block h1.s 1 _ rfl
  have r0 := cell_block h1.r 0 _ rfl
  have r1 := cell_block h1.r 1 _ rfl
  have hBr := lt_of_some h1.r
  have r0a : ∀ o, (W1.alloc o).cell? ⟨Br, 0, none⟩ = some (.slice a0 (allL bl0).length c0) := fun o => (((Below.refl _ W1).alloc (Nat.le_refl _) o).cell (p := ⟨Br, 0, none⟩) hBr).trans r0
  have r1a : ∀ o, (W1.alloc o).cell? ⟨Br, 1, none⟩ = some (.slice a1 (allL bl1).length c1) := fun o => (((Below.refl _ W1).alloc (Nat.le_refl _) o).cell (p := ⟨Br, 1, none⟩) hBr).trans r1
  have r0b : ∀ o o', ((W1.alloc o).alloc o').cell? ⟨Br, 0, none⟩ = some (.slice a0 (allL bl0).length c0) := fun o o' => ((((Below.refl _ W1).alloc (Nat.le_refl _) o).alloc (by simp) o').cell (p := ⟨Br, 0, none⟩) hBr).trans r0
  have r1b : ∀ o o', ((W1.alloc o).alloc o').cell? ⟨Br, 1, none⟩ = some (.slice a1 (allL bl1).length c1) := fun o o' => ((((Below.refl _ W1).alloc (Nat.le_refl _) o).alloc (by simp) o').cell (p := ⟨Br, 1, none⟩) hBr).trans r1
  have H := hide h; have Hact := hide hact; have Hb1 := hide hb1
  clear h h1 hact hb1
  go_enter Tryd.func9, Tryd.ntmps9
  go_wp2
  rw [← hW1]
  clear hW1
  go_region
  go_wp2_with fail
  go_upto_region 3 with fail
  go_cut [10, 11] (fun p q wx => ∃ bp bq, p = .pointer (some ⟨bp, 0, none⟩) ∧ q = .pointer (some ⟨bq, 0, none⟩) ∧ Laid3 W wx #[.int .i64 kd, .int .i64 wh, .int .i64 n, .slice a l.length c] (.slice a0 (allL bl0).length c0) (.slice a1 (allL bl1).length c1) W.heap.size bp bq)
  case first =>
    go_region
    all_goals
      go_wp2_with fail
      go_meet
      first
        | exact ⟨_, _, rfl, rfl, laid_pq (unhide Hact) (unhide Hb1) _ _⟩
        | exact ⟨_, _, rfl, rfl, laid_qp (unhide Hact) (unhide Hb1) _ _⟩
  case rest =>
    obtain ⟨bp, bq, rfl, rfl, hlaid⟩ := hcut
    have h2 := inv_off (unhide H) hlaid.below
    have k0 := cell_block hlaid.act 0 _ rfl
    have k2 := cell_block hlaid.act 2 _ rfl
    have k3 := cell_block hlaid.act 3 _ rfl
    have p0 := cell_block hlaid.p 0 _ rfl
    have q0 := cell_block hlaid.q 0 _ rfl
    have lA := lt_of_some hlaid.act
    have lP := lt_of_some hlaid.p
    have lQ := lt_of_some hlaid.q
    have g0 := ok_good h2.t0.ok
    have g1 := ok_good h2.t1.ok
    have hl0 := allL_short g0.up g0.fit
    have hl1 := allL_short g1.up g1.fit
    have HX := hide (fun W' (hb : Below wc.heap.size wc W') => has_any B0 O0 bl0 _ n W' (set_below h2.t0.ok.is hb))
    have HP := hide (fun W' (hb : Below wc.heap.size wc W') => refHas_any a0 c0 (allL bl0) (by omega) n W' (rowI_nrow (rowI_below h2.r0 hb) rfl))
    rw [dec_has g0] at HP
    have Hb : Hid (Below wc.heap.size wc wc.drew) := hide ((Below.refl _ _).drew)
    have H2 := hide h2
    clear h2 hlaid g0 g1
    generalize hasB bl0 n = rr at *
    go_wp2
    go_region_held3 (fun w' : World => w'.cell? ⟨W.heap.size, 2, none⟩ = some (.int .i64 n) ∧ w'.cell? ⟨bp, 0, none⟩ = some (.slice a0 (allL bl0).length c0) ∧ w'.cell? ⟨bq, 0, none⟩ = some (.slice a1 (allL bl1).length c1))
      (first | exact ⟨k2, p0, q0⟩ | go_keep)
      ((first | (go_at_call 15; refine (unhide HX _ (unhide Hb)).mono ?_; rintro e W9 ⟨rfl, hb9⟩; have k2 := (hb9.cell (p := ⟨W.heap.size, 2, none⟩) lA).trans k2; have p0 := (hb9.cell (p := ⟨bp, 0, none⟩) lP).trans p0; have q0 := (hb9.cell (p := ⟨bq, 0, none⟩) lQ).trans q0; have lA := Nat.lt_of_lt_of_le lA hb9.size; have lP := Nat.lt_of_lt_of_le lP hb9.size; have lQ := Nat.lt_of_lt_of_le lQ hb9.size; have Hb := hide ((unhide Hb).trans (hb9.mono (unhide Hb).size)); clear hb9) | (go_at_call 29; refine (unhide HP _ (unhide Hb)).mono ?_; rintro e W9 ⟨rfl, hb9⟩; have k2 := (hb9.cell (p := ⟨W.heap.size, 2, none⟩) lA).trans k2; have p0 := (hb9.cell (p := ⟨bp, 0, none⟩) lP).trans p0; have q0 := (hb9.cell (p := ⟨bq, 0, none⟩) lQ).trans q0; have lA := Nat.lt_of_lt_of_le lA hb9.size; have lP := Nat.lt_of_lt_of_le lP hb9.size; have lQ := Nat.lt_of_lt_of_le lQ hb9.size; have Hb := hide ((unhide Hb).trans (hb9.mono (unhide Hb).size)); clear hb9)))
    all_goals
      go_wp2
      go_ret
      exact ⟨rfl, _, _, _, _, _, _, _, _, inv_off (unhide H2) (unhide Hb)⟩
set_option maxHeartbeats 2000000 in
set_option maxRecDepth 100000 in
theorem does_2_1 (w W : World) (Bs Br B0 B1 : Nat) (O0 O1 : Nat → Prop) (bl0 bl1 : List Blk) (v0 v1 : Value) (h : Inv w W Bs Br B0 B1 O0 O1 bl0 bl1 v0 v1 (allL bl0) (allL bl1)) (kd wh n : Int) (hk : (wrap64 (kd.tmod 9 + 9)).tmod 9 = 2) (hw : bits .and .i64 wh 1 = 1) (a : Option Addr) (c : Nat) (l : List Int) :
    Calls Tryd.prog 9 #[.pointer (some ⟨Bs, 0, none⟩), .pointer (some ⟨Br, 0, none⟩), .agg #[.int .i64 kd, .int .i64 wh, .int .i64 n, .slice a l.length c]] W fun e W' => e = .returned (.bool true) ∧ Two w W' Bs Br := by
  obtain ⟨a0, c0, rfl⟩ := rowI_form h.r0
  obtain ⟨a1, c1, rfl⟩ := rowI_form h.r1
  obtain ⟨W1, hW1⟩ : ∃ W1, W1 = W.alloc (.cells #[.int .i64 kd, .int .i64 wh, .int .i64 n, .slice a l.length c] 37) := ⟨_, rfl⟩
  have hb1 : Below W.heap.size W W1 := by rw [hW1]; exact (Below.refl _ _).alloc (Nat.le_refl _) _
  have hact : W1.heap[W.heap.size]? = some (.cells #[.int .i64 kd, .int .i64 wh, .int .i64 n, .slice a l.length c] 37 (0, 0)) := by rw [hW1]; exact (MapKept.heap_alloc W _).1
  have h1 := inv_off h hb1
  have k0 := cell_block hact 0 _ rfl
  have k1 := cell_block hact 1 _ rfl
  have s0 := cell_block h1.s 0 _ rfl
  have s1 := cell_block h1.s 1 _ rfl
  have r0 := cell_block h1.r 0 _ rfl
  have r1 := cell_block h1.r 1 _ rfl
  have hBr := lt_of_some h1.r
  have r0a : ∀ o, (W1.alloc o).cell? ⟨Br, 0, none⟩ = some (.slice a0 (allL bl0).length c0) := fun o => (((Below.refl _ W1).alloc (Nat.le_refl _) o).cell (p := ⟨Br, 0, none⟩) hBr).trans r0
  have r1a : ∀ o, (W1.alloc o).cell? ⟨Br, 1, none⟩ = some (.slice a1 (allL bl1).length c1) := fun o => (((Below.refl _ W1).alloc (Nat.le_refl _) o).cell (p := ⟨Br, 1, none⟩) hBr).trans r1
  have r0b : ∀ o o', ((W1.alloc o).alloc o').cell? ⟨Br, 0, none⟩ = some (.slice a0 (allL bl0).length c0) := fun o o' => ((((Below.refl _ W1).alloc (Nat.le_refl _) o).alloc (by simp) o').cell (p := ⟨Br, 0, none⟩) hBr).trans r0
  have r1b : ∀ o o', ((W1.alloc o).alloc o').cell? ⟨Br, 1, none⟩ = some (.slice a1 (allL bl1).length c1) := fun o o' => ((((Below.refl _ W1).alloc (Nat.le_refl _) o).alloc (by simp) o').cell (p := ⟨Br, 1, none⟩) hBr).trans r1
  have H := hide h; have Hact := hide hact; have Hb1 := hide hb1
  clear h h1 hact hb1
  go_enter Tryd.func9, Tryd.ntmps9
  go_wp2
  rw [← hW1]
  clear hW1
  go_region
  go_wp2_with fail
  go_upto_region 3 with fail
  go_cut [10, 11] (fun p q wx => ∃ bp bq, p = .pointer (some ⟨bp, 0, none⟩) ∧ q = .pointer (some ⟨bq, 0, none⟩) ∧ Laid3 W wx #[.int .i64 kd, .int .i64 wh, .int .i64 n, .slice a l.length c] (.slice a1 (allL bl1).length c1) (.slice a0 (allL bl0).length c0) W.heap.size bp bq)
  case first =>
    go_region
    all_goals
      go_wp2_with fail
      go_meet
      first
        | exact ⟨_, _, rfl, rfl, laid_pq (unhide Hact) (unhide Hb1) _ _⟩
        | exact ⟨_, _, rfl, rfl, laid_qp (unhide Hact) (unhide Hb1) _ _⟩
  case rest =>
    obtain ⟨bp, bq, rfl, rfl, hlaid⟩ := hcut
    have h2 := inv_off (unhide H) hlaid.below
    have k0 := cell_block hlaid.act 0 _ rfl
    have k2 := cell_block hlaid.act 2 _ rfl
    have k3 := cell_block hlaid.act 3 _ rfl
    have p0 := cell_block hlaid.p 0 _ rfl
    have q0 := cell_block hlaid.q 0 _ rfl
    have lA := lt_of_some hlaid.act
    have lP := lt_of_some hlaid.p
    have lQ := lt_of_some hlaid.q
    have g0 := ok_good h2.t0.ok
    have g1 := ok_good h2.t1.ok
    have hl0 := allL_short g0.up g0.fit
    have hl1 := allL_short g1.up g1.fit
    have HX := hide (fun W' (hb : Below wc.heap.size wc W') => has_any B1 O1 bl1 _ n W' (set_below h2.t1.ok.is hb))
    have HP := hide (fun W' (hb : Below wc.heap.size wc W') => refHas_any a1 c1 (allL bl1) (by omega) n W' (rowI_nrow (rowI_below h2.r1 hb) rfl))
    rw [dec_has g1] at HP
    have Hb : Hid (Below wc.heap.size wc wc.drew) := hide ((Below.refl _ _).drew)
    have H2 := hide h2
    clear h2 hlaid g0 g1
    generalize hasB bl1 n = rr at *
    go_wp2
    go_region_held3 (fun w' : World => w'.cell? ⟨W.heap.size, 2, none⟩ = some (.int .i64 n) ∧ w'.cell? ⟨bp, 0, none⟩ = some (.slice a1 (allL bl1).length c1) ∧ w'.cell? ⟨bq, 0, none⟩ = some (.slice a0 (allL bl0).length c0))
      (first | exact ⟨k2, p0, q0⟩ | go_keep)
      ((first | (go_at_call 15; refine (unhide HX _ (unhide Hb)).mono ?_; rintro e W9 ⟨rfl, hb9⟩; have k2 := (hb9.cell (p := ⟨W.heap.size, 2, none⟩) lA).trans k2; have p0 := (hb9.cell (p := ⟨bp, 0, none⟩) lP).trans p0; have q0 := (hb9.cell (p := ⟨bq, 0, none⟩) lQ).trans q0; have lA := Nat.lt_of_lt_of_le lA hb9.size; have lP := Nat.lt_of_lt_of_le lP hb9.size; have lQ := Nat.lt_of_lt_of_le lQ hb9.size; have Hb := hide ((unhide Hb).trans (hb9.mono (unhide Hb).size)); clear hb9) | (go_at_call 29; refine (unhide HP _ (unhide Hb)).mono ?_; rintro e W9 ⟨rfl, hb9⟩; have k2 := (hb9.cell (p := ⟨W.heap.size, 2, none⟩) lA).trans k2; have p0 := (hb9.cell (p := ⟨bp, 0, none⟩) lP).trans p0; have q0 := (hb9.cell (p := ⟨bq, 0, none⟩) lQ).trans q0; have lA := Nat.lt_of_lt_of_le lA hb9.size; have lP := Nat.lt_of_lt_of_le lP hb9.size; have lQ := Nat.lt_of_lt_of_le lQ hb9.size; have Hb := hide ((unhide Hb).trans (hb9.mono (unhide Hb).size)); clear hb9)))
    all_goals
      go_wp2
      go_ret
      exact ⟨rfl, _, _, _, _, _, _, _, _, inv_off (unhide H2) (unhide Hb)⟩
set_option maxHeartbeats 2000000 in
set_option maxRecDepth 100000 in
theorem does_4_0 (w W : World) (Bs Br B0 B1 : Nat) (O0 O1 : Nat → Prop) (bl0 bl1 : List Blk) (v0 v1 : Value) (h : Inv w W Bs Br B0 B1 O0 O1 bl0 bl1 v0 v1 (allL bl0) (allL bl1)) (kd wh n : Int) (hk : (wrap64 (kd.tmod 9 + 9)).tmod 9 = 4) (hw : bits .and .i64 wh 1 = 0) (a : Option Addr) (c : Nat) (l : List Int) :
    Calls Tryd.prog 9 #[.pointer (some ⟨Bs, 0, none⟩), .pointer (some ⟨Br, 0, none⟩), .agg #[.int .i64 kd, .int .i64 wh, .int .i64 n, .slice a l.length c]] W fun e W' => e = .returned (.bool true) ∧ Two w W' Bs Br := by
  obtain ⟨a0, c0, rfl⟩ := rowI_form h.r0
  obtain ⟨a1, c1, rfl⟩ := rowI_form h.r1
  obtain ⟨W1, hW1⟩ : ∃ W1, W1 = W.alloc (.cells #[.int .i64 kd, .int .i64 wh, .int .i64 n, .slice a l.length c] 37) := ⟨_, rfl⟩
  have hb1 : Below W.heap.size W W1 := by rw [hW1]; exact (Below.refl _ _).alloc (Nat.le_refl _) _
  have hact : W1.heap[W.heap.size]? = some (.cells #[.int .i64 kd, .int .i64 wh, .int .i64 n, .slice a l.length c] 37 (0, 0)) := by rw [hW1]; exact (MapKept.heap_alloc W _).1
  have h1 := inv_off h hb1
  have k0 := cell_block hact 0 _ rfl
  have k1 := cell_block hact 1 _ rfl
  have s0 := cell_block h1.s 0 _ rfl
  have s1 := cell_block h1.s 1 _ rfl
  have r0 := cell_block h1.r 0 _ rfl
  have r1 := cell_block h1.r 1 _ rfl
  have hBr := lt_of_some h1.r
  have r0a : ∀ o, (W1.alloc o).cell? ⟨Br, 0, none⟩ = some (.slice a0 (allL bl0).length c0) := fun o => (((Below.refl _ W1).alloc (Nat.le_refl _) o).cell (p := ⟨Br, 0, none⟩) hBr).trans r0
  have r1a : ∀ o, (W1.alloc o).cell? ⟨Br, 1, none⟩ = some (.slice a1 (allL bl1).length c1) := fun o => (((Below.refl _ W1).alloc (Nat.le_refl _) o).cell (p := ⟨Br, 1, none⟩) hBr).trans r1
  have r0b : ∀ o o', ((W1.alloc o).alloc o').cell? ⟨Br, 0, none⟩ = some (.slice a0 (allL bl0).length c0) := fun o o' => ((((Below.refl _ W1).alloc (Nat.le_refl _) o).alloc (by simp) o').cell (p := ⟨Br, 0, none⟩) hBr).trans r0
  have r1b : ∀ o o', ((W1.alloc o).alloc o').cell? ⟨Br, 1, none⟩ = some (.slice a1 (allL bl1).length c1) := fun o o' => ((((Below.refl _ W1).alloc (Nat.le_refl _) o).alloc (by simp) o').cell (p := ⟨Br, 1, none⟩) hBr).trans r1
  have H := hide h; have Hact := hide hact; have Hb1 := hide hb1
  clear h h1 hact hb1
  go_enter Tryd.func9, Tryd.ntmps9
  go_wp2
  rw [← hW1]
  clear hW1
  go_region
  go_wp2_with fail
  go_upto_region 3 with fail
  go_cut [10, 11] (fun p q wx => ∃ bp bq, p = .pointer (some ⟨bp, 0, none⟩) ∧ q = .pointer (some ⟨bq, 0, none⟩) ∧ Laid3 W wx #[.int .i64 kd, .int .i64 wh, .int .i64 n, .slice a l.length c] (.slice a0 (allL bl0).length c0) (.slice a1 (allL bl1).length c1) W.heap.size bp bq)
  case first =>
    go_region
    all_goals
      go_wp2_with fail
      go_meet
      first
        | exact ⟨_, _, rfl, rfl, laid_pq (unhide Hact) (unhide Hb1) _ _⟩
        | exact ⟨_, _, rfl, rfl, laid_qp (unhide Hact) (unhide Hb1) _ _⟩
  case rest =>
    obtain ⟨bp, bq, rfl, rfl, hlaid⟩ := hcut
    have h2 := inv_off (unhide H) hlaid.below
    have k0 := cell_block hlaid.act 0 _ rfl
    have k2 := cell_block hlaid.act 2 _ rfl
    have k3 := cell_block hlaid.act 3 _ rfl
    have p0 := cell_block hlaid.p 0 _ rfl
    have q0 := cell_block hlaid.q 0 _ rfl
    have lA := lt_of_some hlaid.act
    have lP := lt_of_some hlaid.p
    have lQ := lt_of_some hlaid.q
    have g0 := ok_good h2.t0.ok
    have g1 := ok_good h2.t1.ok
    have hl0 := allL_short g0.up g0.fit
    have hl1 := allL_short g1.up g1.fit
    have HX := hide (fun W' (hb : Below wc.heap.size wc W') => meets_any B0 B1 O0 O1 bl0 bl1 _ _ W' (ok_below h2.t0.ok hb) (ok_below h2.t1.ok hb))
    have HP := hide (fun W' (hb : Below wc.heap.size wc W') => refMeets_any a0 a1 c0 c1 (allL bl0) (allL bl1) (by omega) (by omega) W' (rowI_nrow (rowI_below h2.r0 hb) rfl) (rowI_nrow (rowI_below h2.r1 hb) rfl))
    rw [meets_ref g0 g1] at HP
    have Hb : Hid (Below wc.heap.size wc wc.drew) := hide ((Below.refl _ _).drew)
    have H2 := hide h2
    clear h2 hlaid g0 g1
    generalize (!apartB bl0 bl1) = rr at *
    go_wp2
    go_region_held3 (fun w' : World => w'.cell? ⟨W.heap.size, 2, none⟩ = some (.int .i64 n) ∧ w'.cell? ⟨bp, 0, none⟩ = some (.slice a0 (allL bl0).length c0) ∧ w'.cell? ⟨bq, 0, none⟩ = some (.slice a1 (allL bl1).length c1))
      (first | exact ⟨k2, p0, q0⟩ | go_keep)
      ((first | (go_at_call 17; refine (unhide HX _ (unhide Hb)).mono ?_; rintro e W9 ⟨rfl, hb9⟩; have k2 := (hb9.cell (p := ⟨W.heap.size, 2, none⟩) lA).trans k2; have p0 := (hb9.cell (p := ⟨bp, 0, none⟩) lP).trans p0; have q0 := (hb9.cell (p := ⟨bq, 0, none⟩) lQ).trans q0; have lA := Nat.lt_of_lt_of_le lA hb9.size; have lP := Nat.lt_of_lt_of_le lP hb9.size; have lQ := Nat.lt_of_lt_of_le lQ hb9.size; have Hb := hide ((unhide Hb).trans (hb9.mono (unhide Hb).size)); clear hb9) | (go_at_call 30; refine (unhide HP _ (unhide Hb)).mono ?_; rintro e W9 ⟨rfl, hb9⟩; have k2 := (hb9.cell (p := ⟨W.heap.size, 2, none⟩) lA).trans k2; have p0 := (hb9.cell (p := ⟨bp, 0, none⟩) lP).trans p0; have q0 := (hb9.cell (p := ⟨bq, 0, none⟩) lQ).trans q0; have lA := Nat.lt_of_lt_of_le lA hb9.size; have lP := Nat.lt_of_lt_of_le lP hb9.size; have lQ := Nat.lt_of_lt_of_le lQ hb9.size; have Hb := hide ((unhide Hb).trans (hb9.mono (unhide Hb).size)); clear hb9)))
    all_goals
      go_wp2
      go_ret
      exact ⟨rfl, _, _, _, _, _, _, _, _, inv_off (unhide H2) (unhide Hb)⟩
set_option maxHeartbeats 2000000 in
set_option maxRecDepth 100000 in
theorem does_4_1 (w W : World) (Bs Br B0 B1 : Nat) (O0 O1 : Nat → Prop) (bl0 bl1 : List Blk) (v0 v1 : Value) (h : Inv w W Bs Br B0 B1 O0 O1 bl0 bl1 v0 v1 (allL bl0) (allL bl1)) (kd wh n : Int) (hk : (wrap64 (kd.tmod 9 + 9)).tmod 9 = 4) (hw : bits .and .i64 wh 1 = 1) (a : Option Addr) (c : Nat) (l : List Int) :
    Calls Tryd.prog 9 #[.pointer (some ⟨Bs, 0, none⟩), .pointer (some ⟨Br, 0, none⟩), .agg #[.int .i64 kd, .int .i64 wh, .int .i64 n, .slice a l.length c]] W fun e W' => e = .returned (.bool true) ∧ Two w W' Bs Br := by
  obtain ⟨a0, c0, rfl⟩ := rowI_form h.r0
  obtain ⟨a1, c1, rfl⟩ := rowI_form h.r1
  obtain ⟨W1, hW1⟩ : ∃ W1, W1 = W.alloc (.cells #[.int .i64 kd, .int .i64 wh, .int .i64 n, .slice a l.length c] 37) := ⟨_, rfl⟩
  have hb1 : Below W.heap.size W W1 := by rw [hW1]; exact (Below.refl _ _).alloc (Nat.le_refl _) _
  have hact : W1.heap[W.heap.size]? = some (.cells #[.int .i64 kd, .int .i64 wh, .int .i64 n, .slice a l.length c] 37 (0, 0)) := by rw [hW1]; exact (MapKept.heap_alloc W _).1
  have h1 := inv_off h hb1
  have k0 := cell_block hact 0 _ rfl
  have k1 := cell_block hact 1 _ rfl
  have s0 := cell_block h1.s 0 _ rfl
  have s1 := cell_block h1.s 1 _ rfl
  have r0 := cell_block h1.r 0 _ rfl
  have r1 := cell_block h1.r 1 _ rfl
  have hBr := lt_of_some h1.r
  have r0a : ∀ o, (W1.alloc o).cell? ⟨Br, 0, none⟩ = some (.slice a0 (allL bl0).length c0) := fun o => (((Below.refl _ W1).alloc (Nat.le_refl _) o).cell (p := ⟨Br, 0, none⟩) hBr).trans r0
  have r1a : ∀ o, (W1.alloc o).cell? ⟨Br, 1, none⟩ = some (.slice a1 (allL bl1).length c1) := fun o => (((Below.refl _ W1).alloc (Nat.le_refl _) o).cell (p := ⟨Br, 1, none⟩) hBr).trans r1
  have r0b : ∀ o o', ((W1.alloc o).alloc o').cell? ⟨Br, 0, none⟩ = some (.slice a0 (allL bl0).length c0) := fun o o' => ((((Below.refl _ W1).alloc (Nat.le_refl _) o).alloc (by simp) o').cell (p := ⟨Br, 0, none⟩) hBr).trans r0
  have r1b : ∀ o o', ((W1.alloc o).alloc o').cell? ⟨Br, 1, none⟩ = some (.slice a1 (allL bl1).length c1) := fun o o' => ((((Below.refl _ W1).alloc (Nat.le_refl _) o).alloc (by simp) o').cell (p := ⟨Br, 1, none⟩) hBr).trans r1
  have H := hide h; have Hact := hide hact; have Hb1 := hide hb1
  clear h h1 hact hb1
  go_enter Tryd.func9, Tryd.ntmps9
  go_wp2
  rw [← hW1]
  clear hW1
  go_region
  go_wp2_with fail
  go_upto_region 3 with fail
  go_cut [10, 11] (fun p q wx => ∃ bp bq, p = .pointer (some ⟨bp, 0, none⟩) ∧ q = .pointer (some ⟨bq, 0, none⟩) ∧ Laid3 W wx #[.int .i64 kd, .int .i64 wh, .int .i64 n, .slice a l.length c] (.slice a1 (allL bl1).length c1) (.slice a0 (allL bl0).length c0) W.heap.size bp bq)
  case first =>
    go_region
    all_goals
      go_wp2_with fail
      go_meet
      first
        | exact ⟨_, _, rfl, rfl, laid_pq (unhide Hact) (unhide Hb1) _ _⟩
        | exact ⟨_, _, rfl, rfl, laid_qp (unhide Hact) (unhide Hb1) _ _⟩
  case rest =>
    obtain ⟨bp, bq, rfl, rfl, hlaid⟩ := hcut
    have h2 := inv_off (unhide H) hlaid.below
    have k0 := cell_block hlaid.act 0 _ rfl
    have k2 := cell_block hlaid.act 2 _ rfl
    have k3 := cell_block hlaid.act 3 _ rfl
    have p0 := cell_block hlaid.p 0 _ rfl
    have q0 := cell_block hlaid.q 0 _ rfl
    have lA := lt_of_some hlaid.act
    have lP := lt_of_some hlaid.p
    have lQ := lt_of_some hlaid.q
    have g0 := ok_good h2.t0.ok
    have g1 := ok_good h2.t1.ok
    have hl0 := allL_short g0.up g0.fit
    have hl1 := allL_short g1.up g1.fit
    have HX := hide (fun W' (hb : Below wc.heap.size wc W') => meets_any B1 B0 O1 O0 bl1 bl0 _ _ W' (ok_below h2.t1.ok hb) (ok_below h2.t0.ok hb))
    have HP := hide (fun W' (hb : Below wc.heap.size wc W') => refMeets_any a1 a0 c1 c0 (allL bl1) (allL bl0) (by omega) (by omega) W' (rowI_nrow (rowI_below h2.r1 hb) rfl) (rowI_nrow (rowI_below h2.r0 hb) rfl))
    rw [meets_ref g1 g0] at HP
    have Hb : Hid (Below wc.heap.size wc wc.drew) := hide ((Below.refl _ _).drew)
    have H2 := hide h2
    clear h2 hlaid g0 g1
    generalize (!apartB bl1 bl0) = rr at *
    go_wp2
    go_region_held3 (fun w' : World => w'.cell? ⟨W.heap.size, 2, none⟩ = some (.int .i64 n) ∧ w'.cell? ⟨bp, 0, none⟩ = some (.slice a1 (allL bl1).length c1) ∧ w'.cell? ⟨bq, 0, none⟩ = some (.slice a0 (allL bl0).length c0))
      (first | exact ⟨k2, p0, q0⟩ | go_keep)
      ((first | (go_at_call 17; refine (unhide HX _ (unhide Hb)).mono ?_; rintro e W9 ⟨rfl, hb9⟩; have k2 := (hb9.cell (p := ⟨W.heap.size, 2, none⟩) lA).trans k2; have p0 := (hb9.cell (p := ⟨bp, 0, none⟩) lP).trans p0; have q0 := (hb9.cell (p := ⟨bq, 0, none⟩) lQ).trans q0; have lA := Nat.lt_of_lt_of_le lA hb9.size; have lP := Nat.lt_of_lt_of_le lP hb9.size; have lQ := Nat.lt_of_lt_of_le lQ hb9.size; have Hb := hide ((unhide Hb).trans (hb9.mono (unhide Hb).size)); clear hb9) | (go_at_call 30; refine (unhide HP _ (unhide Hb)).mono ?_; rintro e W9 ⟨rfl, hb9⟩; have k2 := (hb9.cell (p := ⟨W.heap.size, 2, none⟩) lA).trans k2; have p0 := (hb9.cell (p := ⟨bp, 0, none⟩) lP).trans p0; have q0 := (hb9.cell (p := ⟨bq, 0, none⟩) lQ).trans q0; have lA := Nat.lt_of_lt_of_le lA hb9.size; have lP := Nat.lt_of_lt_of_le lP hb9.size; have lQ := Nat.lt_of_lt_of_le lQ hb9.size; have Hb := hide ((unhide Hb).trans (hb9.mono (unhide Hb).size)); clear hb9)))
    all_goals
      go_wp2
      go_ret
      exact ⟨rfl, _, _, _, _, _, _, _, _, inv_off (unhide H2) (unhide Hb)⟩
end Go.Proofs.YtdpphjedjhjdgaaDoor

/- does: the calls that only look. -/
namespace Go.Proofs.YtdpphjedjhjdgaaDoor
open Go.RowKit Go.Maps

set_option maxHeartbeats 2000000 in
set_option maxRecDepth 100000 in
theorem does_5_0 (w W : World) (Bs Br B0 B1 : Nat) (O0 O1 : Nat → Prop) (bl0 bl1 : List Blk) (v0 v1 : Value) (h : Inv w W Bs Br B0 B1 O0 O1 bl0 bl1 v0 v1 (allL bl0) (allL bl1)) (kd wh n : Int) (hk : (wrap64 (kd.tmod 9 + 9)).tmod 9 = 5) (hw : bits .and .i64 wh 1 = 0) (a : Option Addr) (c : Nat) (l : List Int) :
    Calls Tryd.prog 9 #[.pointer (some ⟨Bs, 0, none⟩), .pointer (some ⟨Br, 0, none⟩), .agg #[.int .i64 kd, .int .i64 wh, .int .i64 n, .slice a l.length c]] W fun e W' => e = .returned (.bool true) ∧ Two w W' Bs Br := by
  obtain ⟨a0, c0, rfl⟩ := rowI_form h.r0
  obtain ⟨a1, c1, rfl⟩ := rowI_form h.r1
  obtain ⟨W1, hW1⟩ : ∃ W1, W1 = W.alloc (.cells #[.int .i64 kd, .int .i64 wh, .int .i64 n, .slice a l.length c] 37) := ⟨_, rfl⟩
  have hb1 : Below W.heap.size W W1 := by rw [hW1]; exact (Below.refl _ _).alloc (Nat.le_refl _) _
  have hact : W1.heap[W.heap.size]? = some (.cells #[.int .i64 kd, .int .i64 wh, .int .i64 n, .slice a l.length c] 37 (0, 0)) := by rw [hW1]; exact (MapKept.heap_alloc W _).1
  have h1 := inv_off h hb1
  have k0 := cell_block hact 0 _ rfl
  have k1 := cell_block hact 1 _ rfl
  have s0 := cell_block h1.s 0 _ rfl
  have s1 := cell_block h1.s 1 _ rfl
  have r0 := cell_block h1.r 0 _ rfl
  have r1 := cell_block h1.r 1 _ rfl
  have hBr := lt_of_some h1.r
  have r0a : ∀ o, (W1.alloc o).cell? ⟨Br, 0, none⟩ = some (.slice a0 (allL bl0).length c0) := fun o => (((Below.refl _ W1).alloc (Nat.le_refl _) o).cell (p := ⟨Br, 0, none⟩) hBr).trans r0
  have r1a : ∀ o, (W1.alloc o).cell? ⟨Br, 1, none⟩ = some (.slice a1 (allL bl1).length c1) := fun o => (((Below.refl _ W1).alloc (Nat.le_refl _) o).cell (p := ⟨Br, 1, none⟩) hBr).trans r1
  have r0b : ∀ o o', ((W1.alloc o).alloc o').cell? ⟨Br, 0, none⟩ = some (.slice a0 (allL bl0).length c0) := fun o o' => ((((Below.refl _ W1).alloc (Nat.le_refl _) o).alloc (by simp) o').cell (p := ⟨Br, 0, none⟩) hBr).trans r0
  have r1b : ∀ o o', ((W1.alloc o).alloc o').cell? ⟨Br, 1, none⟩ = some (.slice a1 (allL bl1).length c1) := fun o o' => ((((Below.refl _ W1).alloc (Nat.le_refl _) o).alloc (by simp) o').cell (p := ⟨Br, 1, none⟩) hBr).trans r1
  have H := hide h; have Hact := hide hact; have Hb1 := hide hb1
  clear h h1 hact hb1
  go_enter Tryd.func9, Tryd.ntmps9
  go_wp2
  rw [← hW1]
  clear hW1
  go_region
  go_wp2_with fail
  go_upto_region 3 with fail
  go_cut [10, 11] (fun p q wx => ∃ bp bq, p = .pointer (some ⟨bp, 0, none⟩) ∧ q = .pointer (some ⟨bq, 0, none⟩) ∧ Laid3 W wx #[.int .i64 kd, .int .i64 wh, .int .i64 n, .slice a l.length c] (.slice a0 (allL bl0).length c0) (.slice a1 (allL bl1).length c1) W.heap.size bp bq)
  case first =>
    go_region
    all_goals
      go_wp2_with fail
      go_meet
      first
        | exact ⟨_, _, rfl, rfl, laid_pq (unhide Hact) (unhide Hb1) _ _⟩
        | exact ⟨_, _, rfl, rfl, laid_qp (unhide Hact) (unhide Hb1) _ _⟩
  case rest =>
    obtain ⟨bp, bq, rfl, rfl, hlaid⟩ := hcut
    have h2 := inv_off (unhide H) hlaid.below
    have k0 := cell_block hlaid.act 0 _ rfl
    have k2 := cell_block hlaid.act 2 _ rfl
    have k3 := cell_block hlaid.act 3 _ rfl
    have p0 := cell_block hlaid.p 0 _ rfl
    have q0 := cell_block hlaid.q 0 _ rfl
    have lA := lt_of_some hlaid.act
    have lP := lt_of_some hlaid.p
    have lQ := lt_of_some hlaid.q
    have g0 := ok_good h2.t0.ok
    have g1 := ok_good h2.t1.ok
    have hl0 := allL_short g0.up g0.fit
    have hl1 := allL_short g1.up g1.fit
    have HX := hide (fun W' (hb : Below wc.heap.size wc W') => within_any B0 B1 O0 O1 bl0 bl1 _ _ W' (ok_below h2.t0.ok hb) (ok_below h2.t1.ok hb))
    have HP := hide (fun W' (hb : Below wc.heap.size wc W') => refWithin_any a0 a1 c0 c1 (allL bl0) (allL bl1) (by omega) (by omega) W' (rowI_nrow (rowI_below h2.r0 hb) rfl) (rowI_nrow (rowI_below h2.r1 hb) rfl))
    rw [within_ref g0 g1] at HP
    have Hb : Hid (Below wc.heap.size wc wc.drew) := hide ((Below.refl _ _).drew)
    have H2 := hide h2
    clear h2 hlaid g0 g1
    generalize withinB bl0 bl1 = rr at *
    go_wp2
    go_region_held3 (fun w' : World => w'.cell? ⟨W.heap.size, 2, none⟩ = some (.int .i64 n) ∧ w'.cell? ⟨bp, 0, none⟩ = some (.slice a0 (allL bl0).length c0) ∧ w'.cell? ⟨bq, 0, none⟩ = some (.slice a1 (allL bl1).length c1))
      (first | exact ⟨k2, p0, q0⟩ | go_keep)
      ((first | (go_at_call 16; refine (unhide HX _ (unhide Hb)).mono ?_; rintro e W9 ⟨rfl, hb9⟩; have k2 := (hb9.cell (p := ⟨W.heap.size, 2, none⟩) lA).trans k2; have p0 := (hb9.cell (p := ⟨bp, 0, none⟩) lP).trans p0; have q0 := (hb9.cell (p := ⟨bq, 0, none⟩) lQ).trans q0; have lA := Nat.lt_of_lt_of_le lA hb9.size; have lP := Nat.lt_of_lt_of_le lP hb9.size; have lQ := Nat.lt_of_lt_of_le lQ hb9.size; have Hb := hide ((unhide Hb).trans (hb9.mono (unhide Hb).size)); clear hb9) | (go_at_call 31; refine (unhide HP _ (unhide Hb)).mono ?_; rintro e W9 ⟨rfl, hb9⟩; have k2 := (hb9.cell (p := ⟨W.heap.size, 2, none⟩) lA).trans k2; have p0 := (hb9.cell (p := ⟨bp, 0, none⟩) lP).trans p0; have q0 := (hb9.cell (p := ⟨bq, 0, none⟩) lQ).trans q0; have lA := Nat.lt_of_lt_of_le lA hb9.size; have lP := Nat.lt_of_lt_of_le lP hb9.size; have lQ := Nat.lt_of_lt_of_le lQ hb9.size; have Hb := hide ((unhide Hb).trans (hb9.mono (unhide Hb).size)); clear hb9)))
    all_goals
      go_wp2
      go_ret
      exact ⟨rfl, _, _, _, _, _, _, _, _, inv_off (unhide H2) (unhide Hb)⟩
set_option maxHeartbeats 2000000 in
set_option maxRecDepth 100000 in
theorem does_5_1 (w W : World) (Bs Br B0 B1 : Nat) (O0 O1 : Nat → Prop) (bl0 bl1 : List Blk) (v0 v1 : Value) (h : Inv w W Bs Br B0 B1 O0 O1 bl0 bl1 v0 v1 (allL bl0) (allL bl1)) (kd wh n : Int) (hk : (wrap64 (kd.tmod 9 + 9)).tmod 9 = 5) (hw : bits .and .i64 wh 1 = 1) (a : Option Addr) (c : Nat) (l : List Int) :
    Calls Tryd.prog 9 #[.pointer (some ⟨Bs, 0, none⟩), .pointer (some ⟨Br, 0, none⟩), .agg #[.int .i64 kd, .int .i64 wh, .int .i64 n, .slice a l.length c]] W fun e W' => e = .returned (.bool true) ∧ Two w W' Bs Br := by
  obtain ⟨a0, c0, rfl⟩ := rowI_form h.r0
  obtain ⟨a1, c1, rfl⟩ := rowI_form h.r1
  obtain ⟨W1, hW1⟩ : ∃ W1, W1 = W.alloc (.cells #[.int .i64 kd, .int .i64 wh, .int .i64 n, .slice a l.length c] 37) := ⟨_, rfl⟩
  have hb1 : Below W.heap.size W W1 := by rw [hW1]; exact (Below.refl _ _).alloc (Nat.le_refl _) _
  have hact : W1.heap[W.heap.size]? = some (.cells #[.int .i64 kd, .int .i64 wh, .int .i64 n, .slice a l.length c] 37 (0, 0)) := by rw [hW1]; exact (MapKept.heap_alloc W _).1
  have h1 := inv_off h hb1
  have k0 := cell_block hact 0 _ rfl
  have k1 := cell_block hact 1 _ rfl
  have s0 := cell_block h1.s 0 _ rfl
  have s1 := cell_block h1.s 1 _ rfl
  have r0 := cell_block h1.r 0 _ rfl
  have r1 := cell_block h1.r 1 _ rfl
  have hBr := lt_of_some h1.r
  have r0a : ∀ o, (W1.alloc o).cell? ⟨Br, 0, none⟩ = some (.slice a0 (allL bl0).length c0) := fun o => (((Below.refl _ W1).alloc (Nat.le_refl _) o).cell (p := ⟨Br, 0, none⟩) hBr).trans r0
  have r1a : ∀ o, (W1.alloc o).cell? ⟨Br, 1, none⟩ = some (.slice a1 (allL bl1).length c1) := fun o => (((Below.refl _ W1).alloc (Nat.le_refl _) o).cell (p := ⟨Br, 1, none⟩) hBr).trans r1
  have r0b : ∀ o o', ((W1.alloc o).alloc o').cell? ⟨Br, 0, none⟩ = some (.slice a0 (allL bl0).length c0) := fun o o' => ((((Below.refl _ W1).alloc (Nat.le_refl _) o).alloc (by simp) o').cell (p := ⟨Br, 0, none⟩) hBr).trans r0
  have r1b : ∀ o o', ((W1.alloc o).alloc o').cell? ⟨Br, 1, none⟩ = some (.slice a1 (allL bl1).length c1) := fun o o' => ((((Below.refl _ W1).alloc (Nat.le_refl _) o).alloc (by simp) o').cell (p := ⟨Br, 1, none⟩) hBr).trans r1
  have H := hide h; have Hact := hide hact; have Hb1 := hide hb1
  clear h h1 hact hb1
  go_enter Tryd.func9, Tryd.ntmps9
  go_wp2
  rw [← hW1]
  clear hW1
  go_region
  go_wp2_with fail
  go_upto_region 3 with fail
  go_cut [10, 11] (fun p q wx => ∃ bp bq, p = .pointer (some ⟨bp, 0, none⟩) ∧ q = .pointer (some ⟨bq, 0, none⟩) ∧ Laid3 W wx #[.int .i64 kd, .int .i64 wh, .int .i64 n, .slice a l.length c] (.slice a1 (allL bl1).length c1) (.slice a0 (allL bl0).length c0) W.heap.size bp bq)
  case first =>
    go_region
    all_goals
      go_wp2_with fail
      go_meet
      first
        | exact ⟨_, _, rfl, rfl, laid_pq (unhide Hact) (unhide Hb1) _ _⟩
        | exact ⟨_, _, rfl, rfl, laid_qp (unhide Hact) (unhide Hb1) _ _⟩
  case rest =>
    obtain ⟨bp, bq, rfl, rfl, hlaid⟩ := hcut
    have h2 := inv_off (unhide H) hlaid.below
    have k0 := cell_block hlaid.act 0 _ rfl
    have k2 := cell_block hlaid.act 2 _ rfl
    have k3 := cell_block hlaid.act 3 _ rfl
    have p0 := cell_block hlaid.p 0 _ rfl
    have q0 := cell_block hlaid.q 0 _ rfl
    have lA := lt_of_some hlaid.act
    have lP := lt_of_some hlaid.p
    have lQ := lt_of_some hlaid.q
    have g0 := ok_good h2.t0.ok
    have g1 := ok_good h2.t1.ok
    have hl0 := allL_short g0.up g0.fit
    have hl1 := allL_short g1.up g1.fit
    have HX := hide (fun W' (hb : Below wc.heap.size wc W') => within_any B1 B0 O1 O0 bl1 bl0 _ _ W' (ok_below h2.t1.ok hb) (ok_below h2.t0.ok hb))
    have HP := hide (fun W' (hb : Below wc.heap.size wc W') => refWithin_any a1 a0 c1 c0 (allL bl1) (allL bl0) (by omega) (by omega) W' (rowI_nrow (rowI_below h2.r1 hb) rfl) (rowI_nrow (rowI_below h2.r0 hb) rfl))
    rw [within_ref g1 g0] at HP
    have Hb : Hid (Below wc.heap.size wc wc.drew) := hide ((Below.refl _ _).drew)
    have H2 := hide h2
    clear h2 hlaid g0 g1
    generalize withinB bl1 bl0 = rr at *
    go_wp2
    go_region_held3 (fun w' : World => w'.cell? ⟨W.heap.size, 2, none⟩ = some (.int .i64 n) ∧ w'.cell? ⟨bp, 0, none⟩ = some (.slice a1 (allL bl1).length c1) ∧ w'.cell? ⟨bq, 0, none⟩ = some (.slice a0 (allL bl0).length c0))
      (first | exact ⟨k2, p0, q0⟩ | go_keep)
      ((first | (go_at_call 16; refine (unhide HX _ (unhide Hb)).mono ?_; rintro e W9 ⟨rfl, hb9⟩; have k2 := (hb9.cell (p := ⟨W.heap.size, 2, none⟩) lA).trans k2; have p0 := (hb9.cell (p := ⟨bp, 0, none⟩) lP).trans p0; have q0 := (hb9.cell (p := ⟨bq, 0, none⟩) lQ).trans q0; have lA := Nat.lt_of_lt_of_le lA hb9.size; have lP := Nat.lt_of_lt_of_le lP hb9.size; have lQ := Nat.lt_of_lt_of_le lQ hb9.size; have Hb := hide ((unhide Hb).trans (hb9.mono (unhide Hb).size)); clear hb9) | (go_at_call 31; refine (unhide HP _ (unhide Hb)).mono ?_; rintro e W9 ⟨rfl, hb9⟩; have k2 := (hb9.cell (p := ⟨W.heap.size, 2, none⟩) lA).trans k2; have p0 := (hb9.cell (p := ⟨bp, 0, none⟩) lP).trans p0; have q0 := (hb9.cell (p := ⟨bq, 0, none⟩) lQ).trans q0; have lA := Nat.lt_of_lt_of_le lA hb9.size; have lP := Nat.lt_of_lt_of_le lP hb9.size; have lQ := Nat.lt_of_lt_of_le lQ hb9.size; have Hb := hide ((unhide Hb).trans (hb9.mono (unhide Hb).size)); clear hb9)))
    all_goals
      go_wp2
      go_ret
      exact ⟨rfl, _, _, _, _, _, _, _, _, inv_off (unhide H2) (unhide Hb)⟩
set_option maxHeartbeats 2000000 in
set_option maxRecDepth 100000 in
theorem does_6_0 (w W : World) (Bs Br B0 B1 : Nat) (O0 O1 : Nat → Prop) (bl0 bl1 : List Blk) (v0 v1 : Value) (h : Inv w W Bs Br B0 B1 O0 O1 bl0 bl1 v0 v1 (allL bl0) (allL bl1)) (kd wh n : Int) (hk : (wrap64 (kd.tmod 9 + 9)).tmod 9 = 6) (hw : bits .and .i64 wh 1 = 0) (a : Option Addr) (c : Nat) (l : List Int) :
    Calls Tryd.prog 9 #[.pointer (some ⟨Bs, 0, none⟩), .pointer (some ⟨Br, 0, none⟩), .agg #[.int .i64 kd, .int .i64 wh, .int .i64 n, .slice a l.length c]] W fun e W' => e = .returned (.bool true) ∧ Two w W' Bs Br := by
  obtain ⟨a0, c0, rfl⟩ := rowI_form h.r0
  obtain ⟨a1, c1, rfl⟩ := rowI_form h.r1
  obtain ⟨W1, hW1⟩ : ∃ W1, W1 = W.alloc (.cells #[.int .i64 kd, .int .i64 wh, .int .i64 n, .slice a l.length c] 37) := ⟨_, rfl⟩
  have hb1 : Below W.heap.size W W1 := by rw [hW1]; exact (Below.refl _ _).alloc (Nat.le_refl _) _
  have hact : W1.heap[W.heap.size]? = some (.cells #[.int .i64 kd, .int .i64 wh, .int .i64 n, .slice a l.length c] 37 (0, 0)) := by rw [hW1]; exact (MapKept.heap_alloc W _).1
  have h1 := inv_off h hb1
  have k0 := cell_block hact 0 _ rfl
  have k1 := cell_block hact 1 _ rfl
  have s0 := cell_block h1.s 0 _ rfl
  have s1 := cell_block h1.s 1 _ rfl
  have r0 := cell_block h1.r 0 _ rfl
  have r1 := cell_block h1.r 1 _ rfl
  have hBr := lt_of_some h1.r
  have r0a : ∀ o, (W1.alloc o).cell? ⟨Br, 0, none⟩ = some (.slice a0 (allL bl0).length c0) := fun o => (((Below.refl _ W1).alloc (Nat.le_refl _) o).cell (p := ⟨Br, 0, none⟩) hBr).trans r0
  have r1a : ∀ o, (W1.alloc o).cell? ⟨Br, 1, none⟩ = some (.slice a1 (allL bl1).length c1) := fun o => (((Below.refl _ W1).alloc (Nat.le_refl _) o).cell (p := ⟨Br, 1, none⟩) hBr).trans r1
  have r0b : ∀ o o', ((W1.alloc o).alloc o').cell? ⟨Br, 0, none⟩ = some (.slice a0 (allL bl0).length c0) := fun o o' => ((((Below.refl _ W1).alloc (Nat.le_refl _) o).alloc (by simp) o').cell (p := ⟨Br, 0, none⟩) hBr).trans r0
  have r1b : ∀ o o', ((W1.alloc o).alloc o').cell? ⟨Br, 1, none⟩ = some (.slice a1 (allL bl1).length c1) := fun o o' => ((((Below.refl _ W1).alloc (Nat.le_refl _) o).alloc (by simp) o').cell (p := ⟨Br, 1, none⟩) hBr).trans r1
  have H := hide h; have Hact := hide hact; have Hb1 := hide hb1
  clear h h1 hact hb1
  go_enter Tryd.func9, Tryd.ntmps9
  go_wp2
  rw [← hW1]
  clear hW1
  go_region
  go_wp2_with fail
  go_upto_region 3 with fail
  go_cut [10, 11] (fun p q wx => ∃ bp bq, p = .pointer (some ⟨bp, 0, none⟩) ∧ q = .pointer (some ⟨bq, 0, none⟩) ∧ Laid3 W wx #[.int .i64 kd, .int .i64 wh, .int .i64 n, .slice a l.length c] (.slice a0 (allL bl0).length c0) (.slice a1 (allL bl1).length c1) W.heap.size bp bq)
  case first =>
    go_region
    all_goals
      go_wp2_with fail
      go_meet
      first
        | exact ⟨_, _, rfl, rfl, laid_pq (unhide Hact) (unhide Hb1) _ _⟩
        | exact ⟨_, _, rfl, rfl, laid_qp (unhide Hact) (unhide Hb1) _ _⟩
  case rest =>
    obtain ⟨bp, bq, rfl, rfl, hlaid⟩ := hcut
    have h2 := inv_off (unhide H) hlaid.below
    have k0 := cell_block hlaid.act 0 _ rfl
    have k2 := cell_block hlaid.act 2 _ rfl
    have k3 := cell_block hlaid.act 3 _ rfl
    have p0 := cell_block hlaid.p 0 _ rfl
    have q0 := cell_block hlaid.q 0 _ rfl
    have lA := lt_of_some hlaid.act
    have lP := lt_of_some hlaid.p
    have lQ := lt_of_some hlaid.q
    have g0 := ok_good h2.t0.ok
    have g1 := ok_good h2.t1.ok
    have hl0 := allL_short g0.up g0.fit
    have hl1 := allL_short g1.up g1.fit
    have HX := hide (fun W' (hb : Below wc.heap.size wc W') => same_any B0 B1 O0 O1 bl0 bl1 _ _ W' (ok_below h2.t0.ok hb) (ok_below h2.t1.ok hb))
    have HP := hide (fun W' (hb : Below wc.heap.size wc W') => refSame_any a0 a1 c0 c1 (allL bl0) (allL bl1) (by omega) W' (rowI_nrow (rowI_below h2.r0 hb) rfl) (rowI_nrow (rowI_below h2.r1 hb) rfl))
    rw [same_ref g0 g1] at HP
    have Hb : Hid (Below wc.heap.size wc wc.drew) := hide ((Below.refl _ _).drew)
    have H2 := hide h2
    clear h2 hlaid g0 g1
    generalize (decide ((cnt 1048576 (hasB bl0) : Int) = cnt 1048576 (hasB bl1)) && withinB bl0 bl1) = rr at *
    go_wp2
    go_region_held3 (fun w' : World => w'.cell? ⟨W.heap.size, 2, none⟩ = some (.int .i64 n) ∧ w'.cell? ⟨bp, 0, none⟩ = some (.slice a0 (allL bl0).length c0) ∧ w'.cell? ⟨bq, 0, none⟩ = some (.slice a1 (allL bl1).length c1))
      (first | exact ⟨k2, p0, q0⟩ | go_keep)
      ((first | (go_at_call 18; refine (unhide HX _ (unhide Hb)).mono ?_; rintro e W9 ⟨rfl, hb9⟩; have k2 := (hb9.cell (p := ⟨W.heap.size, 2, none⟩) lA).trans k2; have p0 := (hb9.cell (p := ⟨bp, 0, none⟩) lP).trans p0; have q0 := (hb9.cell (p := ⟨bq, 0, none⟩) lQ).trans q0; have lA := Nat.lt_of_lt_of_le lA hb9.size; have lP := Nat.lt_of_lt_of_le lP hb9.size; have lQ := Nat.lt_of_lt_of_le lQ hb9.size; have Hb := hide ((unhide Hb).trans (hb9.mono (unhide Hb).size)); clear hb9) | (go_at_call 10; refine (unhide HP _ (unhide Hb)).mono ?_; rintro e W9 ⟨rfl, q9, hq9⟩; have hb9 := below_q hq9; clear hq9; have k2 := (hb9.cell (p := ⟨W.heap.size, 2, none⟩) lA).trans k2; have p0 := (hb9.cell (p := ⟨bp, 0, none⟩) lP).trans p0; have q0 := (hb9.cell (p := ⟨bq, 0, none⟩) lQ).trans q0; have lA := Nat.lt_of_lt_of_le lA hb9.size; have lP := Nat.lt_of_lt_of_le lP hb9.size; have lQ := Nat.lt_of_lt_of_le lQ hb9.size; have Hb := hide ((unhide Hb).trans (hb9.mono (unhide Hb).size)); clear hb9)))
    all_goals
      go_wp2
      go_ret
      exact ⟨rfl, _, _, _, _, _, _, _, _, inv_off (unhide H2) (unhide Hb)⟩
set_option maxHeartbeats 2000000 in
set_option maxRecDepth 100000 in
theorem does_6_1 (w W : World) (Bs Br B0 B1 : Nat) (O0 O1 : Nat → Prop) (bl0 bl1 : List Blk) (v0 v1 : Value) (h : Inv w W Bs Br B0 B1 O0 O1 bl0 bl1 v0 v1 (allL bl0) (allL bl1)) (kd wh n : Int) (hk : (wrap64 (kd.tmod 9 + 9)).tmod 9 = 6) (hw : bits .and .i64 wh 1 = 1) (a : Option Addr) (c : Nat) (l : List Int) :
    Calls Tryd.prog 9 #[.pointer (some ⟨Bs, 0, none⟩), .pointer (some ⟨Br, 0, none⟩), .agg #[.int .i64 kd, .int .i64 wh, .int .i64 n, .slice a l.length c]] W fun e W' => e = .returned (.bool true) ∧ Two w W' Bs Br := by
  obtain ⟨a0, c0, rfl⟩ := rowI_form h.r0
  obtain ⟨a1, c1, rfl⟩ := rowI_form h.r1
  obtain ⟨W1, hW1⟩ : ∃ W1, W1 = W.alloc (.cells #[.int .i64 kd, .int .i64 wh, .int .i64 n, .slice a l.length c] 37) := ⟨_, rfl⟩
  have hb1 : Below W.heap.size W W1 := by rw [hW1]; exact (Below.refl _ _).alloc (Nat.le_refl _) _
  have hact : W1.heap[W.heap.size]? = some (.cells #[.int .i64 kd, .int .i64 wh, .int .i64 n, .slice a l.length c] 37 (0, 0)) := by rw [hW1]; exact (MapKept.heap_alloc W _).1
  have h1 := inv_off h hb1
  have k0 := cell_block hact 0 _ rfl
  have k1 := cell_block hact 1 _ rfl
  have s0 := cell_block h1.s 0 _ rfl
  have s1 := cell_block h1.s 1 _ rfl
  have r0 := cell_block h1.r 0 _ rfl
  have r1 := cell_block h1.r 1 _ rfl
  have hBr := lt_of_some h1.r
  have r0a : ∀ o, (W1.alloc o).cell? ⟨Br, 0, none⟩ = some (.slice a0 (allL bl0).length c0) := fun o => (((Below.refl _ W1).alloc (Nat.le_refl _) o).cell (p := ⟨Br, 0, none⟩) hBr).trans r0
  have r1a : ∀ o, (W1.alloc o).cell? ⟨Br, 1, none⟩ = some (.slice a1 (allL bl1).length c1) := fun o => (((Below.refl _ W1).alloc (Nat.le_refl _) o).cell (p := ⟨Br, 1, none⟩) hBr).trans r1
  have r0b : ∀ o o', ((W1.alloc o).alloc o').cell? ⟨Br, 0, none⟩ = some (.slice a0 (allL bl0).length c0) := fun o o' => ((((Below.refl _ W1).alloc (Nat.le_refl _) o).alloc (by simp) o').cell (p := ⟨Br, 0, none⟩) hBr).trans r0
  have r1b : ∀ o o', ((W1.alloc o).alloc o').cell? ⟨Br, 1, none⟩ = some (.slice a1 (allL bl1).length c1) := fun o o' => ((((Below.refl _ W1).alloc (Nat.le_refl _) o).alloc (by simp) o').cell (p := ⟨Br, 1, none⟩) hBr).trans r1
  have H := hide h; have Hact := hide hact; have Hb1 := hide hb1
  clear h h1 hact hb1
  go_enter Tryd.func9, Tryd.ntmps9
  go_wp2
  rw [← hW1]
  clear hW1
  go_region
  go_wp2_with fail
  go_upto_region 3 with fail
  go_cut [10, 11] (fun p q wx => ∃ bp bq, p = .pointer (some ⟨bp, 0, none⟩) ∧ q = .pointer (some ⟨bq, 0, none⟩) ∧ Laid3 W wx #[.int .i64 kd, .int .i64 wh, .int .i64 n, .slice a l.length c] (.slice a1 (allL bl1).length c1) (.slice a0 (allL bl0).length c0) W.heap.size bp bq)
  case first =>
    go_region
    all_goals
      go_wp2_with fail
      go_meet
      first
        | exact ⟨_, _, rfl, rfl, laid_pq (unhide Hact) (unhide Hb1) _ _⟩
        | exact ⟨_, _, rfl, rfl, laid_qp (unhide Hact) (unhide Hb1) _ _⟩
  case rest =>
    obtain ⟨bp, bq, rfl, rfl, hlaid⟩ := hcut
    have h2 := inv_off (unhide H) hlaid.below
    have k0 := cell_block hlaid.act 0 _ rfl
    have k2 := cell_block hlaid.act 2 _ rfl
    have k3 := cell_block hlaid.act 3 _ rfl
    have p0 := cell_block hlaid.p 0 _ rfl
    have q0 := cell_block hlaid.q 0 _ rfl
    have lA := lt_of_some hlaid.act
    have lP := lt_of_some hlaid.p
    have lQ := lt_of_some hlaid.q
    have g0 := ok_good h2.t0.ok
    have g1 := ok_good h2.t1.ok
    have hl0 := allL_short g0.up g0.fit
    have hl1 := allL_short g1.up g1.fit
    have HX := hide (fun W' (hb : Below wc.heap.size wc W') => same_any B1 B0 O1 O0 bl1 bl0 _ _ W' (ok_below h2.t1.ok hb) (ok_below h2.t0.ok hb))
    have HP := hide (fun W' (hb : Below wc.heap.size wc W') => refSame_any a1 a0 c1 c0 (allL bl1) (allL bl0) (by omega) W' (rowI_nrow (rowI_below h2.r1 hb) rfl) (rowI_nrow (rowI_below h2.r0 hb) rfl))
    rw [same_ref g1 g0] at HP
    have Hb : Hid (Below wc.heap.size wc wc.drew) := hide ((Below.refl _ _).drew)
    have H2 := hide h2
    clear h2 hlaid g0 g1
    generalize (decide ((cnt 1048576 (hasB bl1) : Int) = cnt 1048576 (hasB bl0)) && withinB bl1 bl0) = rr at *
    go_wp2
    go_region_held3 (fun w' : World => w'.cell? ⟨W.heap.size, 2, none⟩ = some (.int .i64 n) ∧ w'.cell? ⟨bp, 0, none⟩ = some (.slice a1 (allL bl1).length c1) ∧ w'.cell? ⟨bq, 0, none⟩ = some (.slice a0 (allL bl0).length c0))
      (first | exact ⟨k2, p0, q0⟩ | go_keep)
      ((first | (go_at_call 18; refine (unhide HX _ (unhide Hb)).mono ?_; rintro e W9 ⟨rfl, hb9⟩; have k2 := (hb9.cell (p := ⟨W.heap.size, 2, none⟩) lA).trans k2; have p0 := (hb9.cell (p := ⟨bp, 0, none⟩) lP).trans p0; have q0 := (hb9.cell (p := ⟨bq, 0, none⟩) lQ).trans q0; have lA := Nat.lt_of_lt_of_le lA hb9.size; have lP := Nat.lt_of_lt_of_le lP hb9.size; have lQ := Nat.lt_of_lt_of_le lQ hb9.size; have Hb := hide ((unhide Hb).trans (hb9.mono (unhide Hb).size)); clear hb9) | (go_at_call 10; refine (unhide HP _ (unhide Hb)).mono ?_; rintro e W9 ⟨rfl, q9, hq9⟩; have hb9 := below_q hq9; clear hq9; have k2 := (hb9.cell (p := ⟨W.heap.size, 2, none⟩) lA).trans k2; have p0 := (hb9.cell (p := ⟨bp, 0, none⟩) lP).trans p0; have q0 := (hb9.cell (p := ⟨bq, 0, none⟩) lQ).trans q0; have lA := Nat.lt_of_lt_of_le lA hb9.size; have lP := Nat.lt_of_lt_of_le lP hb9.size; have lQ := Nat.lt_of_lt_of_le lQ hb9.size; have Hb := hide ((unhide Hb).trans (hb9.mono (unhide Hb).size)); clear hb9)))
    all_goals
      go_wp2
      go_ret
      exact ⟨rfl, _, _, _, _, _, _, _, _, inv_off (unhide H2) (unhide Hb)⟩
end Go.Proofs.YtdpphjedjhjdgaaDoor

/- does: the calls that only look. -/
namespace Go.Proofs.YtdpphjedjhjdgaaDoor
open Go.RowKit Go.Maps

set_option maxHeartbeats 2000000 in
set_option maxRecDepth 100000 in
theorem does_8_0 (w W : World) (Bs Br B0 B1 : Nat) (O0 O1 : Nat → Prop) (bl0 bl1 : List Blk) (v0 v1 : Value) (h : Inv w W Bs Br B0 B1 O0 O1 bl0 bl1 v0 v1 (allL bl0) (allL bl1)) (kd wh n : Int) (hk : (wrap64 (kd.tmod 9 + 9)).tmod 9 = 8) (hw : bits .and .i64 wh 1 = 0) (a : Option Addr) (c : Nat) (l : List Int) :
    Calls Tryd.prog 9 #[.pointer (some ⟨Bs, 0, none⟩), .pointer (some ⟨Br, 0, none⟩), .agg #[.int .i64 kd, .int .i64 wh, .int .i64 n, .slice a l.length c]] W fun e W' => e = .returned (.bool true) ∧ Two w W' Bs Br := by
  obtain ⟨a0, c0, rfl⟩ := rowI_form h.r0
  obtain ⟨a1, c1, rfl⟩ := rowI_form h.r1
  obtain ⟨W1, hW1⟩ : ∃ W1, W1 = W.alloc (.cells #[.int .i64 kd, .int .i64 wh, .int .i64 n, .slice a l.length c] 37) := ⟨_, rfl⟩
  have hb1 : Below W.heap.size W W1 := by rw [hW1]; exact (Below.refl _ _).alloc (Nat.le_refl _) _
  have hact : W1.heap[W.heap.size]? = some (.cells #[.int .i64 kd, .int .i64 wh, .int .i64 n, .slice a l.length c] 37 (0, 0)) := by rw [hW1]; exact (MapKept.heap_alloc W _).1
  have h1 := inv_off h hb1
  have k0 := cell_block hact 0 _ rfl
  have k1 := cell_block hact 1 _ rfl
  have s0 := cell_block h1.s 0 _ rfl
  have s1 := cell_block h1.s 1 _ rfl
  have r0 := cell_block h1.r 0 _ rfl
  have r1 := cell_block h1.r 1 _ rfl
  have hBr := lt_of_some h1.r
  have r0a : ∀ o, (W1.alloc o).cell? ⟨Br, 0, none⟩ = some (.slice a0 (allL bl0).length c0) := fun o => (((Below.refl _ W1).alloc (Nat.le_refl _) o).cell (p := ⟨Br, 0, none⟩) hBr).trans r0
  have r1a : ∀ o, (W1.alloc o).cell? ⟨Br, 1, none⟩ = some (.slice a1 (allL bl1).length c1) := fun o => (((Below.refl _ W1).alloc (Nat.le_refl _) o).cell (p := ⟨Br, 1, none⟩) hBr).trans r1
  have r0b : ∀ o o', ((W1.alloc o).alloc o').cell? ⟨Br, 0, none⟩ = some (.slice a0 (allL bl0).length c0) := fun o o' => ((((Below.refl _ W1).alloc (Nat.le_refl _) o).alloc (by simp) o').cell (p := ⟨Br, 0, none⟩) hBr).trans r0
  have r1b : ∀ o o', ((W1.alloc o).alloc o').cell? ⟨Br, 1, none⟩ = some (.slice a1 (allL bl1).length c1) := fun o o' => ((((Below.refl _ W1).alloc (Nat.le_refl _) o).alloc (by simp) o').cell (p := ⟨Br, 1, none⟩) hBr).trans r1
  have H := hide h; have Hact := hide hact; have Hb1 := hide hb1
  clear h h1 hact hb1
  go_enter Tryd.func9, Tryd.ntmps9
  go_wp2
  rw [← hW1]
  clear hW1
  go_region
  go_wp2_with fail
  go_upto_region 3 with fail
  go_cut [10, 11] (fun p q wx => ∃ bp bq, p = .pointer (some ⟨bp, 0, none⟩) ∧ q = .pointer (some ⟨bq, 0, none⟩) ∧ Laid3 W wx #[.int .i64 kd, .int .i64 wh, .int .i64 n, .slice a l.length c] (.slice a0 (allL bl0).length c0) (.slice a1 (allL bl1).length c1) W.heap.size bp bq)
  case first =>
    go_region
    all_goals
      go_wp2_with fail
      go_meet
      first
        | exact ⟨_, _, rfl, rfl, laid_pq (unhide Hact) (unhide Hb1) _ _⟩
        | exact ⟨_, _, rfl, rfl, laid_qp (unhide Hact) (unhide Hb1) _ _⟩
  case rest =>
    obtain ⟨bp, bq, rfl, rfl, hlaid⟩ := hcut
    have h2 := inv_off (unhide H) hlaid.below
    have k0 := cell_block hlaid.act 0 _ rfl
    have k2 := cell_block hlaid.act 2 _ rfl
    have k3 := cell_block hlaid.act 3 _ rfl
    have p0 := cell_block hlaid.p 0 _ rfl
    have q0 := cell_block hlaid.q 0 _ rfl
    have lA := lt_of_some hlaid.act
    have lP := lt_of_some hlaid.p
    have lQ := lt_of_some hlaid.q
    have g0 := ok_good h2.t0.ok
    have g1 := ok_good h2.t1.ok
    have hl0 := allL_short g0.up g0.fit
    have hl1 := allL_short g1.up g1.fit
    have HX := hide (fun W' (hb : Below wc.heap.size wc W') => key_any B0 O0 bl0 _ W' (ok_below h2.t0.ok hb))
    have HY := hide (fun W' (hb : Below wc.heap.size wc W') => key_any B1 O1 bl1 _ W' (ok_below h2.t1.ok hb))
    have HP := hide (fun W' (hb : Below wc.heap.size wc W') => refSame_any a0 a1 c0 c1 (allL bl0) (allL bl1) (by omega) W' (rowI_nrow (rowI_below h2.r0 hb) rfl) (rowI_nrow (rowI_below h2.r1 hb) rfl))
    rw [key_ref g0 g1] at HP
    have Hb : Hid (Below wc.heap.size wc wc.drew) := hide ((Below.refl _ _).drew)
    have H2 := hide h2
    clear h2 hlaid g0 g1
    generalize strOfNums (keyL bl0) = kx at *
    generalize strOfNums (keyL bl1) = ky at *
    go_wp2
    go_region_held3 (fun w' : World => w'.cell? ⟨W.heap.size, 2, none⟩ = some (.int .i64 n) ∧ w'.cell? ⟨bp, 0, none⟩ = some (.slice a0 (allL bl0).length c0) ∧ w'.cell? ⟨bq, 0, none⟩ = some (.slice a1 (allL bl1).length c1))
      (first | exact ⟨k2, p0, q0⟩ | go_keep)
      ((first | (go_at_call 19; refine (unhide HX _ (unhide Hb)).mono ?_; have HX := HY; rintro e W9 ⟨rfl, hb9⟩; have k2 := (hb9.cell (p := ⟨W.heap.size, 2, none⟩) lA).trans k2; have p0 := (hb9.cell (p := ⟨bp, 0, none⟩) lP).trans p0; have q0 := (hb9.cell (p := ⟨bq, 0, none⟩) lQ).trans q0; have lA := Nat.lt_of_lt_of_le lA hb9.size; have lP := Nat.lt_of_lt_of_le lP hb9.size; have lQ := Nat.lt_of_lt_of_le lQ hb9.size; have Hb := hide ((unhide Hb).trans (hb9.mono (unhide Hb).size)); clear hb9) | (go_at_call 10; refine (unhide HP _ (unhide Hb)).mono ?_; rintro e W9 ⟨rfl, q9, hq9⟩; have hb9 := below_q hq9; clear hq9; have k2 := (hb9.cell (p := ⟨W.heap.size, 2, none⟩) lA).trans k2; have p0 := (hb9.cell (p := ⟨bp, 0, none⟩) lP).trans p0; have q0 := (hb9.cell (p := ⟨bq, 0, none⟩) lQ).trans q0; have lA := Nat.lt_of_lt_of_le lA hb9.size; have lP := Nat.lt_of_lt_of_le lP hb9.size; have lQ := Nat.lt_of_lt_of_le lQ hb9.size; have Hb := hide ((unhide Hb).trans (hb9.mono (unhide Hb).size)); clear hb9)))
    all_goals
      go_wp2
      go_ret
      exact ⟨rfl, _, _, _, _, _, _, _, _, inv_off (unhide H2) (unhide Hb)⟩
set_option maxHeartbeats 2000000 in
set_option maxRecDepth 100000 in
theorem does_8_1 (w W : World) (Bs Br B0 B1 : Nat) (O0 O1 : Nat → Prop) (bl0 bl1 : List Blk) (v0 v1 : Value) (h : Inv w W Bs Br B0 B1 O0 O1 bl0 bl1 v0 v1 (allL bl0) (allL bl1)) (kd wh n : Int) (hk : (wrap64 (kd.tmod 9 + 9)).tmod 9 = 8) (hw : bits .and .i64 wh 1 = 1) (a : Option Addr) (c : Nat) (l : List Int) :
    Calls Tryd.prog 9 #[.pointer (some ⟨Bs, 0, none⟩), .pointer (some ⟨Br, 0, none⟩), .agg #[.int .i64 kd, .int .i64 wh, .int .i64 n, .slice a l.length c]] W fun e W' => e = .returned (.bool true) ∧ Two w W' Bs Br := by
  obtain ⟨a0, c0, rfl⟩ := rowI_form h.r0
  obtain ⟨a1, c1, rfl⟩ := rowI_form h.r1
  obtain ⟨W1, hW1⟩ : ∃ W1, W1 = W.alloc (.cells #[.int .i64 kd, .int .i64 wh, .int .i64 n, .slice a l.length c] 37) := ⟨_, rfl⟩
  have hb1 : Below W.heap.size W W1 := by rw [hW1]; exact (Below.refl _ _).alloc (Nat.le_refl _) _
  have hact : W1.heap[W.heap.size]? = some (.cells #[.int .i64 kd, .int .i64 wh, .int .i64 n, .slice a l.length c] 37 (0, 0)) := by rw [hW1]; exact (MapKept.heap_alloc W _).1
  have h1 := inv_off h hb1
  have k0 := cell_block hact 0 _ rfl
  have k1 := cell_block hact 1 _ rfl
  have s0 := cell_block h1.s 0 _ rfl
  have s1 := cell_block h1.s 1 _ rfl
  have r0 := cell_block h1.r 0 _ rfl
  have r1 := cell_block h1.r 1 _ rfl
  have hBr := lt_of_some h1.r
  have r0a : ∀ o, (W1.alloc o).cell? ⟨Br, 0, none⟩ = some (.slice a0 (allL bl0).length c0) := fun o => (((Below.refl _ W1).alloc (Nat.le_refl _) o).cell (p := ⟨Br, 0, none⟩) hBr).trans r0
  have r1a : ∀ o, (W1.alloc o).cell? ⟨Br, 1, none⟩ = some (.slice a1 (allL bl1).length c1) := fun o => (((Below.refl _ W1).alloc (Nat.le_refl _) o).cell (p := ⟨Br, 1, none⟩) hBr).trans r1
  have r0b : ∀ o o', ((W1.alloc o).alloc o').cell? ⟨Br, 0, none⟩ = some (.slice a0 (allL bl0).length c0) := fun o o' => ((((Below.refl _ W1).alloc (Nat.le_refl _) o).alloc (by simp) o').cell (p := ⟨Br, 0, none⟩) hBr).trans r0
  have r1b : ∀ o o', ((W1.alloc o).alloc o').cell? ⟨Br, 1, none⟩ = some (.slice a1 (allL bl1).length c1) := fun o o' => ((((Below.refl _ W1).alloc (Nat.le_refl _) o).alloc (by simp) o').cell (p := ⟨Br, 1, none⟩) hBr).trans r1
  have H := hide h; have Hact := hide hact; have Hb1 := hide hb1
  clear h h1 hact hb1
  go_enter Tryd.func9, Tryd.ntmps9
  go_wp2
  rw [← hW1]
  clear hW1
  go_region
  go_wp2_with fail
  go_upto_region 3 with fail
  go_cut [10, 11] (fun p q wx => ∃ bp bq, p = .pointer (some ⟨bp, 0, none⟩) ∧ q = .pointer (some ⟨bq, 0, none⟩) ∧ Laid3 W wx #[.int .i64 kd, .int .i64 wh, .int .i64 n, .slice a l.length c] (.slice a1 (allL bl1).length c1) (.slice a0 (allL bl0).length c0) W.heap.size bp bq)
  case first =>
    go_region
    all_goals
      go_wp2_with fail
      go_meet
      first
        | exact ⟨_, _, rfl, rfl, laid_pq (unhide Hact) (unhide Hb1) _ _⟩
        | exact ⟨_, _, rfl, rfl, laid_qp (unhide Hact) (unhide Hb1) _ _⟩
  case rest =>
    obtain ⟨bp, bq, rfl, rfl, hlaid⟩ := hcut
    have h2 := inv_off (unhide H) hlaid.below
    have k0 := cell_block hlaid.act 0 _ rfl
    have k2 := cell_block hlaid.act 2 _ rfl
    have k3 := cell_block hlaid.act 3 _ rfl
    have p0 := cell_block hlaid.p 0 _ rfl
    have q0 := cell_block hlaid.q 0 _ rfl
    have lA := lt_of_some hlaid.act
    have lP := lt_of_some hlaid.p
    have lQ := lt_of_some hlaid.q
    have g0 := ok_good h2.t0.ok
    have g1 := ok_good h2.t1.ok
    have hl0 := allL_short g0.up g0.fit
    have hl1 := allL_short g1.up g1.fit
    have HX := hide (fun W' (hb : Below wc.heap.size wc W') => key_any B1 O1 bl1 _ W' (ok_below h2.t1.ok hb))
    have HY := hide (fun W' (hb : Below wc.heap.size wc W') => key_any B0 O0 bl0 _ W' (ok_below h2.t0.ok hb))
    have HP := hide (fun W' (hb : Below wc.heap.size wc W') => refSame_any a1 a0 c1 c0 (allL bl1) (allL bl0) (by omega) W' (rowI_nrow (rowI_below h2.r1 hb) rfl) (rowI_nrow (rowI_below h2.r0 hb) rfl))
    rw [key_ref g1 g0] at HP
    have Hb : Hid (Below wc.heap.size wc wc.drew) := hide ((Below.refl _ _).drew)
    have H2 := hide h2
    clear h2 hlaid g0 g1
    generalize strOfNums (keyL bl1) = kx at *
    generalize strOfNums (keyL bl0) = ky at *
    go_wp2
    go_region_held3 (fun w' : World => w'.cell? ⟨W.heap.size, 2, none⟩ = some (.int .i64 n) ∧ w'.cell? ⟨bp, 0, none⟩ = some (.slice a1 (allL bl1).length c1) ∧ w'.cell? ⟨bq, 0, none⟩ = some (.slice a0 (allL bl0).length c0))
      (first | exact ⟨k2, p0, q0⟩ | go_keep)
      ((first | (go_at_call 19; refine (unhide HX _ (unhide Hb)).mono ?_; have HX := HY; rintro e W9 ⟨rfl, hb9⟩; have k2 := (hb9.cell (p := ⟨W.heap.size, 2, none⟩) lA).trans k2; have p0 := (hb9.cell (p := ⟨bp, 0, none⟩) lP).trans p0; have q0 := (hb9.cell (p := ⟨bq, 0, none⟩) lQ).trans q0; have lA := Nat.lt_of_lt_of_le lA hb9.size; have lP := Nat.lt_of_lt_of_le lP hb9.size; have lQ := Nat.lt_of_lt_of_le lQ hb9.size; have Hb := hide ((unhide Hb).trans (hb9.mono (unhide Hb).size)); clear hb9) | (go_at_call 10; refine (unhide HP _ (unhide Hb)).mono ?_; rintro e W9 ⟨rfl, q9, hq9⟩; have hb9 := below_q hq9; clear hq9; have k2 := (hb9.cell (p := ⟨W.heap.size, 2, none⟩) lA).trans k2; have p0 := (hb9.cell (p := ⟨bp, 0, none⟩) lP).trans p0; have q0 := (hb9.cell (p := ⟨bq, 0, none⟩) lQ).trans q0; have lA := Nat.lt_of_lt_of_le lA hb9.size; have lP := Nat.lt_of_lt_of_le lP hb9.size; have lQ := Nat.lt_of_lt_of_le lQ hb9.size; have Hb := hide ((unhide Hb).trans (hb9.mono (unhide Hb).size)); clear hb9)))
    all_goals
      go_wp2
      go_ret
      exact ⟨rfl, _, _, _, _, _, _, _, _, inv_off (unhide H2) (unhide Hb)⟩
end Go.Proofs.YtdpphjedjhjdgaaDoor

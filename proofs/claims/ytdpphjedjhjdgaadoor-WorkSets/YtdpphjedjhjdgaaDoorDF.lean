/- does: the calls that change a set. (and what it leads to) -/
import Derived.Test.YtdpphjedjhjdgaaDoorD3
import Derived.Deep.DeepCutAuto
import Derived.Deep.CutRange
import Derived.Deep.RegionHeld3
/- does: the calls that change a set. -/
namespace Go.Proofs.YtdpphjedjhjdgaaDoor
open Go.RowKit Go.Maps

set_option maxHeartbeats 2000000 in
set_option maxRecDepth 100000 in
theorem does_1_0 (w W : World) (Bs Br B0 B1 : Nat) (O0 O1 : Nat → Prop) (bl0 bl1 : List Blk) (v0 v1 : Value) (h : Inv w W Bs Br B0 B1 O0 O1 bl0 bl1 v0 v1 (allL bl0) (allL bl1)) (kd wh n : Int) (hk : (wrap64 (kd.tmod 9 + 9)).tmod 9 = 1) (hw : bits .and .i64 wh 1 = 0) (a : Option Addr) (c : Nat) (l : List Int) (hl : l.length ≤ 281474976710656) (hrow : NRow w a l) :
    Calls Tryd.prog 9 #[.pointer (some ⟨Bs, 0, none⟩), .pointer (some ⟨Br, 0, none⟩), .agg #[.int .i64 kd, .int .i64 wh, .int .i64 n, .slice a l.length c]] W fun e W' => e = .returned (.bool true) ∧ Two w W' Bs Br := by
  obtain ⟨a0, c0, rfl⟩ := rowI_form h.r0
  obtain ⟨a1, c1, rfl⟩ := rowI_form h.r1
  obtain ⟨W1, hW1⟩ : ∃ W1, W1 = W.alloc (.cells #[.int .i64 kd, .int .i64 wh, .int .i64 n, .slice a l.length c] 37) := ⟨_, rfl⟩
  have hb1 : Below W.heap.size W W1 := by rw [hW1]; exact (Below.refl _ _).alloc (Nat.le_refl _) _
  have hact : W1.heap[W.heap.size]? = some (.cells #[.int .i64 kd, .int .i64 wh, .int .i64 n, .slice a l.length c] 37 (0, 0)) := by rw [hW1]; exact (MapKept.heap_alloc W _).1
  have h1 := inv_off h hb1
  have k0 := cell_block hact 0 _ rfl
  have k1 := cell_block hact 1 _ rfl
  have s0 := cell_block h1.s 0 _ rfl
  have s1 := cell_block h1.s 1 _ rfl
  have r0 := cell_block h1.r 0 _ rfl
  have r1 := cell_block h1.r 1 _ rfl
  have hBr := lt_of_some h1.r
  have r0a : ∀ o, (W1.alloc o).cell? ⟨Br, 0, none⟩ = some (.slice a0 (allL bl0).length c0) := fun o => (((Below.refl _ W1).alloc (Nat.le_refl _) o).cell (p := ⟨Br, 0, none⟩) hBr).trans r0
  have r1a : ∀ o, (W1.alloc o).cell? ⟨Br, 1, none⟩ = some (.slice a1 (allL bl1).length c1) := fun o => (((Below.refl _ W1).alloc (Nat.le_refl _) o).cell (p := ⟨Br, 1, none⟩) hBr).trans r1
  have r0b : ∀ o o', ((W1.alloc o).alloc o').cell? ⟨Br, 0, none⟩ = some (.slice a0 (allL bl0).length c0) := fun o o' => ((((Below.refl _ W1).alloc (Nat.le_refl _) o).alloc (by simp) o').cell (p := ⟨Br, 0, none⟩) hBr).trans r0
  have r1b : ∀ o o', ((W1.alloc o).alloc o').cell? ⟨Br, 1, none⟩ = some (.slice a1 (allL bl1).length c1) := fun o o' => ((((Below.refl _ W1).alloc (Nat.le_refl _) o).alloc (by simp) o').cell (p := ⟨Br, 1, none⟩) hBr).trans r1
  have H := hide h; have Hact := hide hact; have Hb1 := hide hb1
  clear h h1 hact hb1
  go_enter Tryd.func9, Tryd.ntmps9
  go_wp2
  rw [← hW1]
  clear hW1
  go_region
  go_wp2_with fail
  go_upto_region 3 with fail
  go_cut [10, 11] (fun p q wx => ∃ bp bq, p = .pointer (some ⟨bp, 0, none⟩) ∧ q = .pointer (some ⟨bq, 0, none⟩) ∧ Laid3 W wx #[.int .i64 kd, .int .i64 wh, .int .i64 n, .slice a l.length c] (.slice a0 (allL bl0).length c0) (.slice a1 (allL bl1).length c1) W.heap.size bp bq)
  case first =>
    go_region
    all_goals
      go_wp2_with fail
      go_meet
      first
        | exact ⟨_, _, rfl, rfl, laid_pq (unhide Hact) (unhide Hb1) _ _⟩
        | exact ⟨_, _, rfl, rfl, laid_qp (unhide Hact) (unhide Hb1) _ _⟩
  case rest =>
    obtain ⟨bp, bq, rfl, rfl, hlaid⟩ := hcut
    have h2 := inv_off (unhide H) hlaid.below
    have k0 := cell_block hlaid.act 0 _ rfl
    have k2 := cell_block hlaid.act 2 _ rfl
    have k3 := cell_block hlaid.act 3 _ rfl
    have p0 := cell_block hlaid.p 0 _ rfl
    have q0 := cell_block hlaid.q 0 _ rfl
    have lA := lt_of_some hlaid.act
    have lP := lt_of_some hlaid.p
    have lQ := lt_of_some hlaid.q
    have g0 := ok_good h2.t0.ok
    have g1 := ok_good h2.t1.ok
    have hl0 := allL_short g0.up g0.fit
    have hl1 := allL_short g1.up g1.fit
    have hrc := nrow_below hrow h2.below (Nat.le_refl _)
    have hap : l ≠ [] → ∀ x, a = some x → ¬ O0 x.block := fun hne x hx hO => by
      rcases hrow with h | ⟨g, off, h, hg, -⟩
      · exact hne h
      · rw [h] at hx; cases hx
        have h9 : w.heap.size ≤ g := h2.lo0 _ hO
        omega
    have nA : ¬ O0 W.heap.size := tset_not h2.t0 hlaid.act (by decide) (by decide)
    have nP : ¬ O0 bp := tset_not h2.t0 hlaid.p (by decide) (by decide)
    have up0 := up_all g0.up
    have val0 : ∀ m ∈ allL bl0, 0 ≤ m ∧ m < 1048576 := fun m hm => has_range g0.up g0.fit ((mem_all g0.up g0.fit m).1 hm)
    have rc0 := h2.r
    have hval : ∀ m, hasB bl0 m = true → 0 ≤ m ∧ m < ((1048576 : Nat) : Int) := fun m hm => has_range g0.up g0.fit hm
    have hcn := dropS_cnt 1048576 (hasB bl0) hval l
    have hcl := hcn l.length (Nat.le_refl _)
    rw [List.take_length] at hcl
    obtain ⟨kk, hkk⟩ : ∃ kk : Int, kk = (dropS (hasB bl0) l).2 := ⟨_, rfl⟩
    rw [← hkk] at hcl
    have HX : Hid (Calls Tryd.prog 27 #[.agg #[.slice a0 (allL bl0).length c0], .slice a l.length c] wc fun e W2 => ∃ v', e = .returned (.tuple #[.agg #[v'], .int .i64 kk]) ∧ (∃ av cv nv, v' = .slice av nv cv) ∧ (W2.alloc (.cells #[v'] 32)).cell? ⟨Br, 0, none⟩ = some (.slice a0 (allL bl0).length c0) ∧ (W2.alloc (.cells #[v'] 32)).frozen? ⟨Br, 0, none⟩ = false ∧
        ((W2.alloc (.cells #[v'] 32)).setCell ⟨Br, 0, none⟩ v').drew.cell? ⟨W.heap.size, 3, none⟩ = some (.slice a l.length c) ∧
        (Calls Tryd.prog 28 #[.pointer (some ⟨B0, 0, none⟩), .slice a l.length c] ((W2.alloc (.cells #[v'] 32)).setCell ⟨Br, 0, none⟩ v').drew fun e W3 => e = .returned (.int .i64 kk) ∧ Two w W3 Bs Br)) := hide (by
      refine (refDrop_k _ (allL bl0) hl0 up0 0 a c l hl wc h2.r0 hrc).mono ?_
      rintro e W2 ⟨v', L', rfl, hr', hu', hm', hb'⟩
      have hr0 : RowI W2 0 v' L' := rowI_mono hr' (Nat.zero_le _)
      have hb4 : Below wc.heap.size wc (W2.alloc (.cells #[v'] 32)) := hb'.alloc hb'.size _
      have h4 := inv_off h2 hb4
      have hv4 : RowI (W2.alloc (.cells #[v'] 32)) 0 v' L' := rowI_below hr0 ((Below.refl _ W2).alloc (Nat.le_refl _) _)
      have h5 := inv_off (inv_row0 h4 hv4) ((Below.refl _ _).drew)
      have hA4 : (W2.alloc (.cells #[v'] 32)).heap[W.heap.size]? = _ := (hb4.block _ lA).trans hlaid.act
      have hnB : W.heap.size ≠ Br := fun e => by have h7 := h4.r; rw [← e, hA4] at h7; simp at h7
      have hA5 : ((W2.alloc (.cells #[v'] 32)).setCell ⟨Br, 0, none⟩ v').drew.heap[W.heap.size]? = some (.cells #[.int .i64 kd, .int .i64 wh, .int .i64 n, .slice a l.length c] 37 (0, 0)) := (Below.heap_setCell _ ⟨Br, 0, none⟩ v' _ hnB).trans hA4
      have hL : ∀ bl', Good bl' → (∀ m, hasB bl' m = (dropS (hasB bl0) l).1 m) → L' = allL bl' := fun bl' g' hh => all_is g'.up g'.fit hu' (fun m => by
        have h5 := dropS_mem (hasB bl0) l m l.length (Nat.le_refl _)
        rw [List.take_length] at h5
        rw [hm', hh, h5, mem_all g0.up g0.fit]
        simp [and_comm])
      have hcd : ((allL bl0).length : Int) - L'.length = kk := by
        have hup2 : Up (((List.range 1048576).filter fun j : Nat => (dropS (hasB bl0) l).1 j).map fun j : Nat => (j : Int)) := by
          unfold Up
          rw [List.pairwise_map]
          have : (List.range 1048576).Pairwise (· < ·) := List.pairwise_lt_range
          exact (this.filter _).imp fun h => by omega
        have hdm := fun m => by
          have h5 := dropS_mem (hasB bl0) l m l.length (Nat.le_refl _)
          rw [List.take_length] at h5
          exact h5
        have e1 : L' = _ := up_ext hu' hup2 (fun m => by
          rw [List.mem_map, hm', mem_all g0.up g0.fit]
          constructor
          · rintro ⟨q1, q2⟩
            obtain ⟨z0, z1⟩ := hval m q1
            obtain ⟨j, rfl⟩ := Int.eq_ofNat_of_zero_le z0
            exact ⟨j, List.mem_filter.2 ⟨List.mem_range.2 (by omega), by rw [hdm, q1]; simpa using q2⟩, rfl⟩
          · rintro ⟨j, hj, rfl⟩
            have := (List.mem_filter.1 hj).2
            rw [hdm] at this
            simpa [and_comm] using this)
        have e2 : L'.length = cnt 1048576 (dropS (hasB bl0) l).1 := by rw [e1, List.length_map]; rfl
        rw [allL_cnt g0.up g0.fit, e2]
        omega
      obtain ⟨av, cv, hvv⟩ := rowI_form hr'
      refine ⟨v', by rw [hcd], ⟨av, cv, _, hvv⟩, cell_block h4.r 0 _ rfl, frozen_block h4.r 0, cell_block hA5 3 _ rfl, ?_⟩
      have hd := drop_all B0 O0 bl0 (cnt 1048576 (hasB bl0)) a c l hl (fun k hk => by have := hcn k hk; omega) (by have := cnt_le 1048576 (hasB bl0); omega) _ h5.t0.ok (nrow_below hrow h5.below (Nat.le_refl _)) hap
      refine hd.mono ?_
      rintro e W3 ⟨rfl, ho, bl', hs, hh⟩
      have hsz' : (cnt 1048576 (hasB bl0) : Int) - (dropS (hasB bl0) l).2 = cnt 1048576 (hasB bl') := by rw [show hasB bl' = (dropS (hasB bl0) l).1 from funext hh]; omega
      obtain ⟨O2, h6⟩ := inv_set0 h5 ho hs hsz' (fun k hk => .inl hk)
      have := hL bl' (ok_good hs) hh
      subst this
      exact ⟨by rw [hkk], _, _, _, _, _, _, _, _, h6⟩)
    clear h2 hlaid g0 g1 hrc hap nA nP up0 val0 rc0 hval hcn hcl hkk hrow q0
    go_wp2_with fail
    refine (unhide HX).mono ?_
    rintro e W2 ⟨v', rfl, ⟨av, cv, nv, rfl⟩, xr, fr, kr, hcall⟩
    have HP := hide hcall
    clear HX hcall
    go_wp2
    go_region
    all_goals
      generalize ((W2.alloc (.cells #[.slice av nv cv] 32)).setCell ⟨Br, 0, none⟩ (.slice av nv cv)).drew = W5 at *
      go_wp2_with fail
      refine (unhide HP).mono ?_
      rintro e W6 ⟨rfl, htwo⟩
      have Htwo := hide htwo
      clear htwo
      go_wp2
      go_ret
      exact ⟨rfl, unhide Htwo⟩
set_option maxHeartbeats 2000000 in
set_option maxRecDepth 100000 in
theorem does_1_1 (w W : World) (Bs Br B0 B1 : Nat) (O0 O1 : Nat → Prop) (bl0 bl1 : List Blk) (v0 v1 : Value) (h : Inv w W Bs Br B0 B1 O0 O1 bl0 bl1 v0 v1 (allL bl0) (allL bl1)) (kd wh n : Int) (hk : (wrap64 (kd.tmod 9 + 9)).tmod 9 = 1) (hw : bits .and .i64 wh 1 = 1) (a : Option Addr) (c : Nat) (l : List Int) (hl : l.length ≤ 281474976710656) (hrow : NRow w a l) :
    Calls Tryd.prog 9 #[.pointer (some ⟨Bs, 0, none⟩), .pointer (some ⟨Br, 0, none⟩), .agg #[.int .i64 kd, .int .i64 wh, .int .i64 n, .slice a l.length c]] W fun e W' => e = .returned (.bool true) ∧ Two w W' Bs Br := by
  obtain ⟨a0, c0, rfl⟩ := rowI_form h.r0
  obtain ⟨a1, c1, rfl⟩ := rowI_form h.r1
  obtain ⟨W1, hW1⟩ : ∃ W1, W1 = W.alloc (.cells #[.int .i64 kd, .int .i64 wh, .int .i64 n, .slice a l.length c] 37) := ⟨_, rfl⟩
  have hb1 : Below W.heap.size W W1 := by rw [hW1]; exact (Below.refl _ _).alloc (Nat.le_refl _) _
  have hact : W1.heap[W.heap.size]? = some (.cells #[.int .i64 kd, .int .i64 wh, .int .i64 n, .slice a l.length c] 37 (0, 0)) := by rw [hW1]; exact (MapKept.heap_alloc W _).1
  have h1 := inv_off h hb1
  have k0 := cell_block hact 0 _ rfl
  have k1 := cell_block hact 1 _ rfl
  have s0 := cell_block h1.s 0 _ rfl
  have s1 := cell_block h1.s 1 _ rfl
  have r0 := cell_block h1.r 0 _ rfl
  have r1 := cell_block h1.r 1 _ rfl
  have hBr := lt_of_some h1.r
  have r0a : ∀ o, (W1.alloc o).cell? ⟨Br, 0, none⟩ = some (.slice a0 (allL bl0).length c0) := fun o => (((Below.refl _ W1).alloc (Nat.le_refl _) o).cell (p := ⟨Br, 0, none⟩) hBr).trans r0
  have r1a : ∀ o, (W1.alloc o).cell? ⟨Br, 1, none⟩ = some (.slice a1 (allL bl1).length c1) := fun o => (((Below.refl _ W1).alloc (Nat.le_refl _) o).cell (p := ⟨Br, 1, none⟩) hBr).trans r1
  have r0b : ∀ o o', ((W1.alloc o).alloc o').cell? ⟨Br, 0, none⟩ = some (.slice a0 (allL bl0).length c0) := fun o o' => ((((Below.refl _ W1).alloc (Nat.le_refl _) o).alloc (by simp) o').cell (p := ⟨Br, 0, none⟩) hBr).trans r0
  have r1b : ∀ o o', ((W1.alloc o).alloc o').cell? ⟨Br, 1, none⟩ = some (.slice a1 (allL bl1).length c1) := fun o o' => ((((Below.refl _ W1).alloc (Nat.le_refl _) o).alloc (by simp) o').cell (p := ⟨Br, 1, none⟩) hBr).trans r1
  have H := hide h; have Hact := hide hact; have Hb1 := hide hb1
  clear h h1 hact hb1
  go_enter Tryd.func9, Tryd.ntmps9
  go_wp2
  rw [← hW1]
  clear hW1
  go_region
  go_wp2_with fail
  go_upto_region 3 with fail
  go_cut [10, 11] (fun p q wx => ∃ bp bq, p = .pointer (some ⟨bp, 0, none⟩) ∧ q = .pointer (some ⟨bq, 0, none⟩) ∧ Laid3 W wx #[.int .i64 kd, .int .i64 wh, .int .i64 n, .slice a l.length c] (.slice a1 (allL bl1).length c1) (.slice a0 (allL bl0).length c0) W.heap.size bp bq)
  case first =>
    go_region
    all_goals
      go_wp2_with fail
      go_meet
      first
        | exact ⟨_, _, rfl, rfl, laid_pq (unhide Hact) (unhide Hb1) _ _⟩
        | exact ⟨_, _, rfl, rfl, laid_qp (unhide Hact) (unhide Hb1) _ _⟩
  case rest =>
    obtain ⟨bp, bq, rfl, rfl, hlaid⟩ := hcut
    have h2 := inv_off (unhide H) hlaid.below
    have k0 := cell_block hlaid.act 0 _ rfl
    have k2 := cell_block hlaid.act 2 _ rfl
    have k3 := cell_block hlaid.act 3 _ rfl
    have p0 := cell_block hlaid.p 0 _ rfl
    have q0 := cell_block hlaid.q 0 _ rfl
    have lA := lt_of_some hlaid.act
    have lP := lt_of_some hlaid.p
    have lQ := lt_of_some hlaid.q
    have g0 := ok_good h2.t0.ok
    have g1 := ok_good h2.t1.ok
    have hl0 := allL_short g0.up g0.fit
    have hl1 := allL_short g1.up g1.fit
    have hrc := nrow_below hrow h2.below (Nat.le_refl _)
    have hap : l ≠ [] → ∀ x, a = some x → ¬ O1 x.block := fun hne x hx hO => by
      rcases hrow with h | ⟨g, off, h, hg, -⟩
      · exact hne h
      · rw [h] at hx; cases hx
        have h9 : w.heap.size ≤ g := h2.lo1 _ hO
        omega
    have nA : ¬ O1 W.heap.size := tset_not h2.t1 hlaid.act (by decide) (by decide)
    have nP : ¬ O1 bp := tset_not h2.t1 hlaid.p (by decide) (by decide)
    have up1 := up_all g1.up
    have val1 : ∀ m ∈ allL bl1, 0 ≤ m ∧ m < 1048576 := fun m hm => has_range g1.up g1.fit ((mem_all g1.up g1.fit m).1 hm)
    have rc1 := h2.r
    have hval : ∀ m, hasB bl1 m = true → 0 ≤ m ∧ m < ((1048576 : Nat) : Int) := fun m hm => has_range g1.up g1.fit hm
    have hcn := dropS_cnt 1048576 (hasB bl1) hval l
    have hcl := hcn l.length (Nat.le_refl _)
    rw [List.take_length] at hcl
    obtain ⟨kk, hkk⟩ : ∃ kk : Int, kk = (dropS (hasB bl1) l).2 := ⟨_, rfl⟩
    rw [← hkk] at hcl
    have HX : Hid (Calls Tryd.prog 27 #[.agg #[.slice a1 (allL bl1).length c1], .slice a l.length c] wc fun e W2 => ∃ v', e = .returned (.tuple #[.agg #[v'], .int .i64 kk]) ∧ (∃ av cv nv, v' = .slice av nv cv) ∧ (W2.alloc (.cells #[v'] 32)).cell? ⟨Br, 1, none⟩ = some (.slice a1 (allL bl1).length c1) ∧ (W2.alloc (.cells #[v'] 32)).frozen? ⟨Br, 1, none⟩ = false ∧
        ((W2.alloc (.cells #[v'] 32)).setCell ⟨Br, 1, none⟩ v').drew.cell? ⟨W.heap.size, 3, none⟩ = some (.slice a l.length c) ∧
        (Calls Tryd.prog 28 #[.pointer (some ⟨B1, 0, none⟩), .slice a l.length c] ((W2.alloc (.cells #[v'] 32)).setCell ⟨Br, 1, none⟩ v').drew fun e W3 => e = .returned (.int .i64 kk) ∧ Two w W3 Bs Br)) := hide (by
      refine (refDrop_k _ (allL bl1) hl1 up1 0 a c l hl wc h2.r1 hrc).mono ?_
      rintro e W2 ⟨v', L', rfl, hr', hu', hm', hb'⟩
      have hr0 : RowI W2 0 v' L' := rowI_mono hr' (Nat.zero_le _)
      have hb4 : Below wc.heap.size wc (W2.alloc (.cells #[v'] 32)) := hb'.alloc hb'.size _
      have h4 := inv_off h2 hb4
      have hv4 : RowI (W2.alloc (.cells #[v'] 32)) 0 v' L' := rowI_below hr0 ((Below.refl _ W2).alloc (Nat.le_refl _) _)
      have h5 := inv_off (inv_row1 h4 hv4) ((Below.refl _ _).drew)
      have hA4 : (W2.alloc (.cells #[v'] 32)).heap[W.heap.size]? = _ := (hb4.block _ lA).trans hlaid.act
      have hnB : W.heap.size ≠ Br := fun e => by have h7 := h4.r; rw [← e, hA4] at h7; simp at h7
      have hA5 : ((W2.alloc (.cells #[v'] 32)).setCell ⟨Br, 1, none⟩ v').drew.heap[W.heap.size]? = some (.cells #[.int .i64 kd, .int .i64 wh, .int .i64 n, .slice a l.length c] 37 (0, 0)) := (Below.heap_setCell _ ⟨Br, 1, none⟩ v' _ hnB).trans hA4
      have hL : ∀ bl', Good bl' → (∀ m, hasB bl' m = (dropS (hasB bl1) l).1 m) → L' = allL bl' := fun bl' g' hh => all_is g'.up g'.fit hu' (fun m => by
        have h5 := dropS_mem (hasB bl1) l m l.length (Nat.le_refl _)
        rw [List.take_length] at h5
        rw [hm', hh, h5, mem_all g1.up g1.fit]
        simp [and_comm])
      have hcd : ((allL bl1).length : Int) - L'.length = kk := by
        have hup2 : Up (((List.range 1048576).filter fun j : Nat => (dropS (hasB bl1) l).1 j).map fun j : Nat => (j : Int)) := by
          unfold Up
          rw [List.pairwise_map]
          have : (List.range 1048576).Pairwise (· < ·) := List.pairwise_lt_range
          exact (this.filter _).imp fun h => by omega
        have hdm := fun m => by
          have h5 := dropS_mem (hasB bl1) l m l.length (Nat.le_refl _)
          rw [List.take_length] at h5
          exact h5
        have e1 : L' = _ := up_ext hu' hup2 (fun m => by
          rw [List.mem_map, hm', mem_all g1.up g1.fit]
          constructor
          · rintro ⟨q1, q2⟩
            obtain ⟨z0, z1⟩ := hval m q1
            obtain ⟨j, rfl⟩ := Int.eq_ofNat_of_zero_le z0
            exact ⟨j, List.mem_filter.2 ⟨List.mem_range.2 (by omega), by rw [hdm, q1]; simpa using q2⟩, rfl⟩
          · rintro ⟨j, hj, rfl⟩
            have := (List.mem_filter.1 hj).2
            rw [hdm] at this
            simpa [and_comm] using this)
        have e2 : L'.length = cnt 1048576 (dropS (hasB bl1) l).1 := by rw [e1, List.length_map]; rfl
        rw [allL_cnt g1.up g1.fit, e2]
        omega
      obtain ⟨av, cv, hvv⟩ := rowI_form hr'
      refine ⟨v', by rw [hcd], ⟨av, cv, _, hvv⟩, cell_block h4.r 1 _ rfl, frozen_block h4.r 1, cell_block hA5 3 _ rfl, ?_⟩
      have hd := drop_all B1 O1 bl1 (cnt 1048576 (hasB bl1)) a c l hl (fun k hk => by have := hcn k hk; omega) (by have := cnt_le 1048576 (hasB bl1); omega) _ h5.t1.ok (nrow_below hrow h5.below (Nat.le_refl _)) hap
      refine hd.mono ?_
      rintro e W3 ⟨rfl, ho, bl', hs, hh⟩
      have hsz' : (cnt 1048576 (hasB bl1) : Int) - (dropS (hasB bl1) l).2 = cnt 1048576 (hasB bl') := by rw [show hasB bl' = (dropS (hasB bl1) l).1 from funext hh]; omega
      obtain ⟨O2, h6⟩ := inv_set1 h5 ho hs hsz' (fun k hk => .inl hk)
      have := hL bl' (ok_good hs) hh
      subst this
      exact ⟨by rw [hkk], _, _, _, _, _, _, _, _, h6⟩)
    clear h2 hlaid g0 g1 hrc hap nA nP up1 val1 rc1 hval hcn hcl hkk hrow q0
    go_wp2_with fail
    refine (unhide HX).mono ?_
    rintro e W2 ⟨v', rfl, ⟨av, cv, nv, rfl⟩, xr, fr, kr, hcall⟩
    have HP := hide hcall
    clear HX hcall
    go_wp2
    go_region
    all_goals
      generalize ((W2.alloc (.cells #[.slice av nv cv] 32)).setCell ⟨Br, 1, none⟩ (.slice av nv cv)).drew = W5 at *
      go_wp2_with fail
      refine (unhide HP).mono ?_
      rintro e W6 ⟨rfl, htwo⟩
      have Htwo := hide htwo
      clear htwo
      go_wp2
      go_ret
      exact ⟨rfl, unhide Htwo⟩
end Go.Proofs.YtdpphjedjhjdgaaDoor

/- does: the calls that change a set. -/
namespace Go.Proofs.YtdpphjedjhjdgaaDoor
open Go.RowKit Go.Maps

set_option maxHeartbeats 2000000 in
set_option maxRecDepth 100000 in
theorem does_3_0 (w W : World) (Bs Br B0 B1 : Nat) (O0 O1 : Nat → Prop) (bl0 bl1 : List Blk) (v0 v1 : Value) (h : Inv w W Bs Br B0 B1 O0 O1 bl0 bl1 v0 v1 (allL bl0) (allL bl1)) (kd wh n : Int) (hk : (wrap64 (kd.tmod 9 + 9)).tmod 9 = 3) (hw : bits .and .i64 wh 1 = 0) (a : Option Addr) (c : Nat) (l : List Int) :
    Calls Tryd.prog 9 #[.pointer (some ⟨Bs, 0, none⟩), .pointer (some ⟨Br, 0, none⟩), .agg #[.int .i64 kd, .int .i64 wh, .int .i64 n, .slice a l.length c]] W fun e W' => e = .returned (.bool true) ∧ Two w W' Bs Br := by
  obtain ⟨a0, c0, rfl⟩ := rowI_form h.r0
  obtain ⟨a1, c1, rfl⟩ := rowI_form h.r1
  obtain ⟨W1, hW1⟩ : ∃ W1, W1 = W.alloc (.cells #[.int .i64 kd, .int .i64 wh, .int .i64 n, .slice a l.length c] 37) := ⟨_, rfl⟩
  have hb1 : Below W.heap.size W W1 := by rw [hW1]; exact (Below.refl _ _).alloc (Nat.le_refl _) _
  have hact : W1.heap[W.heap.size]? = some (.cells #[.int .i64 kd, .int .i64 wh, .int .i64 n, .slice a l.length c] 37 (0, 0)) := by rw [hW1]; exact (MapKept.heap_alloc W _).1
  have h1 := inv_off h hb1
  have k0 := cell_block hact 0 _ rfl
  have k1 := cell_block hact 1 _ rfl
  have s0 := cell_block h1.s 0 _ rfl
  have s1 := cell_block h1.s 1 _ rfl
  have r0 := cell_block h1.r 0 _ rfl
  have r1 := cell_block h1.r 1 _ rfl
  have hBr := lt_of_some h1.r
  have r0a : ∀ o, (W1.alloc o).cell? ⟨Br, 0, none⟩ = some (.slice a0 (allL bl0).length c0) := fun o => (((Below.refl _ W1).alloc (Nat.le_refl _) o).cell (p := ⟨Br, 0, none⟩) hBr).trans r0
  have r1a : ∀ o, (W1.alloc o).cell? ⟨Br, 1, none⟩ = some (.slice a1 (allL bl1).length c1) := fun o => (((Below.refl _ W1).alloc (Nat.le_refl _) o).cell (p := ⟨Br, 1, none⟩) hBr).trans r1
  have r0b : ∀ o o', ((W1.alloc o).alloc o').cell? ⟨Br, 0, none⟩ = some (.slice a0 (allL bl0).length c0) := fun o o' => ((((Below.refl _ W1).alloc (Nat.le_refl _) o).alloc (by simp) o').cell (p := ⟨Br, 0, none⟩) hBr).trans r0
  have r1b : ∀ o o', ((W1.alloc o).alloc o').cell? ⟨Br, 1, none⟩ = some (.slice a1 (allL bl1).length c1) := fun o o' => ((((Below.refl _ W1).alloc (Nat.le_refl _) o).alloc (by simp) o').cell (p := ⟨Br, 1, none⟩) hBr).trans r1
  have H := hide h; have Hact := hide hact; have Hb1 := hide hb1
  clear h h1 hact hb1
  go_enter Tryd.func9, Tryd.ntmps9
  go_wp2
  rw [← hW1]
  clear hW1
  go_region
  go_wp2_with fail
  go_upto_region 3 with fail
  go_cut [10, 11] (fun p q wx => ∃ bp bq, p = .pointer (some ⟨bp, 0, none⟩) ∧ q = .pointer (some ⟨bq, 0, none⟩) ∧ Laid3 W wx #[.int .i64 kd, .int .i64 wh, .int .i64 n, .slice a l.length c] (.slice a0 (allL bl0).length c0) (.slice a1 (allL bl1).length c1) W.heap.size bp bq)
  case first =>
    go_region
    all_goals
      go_wp2_with fail
      go_meet
      first
        | exact ⟨_, _, rfl, rfl, laid_pq (unhide Hact) (unhide Hb1) _ _⟩
        | exact ⟨_, _, rfl, rfl, laid_qp (unhide Hact) (unhide Hb1) _ _⟩
  case rest =>
    obtain ⟨bp, bq, rfl, rfl, hlaid⟩ := hcut
    have h2 := inv_off (unhide H) hlaid.below
    have k0 := cell_block hlaid.act 0 _ rfl
    have k2 := cell_block hlaid.act 2 _ rfl
    have k3 := cell_block hlaid.act 3 _ rfl
    have p0 := cell_block hlaid.p 0 _ rfl
    have q0 := cell_block hlaid.q 0 _ rfl
    have lA := lt_of_some hlaid.act
    have lP := lt_of_some hlaid.p
    have lQ := lt_of_some hlaid.q
    have g0 := ok_good h2.t0.ok
    have g1 := ok_good h2.t1.ok
    have hl0 := allL_short g0.up g0.fit
    have hl1 := allL_short g1.up g1.fit
    have up0 := up_all g0.up
    have val0 : ∀ m ∈ allL bl0, 0 ≤ m ∧ m < 1048576 := fun m hm => has_range g0.up g0.fit ((mem_all g0.up g0.fit m).1 hm)
    have hcl := join_cnt (hasB bl0) g1.fit
    have hjh := fun m => join_has (hasB bl0) g1.up g1.fit m
    obtain ⟨kk, hkk⟩ : ∃ kk : Int, kk = (joinS (hasB bl0) bl1).2 := ⟨_, rfl⟩
    rw [← hkk] at hcl
    have HX : Hid (Calls Tryd.prog 8 #[.agg #[.slice a0 (allL bl0).length c0], .slice a1 (allL bl1).length c1] wc fun e W2 => ∃ v', e = .returned (.tuple #[.agg #[v'], .int .i64 kk, .int .i64 0]) ∧ (∃ av cv nv, v' = .slice av nv cv) ∧ (W2.alloc (.cells #[v'] 32)).cell? ⟨Br, 0, none⟩ = some (.slice a0 (allL bl0).length c0) ∧ (W2.alloc (.cells #[v'] 32)).frozen? ⟨Br, 0, none⟩ = false ∧
        (Calls Tryd.prog 14 #[.pointer (some ⟨B0, 0, none⟩), .pointer (some ⟨B1, 0, none⟩)] ((W2.alloc (.cells #[v'] 32)).setCell ⟨Br, 0, none⟩ v').drew fun e W3 => e = .returned (.int .i64 kk) ∧ Two w W3 Bs Br)) := hide (by
      refine (refAdd_gen _ (allL bl0) up0 val0 a1 c1 (allL bl1) (by omega) (allL_nums g1.up g1.fit) wc h2.r0 (rowI_nrow h2.r1 rfl)).mono ?_
      rintro e W2 ⟨v', L', rfl, hr', hu', hm', hb'⟩
      have hb4 : Below wc.heap.size wc (W2.alloc (.cells #[v'] 32)) := hb'.alloc hb'.size _
      have h4 := inv_off h2 hb4
      have hv4 : RowI (W2.alloc (.cells #[v'] 32)) 0 v' L' := rowI_below hr' ((Below.refl _ W2).alloc (Nat.le_refl _) _)
      have h5 := inv_off (inv_row0 h4 hv4) ((Below.refl _ _).drew)
      have hL : ∀ bl', Good bl' → (∀ m, hasB bl' m = (joinS (hasB bl0) bl1).1 m) → L' = allL bl' := fun bl' g' hh => all_is g'.up g'.fit hu' (fun m => by
        rw [hm', hh, hjh, mem_all g0.up g0.fit, mem_all g1.up g1.fit]
        simp)
      have hcd : (L'.length : Int) - (allL bl0).length = kk := by
        have hup2 : Up (((List.range 1048576).filter fun j : Nat => (joinS (hasB bl0) bl1).1 j).map fun j : Nat => (j : Int)) := by
          unfold Up
          rw [List.pairwise_map]
          have : (List.range 1048576).Pairwise (· < ·) := List.pairwise_lt_range
          exact (this.filter _).imp fun h => by omega
        have e1 : L' = _ := up_ext hu' hup2 (fun m => by
          rw [List.mem_map, hm', mem_all g0.up g0.fit, mem_all g1.up g1.fit]
          constructor
          · intro q1
            have hx : 0 ≤ m ∧ m < 1048576 := q1.elim (fun h => has_range g0.up g0.fit h) (fun h => has_range g1.up g1.fit h)
            obtain ⟨j, rfl⟩ := Int.eq_ofNat_of_zero_le hx.1
            exact ⟨j, List.mem_filter.2 ⟨List.mem_range.2 (by omega), by rw [hjh]; simpa using q1⟩, rfl⟩
          · rintro ⟨j, hj, rfl⟩
            have := (List.mem_filter.1 hj).2
            rw [hjh] at this
            simpa using this)
        have e2 : L'.length = cnt 1048576 (joinS (hasB bl0) bl1).1 := by rw [e1, List.length_map]; rfl
        rw [allL_cnt g0.up g0.fit, e2]
        omega
      obtain ⟨av, cv, hvv⟩ := rowI_form hr'
      refine ⟨v', by rw [hcd], ⟨av, cv, _, hvv⟩, cell_block h4.r 0 _ rfl, frozen_block h4.r 0, ?_⟩
      have hd := join_any B0 B1 O0 O1 bl0 bl1 (cnt 1048576 (hasB bl0)) (cnt 1048576 (hasB bl1)) (by have := cnt_le 1048576 (hasB bl0); omega) _ h5.t0.ok h5.t1.ok (fun k h1 h0 => h5.apart k h0 h1)
      refine hd.mono ?_
      rintro e W3 ⟨rfl, ho, bl', O', hs, hO', hh⟩
      have hsz' : (cnt 1048576 (hasB bl0) : Int) + (joinS (hasB bl0) bl1).2 = cnt 1048576 (hasB bl') := by rw [show hasB bl' = (joinS (hasB bl0) bl1).1 from funext hh]; omega
      obtain ⟨O2, h6⟩ := inv_set0 h5 ho hs hsz' hO'
      have := hL bl' (ok_good hs) hh
      subst this
      exact ⟨by rw [hkk], _, _, _, _, _, _, _, _, h6⟩)
    clear h2 hlaid g0 g1 up0 val0 hcl hjh hkk
    go_wp2_with fail
    refine (unhide HX).mono ?_
    rintro e W2 ⟨v', rfl, ⟨av, cv, nv, rfl⟩, xr, fr, hcall⟩
    have HP := hide hcall
    clear HX hcall
    go_wp2
    go_region
    all_goals
      generalize ((W2.alloc (.cells #[.slice av nv cv] 32)).setCell ⟨Br, 0, none⟩ (.slice av nv cv)).drew = W5 at *
      go_wp2_with fail
      refine (unhide HP).mono ?_
      rintro e W6 ⟨rfl, htwo⟩
      have Htwo := hide htwo
      clear htwo
      go_wp2
      go_ret
      exact ⟨rfl, unhide Htwo⟩
set_option maxHeartbeats 2000000 in
set_option maxRecDepth 100000 in
theorem does_3_1 (w W : World) (Bs Br B0 B1 : Nat) (O0 O1 : Nat → Prop) (bl0 bl1 : List Blk) (v0 v1 : Value) (h : Inv w W Bs Br B0 B1 O0 O1 bl0 bl1 v0 v1 (allL bl0) (allL bl1)) (kd wh n : Int) (hk : (wrap64 (kd.tmod 9 + 9)).tmod 9 = 3) (hw : bits .and .i64 wh 1 = 1) (a : Option Addr) (c : Nat) (l : List Int) :
    Calls Tryd.prog 9 #[.pointer (some ⟨Bs, 0, none⟩), .pointer (some ⟨Br, 0, none⟩), .agg #[.int .i64 kd, .int .i64 wh, .int .i64 n, .slice a l.length c]] W fun e W' => e = .returned (.bool true) ∧ Two w W' Bs Br := by
  obtain ⟨a0, c0, rfl⟩ := rowI_form h.r0
  obtain ⟨a1, c1, rfl⟩ := rowI_form h.r1
  obtain ⟨W1, hW1⟩ : ∃ W1, W1 = W.alloc (.cells #[.int .i64 kd, .int .i64 wh, .int .i64 n, .slice a l.length c] 37) := ⟨_, rfl⟩
  have hb1 : Below W.heap.size W W1 := by rw [hW1]; exact (Below.refl _ _).alloc (Nat.le_refl _) _
  have hact : W1.heap[W.heap.size]? = some (.cells #[.int .i64 kd, .int .i64 wh, .int .i64 n, .slice a l.length c] 37 (0, 0)) := by rw [hW1]; exact (MapKept.heap_alloc W _).1
  have h1 := inv_off h hb1
  have k0 := cell_block hact 0 _ rfl
  have k1 := cell_block hact 1 _ rfl
  have s0 := cell_block h1.s 0 _ rfl
  have s1 := cell_block h1.s 1 _ rfl
  have r0 := cell_block h1.r 0 _ rfl
  have r1 := cell_block h1.r 1 _ rfl
  have hBr := lt_of_some h1.r
  have r0a : ∀ o, (W1.alloc o).cell? ⟨Br, 0, none⟩ = some (.slice a0 (allL bl0).length c0) := fun o => (((Below.refl _ W1).alloc (Nat.le_refl _) o).cell (p := ⟨Br, 0, none⟩) hBr).trans r0
  have r1a : ∀ o, (W1.alloc o).cell? ⟨Br, 1, none⟩ = some (.slice a1 (allL bl1).length c1) := fun o => (((Below.refl _ W1).alloc (Nat.le_refl _) o).cell (p := ⟨Br, 1, none⟩) hBr).trans r1
  have r0b : ∀ o o', ((W1.alloc o).alloc o').cell? ⟨Br, 0, none⟩ = some (.slice a0 (allL bl0).length c0) := fun o o' => ((((Below.refl _ W1).alloc (Nat.le_refl _) o).alloc (by simp) o').cell (p := ⟨Br, 0, none⟩) hBr).trans r0
  have r1b : ∀ o o', ((W1.alloc o).alloc o').cell? ⟨Br, 1, none⟩ = some (.slice a1 (allL bl1).length c1) := fun o o' => ((((Below.refl _ W1).alloc (Nat.le_refl _) o).alloc (by simp) o').cell (p := ⟨Br, 1, none⟩) hBr).trans r1
  have H := hide h; have Hact := hide hact; have Hb1 := hide hb1
  clear h h1 hact hb1
  go_enter Tryd.func9, Tryd.ntmps9
  go_wp2
  rw [← hW1]
  clear hW1
  go_region
  go_wp2_with fail
  go_upto_region 3 with fail
  go_cut [10, 11] (fun p q wx => ∃ bp bq, p = .pointer (some ⟨bp, 0, none⟩) ∧ q = .pointer (some ⟨bq, 0, none⟩) ∧ Laid3 W wx #[.int .i64 kd, .int .i64 wh, .int .i64 n, .slice a l.length c] (.slice a1 (allL bl1).length c1) (.slice a0 (allL bl0).length c0) W.heap.size bp bq)
  case first =>
    go_region
    all_goals
      go_wp2_with fail
      go_meet
      first
        | exact ⟨_, _, rfl, rfl, laid_pq (unhide Hact) (unhide Hb1) _ _⟩
        | exact ⟨_, _, rfl, rfl, laid_qp (unhide Hact) (unhide Hb1) _ _⟩
  case rest =>
    obtain ⟨bp, bq, rfl, rfl, hlaid⟩ := hcut
    have h2 := inv_off (unhide H) hlaid.below
    have k0 := cell_block hlaid.act 0 _ rfl
    have k2 := cell_block hlaid.act 2 _ rfl
    have k3 := cell_block hlaid.act 3 _ rfl
    have p0 := cell_block hlaid.p 0 _ rfl
    have q0 := cell_block hlaid.q 0 _ rfl
    have lA := lt_of_some hlaid.act
    have lP := lt_of_some hlaid.p
    have lQ := lt_of_some hlaid.q
    have g0 := ok_good h2.t0.ok
    have g1 := ok_good h2.t1.ok
    have hl0 := allL_short g0.up g0.fit
    have hl1 := allL_short g1.up g1.fit
    have up1 := up_all g1.up
    have val1 : ∀ m ∈ allL bl1, 0 ≤ m ∧ m < 1048576 := fun m hm => has_range g1.up g1.fit ((mem_all g1.up g1.fit m).1 hm)
    have hcl := join_cnt (hasB bl1) g0.fit
    have hjh := fun m => join_has (hasB bl1) g0.up g0.fit m
    obtain ⟨kk, hkk⟩ : ∃ kk : Int, kk = (joinS (hasB bl1) bl0).2 := ⟨_, rfl⟩
    rw [← hkk] at hcl
    have HX : Hid (Calls Tryd.prog 8 #[.agg #[.slice a1 (allL bl1).length c1], .slice a0 (allL bl0).length c0] wc fun e W2 => ∃ v', e = .returned (.tuple #[.agg #[v'], .int .i64 kk, .int .i64 0]) ∧ (∃ av cv nv, v' = .slice av nv cv) ∧ (W2.alloc (.cells #[v'] 32)).cell? ⟨Br, 1, none⟩ = some (.slice a1 (allL bl1).length c1) ∧ (W2.alloc (.cells #[v'] 32)).frozen? ⟨Br, 1, none⟩ = false ∧
        (Calls Tryd.prog 14 #[.pointer (some ⟨B1, 0, none⟩), .pointer (some ⟨B0, 0, none⟩)] ((W2.alloc (.cells #[v'] 32)).setCell ⟨Br, 1, none⟩ v').drew fun e W3 => e = .returned (.int .i64 kk) ∧ Two w W3 Bs Br)) := hide (by
      refine (refAdd_gen _ (allL bl1) up1 val1 a0 c0 (allL bl0) (by omega) (allL_nums g0.up g0.fit) wc h2.r1 (rowI_nrow h2.r0 rfl)).mono ?_
      rintro e W2 ⟨v', L', rfl, hr', hu', hm', hb'⟩
      have hb4 : Below wc.heap.size wc (W2.alloc (.cells #[v'] 32)) := hb'.alloc hb'.size _
      have h4 := inv_off h2 hb4
      have hv4 : RowI (W2.alloc (.cells #[v'] 32)) 0 v' L' := rowI_below hr' ((Below.refl _ W2).alloc (Nat.le_refl _) _)
      have h5 := inv_off (inv_row1 h4 hv4) ((Below.refl _ _).drew)
      have hL : ∀ bl', Good bl' → (∀ m, hasB bl' m = (joinS (hasB bl1) bl0).1 m) → L' = allL bl' := fun bl' g' hh => all_is g'.up g'.fit hu' (fun m => by
        rw [hm', hh, hjh, mem_all g1.up g1.fit, mem_all g0.up g0.fit]
        simp)
      have hcd : (L'.length : Int) - (allL bl1).length = kk := by
        have hup2 : Up (((List.range 1048576).filter fun j : Nat => (joinS (hasB bl1) bl0).1 j).map fun j : Nat => (j : Int)) := by
          unfold Up
          rw [List.pairwise_map]
          have : (List.range 1048576).Pairwise (· < ·) := List.pairwise_lt_range
          exact (this.filter _).imp fun h => by omega
        have e1 : L' = _ := up_ext hu' hup2 (fun m => by
          rw [List.mem_map, hm', mem_all g1.up g1.fit, mem_all g0.up g0.fit]
          constructor
          · intro q1
            have hx : 0 ≤ m ∧ m < 1048576 := q1.elim (fun h => has_range g1.up g1.fit h) (fun h => has_range g0.up g0.fit h)
            obtain ⟨j, rfl⟩ := Int.eq_ofNat_of_zero_le hx.1
            exact ⟨j, List.mem_filter.2 ⟨List.mem_range.2 (by omega), by rw [hjh]; simpa using q1⟩, rfl⟩
          · rintro ⟨j, hj, rfl⟩
            have := (List.mem_filter.1 hj).2
            rw [hjh] at this
            simpa using this)
        have e2 : L'.length = cnt 1048576 (joinS (hasB bl1) bl0).1 := by rw [e1, List.length_map]; rfl
        rw [allL_cnt g1.up g1.fit, e2]
        omega
      obtain ⟨av, cv, hvv⟩ := rowI_form hr'
      refine ⟨v', by rw [hcd], ⟨av, cv, _, hvv⟩, cell_block h4.r 1 _ rfl, frozen_block h4.r 1, ?_⟩
      have hd := join_any B1 B0 O1 O0 bl1 bl0 (cnt 1048576 (hasB bl1)) (cnt 1048576 (hasB bl0)) (by have := cnt_le 1048576 (hasB bl1); omega) _ h5.t1.ok h5.t0.ok (fun k h1 h0 => h5.apart k h1 h0)
      refine hd.mono ?_
      rintro e W3 ⟨rfl, ho, bl', O', hs, hO', hh⟩
      have hsz' : (cnt 1048576 (hasB bl1) : Int) + (joinS (hasB bl1) bl0).2 = cnt 1048576 (hasB bl') := by rw [show hasB bl' = (joinS (hasB bl1) bl0).1 from funext hh]; omega
      obtain ⟨O2, h6⟩ := inv_set1 h5 ho hs hsz' hO'
      have := hL bl' (ok_good hs) hh
      subst this
      exact ⟨by rw [hkk], _, _, _, _, _, _, _, _, h6⟩)
    clear h2 hlaid g0 g1 up1 val1 hcl hjh hkk
    go_wp2_with fail
    refine (unhide HX).mono ?_
    rintro e W2 ⟨v', rfl, ⟨av, cv, nv, rfl⟩, xr, fr, hcall⟩
    have HP := hide hcall
    clear HX hcall
    go_wp2
    go_region
    all_goals
      generalize ((W2.alloc (.cells #[.slice av nv cv] 32)).setCell ⟨Br, 1, none⟩ (.slice av nv cv)).drew = W5 at *
      go_wp2_with fail
      refine (unhide HP).mono ?_
      rintro e W6 ⟨rfl, htwo⟩
      have Htwo := hide htwo
      clear htwo
      go_wp2
      go_ret
      exact ⟨rfl, unhide Htwo⟩
end Go.Proofs.YtdpphjedjhjdgaaDoor

/- does: the calls that change a set. -/
namespace Go.Proofs.YtdpphjedjhjdgaaDoor
open Go.RowKit Go.Maps

set_option maxHeartbeats 2000000 in
set_option maxRecDepth 100000 in
theorem does_7_0 (w W : World) (Bs Br B0 B1 : Nat) (O0 O1 : Nat → Prop) (bl0 bl1 : List Blk) (v0 v1 : Value) (h : Inv w W Bs Br B0 B1 O0 O1 bl0 bl1 v0 v1 (allL bl0) (allL bl1)) (kd wh n : Int) (hk : (wrap64 (kd.tmod 9 + 9)).tmod 9 = 7) (hw : bits .and .i64 wh 1 = 0) (a : Option Addr) (c : Nat) (l : List Int) :
    Calls Tryd.prog 9 #[.pointer (some ⟨Bs, 0, none⟩), .pointer (some ⟨Br, 0, none⟩), .agg #[.int .i64 kd, .int .i64 wh, .int .i64 n, .slice a l.length c]] W fun e W' => e = .returned (.bool true) ∧ Two w W' Bs Br := by
  obtain ⟨a0, c0, rfl⟩ := rowI_form h.r0
  obtain ⟨a1, c1, rfl⟩ := rowI_form h.r1
  obtain ⟨W1, hW1⟩ : ∃ W1, W1 = W.alloc (.cells #[.int .i64 kd, .int .i64 wh, .int .i64 n, .slice a l.length c] 37) := ⟨_, rfl⟩
  have hb1 : Below W.heap.size W W1 := by rw [hW1]; exact (Below.refl _ _).alloc (Nat.le_refl _) _
  have hact : W1.heap[W.heap.size]? = some (.cells #[.int .i64 kd, .int .i64 wh, .int .i64 n, .slice a l.length c] 37 (0, 0)) := by rw [hW1]; exact (MapKept.heap_alloc W _).1
  have h1 := inv_off h hb1
  have k0 := cell_block hact 0 _ rfl
  have k1 := cell_block hact 1 _ rfl
  have s0 := cell_block h1.s 0 _ rfl
  have s1 := cell_block h1.s 1 _ rfl
  have r0 := cell_block h1.r 0 _ rfl
  have r1 := cell_block h1.r 1 _ rfl
  have hBr := lt_of_some h1.r
  have r0a : ∀ o, (W1.alloc o).cell? ⟨Br, 0, none⟩ = some (.slice a0 (allL bl0).length c0) := fun o => (((Below.refl _ W1).alloc (Nat.le_refl _) o).cell (p := ⟨Br, 0, none⟩) hBr).trans r0
  have r1a : ∀ o, (W1.alloc o).cell? ⟨Br, 1, none⟩ = some (.slice a1 (allL bl1).length c1) := fun o => (((Below.refl _ W1).alloc (Nat.le_refl _) o).cell (p := ⟨Br, 1, none⟩) hBr).trans r1
  have r0b : ∀ o o', ((W1.alloc o).alloc o').cell? ⟨Br, 0, none⟩ = some (.slice a0 (allL bl0).length c0) := fun o o' => ((((Below.refl _ W1).alloc (Nat.le_refl _) o).alloc (by simp) o').cell (p := ⟨Br, 0, none⟩) hBr).trans r0
  have r1b : ∀ o o', ((W1.alloc o).alloc o').cell? ⟨Br, 1, none⟩ = some (.slice a1 (allL bl1).length c1) := fun o o' => ((((Below.refl _ W1).alloc (Nat.le_refl _) o).alloc (by simp) o').cell (p := ⟨Br, 1, none⟩) hBr).trans r1
  have H := hide h; have Hact := hide hact; have Hb1 := hide hb1
  clear h h1 hact hb1
  go_enter Tryd.func9, Tryd.ntmps9
  go_wp2
  rw [← hW1]
  clear hW1
  go_region
  go_wp2_with fail
  go_upto_region 3 with fail
  go_cut [10, 11] (fun p q wx => ∃ bp bq, p = .pointer (some ⟨bp, 0, none⟩) ∧ q = .pointer (some ⟨bq, 0, none⟩) ∧ Laid3 W wx #[.int .i64 kd, .int .i64 wh, .int .i64 n, .slice a l.length c] (.slice a0 (allL bl0).length c0) (.slice a1 (allL bl1).length c1) W.heap.size bp bq)
  case first =>
    go_region
    all_goals
      go_wp2_with fail
      go_meet
      first
        | exact ⟨_, _, rfl, rfl, laid_pq (unhide Hact) (unhide Hb1) _ _⟩
        | exact ⟨_, _, rfl, rfl, laid_qp (unhide Hact) (unhide Hb1) _ _⟩
  case rest =>
    obtain ⟨bp, bq, rfl, rfl, hlaid⟩ := hcut
    have h2 := inv_off (unhide H) hlaid.below
    have k0 := cell_block hlaid.act 0 _ rfl
    have k2 := cell_block hlaid.act 2 _ rfl
    have k3 := cell_block hlaid.act 3 _ rfl
    have p0 := cell_block hlaid.p 0 _ rfl
    have q0 := cell_block hlaid.q 0 _ rfl
    have lA := lt_of_some hlaid.act
    have lP := lt_of_some hlaid.p
    have lQ := lt_of_some hlaid.q
    have g0 := ok_good h2.t0.ok
    have g1 := ok_good h2.t1.ok
    have hl0 := allL_short g0.up g0.fit
    have hl1 := allL_short g1.up g1.fit
    have HX : Hid (Calls Tryd.prog 13 #[.pointer (some ⟨B1, 0, none⟩)] wc.drew fun e W2 => ∃ Z, e = .returned (.pointer (some ⟨Z, 0, none⟩)) ∧ W2.cell? ⟨Bs, 0, none⟩ = some (.pointer (some ⟨B0, 0, none⟩)) ∧ W2.frozen? ⟨Bs, 0, none⟩ = false ∧
        ((W2.setCell ⟨Bs, 0, none⟩ (.pointer (some ⟨Z, 0, none⟩))).cell? ⟨bq, 0, none⟩ = some (.slice a1 (allL bl1).length c1) ∧ (W2.setCell ⟨Bs, 0, none⟩ (.pointer (some ⟨Z, 0, none⟩))).cell? ⟨Br, 0, none⟩ = some (.slice a0 (allL bl0).length c0) ∧ (W2.setCell ⟨Bs, 0, none⟩ (.pointer (some ⟨Z, 0, none⟩))).frozen? ⟨Br, 0, none⟩ = false) ∧
        Two w ((W2.setCell ⟨Bs, 0, none⟩ (.pointer (some ⟨Z, 0, none⟩))).setCell ⟨Br, 0, none⟩ (.slice a1 (allL bl1).length c1)).drew Bs Br ∧ ((W2.setCell ⟨Bs, 0, none⟩ (.pointer (some ⟨Z, 0, none⟩))).setCell ⟨Br, 0, none⟩ (.slice a1 (allL bl1).length c1)).drew.cell? ⟨Bs, 0, none⟩ = some (.pointer (some ⟨Z, 0, none⟩))) := hide (by
      have hdr : Below wc.heap.size wc wc.drew := (Below.refl _ _).drew
      have h3 := inv_off h2 hdr
      refine (copy_any B1 O1 bl1 (cnt 1048576 (hasB bl1)) wc.drew h3.t1.ok).mono ?_
      rintro e W2 ⟨Z, rfl, hb', O', hs, hO'⟩
      have h4 := inv_off h3 hb'
      obtain ⟨O2, h5⟩ := inv_ptr0 h4 hs rfl (fun k hk hx => by
        have := hO' k hk
        rcases hx with hx | hx
        · have := h3.t1.ok.is.lt k hx; omega
        · exact hx) (fun k hk => by have := hO' k hk; have := h3.below.size; omega)
      have h7 := inv_off (inv_row0 h5 h5.r1) ((Below.refl _ _).drew)
      have hQ : W2.heap[bq]? = _ := (hb'.block _ lQ).trans hlaid.q
      have hnB : bq ≠ Bs := fun e => by have h8 := h4.s; rw [← e, hQ] at h8; simp at h8
      have hQ5 : (W2.setCell ⟨Bs, 0, none⟩ (.pointer (some ⟨Z, 0, none⟩))).heap[bq]? = _ := (Below.heap_setCell _ ⟨Bs, 0, none⟩ _ _ hnB).trans hQ
      exact ⟨Z, rfl, cell_block h4.s 0 _ rfl, frozen_block h4.s 0, ⟨cell_block hQ5 0 _ rfl, cell_block h5.r 0 _ rfl, frozen_block h5.r 0⟩, ⟨_, _, _, _, _, _, _, _, h7⟩, cell_block h7.s 0 _ rfl⟩)
    clear h2 hlaid g0 g1 q0
    go_wp2
    go_region_with (go_at_call 13; refine (unhide HX).mono ?_; rintro e W2 ⟨Z, rfl, xs, fs, ⟨qr, xr, fr⟩, htwo, xz⟩; have Htwo := hide htwo; clear htwo)
    all_goals
      generalize W2.setCell ⟨Bs, 0, none⟩ (.pointer (some ⟨Z, 0, none⟩)) = W5 at *
      go_wp2
      go_region
      all_goals
        generalize (W5.setCell ⟨Br, 0, none⟩ (.slice a1 (allL bl1).length c1)).drew = W7 at *
        go_wp2
        go_ret
        exact ⟨rfl, unhide Htwo⟩
set_option maxHeartbeats 2000000 in
set_option maxRecDepth 100000 in
theorem does_7_1 (w W : World) (Bs Br B0 B1 : Nat) (O0 O1 : Nat → Prop) (bl0 bl1 : List Blk) (v0 v1 : Value) (h : Inv w W Bs Br B0 B1 O0 O1 bl0 bl1 v0 v1 (allL bl0) (allL bl1)) (kd wh n : Int) (hk : (wrap64 (kd.tmod 9 + 9)).tmod 9 = 7) (hw : bits .and .i64 wh 1 = 1) (a : Option Addr) (c : Nat) (l : List Int) :
    Calls Tryd.prog 9 #[.pointer (some ⟨Bs, 0, none⟩), .pointer (some ⟨Br, 0, none⟩), .agg #[.int .i64 kd, .int .i64 wh, .int .i64 n, .slice a l.length c]] W fun e W' => e = .returned (.bool true) ∧ Two w W' Bs Br := by
  obtain ⟨a0, c0, rfl⟩ := rowI_form h.r0
  obtain ⟨a1, c1, rfl⟩ := rowI_form h.r1
  obtain ⟨W1, hW1⟩ : ∃ W1, W1 = W.alloc (.cells #[.int .i64 kd, .int .i64 wh, .int .i64 n, .slice a l.length c] 37) := ⟨_, rfl⟩
  have hb1 : Below W.heap.size W W1 := by rw [hW1]; exact (Below.refl _ _).alloc (Nat.le_refl _) _
  have hact : W1.heap[W.heap.size]? = some (.cells #[.int .i64 kd, .int .i64 wh, .int .i64 n, .slice a l.length c] 37 (0, 0)) := by rw [hW1]; exact (MapKept.heap_alloc W _).1
  have h1 := inv_off h hb1
  have k0 := cell_block hact 0 _ rfl
  have k1 := cell_block hact 1 _ rfl
  have s0 := cell_block h1.s 0 _ rfl
  have s1 := cell_block h1.s 1 _ rfl
  have r0 := cell_block h1.r 0 _ rfl
  have r1 := cell_block h1.r 1 _ rfl
  have hBr := lt_of_some h1.r
  have r0a : ∀ o, (W1.alloc o).cell? ⟨Br, 0, none⟩ = some (.slice a0 (allL bl0).length c0) := fun o => (((Below.refl _ W1).alloc (Nat.le_refl _) o).cell (p := ⟨Br, 0, none⟩) hBr).trans r0
  have r1a : ∀ o, (W1.alloc o).cell? ⟨Br, 1, none⟩ = some (.slice a1 (allL bl1).length c1) := fun o => (((Below.refl _ W1).alloc (Nat.le_refl _) o).cell (p := ⟨Br, 1, none⟩) hBr).trans r1
  have r0b : ∀ o o', ((W1.alloc o).alloc o').cell? ⟨Br, 0, none⟩ = some (.slice a0 (allL bl0).length c0) := fun o o' => ((((Below.refl _ W1).alloc (Nat.le_refl _) o).alloc (by simp) o').cell (p := ⟨Br, 0, none⟩) hBr).trans r0
  have r1b : ∀ o o', ((W1.alloc o).alloc o').cell? ⟨Br, 1, none⟩ = some (.slice a1 (allL bl1).length c1) := fun o o' => ((((Below.refl _ W1).alloc (Nat.le_refl _) o).alloc (by simp) o').cell (p := ⟨Br, 1, none⟩) hBr).trans r1
  have H := hide h; have Hact := hide hact; have Hb1 := hide hb1
  clear h h1 hact hb1
  go_enter Tryd.func9, Tryd.ntmps9
  go_wp2
  rw [← hW1]
  clear hW1
  go_region
  go_wp2_with fail
  go_upto_region 3 with fail
  go_cut [10, 11] (fun p q wx => ∃ bp bq, p = .pointer (some ⟨bp, 0, none⟩) ∧ q = .pointer (some ⟨bq, 0, none⟩) ∧ Laid3 W wx #[.int .i64 kd, .int .i64 wh, .int .i64 n, .slice a l.length c] (.slice a1 (allL bl1).length c1) (.slice a0 (allL bl0).length c0) W.heap.size bp bq)
  case first =>
    go_region
    all_goals
      go_wp2_with fail
      go_meet
      first
        | exact ⟨_, _, rfl, rfl, laid_pq (unhide Hact) (unhide Hb1) _ _⟩
        | exact ⟨_, _, rfl, rfl, laid_qp (unhide Hact) (unhide Hb1) _ _⟩
  case rest =>
    obtain ⟨bp, bq, rfl, rfl, hlaid⟩ := hcut
    have h2 := inv_off (unhide H) hlaid.below
    have k0 := cell_block hlaid.act 0 _ rfl
    have k2 := cell_block hlaid.act 2 _ rfl
    have k3 := cell_block hlaid.act 3 _ rfl
    have p0 := cell_block hlaid.p 0 _ rfl
    have q0 := cell_block hlaid.q 0 _ rfl
    have lA := lt_of_some hlaid.act
    have lP := lt_of_some hlaid.p
    have lQ := lt_of_some hlaid.q
    have g0 := ok_good h2.t0.ok
    have g1 := ok_good h2.t1.ok
    have hl0 := allL_short g0.up g0.fit
    have hl1 := allL_short g1.up g1.fit
    have HX : Hid (Calls Tryd.prog 13 #[.pointer (some ⟨B0, 0, none⟩)] wc.drew fun e W2 => ∃ Z, e = .returned (.pointer (some ⟨Z, 0, none⟩)) ∧ W2.cell? ⟨Bs, 1, none⟩ = some (.pointer (some ⟨B1, 0, none⟩)) ∧ W2.frozen? ⟨Bs, 1, none⟩ = false ∧
        ((W2.setCell ⟨Bs, 1, none⟩ (.pointer (some ⟨Z, 0, none⟩))).cell? ⟨bq, 0, none⟩ = some (.slice a0 (allL bl0).length c0) ∧ (W2.setCell ⟨Bs, 1, none⟩ (.pointer (some ⟨Z, 0, none⟩))).cell? ⟨Br, 1, none⟩ = some (.slice a1 (allL bl1).length c1) ∧ (W2.setCell ⟨Bs, 1, none⟩ (.pointer (some ⟨Z, 0, none⟩))).frozen? ⟨Br, 1, none⟩ = false) ∧
        Two w ((W2.setCell ⟨Bs, 1, none⟩ (.pointer (some ⟨Z, 0, none⟩))).setCell ⟨Br, 1, none⟩ (.slice a0 (allL bl0).length c0)).drew Bs Br ∧ ((W2.setCell ⟨Bs, 1, none⟩ (.pointer (some ⟨Z, 0, none⟩))).setCell ⟨Br, 1, none⟩ (.slice a0 (allL bl0).length c0)).drew.cell? ⟨Bs, 1, none⟩ = some (.pointer (some ⟨Z, 0, none⟩))) := hide (by
      have hdr : Below wc.heap.size wc wc.drew := (Below.refl _ _).drew
      have h3 := inv_off h2 hdr
      refine (copy_any B0 O0 bl0 (cnt 1048576 (hasB bl0)) wc.drew h3.t0.ok).mono ?_
      rintro e W2 ⟨Z, rfl, hb', O', hs, hO'⟩
      have h4 := inv_off h3 hb'
      obtain ⟨O2, h5⟩ := inv_ptr1 h4 hs rfl (fun k hk hx => by
        have := hO' k hk
        rcases hx with hx | hx
        · have := h3.t0.ok.is.lt k hx; omega
        · exact hx) (fun k hk => by have := hO' k hk; have := h3.below.size; omega)
      have h7 := inv_off (inv_row1 h5 h5.r0) ((Below.refl _ _).drew)
      have hQ : W2.heap[bq]? = _ := (hb'.block _ lQ).trans hlaid.q
      have hnB : bq ≠ Bs := fun e => by have h8 := h4.s; rw [← e, hQ] at h8; simp at h8
      have hQ5 : (W2.setCell ⟨Bs, 1, none⟩ (.pointer (some ⟨Z, 0, none⟩))).heap[bq]? = _ := (Below.heap_setCell _ ⟨Bs, 1, none⟩ _ _ hnB).trans hQ
      exact ⟨Z, rfl, cell_block h4.s 1 _ rfl, frozen_block h4.s 1, ⟨cell_block hQ5 0 _ rfl, cell_block h5.r 1 _ rfl, frozen_block h5.r 1⟩, ⟨_, _, _, _, _, _, _, _, h7⟩, cell_block h7.s 1 _ rfl⟩)
    clear h2 hlaid g0 g1 q0
    go_wp2
    go_region_with (go_at_call 13; refine (unhide HX).mono ?_; rintro e W2 ⟨Z, rfl, xs, fs, ⟨qr, xr, fr⟩, htwo, xz⟩; have Htwo := hide htwo; clear htwo)
    all_goals
      generalize W2.setCell ⟨Bs, 1, none⟩ (.pointer (some ⟨Z, 0, none⟩)) = W5 at *
      go_wp2
      go_region
      all_goals
        generalize (W5.setCell ⟨Br, 1, none⟩ (.slice a0 (allL bl0).length c0)).drew = W7 at *
        go_wp2
        go_ret
        exact ⟨rfl, unhide Htwo⟩
end Go.Proofs.YtdpphjedjhjdgaaDoor

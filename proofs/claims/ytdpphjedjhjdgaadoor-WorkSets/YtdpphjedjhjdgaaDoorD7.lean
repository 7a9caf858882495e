/- does: the calls that change a set. -/
import Derived.Test.YtdpphjedjhjdgaaDoorD3
import Derived.Deep.DeepCutAuto
import Derived.Deep.CutRange
import Derived.Deep.RegionHeld3
namespace Go.Proofs.YtdpphjedjhjdgaaDoor
open Go.RowKit Go.Maps

set_option maxHeartbeats 2000000 in
set_option maxRecDepth 100000 in
theorem does_0_0_yes (w W : World) (Bs Br B0 B1 : Nat) (O0 O1 : Nat → Prop) (bl0 bl1 : List Blk) (v0 v1 : Value) (h : Inv w W Bs Br B0 B1 O0 O1 bl0 bl1 v0 v1 (allL bl0) (allL bl1)) (kd wh n : Int) (hk : (wrap64 (kd.tmod 9 + 9)).tmod 9 = 0) (hw : bits .and .i64 wh 1 = 0) (a : Option Addr) (c : Nat) (l : List Int) (hl : l.length ≤ 281474976710656) (hrow : NRow w a l) (hnum : numsB l = true) :
    Calls Tryd.prog 9 #[.pointer (some ⟨Bs, 0, none⟩), .pointer (some ⟨Br, 0, none⟩), .agg #[.int .i64 kd, .int .i64 wh, .int .i64 n, .slice a l.length c]] W fun e W' => e = .returned (.bool true) ∧ Two w W' Bs Br := by
  obtain ⟨a0, c0, rfl⟩ := rowI_form h.r0
  obtain ⟨a1, c1, rfl⟩ := rowI_form h.r1
  obtain ⟨W1, hW1⟩ : ∃ W1, W1 = W.alloc (.cells #[.int .i64 kd, .int .i64 wh, .int .i64 n, .slice a l.length c] 37) := ⟨_, rfl⟩
  have hb1 : Below W.heap.size W W1 := by rw [hW1]; exact (Below.refl _ _).alloc (Nat.le_refl _) _
  have hact : W1.heap[W.heap.size]? = some (.cells #[.int .i64 kd, .int .i64 wh, .int .i64 n, .slice a l.length c] 37 (0, 0)) := by rw [hW1]; exact (MapKept.heap_alloc W _).1
  have h1 := inv_off h hb1
  have k0 := cell_block hact 0 _ rfl
  have k1 := cell_block hact 1 _ rfl
  have s0 := cell_block h1.s 0 _ rfl
  have s1 := cell_block h1.s 1 _ rfl
  have r0 := cell_block h1.r 0 _ rfl
  have r1 := cell_block h1.r 1 _ rfl
  have hBr := lt_of_some h1.r
  have r0a : ∀ o, (W1.alloc o).cell? ⟨Br, 0, none⟩ = some (.slice a0 (allL bl0).length c0) := fun o => (((Below.refl _ W1).alloc (Nat.le_refl _) o).cell (p := ⟨Br, 0, none⟩) hBr).trans r0
  have r1a : ∀ o, (W1.alloc o).cell? ⟨Br, 1, none⟩ = some (.slice a1 (allL bl1).length c1) := fun o => (((Below.refl _ W1).alloc (Nat.le_refl _) o).cell (p := ⟨Br, 1, none⟩) hBr).trans r1
  have r0b : ∀ o o', ((W1.alloc o).alloc o').cell? ⟨Br, 0, none⟩ = some (.slice a0 (allL bl0).length c0) := fun o o' => ((((Below.refl _ W1).alloc (Nat.le_refl _) o).alloc (by simp) o').cell (p := ⟨Br, 0, none⟩) hBr).trans r0
  have r1b : ∀ o o', ((W1.alloc o).alloc o').cell? ⟨Br, 1, none⟩ = some (.slice a1 (allL bl1).length c1) := fun o o' => ((((Below.refl _ W1).alloc (Nat.le_refl _) o).alloc (by simp) o').cell (p := ⟨Br, 1, none⟩) hBr).trans r1
  have H := hide h; have Hact := hide hact; have Hb1 := hide hb1
  clear h h1 hact hb1
  go_enter Tryd.func9, Tryd.ntmps9
  go_wp2
  rw [← hW1]
  clear hW1
  go_region
  go_wp2_with fail
  go_upto_region 3 with fail
  go_cut [10, 11] (fun p q wx => ∃ bp bq, p = .pointer (some ⟨bp, 0, none⟩) ∧ q = .pointer (some ⟨bq, 0, none⟩) ∧ Laid3 W wx #[.int .i64 kd, .int .i64 wh, .int .i64 n, .slice a l.length c] (.slice a0 (allL bl0).length c0) (.slice a1 (allL bl1).length c1) W.heap.size bp bq)
  case first =>
    go_region
    all_goals
      go_wp2_with fail
      go_meet
      first
        | exact ⟨_, _, rfl, rfl, laid_pq (unhide Hact) (unhide Hb1) _ _⟩
        | exact ⟨_, _, rfl, rfl, laid_qp (unhide Hact) (unhide Hb1) _ _⟩
  case rest =>
    obtain ⟨bp, bq, rfl, rfl, hlaid⟩ := hcut
    have h2 := inv_off (unhide H) hlaid.below
    have k0 := cell_block hlaid.act 0 _ rfl
    have k2 := cell_block hlaid.act 2 _ rfl
    have k3 := cell_block hlaid.act 3 _ rfl
    have p0 := cell_block hlaid.p 0 _ rfl
    have q0 := cell_block hlaid.q 0 _ rfl
    have lA := lt_of_some hlaid.act
    have lP := lt_of_some hlaid.p
    have lQ := lt_of_some hlaid.q
    have g0 := ok_good h2.t0.ok
    have g1 := ok_good h2.t1.ok
    have hl0 := allL_short g0.up g0.fit
    have hl1 := allL_short g1.up g1.fit
    have hrc := nrow_below hrow h2.below (Nat.le_refl _)
    have hap : l ≠ [] → ∀ x, a = some x → ¬ O0 x.block := fun hne x hx hO => by
      rcases hrow with h | ⟨g, off, h, hg, -⟩
      · exact hne h
      · rw [h] at hx; cases hx
        have h9 : w.heap.size ≤ g := h2.lo0 _ hO
        omega
    have nA : ¬ O0 W.heap.size := tset_not h2.t0 hlaid.act (by decide) (by decide)
    have nP : ¬ O0 bp := tset_not h2.t0 hlaid.p (by decide) (by decide)
    have up0 := up_all g0.up
    have val0 : ∀ m ∈ allL bl0, 0 ≤ m ∧ m < 1048576 := fun m hm => has_range g0.up g0.fit ((mem_all g0.up g0.fit m).1 hm)
    have rc0 := h2.r
    have hv : ∀ k, k < l.length → 0 ≤ l.getD k 0 ∧ l.getD k 0 < ((1048576 : Nat) : Int) := fun k hk => by
      have := List.all_eq_true.1 hnum (l.getD k 0) (by rw [List.getD_eq_getElem?_getD, List.getElem?_eq_getElem hk]; exact List.getElem_mem _)
      simpa using this
    have hcn := addS_cnt 1048576 (hasB bl0) l hv
    have HX := hide (add_all B0 O0 bl0 (cnt 1048576 (hasB bl0)) a c l hnum hl (fun k hk => by
      have h3 := hcn k hk
      have h4 := cnt_le 1048576 (addS (hasB bl0) (l.take k)).1
      omega) wc h2.t0.ok hrc hap)
    obtain ⟨kk, hkk⟩ : ∃ kk : Int, kk = (addS (hasB bl0) l).2 := ⟨_, rfl⟩
    have hcl := hcn l.length (Nat.le_refl _)
    rw [List.take_length] at hcl
    rw [← hkk] at HX hcl
    have HK : Hid (∀ W2, Off O0 wc W2 → ∀ bl' O', SetOk W2 B0 O' bl' (cnt 1048576 (hasB bl0) + kk) → (∀ k, O' k → O0 k ∨ wc.heap.size ≤ k) → (∀ m, hasB bl' m = (addS (hasB bl0) l).1 m) →
        W2.cell? ⟨W.heap.size, 3, none⟩ = some (.slice a l.length c) ∧ W2.cell? ⟨bp, 0, none⟩ = some (.slice a0 (allL bl0).length c0) ∧
        (Calls Tryd.prog 8 #[.agg #[.slice a0 (allL bl0).length c0], .slice a l.length c] W2 fun e W3 => ∃ v', e = .returned (.tuple #[.agg #[v'], .int .i64 kk, .int .i64 0]) ∧ (∃ av cv nv, v' = .slice av nv cv) ∧ Two w ((W3.alloc (.cells #[v'] 32)).drew.setCell ⟨Br, 0, none⟩ v') Bs Br ∧ (W3.alloc (.cells #[v'] 32)).cell? ⟨Br, 0, none⟩ = some (.slice a0 (allL bl0).length c0) ∧ (W3.alloc (.cells #[v'] 32)).frozen? ⟨Br, 0, none⟩ = false)) := hide (fun W2 ho bl' O' hs hO' hh => by
      have hsz' : (cnt 1048576 (hasB bl0) : Int) + kk = cnt 1048576 (hasB bl') := by rw [show hasB bl' = (addS (hasB bl0) l).1 from funext hh]; omega
      obtain ⟨O2, h3⟩ := inv_set0 h2 ho hs hsz' hO'
      refine ⟨(off_cell ho (p := ⟨W.heap.size, 3, none⟩) lA nA).trans k3, (off_cell ho (p := ⟨bp, 0, none⟩) lP nP).trans p0, ?_⟩
      refine (refAdd_gen _ (allL bl0) up0 val0 a c l hl hnum W2 h3.r0 (nrow_below hrow h3.below (Nat.le_refl _))).mono ?_
      rintro e W3 ⟨v', L', rfl, hr', hu', hm', hb'⟩
      have g' := ok_good hs
      have hL : L' = allL bl' := all_is g'.up g'.fit hu' (fun m => by
        have h5 := addS_mem (hasB bl0) l m l.length (Nat.le_refl _)
        rw [List.take_length] at h5
        rw [hm', hh, h5, mem_all g0.up g0.fit]
        simp [or_comm])
      subst hL
      have hcount : ((allL bl').length : Int) - (allL bl0).length = kk := by rw [allL_cnt g'.up g'.fit, allL_cnt g0.up g0.fit]; omega
      have hb4 : Below W2.heap.size W2 (W3.alloc (.cells #[v'] 32)).drew := (hb'.alloc hb'.size _).drew
      have h4 := inv_off h3 hb4
      have hv4 : RowI (W3.alloc (.cells #[v'] 32)).drew 0 v' (allL bl') := rowI_below hr' (((Below.refl _ W3).alloc (Nat.le_refl _) _).drew)
      obtain ⟨av, cv, hvv⟩ := rowI_form hr'
      exact ⟨v', by rw [hcount], ⟨av, cv, _, hvv⟩, ⟨_, _, _, _, _, _, _, _, inv_row0 h4 hv4⟩, cell_block h4.r 0 _ rfl, frozen_block h4.r 0⟩)
    clear h2 hlaid g0 g1 hrc hap nA nP up0 val0 rc0 hv hcn hcl hkk hnum hrow q0 p0
    go_wp2_with fail
    refine (unhide HX).mono ?_
    rintro e W2 ⟨rfl, ho, bl', O', hs, hO', hh⟩
    obtain ⟨k3', p0', hcall⟩ := unhide HK W2 ho bl' O' hs hO' hh
    have HP := hide hcall
    clear HX HK ho hs hO' hh hcall
    go_wp2_with fail
    refine (unhide HP).mono ?_
    rintro e W3 ⟨v', rfl, ⟨av, cv, nv, rfl⟩, htwo, xr, fr⟩
    have Htwo := hide htwo
    clear htwo HP
    go_wp2
    go_region
    all_goals
      go_wp2
      go_ret
      exact ⟨rfl, unhide Htwo⟩
set_option maxHeartbeats 2000000 in
set_option maxRecDepth 100000 in
theorem does_0_0_no (w W : World) (Bs Br B0 B1 : Nat) (O0 O1 : Nat → Prop) (bl0 bl1 : List Blk) (v0 v1 : Value) (h : Inv w W Bs Br B0 B1 O0 O1 bl0 bl1 v0 v1 (allL bl0) (allL bl1)) (kd wh n : Int) (hk : (wrap64 (kd.tmod 9 + 9)).tmod 9 = 0) (hw : bits .and .i64 wh 1 = 0) (a : Option Addr) (c : Nat) (l : List Int) (hl : l.length ≤ 281474976710656) (hrow : NRow w a l) (hnum : numsB l = false) :
    Calls Tryd.prog 9 #[.pointer (some ⟨Bs, 0, none⟩), .pointer (some ⟨Br, 0, none⟩), .agg #[.int .i64 kd, .int .i64 wh, .int .i64 n, .slice a l.length c]] W fun e W' => e = .returned (.bool true) ∧ Two w W' Bs Br := by
  obtain ⟨a0, c0, rfl⟩ := rowI_form h.r0
  obtain ⟨a1, c1, rfl⟩ := rowI_form h.r1
  obtain ⟨W1, hW1⟩ : ∃ W1, W1 = W.alloc (.cells #[.int .i64 kd, .int .i64 wh, .int .i64 n, .slice a l.length c] 37) := ⟨_, rfl⟩
  have hb1 : Below W.heap.size W W1 := by rw [hW1]; exact (Below.refl _ _).alloc (Nat.le_refl _) _
  have hact : W1.heap[W.heap.size]? = some (.cells #[.int .i64 kd, .int .i64 wh, .int .i64 n, .slice a l.length c] 37 (0, 0)) := by rw [hW1]; exact (MapKept.heap_alloc W _).1
  have h1 := inv_off h hb1
  have k0 := cell_block hact 0 _ rfl
  have k1 := cell_block hact 1 _ rfl
  have s0 := cell_block h1.s 0 _ rfl
  have s1 := cell_block h1.s 1 _ rfl
  have r0 := cell_block h1.r 0 _ rfl
  have r1 := cell_block h1.r 1 _ rfl
  have hBr := lt_of_some h1.r
  have r0a : ∀ o, (W1.alloc o).cell? ⟨Br, 0, none⟩ = some (.slice a0 (allL bl0).length c0) := fun o => (((Below.refl _ W1).alloc (Nat.le_refl _) o).cell (p := ⟨Br, 0, none⟩) hBr).trans r0
  have r1a : ∀ o, (W1.alloc o).cell? ⟨Br, 1, none⟩ = some (.slice a1 (allL bl1).length c1) := fun o => (((Below.refl _ W1).alloc (Nat.le_refl _) o).cell (p := ⟨Br, 1, none⟩) hBr).trans r1
  have r0b : ∀ o o', ((W1.alloc o).alloc o').cell? ⟨Br, 0, none⟩ = some (.slice a0 (allL bl0).length c0) := fun o o' => ((((Below.refl _ W1).alloc (Nat.le_refl _) o).alloc (by simp) o').cell (p := ⟨Br, 0, none⟩) hBr).trans r0
  have r1b : ∀ o o', ((W1.alloc o).alloc o').cell? ⟨Br, 1, none⟩ = some (.slice a1 (allL bl1).length c1) := fun o o' => ((((Below.refl _ W1).alloc (Nat.le_refl _) o).alloc (by simp) o').cell (p := ⟨Br, 1, none⟩) hBr).trans r1
  have H := hide h; have Hact := hide hact; have Hb1 := hide hb1
  clear h h1 hact hb1
  go_enter Tryd.func9, Tryd.ntmps9
  go_wp2
  rw [← hW1]
  clear hW1
  go_region
  go_wp2_with fail
  go_upto_region 3 with fail
  go_cut [10, 11] (fun p q wx => ∃ bp bq, p = .pointer (some ⟨bp, 0, none⟩) ∧ q = .pointer (some ⟨bq, 0, none⟩) ∧ Laid3 W wx #[.int .i64 kd, .int .i64 wh, .int .i64 n, .slice a l.length c] (.slice a0 (allL bl0).length c0) (.slice a1 (allL bl1).length c1) W.heap.size bp bq)
  case first =>
    go_region
    all_goals
      go_wp2_with fail
      go_meet
      first
        | exact ⟨_, _, rfl, rfl, laid_pq (unhide Hact) (unhide Hb1) _ _⟩
        | exact ⟨_, _, rfl, rfl, laid_qp (unhide Hact) (unhide Hb1) _ _⟩
  case rest =>
    obtain ⟨bp, bq, rfl, rfl, hlaid⟩ := hcut
    have h2 := inv_off (unhide H) hlaid.below
    have k0 := cell_block hlaid.act 0 _ rfl
    have k2 := cell_block hlaid.act 2 _ rfl
    have k3 := cell_block hlaid.act 3 _ rfl
    have p0 := cell_block hlaid.p 0 _ rfl
    have q0 := cell_block hlaid.q 0 _ rfl
    have lA := lt_of_some hlaid.act
    have lP := lt_of_some hlaid.p
    have lQ := lt_of_some hlaid.q
    have g0 := ok_good h2.t0.ok
    have g1 := ok_good h2.t1.ok
    have hl0 := allL_short g0.up g0.fit
    have hl1 := allL_short g1.up g1.fit
    have hrc := nrow_below hrow h2.below (Nat.le_refl _)
    have hap : l ≠ [] → ∀ x, a = some x → ¬ O0 x.block := fun hne x hx hO => by
      rcases hrow with h | ⟨g, off, h, hg, -⟩
      · exact hne h
      · rw [h] at hx; cases hx
        have h9 : w.heap.size ≤ g := h2.lo0 _ hO
        omega
    have nA : ¬ O0 W.heap.size := tset_not h2.t0 hlaid.act (by decide) (by decide)
    have nP : ¬ O0 bp := tset_not h2.t0 hlaid.p (by decide) (by decide)
    have up0 := up_all g0.up
    have val0 : ∀ m ∈ allL bl0, 0 ≤ m ∧ m < 1048576 := fun m hm => has_range g0.up g0.fit ((mem_all g0.up g0.fit m).1 hm)
    have rc0 := h2.r
    have HX := hide (add_wrong B0 a c l hnum hl wc hrc)
    have HP : Hid (Calls Tryd.prog 8 #[.agg #[.slice a0 (allL bl0).length c0], .slice a l.length c] wc fun e W3 => e = .returned (.tuple #[.agg #[.slice a0 (allL bl0).length c0], .int .i64 0, .int .i64 1]) ∧ Two w ((W3.alloc (.cells #[.slice a0 (allL bl0).length c0] 32)).drew.setCell ⟨Br, 0, none⟩ (.slice a0 (allL bl0).length c0)) Bs Br ∧ (W3.alloc (.cells #[.slice a0 (allL bl0).length c0] 32)).cell? ⟨Br, 0, none⟩ = some (.slice a0 (allL bl0).length c0) ∧ (W3.alloc (.cells #[.slice a0 (allL bl0).length c0] 32)).frozen? ⟨Br, 0, none⟩ = false) := hide ((refAdd_wrong _ (allL bl0) a c l hl hnum wc h2.r0 hrc).mono (by
      rintro e W3 ⟨rfl, hb'⟩
      have h4 := inv_off h2 ((hb'.alloc hb'.size (.cells #[.slice a0 (allL bl0).length c0] 32)).drew)
      exact ⟨rfl, ⟨_, _, _, _, _, _, _, _, inv_row0 h4 h4.r0⟩, cell_block h4.r 0 _ rfl, frozen_block h4.r 0⟩))
    clear h2 hlaid g0 g1 hrc hap nA nP up0 val0 rc0 hnum hrow q0
    go_wp2_with fail
    refine (unhide HX).mono ?_
    rintro e W2 ⟨rfl, hw2⟩
    obtain rfl := hw2.symm
    go_wp2_with fail
    refine (unhide HP).mono ?_
    rintro e W3 ⟨rfl, htwo, xr, fr⟩
    have Htwo := hide htwo
    clear htwo HP
    go_wp2
    go_region
    all_goals
      go_wp2
      go_ret
      exact ⟨rfl, unhide Htwo⟩
set_option maxHeartbeats 2000000 in
set_option maxRecDepth 100000 in
theorem does_0_1_yes (w W : World) (Bs Br B0 B1 : Nat) (O0 O1 : Nat → Prop) (bl0 bl1 : List Blk) (v0 v1 : Value) (h : Inv w W Bs Br B0 B1 O0 O1 bl0 bl1 v0 v1 (allL bl0) (allL bl1)) (kd wh n : Int) (hk : (wrap64 (kd.tmod 9 + 9)).tmod 9 = 0) (hw : bits .and .i64 wh 1 = 1) (a : Option Addr) (c : Nat) (l : List Int) (hl : l.length ≤ 281474976710656) (hrow : NRow w a l) (hnum : numsB l = true) :
    Calls Tryd.prog 9 #[.pointer (some ⟨Bs, 0, none⟩), .pointer (some ⟨Br, 0, none⟩), .agg #[.int .i64 kd, .int .i64 wh, .int .i64 n, .slice a l.length c]] W fun e W' => e = .returned (.bool true) ∧ Two w W' Bs Br := by
  obtain ⟨a0, c0, rfl⟩ := rowI_form h.r0
  obtain ⟨a1, c1, rfl⟩ := rowI_form h.r1
  obtain ⟨W1, hW1⟩ : ∃ W1, W1 = W.alloc (.cells #[.int .i64 kd, .int .i64 wh, .int .i64 n, .slice a l.length c] 37) := ⟨_, rfl⟩
  have hb1 : Below W.heap.size W W1 := by rw [hW1]; exact (Below.refl _ _).alloc (Nat.le_refl _) _
  have hact : W1.heap[W.heap.size]? = some (.cells #[.int .i64 kd, .int .i64 wh, .int .i64 n, .slice a l.length c] 37 (0, 0)) := by rw [hW1]; exact (MapKept.heap_alloc W _).1
  have h1 := inv_off h hb1
  have k0 := cell_block hact 0 _ rfl
  have k1 := cell_block hact 1 _ rfl
  have s0 := cell_block h1.s 0 _ rfl
  have s1 := cell_block h1.s 1 _ rfl
  have r0 := cell_block h1.r 0 _ rfl
  have r1 := cell_block h1.r 1 _ rfl
  have hBr := lt_of_some h1.r
  have r0a : ∀ o, (W1.alloc o).cell? ⟨Br, 0, none⟩ = some (.slice a0 (allL bl0).length c0) := fun o => (((Below.refl _ W1).alloc (Nat.le_refl _) o).cell (p := ⟨Br, 0, none⟩) hBr).trans r0
  have r1a : ∀ o, (W1.alloc o).cell? ⟨Br, 1, none⟩ = some (.slice a1 (allL bl1).length c1) := fun o => (((Below.refl _ W1).alloc (Nat.le_refl _) o).cell (p := ⟨Br, 1, none⟩) hBr).trans r1
  have r0b : ∀ o o', ((W1.alloc o).alloc o').cell? ⟨Br, 0, none⟩ = some (.slice a0 (allL bl0).length c0) := fun o o' => ((((Below.refl _ W1).alloc (Nat.le_refl _) o).alloc (by simp) o').cell (p := ⟨Br, 0, none⟩) hBr).trans r0
  have r1b : ∀ o o', ((W1.alloc o).alloc o').cell? ⟨Br, 1, none⟩ = some (.slice a1 (allL bl1).length c1) := fun o o' => ((((Below.refl _ W1).alloc (Nat.le_refl _) o).alloc (by simp) o').cell (p := ⟨Br, 1, none⟩) hBr).trans r1
  have H := hide h; have Hact := hide hact; have Hb1 := hide hb1
  clear h h1 hact hb1
  go_enter Tryd.func9, Tryd.ntmps9
  go_wp2
  rw [← hW1]
  clear hW1
  go_region
  go_wp2_with fail
  go_upto_region 3 with fail
  go_cut [10, 11] (fun p q wx => ∃ bp bq, p = .pointer (some ⟨bp, 0, none⟩) ∧ q = .pointer (some ⟨bq, 0, none⟩) ∧ Laid3 W wx #[.int .i64 kd, .int .i64 wh, .int .i64 n, .slice a l.length c] (.slice a1 (allL bl1).length c1) (.slice a0 (allL bl0).length c0) W.heap.size bp bq)
  case first =>
    go_region
    all_goals
      go_wp2_with fail
      go_meet
      first
        | exact ⟨_, _, rfl, rfl, laid_pq (unhide Hact) (unhide Hb1) _ _⟩
        | exact ⟨_, _, rfl, rfl, laid_qp (unhide Hact) (unhide Hb1) _ _⟩
  case rest =>
    obtain ⟨bp, bq, rfl, rfl, hlaid⟩ := hcut
    have h2 := inv_off (unhide H) hlaid.below
    have k0 := cell_block hlaid.act 0 _ rfl
    have k2 := cell_block hlaid.act 2 _ rfl
    have k3 := cell_block hlaid.act 3 _ rfl
    have p0 := cell_block hlaid.p 0 _ rfl
    have q0 := cell_block hlaid.q 0 _ rfl
    have lA := lt_of_some hlaid.act
    have lP := lt_of_some hlaid.p
    have lQ := lt_of_some hlaid.q
    have g0 := ok_good h2.t0.ok
    have g1 := ok_good h2.t1.ok
    have hl0 := allL_short g0.up g0.fit
    have hl1 := allL_short g1.up g1.fit
    have hrc := nrow_below hrow h2.below (Nat.le_refl _)
    have hap : l ≠ [] → ∀ x, a = some x → ¬ O1 x.block := fun hne x hx hO => by
      rcases hrow with h | ⟨g, off, h, hg, -⟩
      · exact hne h
      · rw [h] at hx; cases hx
        have h9 : w.heap.size ≤ g := h2.lo1 _ hO
        omega
    have nA : ¬ O1 W.heap.size := tset_not h2.t1 hlaid.act (by decide) (by decide)
    have nP : ¬ O1 bp := tset_not h2.t1 hlaid.p (by decide) (by decide)
    have up1 := up_all g1.up
    have val1 : ∀ m ∈ allL bl1, 0 ≤ m ∧ m < 1048576 := fun m hm => has_range g1.up g1.fit ((mem_all g1.up g1.fit m).1 hm)
    have rc1 := h2.r
    have hv : ∀ k, k < l.length → 0 ≤ l.getD k 0 ∧ l.getD k 0 < ((1048576 : Nat) : Int) := fun k hk => by
      have := List.all_eq_true.1 hnum (l.getD k 0) (by rw [List.getD_eq_getElem?_getD, List.getElem?_eq_getElem hk]; exact List.getElem_mem _)
      simpa using this
    have hcn := addS_cnt 1048576 (hasB bl1) l hv
    have HX := hide (add_all B1 O1 bl1 (cnt 1048576 (hasB bl1)) a c l hnum hl (fun k hk => by
      have h3 := hcn k hk
      have h4 := cnt_le 1048576 (addS (hasB bl1) (l.take k)).1
      omega) wc h2.t1.ok hrc hap)
    obtain ⟨kk, hkk⟩ : ∃ kk : Int, kk = (addS (hasB bl1) l).2 := ⟨_, rfl⟩
    have hcl := hcn l.length (Nat.le_refl _)
    rw [List.take_length] at hcl
    rw [← hkk] at HX hcl
    have HK : Hid (∀ W2, Off O1 wc W2 → ∀ bl' O', SetOk W2 B1 O' bl' (cnt 1048576 (hasB bl1) + kk) → (∀ k, O' k → O1 k ∨ wc.heap.size ≤ k) → (∀ m, hasB bl' m = (addS (hasB bl1) l).1 m) →
        W2.cell? ⟨W.heap.size, 3, none⟩ = some (.slice a l.length c) ∧ W2.cell? ⟨bp, 0, none⟩ = some (.slice a1 (allL bl1).length c1) ∧
        (Calls Tryd.prog 8 #[.agg #[.slice a1 (allL bl1).length c1], .slice a l.length c] W2 fun e W3 => ∃ v', e = .returned (.tuple #[.agg #[v'], .int .i64 kk, .int .i64 0]) ∧ (∃ av cv nv, v' = .slice av nv cv) ∧ Two w ((W3.alloc (.cells #[v'] 32)).drew.setCell ⟨Br, 1, none⟩ v') Bs Br ∧ (W3.alloc (.cells #[v'] 32)).cell? ⟨Br, 1, none⟩ = some (.slice a1 (allL bl1).length c1) ∧ (W3.alloc (.cells #[v'] 32)).frozen? ⟨Br, 1, none⟩ = false)) := hide (fun W2 ho bl' O' hs hO' hh => by
      have hsz' : (cnt 1048576 (hasB bl1) : Int) + kk = cnt 1048576 (hasB bl') := by rw [show hasB bl' = (addS (hasB bl1) l).1 from funext hh]; omega
      obtain ⟨O2, h3⟩ := inv_set1 h2 ho hs hsz' hO'
      refine ⟨(off_cell ho (p := ⟨W.heap.size, 3, none⟩) lA nA).trans k3, (off_cell ho (p := ⟨bp, 0, none⟩) lP nP).trans p0, ?_⟩
      refine (refAdd_gen _ (allL bl1) up1 val1 a c l hl hnum W2 h3.r1 (nrow_below hrow h3.below (Nat.le_refl _))).mono ?_
      rintro e W3 ⟨v', L', rfl, hr', hu', hm', hb'⟩
      have g' := ok_good hs
      have hL : L' = allL bl' := all_is g'.up g'.fit hu' (fun m => by
        have h5 := addS_mem (hasB bl1) l m l.length (Nat.le_refl _)
        rw [List.take_length] at h5
        rw [hm', hh, h5, mem_all g1.up g1.fit]
        simp [or_comm])
      subst hL
      have hcount : ((allL bl').length : Int) - (allL bl1).length = kk := by rw [allL_cnt g'.up g'.fit, allL_cnt g1.up g1.fit]; omega
      have hb4 : Below W2.heap.size W2 (W3.alloc (.cells #[v'] 32)).drew := (hb'.alloc hb'.size _).drew
      have h4 := inv_off h3 hb4
      have hv4 : RowI (W3.alloc (.cells #[v'] 32)).drew 0 v' (allL bl') := rowI_below hr' (((Below.refl _ W3).alloc (Nat.le_refl _) _).drew)
      obtain ⟨av, cv, hvv⟩ := rowI_form hr'
      exact ⟨v', by rw [hcount], ⟨av, cv, _, hvv⟩, ⟨_, _, _, _, _, _, _, _, inv_row1 h4 hv4⟩, cell_block h4.r 1 _ rfl, frozen_block h4.r 1⟩)
    clear h2 hlaid g0 g1 hrc hap nA nP up1 val1 rc1 hv hcn hcl hkk hnum hrow q0 p0
    go_wp2_with fail
    refine (unhide HX).mono ?_
    rintro e W2 ⟨rfl, ho, bl', O', hs, hO', hh⟩
    obtain ⟨k3', p0', hcall⟩ := unhide HK W2 ho bl' O' hs hO' hh
    have HP := hide hcall
    clear HX HK ho hs hO' hh hcall
    go_wp2_with fail
    refine (unhide HP).mono ?_
    rintro e W3 ⟨v', rfl, ⟨av, cv, nv, rfl⟩, htwo, xr, fr⟩
    have Htwo := hide htwo
    clear htwo HP
    go_wp2
    go_region
    all_goals
      go_wp2
      go_ret
      exact ⟨rfl, unhide Htwo⟩
set_option maxHeartbeats 2000000 in
set_option maxRecDepth 100000 in
theorem does_0_1_no (w W : World) (Bs Br B0 B1 : Nat) (O0 O1 : Nat → Prop) (bl0 bl1 : List Blk) (v0 v1 : Value) (h : Inv w W Bs Br B0 B1 O0 O1 bl0 bl1 v0 v1 (allL bl0) (allL bl1)) (kd wh n : Int) (hk : (wrap64 (kd.tmod 9 + 9)).tmod 9 = 0) (hw : bits .and .i64 wh 1 = 1) (a : Option Addr) (c : Nat) (l : List Int) (hl : l.length ≤ 281474976710656) (hrow : NRow w a l) (hnum : numsB l = false) :
    Calls Tryd.prog 9 #[.pointer (some ⟨Bs, 0, none⟩), .pointer (some ⟨Br, 0, none⟩), .agg #[.int .i64 kd, .int .i64 wh, .int .i64 n, .slice a l.length c]] W fun e W' => e = .returned (.bool true) ∧ Two w W' Bs Br := by
  obtain ⟨a0, c0, rfl⟩ := rowI_form h.r0
  obtain ⟨a1, c1, rfl⟩ := rowI_form h.r1
  obtain ⟨W1, hW1⟩ : ∃ W1, W1 = W.alloc (.cells #[.int .i64 kd, .int .i64 wh, .int .i64 n, .slice a l.length c] 37) := ⟨_, rfl⟩
  have hb1 : Below W.heap.size W W1 := by rw [hW1]; exact (Below.refl _ _).alloc (Nat.le_refl _) _
  have hact : W1.heap[W.heap.size]? = some (.cells #[.int .i64 kd, .int .i64 wh, .int .i64 n, .slice a l.length c] 37 (0, 0)) := by rw [hW1]; exact (MapKept.heap_alloc W _).1
  have h1 := inv_off h hb1
  have k0 := cell_block hact 0 _ rfl
  have k1 := cell_block hact 1 _ rfl
  have s0 := cell_block h1.s 0 _ rfl
  have s1 := cell_block h1.s 1 _ rfl
  have r0 := cell_block h1.r 0 _ rfl
  have r1 := cell_block h1.r 1 _ rfl
  have hBr := lt_of_some h1.r
  have r0a : ∀ o, (W1.alloc o).cell? ⟨Br, 0, none⟩ = some (.slice a0 (allL bl0).length c0) := fun o => (((Below.refl _ W1).alloc (Nat.le_refl _) o).cell (p := ⟨Br, 0, none⟩) hBr).trans r0
  have r1a : ∀ o, (W1.alloc o).cell? ⟨Br, 1, none⟩ = some (.slice a1 (allL bl1).length c1) := fun o => (((Below.refl _ W1).alloc (Nat.le_refl _) o).cell (p := ⟨Br, 1, none⟩) hBr).trans r1
  have r0b : ∀ o o', ((W1.alloc o).alloc o').cell? ⟨Br, 0, none⟩ = some (.slice a0 (allL bl0).length c0) := fun o o' => ((((Below.refl _ W1).alloc (Nat.le_refl _) o).alloc (by simp) o').cell (p := ⟨Br, 0, none⟩) hBr).trans r0
  have r1b : ∀ o o', ((W1.alloc o).alloc o').cell? ⟨Br, 1, none⟩ = some (.slice a1 (allL bl1).length c1) := fun o o' => ((((Below.refl _ W1).alloc (Nat.le_refl _) o).alloc (by simp) o').cell (p := ⟨Br, 1, none⟩) hBr).trans r1
  have H := hide h; have Hact := hide hact; have Hb1 := hide hb1
  clear h h1 hact hb1
  go_enter Tryd.func9, Tryd.ntmps9
  go_wp2
  rw [← hW1]
  clear hW1
  go_region
  go_wp2_with fail
  go_upto_region 3 with fail
  go_cut [10, 11] (fun p q wx => ∃ bp bq, p = .pointer (some ⟨bp, 0, none⟩) ∧ q = .pointer (some ⟨bq, 0, none⟩) ∧ Laid3 W wx #[.int .i64 kd, .int .i64 wh, .int .i64 n, .slice a l.length c] (.slice a1 (allL bl1).length c1) (.slice a0 (allL bl0).length c0) W.heap.size bp bq)
  case first =>
    go_region
    all_goals
      go_wp2_with fail
      go_meet
      first
        | exact ⟨_, _, rfl, rfl, laid_pq (unhide Hact) (unhide Hb1) _ _⟩
        | exact ⟨_, _, rfl, rfl, laid_qp (unhide Hact) (unhide Hb1) _ _⟩
  case rest =>
    obtain ⟨bp, bq, rfl, rfl, hlaid⟩ := hcut
    have h2 := inv_off (unhide H) hlaid.below
    have k0 := cell_block hlaid.act 0 _ rfl
    have k2 := cell_block hlaid.act 2 _ rfl
    have k3 := cell_block hlaid.act 3 _ rfl
    have p0 := cell_block hlaid.p 0 _ rfl
    have q0 := cell_block hlaid.q 0 _ rfl
    have lA := lt_of_some hlaid.act
    have lP := lt_of_some hlaid.p
    have lQ := lt_of_some hlaid.q
    have g0 := ok_good h2.t0.ok
    have g1 := ok_good h2.t1.ok
    have hl0 := allL_short g0.up g0.fit
    have hl1 := allL_short g1.up g1.fit
    have hrc := nrow_below hrow h2.below (Nat.le_refl _)
    have hap : l ≠ [] → ∀ x, a = some x → ¬ O1 x.block := fun hne x hx hO => by
      rcases hrow with h | ⟨g, off, h, hg, -⟩
      · exact hne h
      · rw [h] at hx; cases hx
        have h9 : w.heap.size ≤ g := h2.lo1 _ hO
        omega
    have nA : ¬ O1 W.heap.size := tset_not h2.t1 hlaid.act (by decide) (by decide)
    have nP : ¬ O1 bp := tset_not h2.t1 hlaid.p (by decide) (by decide)
    have up1 := up_all g1.up
    have val1 : ∀ m ∈ allL bl1, 0 ≤ m ∧ m < 1048576 := fun m hm => has_range g1.up g1.fit ((mem_all g1.up g1.fit m).1 hm)
    have rc1 := h2.r
    have HX := hide (add_wrong B1 a c l hnum hl wc hrc)
    have HP : Hid (Calls Tryd.prog 8 #[.agg #[.slice a1 (allL bl1).length c1], .slice a l.length c] wc fun e W3 => e = .returned (.tuple #[.agg #[.slice a1 (allL bl1).length c1], .int .i64 0, .int .i64 1]) ∧ Two w ((W3.alloc (.cells #[.slice a1 (allL bl1).length c1] 32)).drew.setCell ⟨Br, 1, none⟩ (.slice a1 (allL bl1).length c1)) Bs Br ∧ (W3.alloc (.cells #[.slice a1 (allL bl1).length c1] 32)).cell? ⟨Br, 1, none⟩ = some (.slice a1 (allL bl1).length c1) ∧ (W3.alloc (.cells #[.slice a1 (allL bl1).length c1] 32)).frozen? ⟨Br, 1, none⟩ = false) := hide ((refAdd_wrong _ (allL bl1) a c l hl hnum wc h2.r1 hrc).mono (by
      rintro e W3 ⟨rfl, hb'⟩
      have h4 := inv_off h2 ((hb'.alloc hb'.size (.cells #[.slice a1 (allL bl1).length c1] 32)).drew)
      exact ⟨rfl, ⟨_, _, _, _, _, _, _, _, inv_row1 h4 h4.r1⟩, cell_block h4.r 1 _ rfl, frozen_block h4.r 1⟩))
    clear h2 hlaid g0 g1 hrc hap nA nP up1 val1 rc1 hnum hrow q0
    go_wp2_with fail
    refine (unhide HX).mono ?_
    rintro e W2 ⟨rfl, hw2⟩
    obtain rfl := hw2.symm
    go_wp2_with fail
    refine (unhide HP).mono ?_
    rintro e W3 ⟨rfl, htwo, xr, fr⟩
    have Htwo := hide htwo
    clear htwo HP
    go_wp2
    go_region
    all_goals
      go_wp2
      go_ret
      exact ⟨rfl, unhide Htwo⟩
end Go.Proofs.YtdpphjedjhjdgaaDoor

/- The document's Order of an expression and its like. -/
import Derived.Test.YtkimhfajfbcdmaaGreatDoorJV
namespace Go.Proofs.YtkimhfajfbcdmaaGreatDoor
open Go.RowKit

set_option maxHeartbeats 2000000 in
set_option maxRecDepth 100000 in
theorem orderT_self (Q Q' : Nat → Prop) : ∀ (m : Nat), m < 1000000000000 → ∀ (t : Rx), partsT t ≤ m → ∀ (W : World) (v0 v1 v2 u0 u1 u2 : Value), RxAt Q W t v0 v1 v2 → RxAt Q' W t u0 u1 u2 →
    Calls Tryz.prog 33 #[.agg #[v0, v1, v2], .agg #[u0, u1, u2]] W fun e w' => e = .returned (.int .i64 0) ∧ Below W.heap.size W w' := by
  intro m
  induction m with
  | zero => intro _ t ht; cases t; simp [partsT] at ht
  | succ m ih =>
    intro hm t hp W v0 v1 v2 u0 u1 u2 hX hY
    obtain ⟨k, s, ks⟩ := t
    unfold RxAt at hX hY
    obtain ⟨rfl, ⟨sa, sc, rfl, hsr, -⟩, ka, kc, vs, rfl, hts, hcells⟩ := hX
    obtain ⟨rfl, ⟨sb, sd, rfl, hsr2, -⟩, kb, kd, us, rfl, hts2, hcells2⟩ := hY
    have hpt : partsT (.mk k s ks) = 1 + s.length + partsTs ks := by simp [partsT]
    rw [hpt] at hp
    have hkl := partsTs_len ks
    have hkl2 : ks.length < 1000000000000 := by omega
    have hsl : s.length ≤ 281474976710656 := by omega
    have hb0 : Below W.heap.size W ((W.alloc (.cells #[.int .i64 k, .slice sa s.length sc, .slice ka ks.length kc] 26)).alloc (.cells #[.int .i64 k, .slice sb s.length sd, .slice kb ks.length kd] 26)) := ((Below.refl _ _).alloc (Nat.le_refl _) _).alloc (by simp) _
    have hbx : ((W.alloc (.cells #[.int .i64 k, .slice sa s.length sc, .slice ka ks.length kc] 26)).alloc (.cells #[.int .i64 k, .slice sb s.length sd, .slice kb ks.length kd] 26)).heap[W.heap.size]? = some (.cells #[.int .i64 k, .slice sa s.length sc, .slice ka ks.length kc] 26 (0, 0)) := (Below.heap_alloc _ _ _ (by simp)).trans (heap_new W _)
    have hby : ((W.alloc (.cells #[.int .i64 k, .slice sa s.length sc, .slice ka ks.length kc] 26)).alloc (.cells #[.int .i64 k, .slice sb s.length sd, .slice kb ks.length kd] 26)).heap[W.heap.size + 1]? = some (.cells #[.int .i64 k, .slice sb s.length sd, .slice kb ks.length kd] 26 (0, 0)) := by
      have := heap_new (W.alloc (.cells #[.int .i64 k, .slice sa s.length sc, .slice ka ks.length kc] 26)) (.cells #[.int .i64 k, .slice sb s.length sd, .slice kb ks.length kd] 26)
      rwa [show (W.alloc (.cells #[.int .i64 k, .slice sa s.length sc, .slice ka ks.length kc] 26)).heap.size = W.heap.size + 1 by simp] at this
    have hs0 : ((W.alloc (.cells #[.int .i64 k, .slice sa s.length sc, .slice ka ks.length kc] 26)).alloc (.cells #[.int .i64 k, .slice sb s.length sd, .slice kb ks.length kd] 26)).heap.size = W.heap.size + 2 := by simp
    have HO := hide (order_any sa sb sc sd s s hsl hsl _ (rowAt_below (show RowAt W sa s from hsr) (Nat.le_refl _) hb0) (rowAt_below (show RowAt W sb s from hsr2) (Nat.le_refl _) hb0))
    rw [orderV_self] at HO
    have Hts := hide hts; have Hcells := hide hcells; have Hts2 := hide hts2; have Hcells2 := hide hcells2; have Hb0 := hide hb0; have Hbx := hide hbx; have Hby := hide hby; have IH := hide (ih (by omega)); have Hs0 := hide hs0
    clear hts hcells hts2 hcells2 hb0 hbx hby ih hsr hsr2 hpt hs0
    go_enter Tryz.func33, Tryz.ntmps33
    go_wp2_with fail
    refine (unhide HO).mono ?_
    rintro e1 w1 ⟨rfl, hb1⟩
    rw [unhide Hs0] at hb1
    have HbX := hide hb1
    clear hb1 HO
    go_wp2_with fail
    generalize ((W.alloc (.cells #[.int .i64 k, .slice sa s.length sc, .slice ka ks.length kc] 26)).alloc (.cells #[.int .i64 k, .slice sb s.length sd, .slice kb ks.length kd] 26)) = W0 at *
    go_loopw [6] (fun iv wr => ∃ i : Nat, iv = .int .i64 i ∧ i ≤ ks.length ∧ Below (W.heap.size + 2) W0 wr) (fun iv _ => ks.length - (intOf iv).toNat)
    case atStart => exact ⟨0, rfl, Nat.zero_le _, unhide HbX⟩
    case round =>
      obtain ⟨i, rfl, hin, hbel⟩ := hrel
      clear HbX
      have hbx := (hbel.block W.heap.size (by omega)).trans (unhide Hbx)
      have hby := (hbel.block (W.heap.size + 1) (by omega)).trans (unhide Hby)
      have b2 := cell_block hbx 2 _ rfl
      have y2 := cell_block hby 2 _ rfl
      have hbW : Below W.heap.size W wr := (unhide Hb0).trans (hbel.mono (by omega))
      have hsz : W.heap.size + 2 ≤ wr.heap.size := by have := hbel.size; rw [unhide Hs0] at this; exact this
      by_cases hlt : i < ks.length
      · have hlt' : (i : Int) < ks.length := by omega
        obtain ⟨p0, p1, p2, hp0, hp1, hp2, hkx⟩ := rxTs_get ks vs (unhide Hts) i hlt
        obtain ⟨q0, q1, q2, hq0, hq1, hq2, hky⟩ := rxTs_get ks us (unhide Hts2) i hlt
        rcases unhide Hcells with h0 | ⟨g, off, rfl, hgQ, hgl, hcs⟩
        · rw [h0] at hlt; simp at hlt
        rcases unhide Hcells2 with h0 | ⟨g', off', rfl, hgQ', hgl', hcs'⟩
        · rw [h0] at hlt; simp at hlt
        have hgb := hbW.block g hgl
        have hgb' := hbW.block g' hgl'
        have e0 := (World.cell?_of_block (a := ⟨g, off + i * 3, none⟩) hgb).trans (hcs _ _ hp0)
        have e1 := (World.cell?_of_block (a := ⟨g, off + (i * 3 + 1), none⟩) hgb).trans (hcs _ _ hp1)
        have e2 := (World.cell?_of_block (a := ⟨g, off + (i * 3 + 2), none⟩) hgb).trans (hcs _ _ hp2)
        have d0 := (World.cell?_of_block (a := ⟨g', off' + i * 3, none⟩) hgb').trans (hcs' _ _ hq0)
        have d1 := (World.cell?_of_block (a := ⟨g', off' + (i * 3 + 1), none⟩) hgb').trans (hcs' _ _ hq1)
        have d2 := (World.cell?_of_block (a := ⟨g', off' + (i * 3 + 2), none⟩) hgb').trans (hcs' _ _ hq2)
        rw [← Nat.add_assoc] at e1 e2 d1 d2
        have hka : ks.getD i rx0 = ks[i] := by rw [List.getD_eq_getElem?_getD, List.getElem?_eq_getElem hlt]; rfl
        rw [hka] at hkx hky
        have hsucc := partsTs_succ ks i hlt
        have hle := partsTs_le ks (i + 1)
        have HK := hide (unhide IH ks[i] (by omega) wr.drew _ _ _ _ _ _ (rxAt_kept (Q := Q) (Q' := Q) (w' := wr.drew) hbW.size (fun q _ hl => hbW.block q hl) (fun _ h _ => h) _ _ _ _ hkx) (rxAt_kept (Q := Q') (Q' := Q') (w' := wr.drew) hbW.size (fun q _ hl => hbW.block q hl) (fun _ h _ => h) _ _ _ _ hky))
        obtain ⟨kk, s1, n1, c1, s2, n2, c2, rfl, rfl, rfl⟩ := rxAt_formQ hkx
        obtain ⟨ll, r1, m1, z1, r2, m2, z2, rfl, rfl, rfl⟩ := rxAt_formQ hky
        have Hbel := hide hbel
        clear hgb hgb' hp0 hp1 hp2 hq0 hq1 hq2 hkx hky hcs hcs' hka hbel hbx hby hbW hsucc hle
        have HS9 := hide (fun W' (hb : Below wr.heap.size wr W') => show W'.cell? ⟨W.heap.size, 2, none⟩ = some (.slice (some ⟨g, off, none⟩) ks.length kc) ∧ W'.cell? ⟨W.heap.size + 1, 2, none⟩ = some (.slice (some ⟨g', off', none⟩) ks.length kd) ∧ W'.cell? ⟨g, off + i * 3, none⟩ = some (.int .i64 kk) ∧ W'.cell? ⟨g, off + i * 3 + 1, none⟩ = some (.slice s1 n1 c1) ∧ W'.cell? ⟨g, off + i * 3 + 2, none⟩ = some (.slice s2 n2 c2) ∧ W'.cell? ⟨g', off' + i * 3, none⟩ = some (.int .i64 ll) ∧ W'.cell? ⟨g', off' + i * 3 + 1, none⟩ = some (.slice r1 m1 z1) ∧ W'.cell? ⟨g', off' + i * 3 + 2, none⟩ = some (.slice r2 m2 z2) from ⟨(hb.cell (World.block_lt_of_cell? wr _ b2)).trans b2, (hb.cell (World.block_lt_of_cell? wr _ y2)).trans y2, (hb.cell (World.block_lt_of_cell? wr _ e0)).trans e0, (hb.cell (World.block_lt_of_cell? wr _ e1)).trans e1, (hb.cell (World.block_lt_of_cell? wr _ e2)).trans e2, (hb.cell (World.block_lt_of_cell? wr _ d0)).trans d0, (hb.cell (World.block_lt_of_cell? wr _ d1)).trans d1, (hb.cell (World.block_lt_of_cell? wr _ d2)).trans d2⟩)
        go_wp2_with fail
        refine wp_region_held_drew (S := fun W' : World => W'.cell? ⟨W.heap.size, 2, none⟩ = some (.slice (some ⟨g, off, none⟩) ks.length kc) ∧ W'.cell? ⟨W.heap.size + 1, 2, none⟩ = some (.slice (some ⟨g', off', none⟩) ks.length kd) ∧ W'.cell? ⟨g, off + i * 3, none⟩ = some (.int .i64 kk) ∧ W'.cell? ⟨g, off + i * 3 + 1, none⟩ = some (.slice s1 n1 c1) ∧ W'.cell? ⟨g, off + i * 3 + 2, none⟩ = some (.slice s2 n2 c2) ∧ W'.cell? ⟨g', off' + i * 3, none⟩ = some (.int .i64 ll) ∧ W'.cell? ⟨g', off' + i * 3 + 1, none⟩ = some (.slice r1 m1 z1) ∧ W'.cell? ⟨g', off' + i * 3 + 2, none⟩ = some (.slice r2 m2 z2)) (by kernel_rfl) (unhide HS9 _ ((Below.refl _ _).drew)) (fun hHeld => ?_)
        refine take_dst (i := 0) (dst := some 40) (v := ?_) rfl rfl (by kernel_rfl) (by kernel_rfl) (by kernel_rfl) (fun _ _ _ h => h) (Or.inl ⟨by rfl, ?_⟩) hHeld ?_
        rotate_left
        · intro w hSw; obtain ⟨z0, z1, z2, z3, z4, z5, z6, z7⟩ := hSw; go_simp; try (with_reducible rfl)
        simp only [Act.put, List.setIfInBounds_toArray, List.set_cons_zero, List.set_cons_succ]
        refine take_dst (i := 1) (dst := some 41) (v := ?_) rfl rfl (by kernel_rfl) (by kernel_rfl) (by kernel_rfl) (fun _ _ _ h => h) (Or.inl ⟨by rfl, ?_⟩) hHeld ?_
        rotate_left
        · intro w hSw; obtain ⟨z0, z1, z2, z3, z4, z5, z6, z7⟩ := hSw; go_simp; try (with_reducible rfl)
        simp only [Act.put, List.setIfInBounds_toArray, List.set_cons_zero, List.set_cons_succ]
        refine take_dst (i := 2) (dst := some 42) (v := ?_) rfl rfl (by kernel_rfl) (by kernel_rfl) (by kernel_rfl) (fun _ _ _ h => h) (Or.inl ⟨by rfl, ?_⟩) hHeld ?_
        rotate_left
        · intro w hSw; obtain ⟨z0, z1, z2, z3, z4, z5, z6, z7⟩ := hSw; go_simp; try (with_reducible rfl)
        simp only [Act.put, List.setIfInBounds_toArray, List.set_cons_zero, List.set_cons_succ]
        refine take_dst (i := 3) (dst := some 43) (v := ?_) rfl rfl (by kernel_rfl) (by kernel_rfl) (by kernel_rfl) (fun _ _ _ h => h) (Or.inl ⟨by rfl, ?_⟩) hHeld ?_
        rotate_left
        · intro w hSw; obtain ⟨z0, z1, z2, z3, z4, z5, z6, z7⟩ := hSw; go_simp; try (with_reducible rfl)
        simp only [Act.put, List.setIfInBounds_toArray, List.set_cons_zero, List.set_cons_succ]
        refine take_dst (i := 4) (dst := some 44) (v := ?_) rfl rfl (by kernel_rfl) (by kernel_rfl) (by kernel_rfl) (fun _ _ _ h => h) (Or.inl ⟨by rfl, ?_⟩) hHeld ?_
        rotate_left
        · intro w hSw; obtain ⟨z0, z1, z2, z3, z4, z5, z6, z7⟩ := hSw; go_simp; try (with_reducible rfl)
        simp only [Act.put, List.setIfInBounds_toArray, List.set_cons_zero, List.set_cons_succ]
        refine take_dst (i := 5) (dst := some 45) (v := ?_) rfl rfl (by kernel_rfl) (by kernel_rfl) (by kernel_rfl) (fun _ _ _ h => h) (Or.inl ⟨by rfl, ?_⟩) hHeld ?_
        rotate_left
        · intro w hSw; obtain ⟨z0, z1, z2, z3, z4, z5, z6, z7⟩ := hSw; go_simp; try (with_reducible rfl)
        simp only [Act.put, List.setIfInBounds_toArray, List.set_cons_zero, List.set_cons_succ]
        refine take_dst (i := 6) (dst := some 46) (v := ?_) rfl rfl (by kernel_rfl) (by kernel_rfl) (by kernel_rfl) (fun _ _ _ h => h) (Or.inl ⟨by rfl, ?_⟩) hHeld ?_
        rotate_left
        · intro w hSw; obtain ⟨z0, z1, z2, z3, z4, z5, z6, z7⟩ := hSw; go_simp; try (with_reducible rfl)
        simp only [Act.put, List.setIfInBounds_toArray, List.set_cons_zero, List.set_cons_succ]
        refine take_dst (i := 7) (dst := some 47) (v := ?_) rfl rfl (by kernel_rfl) (by kernel_rfl) (by kernel_rfl) (fun _ _ _ h => h) (Or.inl ⟨by rfl, ?_⟩) hHeld ?_
        rotate_left
        · intro w hSw; obtain ⟨z0, z1, z2, z3, z4, z5, z6, z7⟩ := hSw; go_simp; try (with_reducible rfl)
        simp only [Act.put, List.setIfInBounds_toArray, List.set_cons_zero, List.set_cons_succ]
        refine take_dst (i := 8) (dst := some 48) (v := ?_) rfl rfl (by kernel_rfl) (by kernel_rfl) (by kernel_rfl) (fun _ _ _ h => h) (Or.inl ⟨by rfl, ?_⟩) hHeld ?_
        rotate_left
        · intro w hSw; obtain ⟨z0, z1, z2, z3, z4, z5, z6, z7⟩ := hSw; go_simp; try (with_reducible rfl)
        simp only [Act.put, List.setIfInBounds_toArray, List.set_cons_zero, List.set_cons_succ]
        refine take_dst (i := 9) (dst := some 49) (v := ?_) rfl rfl (by kernel_rfl) (by kernel_rfl) (by kernel_rfl) (fun _ _ _ h => h) (Or.inl ⟨by rfl, ?_⟩) hHeld ?_
        rotate_left
        · intro w hSw; obtain ⟨z0, z1, z2, z3, z4, z5, z6, z7⟩ := hSw; go_simp; try (with_reducible rfl)
        simp only [Act.put, List.setIfInBounds_toArray, List.set_cons_zero, List.set_cons_succ]
        refine wpAnyH_ready (rs := [10]) (by kernel_rfl) (by simp) ?_
        refine AllReadyH.cons rfl (fun K hK => ?_) AllReadyH.nil
        go_simp
        go_at_call 33
        refine (unhide HK).mono ?_
        rintro e9 w1 ⟨rfl, hb1⟩
        have hbwr : Below wr.heap.size wr w1 := ⟨hb1.os, hb1.tape, hb1.output, hb1.size, hb1.block⟩
        have Hbwr := hide hbwr
        clear hb1 hbwr
        go_wp2_with fail
        refine hK.out _ _ (unhide HS9 _ (unhide Hbwr)) (fun hHeld => ?_)
        clear hK K
        refine wpAnyH_ready (rs := [11]) (by kernel_rfl) (by simp) ?_
        refine AllReadyH.cons rfl (fun K hK => ?_) AllReadyH.nil
        go_simp
        refine hK.out _ _ (unhide HS9 _ (unhide Hbwr)) (fun hHeld => ?_)
        clear hK K
        refine wpAnyH_done (by kernel_rfl) ?_ _
        have Hb1 := hide ((unhide Hbel).trans ((unhide Hbwr).mono hsz))
        clear HK Hbel e0 e1 e2 d0 d1 d2 b2 y2 HS9
        go_wp2
        go_roundw
        case rel => exact ⟨i + 1, by go_num, by omega, unhide Hb1⟩
        case measure => simp [intOf]; omega
      · obtain rfl : i = ks.length := by omega
        have HbW := hide hbW
        clear hbx hby hbel hbW
        go_wp2
        go_ret
        exact ⟨rfl, unhide HbW⟩
end Go.Proofs.YtkimhfajfbcdmaaGreatDoor

/- The document's Order of an expression and its like. (and what it leads to) -/
import Derived.Test.YtkimhfajfbcdmaaGreatDoorJV
/- The document's Order of an expression and its like. -/
namespace Go.Proofs.YtkimhfajfbcdmaaGreatDoor
open Go.RowKit

set_option maxHeartbeats 2000000 in
set_option maxRecDepth 100000 in
theorem orderT_self (Q Q' : Nat → Prop) : ∀ (m : Nat), m < 1000000000000 → ∀ (t : Rx), partsT t ≤ m → ∀ (W : World) (v0 v1 v2 u0 u1 u2 : Value), RxAt Q W t v0 v1 v2 → RxAt Q' W t u0 u1 u2 →
    Calls Tryz.prog 33 #[.agg #[v0, v1, v2], .agg #[u0, u1, u2]] W fun e w' => e = .returned (.int .i64 0) ∧ Below W.heap.size W w' := by
  intro m
  induction m with
  | zero => intro _ t ht; cases t; simp [partsT] at ht
  | succ m ih =>
    intro hm t hp W v0 v1 v2 u0 u1 u2 hX hY
    obtain ⟨k, s, ks⟩ := t
    unfold RxAt at hX hY
    obtain ⟨rfl, ⟨sa, sc, rfl, hsr, -⟩, ka, kc, vs, rfl, hts, hcells⟩ := hX
    obtain ⟨rfl, ⟨sb, sd, rfl, hsr2, -⟩, kb, kd, us, rfl, hts2, hcells2⟩ := hY
    have hpt : partsT (.mk k s ks) = 1 + s.length + partsTs ks := by simp [partsT]
    rw [hpt] at hp
    have hkl := partsTs_len ks
    have hkl2 : ks.length < 1000000000000 := by omega
    have hsl : s.length ≤ 281474976710656 := by omega
    have hb0 : Below W.heap.size W ((W.alloc (.cells #[.int .i64 k, .slice sa s.length sc, .slice ka ks.length kc] 26)).alloc (.cells #[.int .i64 k, .slice sb s.length sd, .slice kb ks.length kd] 26)) := ((Below.refl _ _).alloc (Nat.le_refl _) _).alloc (by simp) _
    have hbx : ((W.alloc (.cells #[.int .i64 k, .slice sa s.length sc, .slice ka ks.length kc] 26)).alloc (.cells #[.int .i64 k, .slice sb s.length sd, .slice kb ks.length kd] 26)).heap[W.heap.size]? = some (.cells #[.int .i64 k, .slice sa s.length sc, .slice ka ks.length kc] 26 (0, 0)) := (Below.heap_alloc _ _ _ (by simp)).trans (heap_new W _)
    have hby : ((W.alloc (.cells #[.int .i64 k, .slice sa s.length sc, .slice ka ks.length kc] 26)).alloc (.cells #[.int .i64 k, .slice sb s.length sd, .slice kb ks.length kd] 26)).heap[W.heap.size + 1]? = some (.cells #[.int .i64 k, .slice sb s.length sd, .slice kb ks.length kd] 26 (0, 0)) := by
      have := heap_new (W.alloc (.cells #[.int .i64 k, .slice sa s.length sc, .slice ka ks.length kc] 26)) (.cells #[.int .i64 k, .slice sb s.length sd, .slice kb ks.length kd] 26)
      rwa [show (W.alloc (.cells #[.int .i64 k, .slice sa s.length sc, .slice ka ks.length kc] 26)).heap.size = W.heap.size + 1 by simp] at this
    have hs0 : ((W.alloc (.cells #[.int .i64 k, .slice sa s.length sc, .slice ka ks.length kc] 26)).alloc (.cells #[.int .i64 k, .slice sb s.length sd, .slice kb ks.length kd] 26)).heap.size = W.heap.size + 2 := by simp
    have HO := hide (order_any sa sb sc sd s s hsl hsl _ (rowAt_below (show RowAt W sa s from hsr) (Nat.le_refl _) hb0) (rowAt_below (show RowAt W sb s from hsr2) (Nat.le_refl _) hb0))
    rw [orderV_self] at HO
    have Hts := hide hts; have Hcells := hide hcells; have Hts2 := hide hts2; have Hcells2 := hide hcells2; have Hb0 := hide hb0; have Hbx := hide hbx; have Hby := hide hby; have IH := hide (ih (by omega)); have Hs0 := hide hs0
    clear hts hcells hts2 hcells2 hb0 hbx hby ih hsr hsr2 hpt hs0
    go_enter Tryz.func33, Tryz.ntmps33
    go_wp2_with fail
    refine (unhide HO).mono ?_
    rintro e1 w1 ⟨rfl, hb1⟩
    rw [unhide Hs0] at hb1
    have HbX := hide hb1
    clear hb1 HO
    go_wp2_with fail
    generalize ((W.alloc (.cells #[.int .i64 k, .slice sa s.length sc, .slice ka ks.length kc] 26)).alloc (.cells #[.int .i64 k, .slice sb s.length sd, .slice kb ks.length kd] 26)) = W0 at *
    go_loopw [6] (fun iv wr => ∃ i : Nat, iv = .int .i64 i ∧ i ≤ ks.length ∧ Below (W.heap.size + 2) W0 wr) (fun iv _ => ks.length - (intOf iv).toNat)
    case atStart => exact ⟨0, rfl, Nat.zero_le _, unhide HbX⟩
    case round =>
      obtain ⟨i, rfl, hin, hbel⟩ := hrel
      clear HbX
      have hbx := (hbel.block W.heap.size (by omega)).trans (unhide Hbx)
      have hby := (hbel.block (W.heap.size + 1) (by omega)).trans (unhide Hby)
      have b2 := cell_block hbx 2 _ rfl
      have y2 := cell_block hby 2 _ rfl
      have hbW : Below W.heap.size W wr := (unhide Hb0).trans (hbel.mono (by omega))
      have hsz : W.heap.size + 2 ≤ wr.heap.size := by have := hbel.size; rw [unhide Hs0] at this; exact this
      by_cases hlt : i < ks.length
      · have hlt' : (i : Int) < ks.length := by omega
        obtain ⟨p0, p1, p2, hp0, hp1, hp2, hkx⟩ := rxTs_get ks vs (unhide Hts) i hlt
        obtain ⟨q0, q1, q2, hq0, hq1, hq2, hky⟩ := rxTs_get ks us (unhide Hts2) i hlt
        rcases unhide Hcells with h0 | ⟨g, off, rfl, hgQ, hgl, hcs⟩
        · rw [h0] at hlt; simp at hlt
        rcases unhide Hcells2 with h0 | ⟨g', off', rfl, hgQ', hgl', hcs'⟩
        · rw [h0] at hlt; simp at hlt
        have hgb := hbW.block g hgl
        have hgb' := hbW.block g' hgl'
        have e0 := (World.cell?_of_block (a := ⟨g, off + i * 3, none⟩) hgb).trans (hcs _ _ hp0)
        have e1 := (World.cell?_of_block (a := ⟨g, off + (i * 3 + 1), none⟩) hgb).trans (hcs _ _ hp1)
        have e2 := (World.cell?_of_block (a := ⟨g, off + (i * 3 + 2), none⟩) hgb).trans (hcs _ _ hp2)
        have d0 := (World.cell?_of_block (a := ⟨g', off' + i * 3, none⟩) hgb').trans (hcs' _ _ hq0)
        have d1 := (World.cell?_of_block (a := ⟨g', off' + (i * 3 + 1), none⟩) hgb').trans (hcs' _ _ hq1)
        have d2 := (World.cell?_of_block (a := ⟨g', off' + (i * 3 + 2), none⟩) hgb').trans (hcs' _ _ hq2)
        rw [← Nat.add_assoc] at e1 e2 d1 d2
        have hka : ks.getD i rx0 = ks[i] := by rw [List.getD_eq_getElem?_getD, List.getElem?_eq_getElem hlt]; rfl
        rw [hka] at hkx hky
        have hsucc := partsTs_succ ks i hlt
        have hle := partsTs_le ks (i + 1)
        have HK := hide (unhide IH ks[i] (by omega) wr.drew _ _ _ _ _ _ (rxAt_kept (Q := Q) (Q' := Q) (w' := wr.drew) hbW.size (fun q _ hl => hbW.block q hl) (fun _ h _ => h) _ _ _ _ hkx) (rxAt_kept (Q := Q') (Q' := Q') (w' := wr.drew) hbW.size (fun q _ hl => hbW.block q hl) (fun _ h _ => h) _ _ _ _ hky))
        obtain ⟨kk, s1, n1, c1, s2, n2, c2, rfl, rfl, rfl⟩ := rxAt_formQ hkx
        obtain ⟨ll, r1, m1, z1, r2, m2, z2, rfl, rfl, rfl⟩ := rxAt_formQ hky
        have Hbel := hide hbel
        clear hgb hgb' hp0 hp1 hp2 hq0 hq1 hq2 hkx hky hcs hcs' hka hbel hbx hby hbW hsucc hle
        have HS9 := hide (fun W' (hb : Below wr.heap.size wr W') => show W'.cell? ⟨W.heap.size, 2, none⟩ = some (.slice (some ⟨g, off, none⟩) ks.length kc) ∧ W'.cell? ⟨W.heap.size + 1, 2, none⟩ = some (.slice (some ⟨g', off', none⟩) ks.length kd) ∧ W'.cell? ⟨g, off + i * 3, none⟩ = some (.int .i64 kk) ∧ W'.cell? ⟨g, off + i * 3 + 1, none⟩ = some (.slice s1 n1 c1) ∧ W'.cell? ⟨g, off + i * 3 + 2, none⟩ = some (.slice s2 n2 c2) ∧ W'.cell? ⟨g', off' + i * 3, none⟩ = some (.int .i64 ll) ∧ W'.cell? ⟨g', off' + i * 3 + 1, none⟩ = some (.slice r1 m1 z1) ∧ W'.cell? ⟨g', off' + i * 3 + 2, none⟩ = some (.slice r2 m2 z2) from ⟨(hb.cell (World.block_lt_of_cell? wr _ b2)).trans b2, (hb.cell (World.block_lt_of_cell? wr _ y2)).trans y2, (hb.cell (World.block_lt_of_cell? wr _ e0)).trans e0, (hb.cell (World.block_lt_of_cell? wr _ e1)).trans e1, (hb.cell (World.block_lt_of_cell? wr _ e2)).trans e2, (hb.cell (World.block_lt_of_cell? wr _ d0)).trans d0, (hb.cell (World.block_lt_of_cell? wr _ d1)).trans d1, (hb.cell (World.block_lt_of_cell? wr _ d2)).trans d2⟩)
        go_wp2_with fail
        refine wp_region_held_drew (S := fun W' : World => W'.cell? ⟨W.heap.size, 2, none⟩ = some (.slice (some ⟨g, off, none⟩) ks.length kc) ∧ W'.cell? ⟨W.heap.size + 1, 2, none⟩ = some (.slice (some ⟨g', off', none⟩) ks.length kd) ∧ W'.cell? ⟨g, off + i * 3, none⟩ = some (.int .i64 kk) ∧ W'.cell? ⟨g, off + i * 3 + 1, none⟩ = some (.slice s1 n1 c1) ∧ W'.cell? ⟨g, off + i * 3 + 2, none⟩ = some (.slice s2 n2 c2) ∧ W'.cell? ⟨g', off' + i * 3, none⟩ = some (.int .i64 ll) ∧ W'.cell? ⟨g', off' + i * 3 + 1, none⟩ = some (.slice r1 m1 z1) ∧ W'.cell? ⟨g', off' + i * 3 + 2, none⟩ = some (.slice r2 m2 z2)) (by kernel_rfl) (unhide HS9 _ ((Below.refl _ _).drew)) (fun hHeld => ?_)
        refine take_dst (i := 0) (dst := some 40) (v := ?_) rfl rfl (by kernel_rfl) (by kernel_rfl) (by kernel_rfl) (fun _ _ _ h => h) (Or.inl ⟨by rfl, ?_⟩) hHeld ?_
        rotate_left
        · intro w hSw; obtain ⟨z0, z1, z2, z3, z4, z5, z6, z7⟩ := hSw; go_simp; try (with_reducible rfl)
        simp only [Act.put, List.setIfInBounds_toArray, List.set_cons_zero, List.set_cons_succ]
        refine take_dst (i := 1) (dst := some 41) (v := ?_) rfl rfl (by kernel_rfl) (by kernel_rfl) (by kernel_rfl) (fun _ _ _ h => h) (Or.inl ⟨by rfl, ?_⟩) hHeld ?_
        rotate_left
        · intro w hSw; obtain ⟨z0, z1, z2, z3, z4, z5, z6, z7⟩ := hSw; go_simp; try (with_reducible rfl)
        simp only [Act.put, List.setIfInBounds_toArray, List.set_cons_zero, List.set_cons_succ]
        refine take_dst (i := 2) (dst := some 42) (v := ?_) rfl rfl (by kernel_rfl) (by kernel_rfl) (by kernel_rfl) (fun _ _ _ h => h) (Or.inl ⟨by rfl, ?_⟩) hHeld ?_
        rotate_left
        · intro w hSw; obtain ⟨z0, z1, z2, z3, z4, z5, z6, z7⟩ := hSw; go_simp; try (with_reducible rfl)
        simp only [Act.put, List.setIfInBounds_toArray, List.set_cons_zero, List.set_cons_succ]
        refine take_dst (i := 3) (dst := some 43) (v := ?_) rfl rfl (by kernel_rfl) (by kernel_rfl) (by kernel_rfl) (fun _ _ _ h => h) (Or.inl ⟨by rfl, ?_⟩) hHeld ?_
        rotate_left
        · intro w hSw; obtain ⟨z0, z1, z2, z3, z4, z5, z6, z7⟩ := hSw; go_simp; try (with_reducible rfl)
        simp only [Act.put, List.setIfInBounds_toArray, List.set_cons_zero, List.set_cons_succ]
        refine take_dst (i := 4) (dst := some 44) (v := ?_) rfl rfl (by kernel_rfl) (by kernel_rfl) (by kernel_rfl) (fun _ _ _ h => h) (Or.inl ⟨by rfl, ?_⟩) hHeld ?_
        rotate_left
        · intro w hSw; obtain ⟨z0, z1, z2, z3, z4, z5, z6, z7⟩ := hSw; go_simp; try (with_reducible rfl)
        simp only [Act.put, List.setIfInBounds_toArray, List.set_cons_zero, List.set_cons_succ]
        refine take_dst (i := 5) (dst := some 45) (v := ?_) rfl rfl (by kernel_rfl) (by kernel_rfl) (by kernel_rfl) (fun _ _ _ h => h) (Or.inl ⟨by rfl, ?_⟩) hHeld ?_
        rotate_left
        · intro w hSw; obtain ⟨z0, z1, z2, z3, z4, z5, z6, z7⟩ := hSw; go_simp; try (with_reducible rfl)
        simp only [Act.put, List.setIfInBounds_toArray, List.set_cons_zero, List.set_cons_succ]
        refine take_dst (i := 6) (dst := some 46) (v := ?_) rfl rfl (by kernel_rfl) (by kernel_rfl) (by kernel_rfl) (fun _ _ _ h => h) (Or.inl ⟨by rfl, ?_⟩) hHeld ?_
        rotate_left
        · intro w hSw; obtain ⟨z0, z1, z2, z3, z4, z5, z6, z7⟩ := hSw; go_simp; try (with_reducible rfl)
        simp only [Act.put, List.setIfInBounds_toArray, List.set_cons_zero, List.set_cons_succ]
        refine take_dst (i := 7) (dst := some 47) (v := ?_) rfl rfl (by kernel_rfl) (by kernel_rfl) (by kernel_rfl) (fun _ _ _ h => h) (Or.inl ⟨by rfl, ?_⟩) hHeld ?_
        rotate_left
        · intro w hSw; obtain ⟨z0, z1, z2, z3, z4, z5, z6, z7⟩ := hSw; go_simp; try (with_reducible rfl)
        simp only [Act.put, List.setIfInBounds_toArray, List.set_cons_zero, List.set_cons_succ]
        refine take_dst (i := 8) (dst := some 48) (v := ?_) rfl rfl (by kernel_rfl) (by kernel_rfl) (by kernel_rfl) (fun _ _ _ h => h) (Or.inl ⟨by rfl, ?_⟩) hHeld ?_
        rotate_left
        · intro w hSw; obtain ⟨z0, z1, z2, z3, z4, z5, z6, z7⟩ := hSw; go_simp; try (with_reducible rfl)
        simp only [Act.put, List.setIfInBounds_toArray, List.set_cons_zero, List.set_cons_succ]
        refine take_dst (i := 9) (dst := some 49) (v := ?_) rfl rfl (by kernel_rfl) (by kernel_rfl) (by kernel_rfl) (fun _ _ _ h => h) (Or.inl ⟨by rfl, ?_⟩) hHeld ?_
        rotate_left
        · intro w hSw; obtain ⟨z0, z1, z2, z3, z4, z5, z6, z7⟩ := hSw; go_simp; try (with_reducible rfl)
        simp only [Act.put, List.setIfInBounds_toArray, List.set_cons_zero, List.set_cons_succ]
        refine wpAnyH_ready (rs := [10]) (by kernel_rfl) (by simp) ?_
        refine AllReadyH.cons rfl (fun K hK => ?_) AllReadyH.nil
        go_simp
        go_at_call 33
        refine (unhide HK).mono ?_
        rintro e9 w1 ⟨rfl, hb1⟩
        have hbwr : Below wr.heap.size wr w1 := ⟨hb1.os, hb1.tape, hb1.output, hb1.size, hb1.block⟩
        have Hbwr := hide hbwr
        clear hb1 hbwr
        go_wp2_with fail
        refine hK.out _ _ (unhide HS9 _ (unhide Hbwr)) (fun hHeld => ?_)
        clear hK K
        refine wpAnyH_ready (rs := [11]) (by kernel_rfl) (by simp) ?_
        refine AllReadyH.cons rfl (fun K hK => ?_) AllReadyH.nil
        go_simp
        refine hK.out _ _ (unhide HS9 _ (unhide Hbwr)) (fun hHeld => ?_)
        clear hK K
        refine wpAnyH_done (by kernel_rfl) ?_ _
        have Hb1 := hide ((unhide Hbel).trans ((unhide Hbwr).mono hsz))
        clear HK Hbel e0 e1 e2 d0 d1 d2 b2 y2 HS9
        go_wp2
        go_roundw
        case rel => exact ⟨i + 1, by go_num, by omega, unhide Hb1⟩
        case measure => simp [intOf]; omega
      · obtain rfl : i = ks.length := by omega
        have HbW := hide hbW
        clear hbx hby hbel hbW
        go_wp2
        go_ret
        exact ⟨rfl, unhide HbW⟩
end Go.Proofs.YtkimhfajfbcdmaaGreatDoor

/- What number a row of runes has in a pool, and which expression that is. -/
namespace Go.Proofs.YtkimhfajfbcdmaaGreatDoor
open Go.RowKit Go.Maps

theorem keyS_cons (kind : Int) (set : List Rg) (kids : List Int) : keyS kind set kids = UInt8.ofNat (kind % 256).toNat :: ((keyR set ++ keyK kids).map fun n => UInt8.ofNat n.toNat) := by simp [keyS, keyN]
theorem keyS_kind {k k' : Int} {s s' : List Rg} {ks ks' : List Int} (h : keyS k s ks = keyS k' s' ks') (h0 : 0 ≤ k ∧ k ≤ 7) (h1 : 0 ≤ k' ∧ k' ≤ 7) : k = k' := by
  rw [keyS_cons, keyS_cons] at h
  have h2 := (List.cons.inj h).1
  have h3 := congrArg UInt8.toNat h2
  simp only [UInt8.toNat_ofNat'] at h3
  omega
theorem le4_inj {x y : Int} (hx : 0 ≤ x ∧ x < 4294967296) (hy : 0 ≤ y ∧ y < 4294967296) (h : (le4 (wU x)).map (fun n => UInt8.ofNat n.toNat) = (le4 (wU y)).map (fun n => UInt8.ofNat n.toNat)) : x = y := by
  have ex : wU x = x := IntWalk.u32_in x (by omega)
  have ey : wU y = y := IntWalk.u32_in y (by omega)
  rw [ex, ey] at h
  simp only [le4, List.map_cons, List.map_nil, List.cons.injEq, and_true] at h
  obtain ⟨a, b, c, d⟩ := h
  have a := congrArg UInt8.toNat a
  have b := congrArg UInt8.toNat b
  have c := congrArg UInt8.toNat c
  have d := congrArg UInt8.toNat d
  simp only [UInt8.toNat_ofNat'] at a b c d
  omega
/-- A set of one rune. -/
def nodeC (c : Int) : Ab := ⟨2, [(c, c)], [], 2, 1, false⟩
theorem keyS_set {c d : Int} (hc : isC c = true) (hd : isC d = true) (h : keyS 2 [(c, c)] [] = keyS 2 [(d, d)] []) : c = d := by
  simp only [isC, Bool.and_eq_true, decide_eq_true_eq] at hc hd
  rw [keyS_cons, keyS_cons] at h
  have h2 := (List.cons.inj h).2
  simp only [keyR, keyK, List.flatMap_cons, List.flatMap_nil, List.append_nil, List.map_append] at h2
  exact le4_inj (by omega) (by omega) (List.append_inj_left h2 (by simp [le4]))
theorem keyS_kids {a b a' b' : Int} (h : keyS 3 [] [a, b] = keyS 3 [] [a', b']) (hb : 0 ≤ b ∧ b < 4294967296) (hb' : 0 ≤ b' ∧ b' < 4294967296) : b = b' := by
  rw [keyS_cons, keyS_cons] at h
  have h2 := (List.cons.inj h).2
  simp only [keyR, keyK, List.flatMap_cons, List.flatMap_nil, List.append_nil, List.map_append, List.nil_append] at h2
  exact le4_inj hb hb' (List.append_inj_right h2 (by simp [le4]))
/-- A pool of sets of one rune. -/
def SetsP (L : List Ab) : Prop := WfA L ∧ base3 <+: L ∧ ∀ i a, 3 ≤ i → L[i]? = some a → ∃ c, isC c = true ∧ a = nodeC c
theorem base3_wf : WfA base3 := by
  refine ⟨by decide +kernel, ?_, ?_, ?_, ?_, ?_⟩
  · intro a ha; simp only [base3, List.mem_cons, List.not_mem_nil, or_false] at ha; rcases ha with rfl | rfl | rfl <;> decide
  · intro i a hi k hk
    match i with
    | 0 => simp [base3] at hi; subst hi; simp at hk
    | 1 => simp [base3] at hi; subst hi; simp at hk
    | 2 => simp [base3] at hi; subst hi; simp at hk; subst hk; decide
    | n + 3 => simp [base3] at hi
  · intro a ha; simp only [base3, List.mem_cons, List.not_mem_nil, or_false] at ha; rcases ha with rfl | rfl | rfl <;> decide
  · intro a ha; simp only [base3, List.mem_cons, List.not_mem_nil, or_false] at ha; rcases ha with rfl | rfl | rfl <;> decide
  · intro a ha; simp only [base3, List.mem_cons, List.not_mem_nil, or_false] at ha; rcases ha with rfl | rfl | rfl <;> decide
theorem setsP_base : SetsP base3 := ⟨base3_wf, List.prefix_rfl, fun i a hi h => by rw [List.getElem?_eq_none (by simp [base3]; omega)] at h; cases h⟩
theorem newA_set (L : List Ab) (c : Int) : newA L 2 [(c, c)] [] = nodeC c := by simp [newA, nodeC, measA, nulA]; decide
theorem mem_keys {L : List Ab} {k : List UInt8} (h : k ∈ keysA L) : ∃ a, L[(keysA L).idxOf k]? = some a ∧ keyS a.kind a.set a.kids = k := by
  have hlt := List.idxOf_lt_length_of_mem h
  have he : (keysA L)[(keysA L).idxOf k]? = some k := by rw [List.getElem?_eq_getElem hlt, List.getElem_idxOf hlt]
  have hl : (keysA L).idxOf k < L.length := by simpa [keysA] using hlt
  refine ⟨L[(keysA L).idxOf k], List.getElem?_eq_getElem hl, ?_⟩
  rw [show (keysA L)[(keysA L).idxOf k]? = (L[(keysA L).idxOf k]?).map (fun a => keyS a.kind a.set a.kids) from List.getElem?_map .., List.getElem?_eq_getElem hl] at he
  simpa using he
theorem base_get {L : List Ab} (h : base3 <+: L) {i : Nat} (hi : i < 3) : L[i]? = base3[i]? := by
  obtain ⟨t, rfl⟩ := h
  rw [List.getElem?_append_left (by simpa [base3] using hi)]
theorem base_kind {i : Nat} {a : Ab} (h : base3[i]? = some a) : (0 ≤ a.kind ∧ a.kind ≤ 7) ∧ a.kind ≠ 2 ∧ a.kind ≠ 3 := by
  have := List.mem_of_getElem? h
  simp only [base3, List.mem_cons, List.not_mem_nil, or_false] at this
  rcases this with rfl | rfl | rfl <;> decide
/-- One rune's set is put in. -/
theorem setsP_put {L : List Ab} (h : SetsP L) {c : Int} (hc : isC c = true) : SetsP (setL L [(c, c)]) ∧ (setL L [(c, c)])[setX L [(c, c)]]? = some (nodeC c) ∧ 3 ≤ setX L [(c, c)] := by
  unfold setL setX
  rw [if_neg (by simp), if_neg (by simp)]
  unfold putL putX
  have h3 : 3 ≤ L.length := by have := h.2.1.length_le; simpa [base3] using this
  by_cases hm : keyS 2 [(c, c)] [] ∈ keysA L
  · rw [if_pos hm]
    obtain ⟨a, ha, hk⟩ := mem_keys hm
    have h3 : 3 ≤ (keysA L).idxOf (keyS 2 [(c, c)] []) := by
      rcases Nat.lt_or_ge ((keysA L).idxOf (keyS 2 [(c, c)] [])) 3 with hl | hl
      · rw [base_get h.2.1 hl] at ha
        have hb := base_kind ha
        exact absurd (keyS_kind hk hb.1 (by decide)) hb.2.1
      · exact hl
    obtain ⟨d, hd, rfl⟩ := h.2.2 _ _ h3 ha
    have := keyS_set hd hc hk
    subst this
    exact ⟨h, ha, h3⟩
  · rw [if_neg hm, newA_set, List.idxOf_eq_length hm, show (keysA L).length = L.length by simp [keysA]]
    refine ⟨⟨?_, h.2.1.trans (List.prefix_append _ _), ?_⟩, by simp, h3⟩
    · have := wf_new h.1 (kind := 2) (set := [(c, c)]) (kids := []) (by simp) (by simp) (by simp) (by decide) (by decide) hm
      rwa [newA_set] at this
    · intro i a hi ha
      rw [List.getElem?_append] at ha
      split at ha
      · exact h.2.2 i a hi ha
      · rw [List.getElem?_singleton] at ha
        split at ha
        · exact ⟨c, hc, by cases ha; rfl⟩
        · cases ha
theorem prefix_get {L M : List Ab} (h : L <+: M) {i : Nat} {a : Ab} (hi : L[i]? = some a) : M[i]? = some a := by
  obtain ⟨t, rfl⟩ := h
  obtain ⟨hl, -⟩ := List.getElem?_eq_some_iff.1 hi
  rw [List.getElem?_append_left hl]; exact hi
theorem setL_prefix (L : List Ab) (s : List Rg) : L <+: setL L s := by
  unfold setL; split
  · exact List.prefix_rfl
  · exact putL_prefix _ _ _ _
theorem wordL_prefix (L : List Ab) (row : List Int) : ∀ j k, k + j ≤ row.length → wordL L row k <+: wordL L row (k + j) := by
  intro j
  induction j with
  | zero => intro k _; exact List.prefix_rfl
  | succ j ih =>
    intro k hk
    rw [← Nat.add_assoc, wordL_succ L row (k + j) (by omega)]
    exact (ih k (by omega)).trans (setL_prefix _ _)
theorem wordL_sets {row : List Int} (hc : ∀ j, j < row.length → isC (row.getD j 0) = true) : ∀ k, k ≤ row.length → SetsP (wordL base3 row k) := by
  intro k
  induction k with
  | zero => intro _; exact setsP_base
  | succ k ih =>
    intro hk
    rw [wordL_succ base3 row k (by omega)]
    exact (setsP_put (ih (by omega)) (hc k (by omega))).1
/-- The numbers of the runes' sets. -/
theorem wordRow_get {row : List Int} (hc : ∀ j, j < row.length → isC (row.getD j 0) = true) {j : Nat} (hj : j < row.length) : ∃ x : Nat, (wordRow base3 row row.length)[j]? = some (x : Int) ∧ 3 ≤ x ∧ (wordL base3 row row.length)[x]? = some (nodeC (row.getD j 0)) := by
  have h := setsP_put (wordL_sets hc j (by omega)) (hc j hj)
  refine ⟨setX (wordL base3 row j) [(row.getD j 0, row.getD j 0)], ?_, h.2.2, ?_⟩
  · unfold wordRow
    rw [List.getElem?_map, List.getElem?_range hj]
    simp only [Option.map_some, if_pos hj]
    rfl
  · have hp := wordL_prefix base3 row (row.length - (j + 1)) (j + 1) (by omega)
    rw [show j + 1 + (row.length - (j + 1)) = row.length by omega] at hp
    rw [wordL_succ base3 row j hj] at hp
    exact prefix_get hp h.2.1
theorem min_step (p o n : Int) (h : p + o = min (1 + 2 * (n + 1)) 4097) (hn : 0 ≤ n) : min (3 + (p - 1 + o)) 4097 = min (1 + 2 * (n + 2)) 4097 := by omega
theorem prefix_getD {L M : List Ab} (h : L <+: M) {i : Nat} (hi : i < L.length) : M.getD i ab0 = L.getD i ab0 := by
  rw [List.getD_eq_getElem?_getD, List.getD_eq_getElem?_getD, List.getElem?_eq_getElem hi, prefix_get h (List.getElem?_eq_getElem hi)]
theorem rowA_ext {L M : List Ab} (hw : WfA L) (hw' : WfA M) (h2 : 2 ≤ L.length) (h : L <+: M) : ∀ (n : Nat) (x : Int), rowM x ≤ n → 0 ≤ x → x.toNat < L.length → rowA M x = rowA L x := by
  intro n
  induction n with
  | zero =>
    intro x hn h0 hx
    have h1 : x = 1 := by
      by_cases h : x = 1
      · exact h
      · unfold rowM at hn; rw [if_neg h] at hn; omega
    subst h1
    rw [rowA_one, rowA_one]
  | succ n ih =>
    intro x hn h0 hx
    by_cases h1 : x = 1
    · subst h1; rw [rowA_one, rowA_one]
    · have hl := h.length_le
      have hf := first_ok hw h2 h0 hx
      have he : firstX M x = firstX L x := by unfold firstX; rw [prefix_getD h hx]
      have hlt := hf.2.2.2 h1
      rw [rowA_step hw h2 h0 hx h1, rowA_step hw' (by omega) h0 (by omega) h1, he, ih _ (by omega) hf.2.1 hf.2.2.1]
theorem getD_of {L : List Ab} {i : Nat} {a : Ab} (h : L[i]? = some a) : L.getD i ab0 = a := by rw [List.getD_eq_getElem?_getD, h]; rfl
theorem lt_of_get {L : List Ab} {i : Nat} {a : Ab} (h : L[i]? = some a) : i < L.length := (List.getElem?_eq_some_iff.1 h).1
theorem rowA_self {L : List Ab} (hw : WfA L) (h2 : 2 ≤ L.length) {x : Int} (h0 : 3 ≤ x) {c : Int} (h : L[x.toNat]? = some (nodeC c)) : rowA L x = [x] := by
  rw [rowA_step hw h2 (by omega) (lt_of_get h) (by omega)]
  have : firstX L x = (x, 1) := by unfold firstX; rw [getD_of h, if_neg (by simp [nodeC])]
  rw [this, rowA_one]
/-- Sets behind one another, from the last on. -/
def catR (L : List Ab) (xs : List Int) : List Ab × Int := xs.foldr (fun a P => catStep P a) (L, 1)
theorem catA_eq {L : List Ab} {xs : List Int} (h : 0 ∉ xs) : catA L xs = catR L xs := by
  unfold catA catR
  rw [if_neg h, List.foldl_reverse]
def node3 (k y : Int) (n : Nat) : Ab := ⟨3, [], [k, y], min (1 + 2 * n) 4097, 2, false⟩
/-- What stands there of so many. -/
structure CatOk (L : List Ab) (xs : List Int) (P : List Ab × Int) : Prop where
  pre : L <+: P.1
  wf : WfA P.1
  len : P.1.length = L.length + (xs.length - 1)
  none : xs = [] → P = (L, 1)
  one : ∀ x, xs = [x] → P = (L, x)
  more : 2 ≤ xs.length → P.2 = (P.1.length : Int) - 1 ∧ (∃ k y, P.1[P.2.toNat]? = some (node3 k y xs.length)) ∧ rowA P.1 P.2 = xs
theorem catR_ok {L : List Ab} (hs : SetsP L) (hL : L.length ≤ 1048579) : ∀ (xs : List Int), xs.length ≤ 1048576 → (∀ x ∈ xs, 3 ≤ x ∧ ∃ c, L[x.toNat]? = some (nodeC c)) → CatOk L xs (catR L xs) := by
  intro xs
  have h3L : 3 ≤ L.length := by have := hs.2.1.length_le; simpa [base3] using this
  induction xs with
  | nil => intro _ _; exact ⟨List.prefix_rfl, hs.1, rfl, fun _ => rfl, fun x h => (by cases h), fun h => (by simp at h)⟩
  | cons a xs ih =>
    intro hl hx
    have ih := ih (by simp at hl; omega) (fun x h => hx x (List.mem_cons_of_mem _ h))
    obtain ⟨ha3, c, hac⟩ := hx a (List.mem_cons_self ..)
    have hstep : catR L (a :: xs) = catStep (catR L xs) a := rfl
    rw [hstep]
    cases xs with
    | nil =>
      have h0 := ih.none rfl
      rw [h0]
      have : catStep (L, 1) a = (L, a) := by unfold catStep; rw [if_pos rfl]
      rw [this]
      exact ⟨List.prefix_rfl, hs.1, rfl, fun h => (by cases h), fun x h => (by cases h; rfl), fun h => (by simp at h)⟩
    | cons b xs =>
      generalize hP : catR L (b :: xs) = P at *
      have hPl := ih.pre.length_le
      have hlen := ih.len
      simp only [List.length_cons] at hl hlen
      -- where it stands
      have hz : 3 ≤ P.2 ∧ P.2.toNat < P.1.length ∧ rowA P.1 P.2 = b :: xs ∧ (L.length ≤ P.2 + 1 ∧ P.2 + 1 = P.1.length ∨ P.1 = L) ∧ (P.1.getD P.2.toNat ab0).parts + (if (P.1.getD P.2.toNat ab0).kind = 3 then 0 else 1) = min (1 + 2 * ((b :: xs).length : Int)) 4097 ∧ (P.1.getD P.2.toNat ab0).levels + (if (P.1.getD P.2.toNat ab0).kind = 3 then 0 else 1) = 2 := by
        cases xs with
        | nil =>
          have h1 := ih.one b rfl
          obtain ⟨hb3, d, hbd⟩ := hx b (by simp)
          rw [h1]
          refine ⟨hb3, lt_of_get hbd, rowA_self hs.1 (by omega) hb3 hbd, .inr rfl, ?_⟩
          simp only
          rw [getD_of hbd]
          simp [nodeC]
          decide
        | cons b' xs =>
          obtain ⟨e1, ⟨k, y, hn⟩, e3⟩ := ih.more (by simp)
          simp only [List.length_cons] at hlen
          refine ⟨by omega, by omega, e3, .inl ⟨by omega, by omega⟩, ?_⟩
          rw [getD_of hn]
          simp [node3]
      obtain ⟨hz3, hzl, hzr, hzo, hzp, hzv⟩ := hz
      have hpa := prefix_get ih.pre hac
      have hrow := rowA_self ih.wf (by omega) ha3 hpa
      have hcs : catStep P a = (putL P.1 3 [] [a, P.2], (putX P.1 3 [] [a, P.2] : Int)) := by
        unfold catStep
        rw [if_neg (by omega), hrow]
        rfl
      have hfresh : keyS 3 [] [a, P.2] ∉ keysA P.1 := by
        intro hm
        obtain ⟨q, hq, hk⟩ := mem_keys hm
        generalize (keysA P.1).idxOf (keyS 3 [] [a, P.2]) = iq at hq
        have hqm := List.mem_of_getElem? hq
        have hk3 := keyS_kind hk (ih.wf.kind q hqm) (by decide)
        have hf := (ih.wf.form q hqm).1 hk3
        rcases hzo with ⟨-, hzo⟩ | hzo
        · have hlen2 := congrArg List.length hk
          simp only [keyS, List.length_map, keyN_len, List.length_nil, List.length_cons] at hlen2
          have hset : q.set = [] := List.length_eq_zero_iff.1 (by omega)
          obtain ⟨u, v, huv⟩ : ∃ u v, q.kids = [u, v] := by
            match q.kids, hf with
            | [u, v], _ => exact ⟨u, v, rfl⟩
          rw [hset, huv, hk3] at hk
          have hv := ih.wf.kids _ _ hq v (by rw [huv]; simp)
          have hil := lt_of_get hq
          have := keyS_kids hk (by omega) (by omega)
          omega
        · rw [hzo] at hq
          rcases Nat.lt_or_ge iq 3 with h | h
          · rw [base_get hs.2.1 h] at hq
            exact (base_kind hq).2.2 hk3
          · obtain ⟨d, -, rfl⟩ := hs.2.2 _ _ h hq
            simp [nodeC] at hk3
      have hpl : putL P.1 3 [] [a, P.2] = P.1 ++ [newA P.1 3 [] [a, P.2]] := by unfold putL; rw [if_neg hfresh]
      have hpx : putX P.1 3 [] [a, P.2] = P.1.length := by unfold putX; rw [List.idxOf_eq_length hfresh]; simp [keysA]
      have hwf : WfA (P.1 ++ [newA P.1 3 [] [a, P.2]]) := wf_new ih.wf (by simp) (by simp) (by
        intro j hj
        match j, hj with
        | 0, _ => exact ⟨by simp; omega, lt_of_get hpa⟩
        | 1, _ => exact ⟨by simp; omega, by simpa using hzl⟩) (by decide) ⟨fun _ => rfl, fun h => by rcases h with h | h <;> cases h⟩ hfresh
      have hnode : newA P.1 3 [] [a, P.2] = node3 a P.2 (b :: xs).length.succ := by
        unfold newA node3
        have hg : P.1.getD a.toNat ab0 = nodeC c := getD_of hpa
        have hm : measA P.1 3 0 [a, P.2] 2 = (3 + ((P.1.getD P.2.toNat ab0).parts - 1 + (if (P.1.getD P.2.toNat ab0).kind = 3 then 0 else 1)), maxI 2 ((P.1.getD P.2.toNat ab0).levels + (if (P.1.getD P.2.toNat ab0).kind = 3 then 0 else 1))) := by
          simp only [measA, List.getD_cons_zero, List.getD_cons_succ, hg]
          simp [nodeC, ownI, maxI]
        have hnul : nulA P.1 3 [a, P.2] = false := by
          simp only [nulA, List.any_cons, hg]
          simp [nodeC]
        rw [show ([] : List Rg).length = 0 from rfl, show [a, P.2].length = 2 from rfl, hm, hnul, hzv]
        simp only [List.length_cons] at hzp ⊢
        have e1 : maxI 2 2 = 2 := rfl
        rw [e1]
        have hN : ((Nat.succ (xs.length + 1) : Nat) : Int) = (xs.length : Int) + 2 := by omega
        have hN' : ((xs.length + 1 : Nat) : Int) = (xs.length : Int) + 1 := by omega
        rw [hN]; rw [hN'] at hzp
        have e2 : min (2 : Int) 65 = 2 := by decide
        rw [e2]
        generalize (if (P.1.getD P.2.toNat ab0).kind = 3 then (0 : Int) else 1) = o at *
        generalize (P.1.getD P.2.toNat ab0).parts = p at *
        have e3 : min (3 + (p - 1 + o)) 4097 = min (1 + 2 * ((xs.length : Int) + 2)) 4097 := min_step p o _ hzp (Int.natCast_nonneg _)
        rw [e3]
      have hlen9 : (P.1 ++ [newA P.1 3 [] [a, P.2]]).length = L.length + ((a :: b :: xs).length - 1) := by
        clear hl hL
        rw [List.length_append, hlen]
        simp only [List.length_cons, List.length_nil]
        omega
      have hmore9 : ((P.1.length : Nat) : Int) = ((P.1 ++ [newA P.1 3 [] [a, P.2]]).length : Int) - 1 := by
        clear hl hL hlen9
        rw [List.length_append, List.length_cons, List.length_nil]
        omega
      rw [hcs, hpl, hpx]
      refine ⟨ih.pre.trans (List.prefix_append _ _), hwf, hlen9, fun h => (by cases h), fun x h => (by cases h), fun _ => ⟨hmore9, ⟨a, P.2, ?_⟩, ?_⟩⟩
      · simp only [Int.toNat_natCast]
        rw [List.getElem?_append_right (Nat.le_refl _), Nat.sub_self, List.getElem?_cons_zero, hnode]
        rfl
      · have hg : (P.1 ++ [newA P.1 3 [] [a, P.2]])[((P.1.length : Int)).toNat]? = some (node3 a P.2 (b :: xs).length.succ) := by
          simp only [Int.toNat_natCast]
          rw [List.getElem?_append_right (Nat.le_refl _), Nat.sub_self, List.getElem?_cons_zero, hnode]
        simp only
        rw [rowA_step hwf (by simp; omega) (by omega) (by simp) (by omega)]
        have : firstX (P.1 ++ [newA P.1 3 [] [a, P.2]]) (P.1.length : Int) = (a, P.2) := by
          unfold firstX
          rw [getD_of hg]
          exact if_pos rfl
        rw [this]
        simp only
        rw [rowA_ext ih.wf hwf (by omega) (List.prefix_append _ _) _ P.2 (Nat.le_refl _) (by omega) hzl, hzr]
/-- A row of runes, as an expression. -/
def docT : List Int → Rx
  | [] => .mk 1 [] []
  | [c] => .mk 2 [(c, c)] []
  | c :: d :: cs => .mk 3 [] ((c :: d :: cs).map fun c => .mk 2 [(c, c)] [])
theorem docT_more {row : List Int} (h : 2 ≤ row.length) : docT row = .mk 3 [] (row.map fun c => .mk 2 [(c, c)] []) := by
  match row, h with
  | c :: d :: cs, _ => rfl
theorem treeA_node {L : List Ab} (hw : WfA L) (h2 : 2 ≤ L.length) {x : Nat} {c : Int} (h : L[x]? = some (nodeC c)) : treeA L x = .mk 2 [(c, c)] [] := by
  have hk : kidsA L x = [] := by unfold kidsA; rw [getD_of h, if_neg (by simp [nodeC])]; rfl
  rw [treeA_eq hw h2 (lt_of_get h), hk, getD_of h]
  rfl
theorem word_is {row : List Int} (hr : row.all isC = true) (hl : row.length ≤ 1048576) :
    (∃ xn : Nat, (wordA base3 row).2 = xn ∧ xn < (wordA base3 row).1.length ∧ 2 ≤ (wordA base3 row).1.length ∧ (wordA base3 row).1.length ≤ 1500000000000) ∧
    wordE row = (if 2047 < row.length then 41 else 0) ∧ (row.length ≤ 2047 → wordT row = docT row) := by
  have hc : ∀ j, j < row.length → isC (row.getD j 0) = true := fun j hj => by
    rw [List.getD_eq_getElem?_getD, List.getElem?_eq_getElem hj]
    exact List.all_eq_true.1 hr _ (List.getElem_mem hj)
  have hs := wordL_sets hc row.length (Nat.le_refl _)
  have hll := wordL_len base3 row row.length (Nat.le_refl _)
  have hb3 : base3.length = 3 := rfl
  have hxl := wordRow_len base3 row row.length
  have hget : ∀ x ∈ wordRow base3 row row.length, 3 ≤ x ∧ ∃ c, (wordL base3 row row.length)[x.toNat]? = some (nodeC c) := by
    intro x hx
    obtain ⟨j, hj, rfl⟩ := List.mem_iff_getElem.1 hx
    obtain ⟨y, h1, h2, h3⟩ := wordRow_get hc (j := j) (by omega)
    rw [List.getElem?_eq_getElem hj, Option.some.injEq] at h1
    rw [h1]
    exact ⟨by omega, _, by rw [Int.toNat_natCast]; exact h3⟩
  have h0 : 0 ∉ wordRow base3 row row.length := fun h => by have := (hget 0 h).1; omega
  have hA : wordA base3 row = catR (wordL base3 row row.length) (wordRow base3 row row.length) := catA_eq h0
  have ok := catR_ok hs (by omega) _ (by omega) hget
  have hmapd : ∀ M, wordL base3 row row.length <+: M → WfA M → (wordRow base3 row row.length).map (fun k => treeA M k.toNat) = row.map fun c => Rx.mk 2 [(c, c)] [] := by
    intro M hp hw
    refine List.ext_getElem? fun j => ?_
    rw [List.getElem?_map, List.getElem?_map]
    by_cases hj : j < row.length
    · obtain ⟨y, h1, h2, h3⟩ := wordRow_get hc hj
      rw [h1, List.getElem?_eq_getElem hj]
      simp only [Option.map_some, Option.some.injEq, Int.toNat_natCast]
      rw [treeA_node hw (by have := hp.length_le; omega) (prefix_get hp h3), List.getD_eq_getElem?_getD, List.getElem?_eq_getElem hj]
      rfl
    · rw [List.getElem?_eq_none (by omega), List.getElem?_eq_none (by omega)]; rfl
  have hE : wordE row = heldE (wordA base3 row).1 0 (wordA base3 row).2.toNat := by unfold wordE; rw [if_pos hr]
  rw [hE]
  unfold wordT
  rw [hA]
  generalize wordL base3 row row.length = L at *
  generalize wordRow base3 row row.length = xs at *
  match hrow : row with
  | [] =>
    have : xs = [] := List.length_eq_zero_iff.1 (by simpa using hxl)
    have hP := ok.none this
    rw [hP]
    have h1 : L.getD 1 ab0 = ⟨1, [], [], 1, 1, true⟩ := getD_of (by rw [base_get hs.2.1 (by omega)]; rfl)
    have e1 : heldE L 0 1 = 0 := by unfold heldE; rw [h1]; rfl
    have e2 : heldX L 1 = 1 := by unfold heldX; rw [h1]; rfl
    refine ⟨⟨1, rfl, by simp only; omega, by simp only; omega, by simp only; omega⟩, by simpa using e1, fun _ => ?_⟩
    simp only
    rw [show (1 : Int).toNat = 1 from rfl, e2, treeA_eq hs.1 (by omega) (by omega)]
    have : kidsA L 1 = [] := by unfold kidsA; rw [h1]; rfl
    rw [this, h1]
    rfl
  | [c] =>
    obtain ⟨x, hx⟩ : ∃ x, xs = [x] := List.length_eq_one_iff.1 (by simpa using hxl)
    have hP := ok.one x hx
    obtain ⟨y, h1, h2, h3⟩ : ∃ y : Nat, x = y ∧ 3 ≤ y ∧ L[y]? = some (nodeC c) := by
      obtain ⟨g1, d, g2⟩ := hget x (by rw [hx]; simp)
      have := hmapd L List.prefix_rfl hs.1
      rw [hx] at this
      simp only [List.map_cons, List.map_nil, List.cons.injEq, and_true] at this
      rw [treeA_node hs.1 (by omega) g2] at this
      simp only [Rx.mk.injEq, List.cons.injEq, Prod.mk.injEq, and_true, true_and, and_self] at this
      subst this
      exact ⟨x.toNat, by omega, by omega, g2⟩
    subst h1
    rw [hP]
    have e1 : heldE L 0 y = 0 := by unfold heldE; rw [getD_of h3]; rfl
    have e2 : heldX L y = y := by unfold heldX; rw [getD_of h3]; rfl
    refine ⟨⟨y, rfl, lt_of_get h3, by simp only; omega, by simp only; omega⟩, by simpa using e1, fun _ => ?_⟩
    simp only [Int.toNat_natCast]
    rw [e2, treeA_node hs.1 (by omega) h3]
    rfl
  | c :: d :: cs =>
    have hx2 : 2 ≤ xs.length := by rw [hxl]; simp
    obtain ⟨e1, ⟨k, y, hn⟩, e3⟩ := ok.more hx2
    have hlen := ok.len
    have hpl := ok.pre.length_le
    have hm := hmapd _ ok.pre ok.wf
    generalize catR L xs = P at *
    obtain ⟨z, hz⟩ : ∃ z : Nat, P.2 = z := ⟨P.2.toNat, by omega⟩
    rw [hz] at hn e3 ⊢
    simp only [Int.toNat_natCast] at hn ⊢
    have hzl := lt_of_get hn
    have hxl' : (xs.length : Int) = ((c :: d :: cs).length : Nat) := by rw [hxl]
    refine ⟨⟨z, rfl, hzl, by omega, by omega⟩, ?_, ?_⟩
    · unfold heldE
      rw [getD_of hn]
      have q2 : ¬ (64 < (node3 k y xs.length).levels) := by show ¬ ((64 : Int) < 2); decide
      by_cases h : 2047 < (c :: d :: cs).length
      · have q1 : 4096 < (node3 k y xs.length).parts := by show 4096 < min (1 + 2 * (xs.length : Int)) 4097; omega
        rw [if_pos q1, if_pos h]; rfl
      · have q1 : ¬ 4096 < (node3 k y xs.length).parts := by show ¬ 4096 < min (1 + 2 * (xs.length : Int)) 4097; omega
        rw [if_neg q1, if_neg h, if_neg q2]
    · intro hs7
      have : heldX P.1 z = z := by
        unfold heldX
        rw [getD_of hn]
        have q1 : ¬ (4096 < (node3 k y xs.length).parts) := by show ¬ (4096 < min (1 + 2 * (xs.length : Int)) 4097); omega
        have q2 : ¬ (64 < (node3 k y xs.length).levels) := by show ¬ ((64 : Int) < 2); decide
        rw [if_neg q1, if_neg q2]
      rw [this, treeA_eq ok.wf (by omega) hzl]
      have hk : kidsA P.1 z = xs := by unfold kidsA; rw [getD_of hn]; exact (if_pos rfl).trans e3
      rw [hk, hm, getD_of hn]
      rfl
end Go.Proofs.YtkimhfajfbcdmaaGreatDoor

/- TokenOwn, walked. -/
import Derived.Test.YtkckcnjamlpadabDoorV2
import Derived.Deep.RegionHeld3
import Derived.Deep.DeepCutAuto
namespace Go.Proofs.YtkckcnjamlpadabDoor
open Go.RowKit Go.Maps

/-- What the law has laid: the room. -/
def RoomIs (w : World) (l : List T3) (v : Value) (W : World) : Prop :=
  ∃ R rc, v = .slice (some ⟨R, 0, none⟩) (l.length + 2) rc ∧ W.ownsRow (w.heap.size + 1) 27 3 (.slice (some ⟨R, 0, none⟩) (l.length + 2) rc) (l.length + 2) (flat3 (l ++ [markT, markT])) ∧ MarkBlk w.heap.size W ∧ Below w.heap.size w W
set_option maxHeartbeats 8000000 in
set_option maxRecDepth 100000 in
theorem own_walk (a b : Option Addr) (ca cb : Nat) (l : List T3) (ks : List Int) (hl : l.length * 24 ≤ 140737488351232) (hkl : ks.length * 8 ≤ 140737488351232) (hlo : ∀ j, j < l.length → okN (l.getD j (0, 0, 0)).1) (hko : ∀ j, j < ks.length → okN (ks.getD j 0)) (hnil : a = none → l = [] ∧ ca = 0) (w : World) (h1 : TRow w a l) (h2 : NRow w b ks) (hE : Env w) :
    Calls Tryd.prog 4 #[.slice a l.length ca, .slice b ks.length cb] w fun e w' => e = .returned (.bool true) ∧ Below w.heap.size w w' := by
  obtain ⟨i0, hi, hz0, hz1, hz2⟩ := info_parts htok
  have H1 := hide h1; have H2 := hide h2; have Hlo := hide hlo; have Hko := hide hko; have HE := hide hE; have Hnil := hide hnil
  clear h1 h2 hlo hko hE hnil
  go_enter Tryd.func4, Tryd.ntmps4
  go_upto_region 2 with fail
  go_cut [6] (fun v W => RoomIs w l v W)
  case first =>
    have hM : MarkBlk w.heap.size (w.alloc (.cells #[.int .i64 (-9), .int .i64 0, .int .i64 0] 27)).drew := heap_new w _
    have hB0 : Below w.heap.size w (w.alloc (.cells #[.int .i64 (-9), .int .i64 0, .int .i64 0] 27)).drew := ((Below.refl _ _).alloc (Nat.le_refl _) _).drew
    have hs0 : (w.alloc (.cells #[.int .i64 (-9), .int .i64 0, .int .i64 0] 27)).drew.heap.size = w.heap.size + 1 := by simp [World.drew]
    refine wp_region_held_drew (S := (MarkAt w.heap.size)) (by kernel_rfl) (mark_at hM) (fun hHeld => ?_)
    generalize (w.alloc (.cells #[.int .i64 (-9), .int .i64 0, .int .i64 0] 27)).drew = W0 at *
    have HM := hide hM; have HB0 := hide hB0
    clear hM hB0
    refine take_dst (i := 0) (dst := some 19) (v := ?_) rfl rfl (by kernel_rfl) (by kernel_rfl) (by kernel_rfl) (fun _ _ _ h => h) (Or.inl ⟨by rfl, ?_⟩) hHeld ?_
    rotate_left
    · intro w hSw; obtain ⟨z0, z1, z2⟩ := hSw; go_simp; try (with_reducible rfl)
    simp only [Act.put, List.setIfInBounds_toArray, List.set_cons_zero, List.set_cons_succ]
    refine take_dst (i := 2) (dst := some 21) (v := ?_) rfl rfl (by kernel_rfl) (by kernel_rfl) (by kernel_rfl) (fun _ _ _ h => h) (Or.inl ⟨by rfl, ?_⟩) hHeld ?_
    rotate_left
    · intro w hSw; obtain ⟨z0, z1, z2⟩ := hSw; go_simp; try (with_reducible rfl)
    simp only [Act.put, List.setIfInBounds_toArray, List.set_cons_zero, List.set_cons_succ]
    refine take_dst (i := 3) (dst := some 22) (v := ?_) rfl rfl (by kernel_rfl) (by kernel_rfl) (by kernel_rfl) (fun _ _ _ h => h) (Or.inl ⟨by rfl, ?_⟩) hHeld ?_
    rotate_left
    · intro w hSw; obtain ⟨z0, z1, z2⟩ := hSw; go_simp; try (with_reducible rfl)
    simp only [Act.put, List.setIfInBounds_toArray, List.set_cons_zero, List.set_cons_succ]
    refine wpAnyH_ready (rs := [1, 4]) (by kernel_rfl) (by simp) ?_
    refine (AllReadyH.cons rfl (fun K hK => ?_) (AllReadyH.cons rfl (fun K hK => ?_) AllReadyH.nil))
    · refine wp_append_l _ _ rfl (w.heap.size + 1) rfl a ca l rfl (unhide Hnil) (trow_below (unhide H1) (Nat.le_refl _) (unhide HB0)) hl (by have := (unhide HB0).size; simp; omega) ?_
      intro v1 W1 ho1 hg1
      have HM1 := hide (mark_grown (unhide HM) hg1 (by simp))
      have HB1 := hide (below_grown (unhide HB0) hg1 (fun k hk => by cases hk))
      have Ho1 := hide ho1
      clear ho1 hg1
      refine hK.out _ _ (mark_at (unhide HM1)) (fun hHeld => ?_)
      clear hK K
      refine wpAnyH_ready (rs := [4]) (by kernel_rfl) (by simp) ?_
      refine AllReadyH.cons rfl (fun K hK => ?_) AllReadyH.nil
      go_simp
      have HM3 := hide (mark_below (unhide HM1) ((Below.refl _ _).alloc (Nat.le_refl _) (.cells #[.int .i64 (-9), .int .i64 0, .int .i64 0, .int .i64 (-9), .int .i64 0, .int .i64 0] 27)))
      have Hb3 := hide ((unhide HB1).alloc (unhide HB1).size (.cells #[.int .i64 (-9), .int .i64 0, .int .i64 0, .int .i64 (-9), .int .i64 0, .int .i64 0] 27))
      have Ho3 := hide ((unhide Ho1).alloc (.cells #[.int .i64 (-9), .int .i64 0, .int .i64 0, .int .i64 (-9), .int .i64 0, .int .i64 0] 27))
      have Hsix := hide (cells_six_new W1 (.int .i64 (-9)) (.int .i64 0) (.int .i64 0) (.int .i64 (-9)) (.int .i64 0) (.int .i64 0) 27)
      refine hK.out _ _ (mark_at (unhide HM3)) (fun hHeld => ?_)
      clear hK K
      refine wpAnyH_ready (rs := [5]) (by kernel_rfl) (by simp) ?_
      refine AllReadyH.cons rfl (fun K hK => ?_) AllReadyH.nil
      refine wp_append_own _ _ _ 22 rfl (w.heap.size + 1) 27 i0 (.agg #[.int .i64 0, .int .i64 0, .int .i64 0]) 3 24 Tryd.underlying22 hi hz0 hz1 hz2 rfl (by decide) v1 l.length (flat3 l) rfl (unhide Ho3) ⟨W1.heap.size, 0, none⟩ 2 2 [.int .i64 (-9), .int .i64 0, .int .i64 0, .int .i64 (-9), .int .i64 0, .int .i64 0] rfl rfl (unhide Hsix) (fun u hu => flat3_one [markT, markT] u (by simpa [flat3, markT] using hu)) (by unfold maxLen; omega) (by omega) (lt_of_some (unhide HM3)) ?_
      intro v2 W4 ho4 hg4 hv4
      have hne4 : some w.heap.size ≠ v1.ownBlock := fun e => by have := ((unhide Ho3).lt _ e.symm).1; omega
      have HM4 := hide (mark_grown (unhide HM3) hg4 hne4)
      have HB4 := hide (below_grown (unhide Hb3) hg4 (fun k hk => by have := ((unhide Ho3).lt _ hk).1; omega))
      have HR4 : Hid (RoomIs w l v2 W4) := hide (by
        rcases ho4.2 with ⟨h0, _⟩ | ⟨R, rc, cur, h0, _⟩
        · exact absurd (hv4.1 h0).2 (by decide)
        · subst h0
          exact ⟨R, rc, rfl, by rw [flat3_marks]; exact ho4, unhide HM4, unhide HB4⟩)
      clear ho4 hg4 hv4 hne4
      refine hK.out _ _ (mark_at (unhide HM4)) (fun hHeld => ?_)
      clear hK K
      refine wpAnyH_ready (rs := [6]) (by kernel_rfl) (by simp) ?_
      refine AllReadyH.cons rfl (fun K hK => ?_) AllReadyH.nil
      go_simp
      refine hK.out _ _ (mark_at (unhide HM4)) (fun hHeld => ?_)
      clear hK K
      refine wpAnyH_done (by kernel_rfl) ?_ _
      go_wp2_with fail
      go_meet
      exact unhide HR4
    · go_simp
      have HM2 := hide (mark_below (unhide HM) ((Below.refl _ _).alloc (Nat.le_refl _) (.cells #[.int .i64 (-9), .int .i64 0, .int .i64 0, .int .i64 (-9), .int .i64 0, .int .i64 0] 27)))
      have Hb2 := hide ((unhide HB0).alloc (unhide HB0).size (.cells #[.int .i64 (-9), .int .i64 0, .int .i64 0, .int .i64 (-9), .int .i64 0, .int .i64 0] 27))
      have hX : (W0.alloc (.cells #[.int .i64 (-9), .int .i64 0, .int .i64 0, .int .i64 (-9), .int .i64 0, .int .i64 0] 27)).heap[w.heap.size + 1]? = some (.cells #[.int .i64 (-9), .int .i64 0, .int .i64 0, .int .i64 (-9), .int .i64 0, .int .i64 0] 27 (0, 0)) := by rw [← hs0]; exact heap_new W0 _
      have HX := hide hX
      clear hX
      refine hK.out _ _ (mark_at (unhide HM2)) (fun hHeld => ?_)
      clear hK K
      refine wpAnyH_ready (rs := [1]) (by kernel_rfl) (by simp) ?_
      refine AllReadyH.cons rfl (fun K hK => ?_) AllReadyH.nil
      refine wp_append_l _ _ rfl (w.heap.size + 1) rfl a ca l rfl (unhide Hnil) (trow_below (unhide H1) (Nat.le_refl _) (unhide Hb2)) hl (by have := (unhide Hb2).size; simp; omega) ?_
      intro v1 W1 ho1 hg1
      have HM1 := hide (mark_grown (unhide HM2) hg1 (by simp))
      have HB1 := hide (below_grown (unhide Hb2) hg1 (fun k hk => by cases hk))
      have HX1 := (hg1.block (w.heap.size + 1) (by simp; omega) (by simp)).trans (unhide HX)
      have Hsix := hide (fun (j : Nat) (u : Value) (hu : ([.int .i64 (-9), .int .i64 0, .int .i64 0, .int .i64 (-9), .int .i64 0, .int .i64 0] : List Value)[j]? = some u) => World.news_of_block HX1 j u (by simpa using hu))
      have HM3 := hide (unhide HM1)
      have Hb3 := hide (unhide HB1)
      have Ho3 := hide ho1
      clear ho1 hg1 HX1
      go_simp
      refine hK.out _ _ (mark_at (unhide HM3)) (fun hHeld => ?_)
      clear hK K
      refine wpAnyH_ready (rs := [5]) (by kernel_rfl) (by simp) ?_
      refine AllReadyH.cons rfl (fun K hK => ?_) AllReadyH.nil
      refine wp_append_own _ _ _ 22 rfl (w.heap.size + 1) 27 i0 (.agg #[.int .i64 0, .int .i64 0, .int .i64 0]) 3 24 Tryd.underlying22 hi hz0 hz1 hz2 rfl (by decide) v1 l.length (flat3 l) rfl (unhide Ho3) ⟨w.heap.size + 1, 0, none⟩ 2 2 [.int .i64 (-9), .int .i64 0, .int .i64 0, .int .i64 (-9), .int .i64 0, .int .i64 0] rfl rfl (unhide Hsix) (fun u hu => flat3_one [markT, markT] u (by simpa [flat3, markT] using hu)) (by unfold maxLen; omega) (by omega) (lt_of_some (unhide HM3)) ?_
      intro v2 W4 ho4 hg4 hv4
      have hne4 : some w.heap.size ≠ v1.ownBlock := fun e => by have := ((unhide Ho3).lt _ e.symm).1; omega
      have HM4 := hide (mark_grown (unhide HM3) hg4 hne4)
      have HB4 := hide (below_grown (unhide Hb3) hg4 (fun k hk => by have := ((unhide Ho3).lt _ hk).1; omega))
      have HR4 : Hid (RoomIs w l v2 W4) := hide (by
        rcases ho4.2 with ⟨h0, _⟩ | ⟨R, rc, cur, h0, _⟩
        · exact absurd (hv4.1 h0).2 (by decide)
        · subst h0
          exact ⟨R, rc, rfl, by rw [flat3_marks]; exact ho4, unhide HM4, unhide HB4⟩)
      clear ho4 hg4 hv4 hne4
      refine hK.out _ _ (mark_at (unhide HM4)) (fun hHeld => ?_)
      clear hK K
      refine wpAnyH_ready (rs := [6]) (by kernel_rfl) (by simp) ?_
      refine AllReadyH.cons rfl (fun K hK => ?_) AllReadyH.nil
      go_simp
      refine hK.out _ _ (mark_at (unhide HM4)) (fun hHeld => ?_)
      clear hK K
      refine wpAnyH_done (by kernel_rfl) ?_ _
      go_wp2_with fail
      go_meet
      exact unhide HR4
  case rest =>
    obtain ⟨R, rc, rfl, hroom, hmark, hbel⟩ := hcut
    have hrc : l.length + 2 ≤ rc := by
      rcases hroom.2 with ⟨h0, _⟩ | ⟨g', cap', cur, h0, _, _, h3, _⟩
      · cases h0
      · simp only [Value.slice.injEq] at h0; omega
    have hRlt := hroom.lt R rfl
    have hall : TRow wc (some ⟨R, 0, none⟩) (l ++ [markT, markT]) := by
      have e : (l ++ [markT, markT]).length = l.length + 2 := by simp
      rw [← e] at hroom
      obtain ⟨a', c', e', ht, -⟩ := trow_own hroom
      simp only [Value.slice.injEq] at e'
      obtain ⟨rfl, -, -⟩ := e'
      exact ht
    have HC := hide (newCursor_any (some ⟨R, 0, none⟩) rc l hl (fun h => by cases h) wc (trow_pre hall))
    have Hroom := hide hroom; have Hmark := hide hmark; have Hbel := hide hbel; have Hall := hide hall
    clear hroom hmark hbel hall
    go_wp2_with fail
    refine (unhide HC).mono ?_
    rintro e w1 ⟨c, g, cap, rfl, hc, hg, hb1, hcur⟩
    have hs1 := hb1.size
    have hcl := lt_of_some hcur.box
    have hgl := hcur.gl
    have HB1 := hide ((unhide Hbel).trans (hb1.mono (unhide Hbel).size))
    have Hall1 := hide (trow_below (unhide Hall) (Nat.le_refl _) hb1)
    have HO := hide (only_any (some ⟨R, 0, none⟩) b rc cb l ks hl hkl (unhide Hlo) (unhide Hko) w1 (trow_pre (unhide Hall1)) (nrow_below (unhide H2) (Nat.le_refl _) (unhide HB1)))
    have Hroom1 := hide (ownsRow_below (unhide Hroom) hb1 (Nat.le_refl _))
    have Hmark1 := hide (mark_below (unhide Hmark) hb1)
    have Hcur := hide hcur
    clear hb1 hcur HC Hroom Hmark Hall Hbel
    go_wp2_with fail
    refine (unhide HO).mono ?_
    rintro e w2 ⟨va, rfl, hoa, hb2⟩
    have hs2 := hb2.size
    have HB2 := hide ((unhide HB1).trans (hb2.mono (unhide HB1).size))
    have Hall2 := hide (trow_below (unhide Hall1) (Nat.le_refl _) hb2)
    have HO2 := hide (only_any (some ⟨R, 0, none⟩) b rc cb l ks hl hkl (unhide Hlo) (unhide Hko) w2 (trow_pre (unhide Hall2)) (nrow_below (unhide H2) (Nat.le_refl _) (unhide HB2)))
    have Hroom2 := hide (ownsRow_below (unhide Hroom1) hb2 (Nat.le_refl _))
    have Hmark2 := hide (mark_below (unhide Hmark1) hb2)
    have Hcur2 := hide ((unhide Hcur).below hb2)
    have Hoa := hide hoa
    clear hb2 hoa HO Hroom1 Hmark1 Hall1 Hcur
    go_wp2_with fail
    refine (unhide HO2).mono ?_
    rintro e w3 ⟨vb, rfl, hob, hb3⟩
    have hs3 := hb3.size
    have HB3 := hide ((unhide HB2).trans (hb3.mono (unhide HB2).size))
    have hal := (unhide Hoa).lt
    have hbl := hob.lt
    have hB1s := (unhide HB1).size
    have HI : Hid (OI w l (onlyL l ks) R rc c g cap va vb 0 (flat3 (l ++ [markT, markT])) w3) := hide ⟨unhide HB3, mark_below (unhide Hmark2) hb3, ownsRow_below (unhide Hroom2) hb3 (Nat.le_refl _), (unhide Hcur2).below hb3, own_base hob (by omega), by omega, by omega, by omega,
      fun x hx => by have := hal x hx; omega, fun y hy => ⟨by have := hbl y hy; omega, by have := hbl y hy; omega, fun x hx => by have := hbl y hy; have := hal x hx; omega⟩⟩
    have HA : Hid (∃ ys, w3.ownsRow w.heap.size 27 3 va (onlyL l ks).length ys) := hide ⟨_, own_base (ownsRow_below (unhide Hoa) hb3 (Nat.le_refl _)) (by omega)⟩
    have hle := onlyL_le l ks l.length
    rw [List.take_length] at hle
    generalize hM : onlyL l ks = m at HI HA hle ⊢
    have Hm := hide hM
    clear hM
    clear hb3 hob hal hbl HO2 Hroom2 Hmark2 Hall2 Hcur2 Hoa HB2 HB1 HB3 hRlt hs1 hs2 hs3 hB1s hcl hgl hc hg
    go_upto_region 6 with fail
    have HS := hide (fun W (ht : TRow W (some ⟨R, 0, none⟩) (l ++ [markT, markT])) (ha : TRow W a l) => same_any (some ⟨R, 0, none⟩) a rc ca l l (by omega) W (trow_pre ht) ha)
    rw [show decide (l = l) = true from decide_eq_true rfl] at HS
    have qn := fun w => neq55 (-9) 0 0 (-9) 0 0 w
    rw [show (!decide (((-9 : Int), (0 : Int), (0 : Int)) = (-9, 0, 0))) = false by decide] at qn
    have g55 := guard55
    have HI := hide ((unhide HI).below ((Below.refl _ _).drew))
    have HA : Hid (∃ ys, w3.drew.ownsRow w.heap.size 27 3 va m.length ys) := hide (unhide HA)
    have hlt6 : (l.length : Int) < (l.length : Int) + 2 := by omega
    refine wp_region_held_drew (S := fun W : World => MarkAt w.heap.size W ∧ RoomAt R l.length W) (by kernel_rfl) (⟨mark_at (unhide HI).mark, room_at (unhide HI).mine⟩) (fun hHeld => ?_)
    refine take_dst (i := 0) (dst := some 37) (v := ?_) rfl rfl (by kernel_rfl) (by kernel_rfl) (by kernel_rfl) (fun _ _ _ h => h) (Or.inl ⟨by rfl, ?_⟩) hHeld ?_
    rotate_left
    · intro w hSw; obtain ⟨⟨z0, z1, z2⟩, y0, y1, y2⟩ := hSw; go_simp; try (with_reducible rfl)
    simp only [Act.put, List.setIfInBounds_toArray, List.set_cons_zero, List.set_cons_succ]
    refine take_dst (i := 1) (dst := some 38) (v := ?_) rfl rfl (by kernel_rfl) (by kernel_rfl) (by kernel_rfl) (fun _ _ _ h => h) (Or.inl ⟨by rfl, ?_⟩) hHeld ?_
    rotate_left
    · intro w hSw; obtain ⟨⟨z0, z1, z2⟩, y0, y1, y2⟩ := hSw; go_simp; try (with_reducible rfl)
    simp only [Act.put, List.setIfInBounds_toArray, List.set_cons_zero, List.set_cons_succ]
    refine take_dst (i := 2) (dst := some 39) (v := ?_) rfl rfl (by kernel_rfl) (by kernel_rfl) (by kernel_rfl) (fun _ _ _ h => h) (Or.inl ⟨by rfl, ?_⟩) hHeld ?_
    rotate_left
    · intro w hSw; obtain ⟨⟨z0, z1, z2⟩, y0, y1, y2⟩ := hSw; go_simp; try (with_reducible rfl)
    simp only [Act.put, List.setIfInBounds_toArray, List.set_cons_zero, List.set_cons_succ]
    refine take_dst (i := 3) (dst := some 40) (v := ?_) rfl rfl (by kernel_rfl) (by kernel_rfl) (by kernel_rfl) (fun _ _ _ h => h) (Or.inl ⟨by rfl, ?_⟩) hHeld ?_
    rotate_left
    · intro w hSw; obtain ⟨⟨z0, z1, z2⟩, y0, y1, y2⟩ := hSw; go_simp; try (with_reducible rfl)
    simp only [Act.put, List.setIfInBounds_toArray, List.set_cons_zero, List.set_cons_succ]
    refine take_dst (i := 4) (dst := some 41) (v := ?_) rfl rfl (by kernel_rfl) (by kernel_rfl) (by kernel_rfl) (fun _ _ _ h => h) (Or.inl ⟨by rfl, ?_⟩) hHeld ?_
    rotate_left
    · intro w hSw; obtain ⟨⟨z0, z1, z2⟩, y0, y1, y2⟩ := hSw; go_simp; try (with_reducible rfl)
    simp only [Act.put, List.setIfInBounds_toArray, List.set_cons_zero, List.set_cons_succ]
    refine wpAnyH_ready (rs := [5]) (by kernel_rfl) (by simp) ?_
    refine AllReadyH.cons rfl (fun K hK => ?_) AllReadyH.nil
    go_simp
    go_at_call 9
    refine (unhide HS _ (unhide HI).mine (trow_below (unhide H1) (Nat.le_refl _) (unhide HI).bel)).mono ?_
    rintro e W9 ⟨rfl, hb9⟩
    have HI := hide ((unhide HI).below hb9)
    have HA : Hid (∃ ys, W9.ownsRow w.heap.size 27 3 va m.length ys) := hide (by obtain ⟨ys, hy⟩ := unhide HA; exact ⟨ys, ownsRow_below hy hb9 (Nat.le_refl _)⟩)
    clear hb9
    go_wp2_with fail
    refine hK.out _ _ (⟨mark_at (unhide HI).mark, room_at (unhide HI).mine⟩) (fun hHeld => ?_)
    clear hK K
    refine take_dst (i := 6) (dst := some 43) (v := ?_) rfl rfl (by kernel_rfl) (by kernel_rfl) (by kernel_rfl) (fun _ _ _ h => h) (Or.inl ⟨by rfl, ?_⟩) hHeld ?_
    rotate_left
    · intro w hSw; obtain ⟨⟨z0, z1, z2⟩, y0, y1, y2⟩ := hSw; go_simp; try (with_reducible rfl)
    simp only [Act.put, List.setIfInBounds_toArray, List.set_cons_zero, List.set_cons_succ]
    refine take_dst (i := 7) (dst := some 44) (v := ?_) rfl rfl (by kernel_rfl) (by kernel_rfl) (by kernel_rfl) (fun _ _ _ h => h) (Or.inl ⟨by rfl, ?_⟩) hHeld ?_
    rotate_left
    · intro w hSw; obtain ⟨⟨z0, z1, z2⟩, y0, y1, y2⟩ := hSw; go_simp; try (with_reducible rfl)
    simp only [Act.put, List.setIfInBounds_toArray, List.set_cons_zero, List.set_cons_succ]
    refine take_dst (i := 8) (dst := some 45) (v := ?_) rfl rfl (by kernel_rfl) (by kernel_rfl) (by kernel_rfl) (fun _ _ _ h => h) (Or.inl ⟨by rfl, ?_⟩) hHeld ?_
    rotate_left
    · intro w hSw; obtain ⟨⟨z0, z1, z2⟩, y0, y1, y2⟩ := hSw; go_simp; try (with_reducible rfl)
    simp only [Act.put, List.setIfInBounds_toArray, List.set_cons_zero, List.set_cons_succ]
    refine take_dst (i := 9) (dst := some 46) (v := ?_) rfl rfl (by kernel_rfl) (by kernel_rfl) (by kernel_rfl) (fun _ _ _ h => h) (Or.inl ⟨by rfl, ?_⟩) hHeld ?_
    rotate_left
    · intro w hSw; obtain ⟨⟨z0, z1, z2⟩, y0, y1, y2⟩ := hSw; go_simp; try (with_reducible rfl)
    simp only [Act.put, List.setIfInBounds_toArray, List.set_cons_zero, List.set_cons_succ]
    refine take_dst (i := 10) (dst := some 47) (v := ?_) rfl rfl (by kernel_rfl) (by kernel_rfl) (by kernel_rfl) (fun _ _ _ h => h) (Or.inl ⟨by rfl, ?_⟩) hHeld ?_
    rotate_left
    · intro w hSw; obtain ⟨⟨z0, z1, z2⟩, y0, y1, y2⟩ := hSw; go_simp; try (with_reducible rfl)
    simp only [Act.put, List.setIfInBounds_toArray, List.set_cons_zero, List.set_cons_succ]
    refine take_dst (i := 11) (dst := some 48) (v := ?_) rfl rfl (by kernel_rfl) (by kernel_rfl) (by kernel_rfl) (fun _ _ _ h => h) (Or.inl ⟨by rfl, ?_⟩) hHeld ?_
    rotate_left
    · intro w hSw; obtain ⟨⟨z0, z1, z2⟩, y0, y1, y2⟩ := hSw; go_simp; try (with_reducible rfl)
    simp only [Act.put, List.setIfInBounds_toArray, List.set_cons_zero, List.set_cons_succ]
    refine take_dst (i := 12) (dst := some 49) (v := ?_) rfl rfl (by kernel_rfl) (by kernel_rfl) (by kernel_rfl) (fun _ _ _ h => h) (Or.inl ⟨by rfl, ?_⟩) hHeld ?_
    rotate_left
    · intro w hSw; obtain ⟨⟨z0, z1, z2⟩, y0, y1, y2⟩ := hSw; go_simp; try (with_reducible rfl)
    simp only [Act.put, List.setIfInBounds_toArray, List.set_cons_zero, List.set_cons_succ]
    refine take_dst (i := 13) (dst := some 50) (v := ?_) rfl rfl (by kernel_rfl) (by kernel_rfl) (by kernel_rfl) (fun _ _ _ h => h) (Or.inl ⟨by rfl, ?_⟩) hHeld ?_
    rotate_left
    · intro w hSw; obtain ⟨⟨z0, z1, z2⟩, y0, y1, y2⟩ := hSw; go_simp; try (with_reducible rfl)
    simp only [Act.put, List.setIfInBounds_toArray, List.set_cons_zero, List.set_cons_succ]
    refine take_dst (i := 14) (dst := some 51) (v := ?_) rfl rfl (by kernel_rfl) (by kernel_rfl) (by kernel_rfl) (fun _ _ _ h => h) (Or.inl ⟨by rfl, ?_⟩) hHeld ?_
    rotate_left
    · intro w hSw; obtain ⟨⟨z0, z1, z2⟩, y0, y1, y2⟩ := hSw; go_simp; try (with_reducible rfl)
    simp only [Act.put, List.setIfInBounds_toArray, List.set_cons_zero, List.set_cons_succ]
    refine take_dst (i := 15) (dst := some 52) (v := ?_) rfl rfl (by kernel_rfl) (by kernel_rfl) (by kernel_rfl) (fun _ _ _ h => h) (Or.inl ⟨by rfl, ?_⟩) hHeld ?_
    rotate_left
    · intro w hSw; obtain ⟨⟨z0, z1, z2⟩, y0, y1, y2⟩ := hSw; go_simp; try (with_reducible rfl)
    simp only [Act.put, List.setIfInBounds_toArray, List.set_cons_zero, List.set_cons_succ]
    refine take_dst (i := 16) (dst := some 53) (v := ?_) rfl rfl (by kernel_rfl) (by kernel_rfl) (by kernel_rfl) (fun _ _ _ h => h) (Or.inl ⟨by rfl, ?_⟩) hHeld ?_
    rotate_left
    · intro w hSw; obtain ⟨⟨z0, z1, z2⟩, y0, y1, y2⟩ := hSw; go_simp; try (with_reducible rfl)
    simp only [Act.put, List.setIfInBounds_toArray, List.set_cons_zero, List.set_cons_succ]
    refine wpAnyH_done (by kernel_rfl) ?_ _
    clear HS qn g55 hlt6
    obtain ⟨ys0, hy0⟩ := unhide HA
    obtain ⟨ua, uc, rfl⟩ := own_form hy0
    clear hy0
    go_wp2
    go_loopw [56] (fun x W => ∃ k : Nat, x = .int .i64 k ∧ k ≤ m.length ∧ OI w l m R rc c g cap (.slice ua m.length uc) vb 0 (flat3 (l ++ [markT, markT])) W ∧ ∃ ys, W.ownsRow w.heap.size 27 3 (.slice ua m.length uc) m.length ys) (fun x _ => m.length - (intOf x).toNat)
    case atStart => exact ⟨0, rfl, Nat.zero_le _, unhide HI, unhide HA⟩
    case round =>
      clear HI HA
      obtain ⟨k, rfl, hk, hI, ys, hy⟩ := hrel
      by_cases hlt : k < m.length
      · have hlt' : (k : Int) < m.length := by omega
        obtain ⟨A, rfl⟩ := own_some hy (by omega)
        obtain ⟨⟨v0, c0⟩, f0⟩ := own_cell3 hy (j := k * 3) (by omega)
        obtain ⟨⟨v1, c1⟩, f1⟩ := own_cell3 hy (j := k * 3 + 1) (by omega)
        obtain ⟨⟨v2, c2⟩, f2⟩ := own_cell3 hy (j := k * 3 + 2) (by omega)
        obtain ⟨z0, z1, z2⟩ := mark_at hI.mark
        obtain ⟨ys', hy', hg'⟩ := own_store3 hy (k * 3) (.int .i64 (-9)) (.int .i64 0) (.int .i64 0)
        have HI' := hide (hI.grown_a hg')
        have HA' := hide hy'
        clear hy hI hy' hg'
        go_wp2
        go_roundw
        case rel => exact ⟨k + 1, by go_num, by omega, unhide HI', _, unhide HA'⟩
        case measure => simp [intOf]; omega
      · obtain rfl : k = m.length := by omega
        obtain ⟨z0, z1, z2⟩ := mark_at hI.mark
        have HI := hide hI; have HY := hide hy
        clear hI hy
        have Hsix := hide (cells_six_new wr (.int .i64 (-9)) (.int .i64 0) (.int .i64 0) (.int .i64 (-9)) (.int .i64 0) (.int .i64 0) 27)
        have hw0 := (unhide HI).bel.size
        go_wp2_with (at_builtin; refine wpList_append_own _ rfl _ _ 22 rfl w.heap.size 27 i0 (.agg #[.int .i64 0, .int .i64 0, .int .i64 0]) 3 24 Tryd.underlying22 hi hz0 hz1 hz2 rfl (by decide) (.slice ua m.length uc) m.length ys rfl ((unhide HY).alloc _) ⟨wr.heap.size, 0, none⟩ 2 2 [.int .i64 (-9), .int .i64 0, .int .i64 0, .int .i64 (-9), .int .i64 0, .int .i64 0] rfl rfl (unhide Hsix) (fun u hu => flat3_one [markT, markT] u (by simpa [flat3, markT] using hu)) (by unfold maxLen; omega) (by omega) (by simp; omega) ?_)
        intro v' W5 hown' hgrow _
        have HI5 := hide (((unhide HI).below ((Below.refl _ _).alloc (Nat.le_refl _) _)).grown_a hgrow)
        clear hown' hgrow HI HY Hsix z0 z1 z2 hw0
        have HRw := hide (row_any (some ⟨R, 0, none⟩) rc l hl W5 (trow_pre (unhide HI5).mine))
        go_wp2_with fail
        refine (unhide HRw).mono ?_
        rintro e W6 ⟨vr, rfl, hor, hb6⟩
        obtain ⟨ra, rcap, rfl⟩ := own_form hor
        have Hor := hide hor; have Hb6 := hide hb6
        clear hor hb6 HRw
        go_wp2
        go_loopw [73] (fun x W => ∃ k : Nat, x = .int .i64 k ∧ k ≤ l.length ∧ Below W5.heap.size W5 W ∧ ∃ ns, W.ownsRow W5.heap.size 3 1 (.slice ra l.length rcap) l.length ns) (fun x _ => l.length - (intOf x).toNat)
        case atStart => exact ⟨0, rfl, Nat.zero_le _, unhide Hb6, _, unhide Hor⟩
        case round =>
          clear Hor Hb6
          obtain ⟨k, rfl, hk, hb, ns, hn⟩ := hrel
          by_cases hlt : k < l.length
          · have hlt' : (k : Int) < l.length := by omega
            obtain ⟨B, rfl⟩ := own_some hn (by omega)
            obtain ⟨⟨v0, c0⟩, f0⟩ := own_cell1 hn (j := k) hlt
            have s1 := hn.stored k (.int .i64 (-5))
            have Hb' := hide (hb.grown s1.2 hb.size (fun q hq => by cases hq; exact (hn.lt B rfl).1))
            have Hn' := hide s1.1
            clear s1 hn hb
            go_wp2
            go_roundw
            case rel => exact ⟨k + 1, by go_num, by omega, unhide Hb', _, unhide Hn'⟩
            case measure => simp [intOf]; omega
          · obtain rfl : k = l.length := by omega
            have HI7 := hide ((unhide HI5).below hb)
            clear hb hn HI5
            go_wp2
            go_loopw [82] (fun x W => ∃ (k : Nat) (xs : List Value), x = .int .i64 k ∧ k ≤ l.length ∧ OI w l m R rc c g cap (.slice ua m.length uc) vb 0 xs W) (fun x _ => l.length - (intOf x).toNat)
            case atStart => exact ⟨0, _, rfl, Nat.zero_le _, unhide HI7⟩
            case round =>
              clear HI7
              obtain ⟨k, xs, rfl, hk, hI⟩ := hrel
              by_cases hlt : k < l.length
              · have hlt' : (k : Int) < l.length := by omega
                have hy := hI.room
                obtain ⟨⟨v0, c0⟩, f0⟩ := own_cell3 hy (j := k * 3) (by omega)
                obtain ⟨⟨v1, c1⟩, f1⟩ := own_cell3 hy (j := k * 3 + 1) (by omega)
                obtain ⟨⟨v2, c2⟩, f2⟩ := own_cell3 hy (j := k * 3 + 2) (by omega)
                obtain ⟨z0, z1, z2⟩ := mark_at hI.mark
                obtain ⟨xs', hy', hg'⟩ := own_store3 hy (k * 3) (.int .i64 (-9)) (.int .i64 0) (.int .i64 0)
                have HI' := hide (hI.grown_r hg' hy')
                clear hy hI hy' hg'
                go_wp2
                go_roundw
                case rel => exact ⟨k + 1, _, by go_num, by omega, unhide HI'⟩
                case measure => simp [intOf]; omega
              · obtain rfl : k = l.length := by omega
                have HI8 := hide hI
                clear hI
                go_wp2
                go_loopw [92] (fun x W => ∃ k : Nat, x = .int .i64 k ∧ k ≤ l.length ∧ OI w l m R rc c g cap (.slice ua m.length uc) vb k xs W) (fun x _ => l.length - (intOf x).toNat)
                case atStart => exact ⟨0, rfl, Nat.zero_le _, unhide HI8⟩
                case round =>
                  clear HI8
                  obtain ⟨k, rfl, hk, hI⟩ := hrel
                  by_cases hlt : k < l.length
                  · have hlt' : (k : Int) < l.length := by omega
                    have hk0 : (0 : Int) ≤ k := by omega
                    obtain ⟨lb, lo, rfl, hlb, hc⟩ := trow_pos (unhide H1) hlt
                    have HS9 := hide (fun W (hB : Below w.heap.size w W) => show W.cell? ⟨lb, lo + k * 3, none⟩ = some (.int .i64 (l.getD k (0, 0, 0)).1) ∧ W.cell? ⟨lb, lo + k * 3 + 1, none⟩ = some (.int .i64 (l.getD k (0, 0, 0)).2.1) ∧ W.cell? ⟨lb, lo + k * 3 + 2, none⟩ = some (.int .i64 (l.getD k (0, 0, 0)).2.2) from by
                      obtain ⟨q0, q1, q2⟩ := hc k hlt
                      exact ⟨(hB.cell hlb).trans q0, (hB.cell hlb).trans q1, (hB.cell hlb).trans q2⟩)
                    have HI := hide (hI.below ((Below.refl _ _).drew))
                    have HN := hide (next_any c g cap k l (by omega) _ (unhide HI).cur)
                    rw [show wantT l k = l.getD k (0, 0, 0) by simp [wantT, hlt], show nextK l k = k + 1 by simp [nextK, hlt]] at HN
                    clear hc hI
                    go_upto_region 28 with fail
                    generalize l.getD k (0, 0, 0) = x at *
                    obtain ⟨x0, x1, x2⟩ := x
                    simp only [tokV] at HS9 HN
                    have qn := fun w => neq55 x0 x1 x2 x0 x1 x2 w
                    rw [show (!decide ((x0, x1, x2) = (x0, x1, x2))) = false by simp] at qn
                    have g55 := guard55
                    refine wp_region_held_drew (S := fun W : World => W.cell? ⟨lb, lo + k * 3, none⟩ = some (.int .i64 x0) ∧ W.cell? ⟨lb, lo + k * 3 + 1, none⟩ = some (.int .i64 x1) ∧ W.cell? ⟨lb, lo + k * 3 + 2, none⟩ = some (.int .i64 x2)) (by kernel_rfl) (unhide HS9 _ (unhide HI).bel) (fun hHeld => ?_)
                    refine take_dst (i := 0) (dst := some 95) (v := ?_) rfl rfl (by kernel_rfl) (by kernel_rfl) (by kernel_rfl) (fun _ _ _ h => h) (Or.inl ⟨by rfl, ?_⟩) hHeld ?_
                    rotate_left
                    · intro w hSw; obtain ⟨z0, z1, z2⟩ := hSw; go_simp; try (with_reducible rfl)
                    simp only [Act.put, List.setIfInBounds_toArray, List.set_cons_zero, List.set_cons_succ]
                    refine take_dst (i := 2) (dst := some 97) (v := ?_) rfl rfl (by kernel_rfl) (by kernel_rfl) (by kernel_rfl) (fun _ _ _ h => h) (Or.inl ⟨by rfl, ?_⟩) hHeld ?_
                    rotate_left
                    · intro w hSw; obtain ⟨z0, z1, z2⟩ := hSw; go_simp; try (with_reducible rfl)
                    simp only [Act.put, List.setIfInBounds_toArray, List.set_cons_zero, List.set_cons_succ]
                    refine take_dst (i := 3) (dst := some 98) (v := ?_) rfl rfl (by kernel_rfl) (by kernel_rfl) (by kernel_rfl) (fun _ _ _ h => h) (Or.inl ⟨by rfl, ?_⟩) hHeld ?_
                    rotate_left
                    · intro w hSw; obtain ⟨z0, z1, z2⟩ := hSw; go_simp; try (with_reducible rfl)
                    simp only [Act.put, List.setIfInBounds_toArray, List.set_cons_zero, List.set_cons_succ]
                    refine take_dst (i := 4) (dst := some 99) (v := ?_) rfl rfl (by kernel_rfl) (by kernel_rfl) (by kernel_rfl) (fun _ _ _ h => h) (Or.inl ⟨by rfl, ?_⟩) hHeld ?_
                    rotate_left
                    · intro w hSw; obtain ⟨z0, z1, z2⟩ := hSw; go_simp; try (with_reducible rfl)
                    simp only [Act.put, List.setIfInBounds_toArray, List.set_cons_zero, List.set_cons_succ]
                    refine take_dst (i := 5) (dst := some 100) (v := ?_) rfl rfl (by kernel_rfl) (by kernel_rfl) (by kernel_rfl) (fun _ _ _ h => h) (Or.inl ⟨by rfl, ?_⟩) hHeld ?_
                    rotate_left
                    · intro w hSw; obtain ⟨z0, z1, z2⟩ := hSw; go_simp; try (with_reducible rfl)
                    simp only [Act.put, List.setIfInBounds_toArray, List.set_cons_zero, List.set_cons_succ]
                    refine wpAnyH_ready (rs := [1]) (by kernel_rfl) (by simp) ?_
                    refine AllReadyH.cons rfl (fun K hK => ?_) AllReadyH.nil
                    go_simp
                    go_at_call 7
                    refine (unhide HN).mono ?_
                    rintro e W9 ⟨rfl, ho9, hc9⟩
                    have HI9 := hide ((unhide HI).next ho9 hc9)
                    clear ho9 hc9 HN HI
                    go_wp2_with fail
                    refine hK.out _ _ (unhide HS9 _ (unhide HI9).bel) (fun hHeld => ?_)
                    clear hK K
                    refine take_dst (i := 6) (dst := some 101) (v := ?_) rfl rfl (by kernel_rfl) (by kernel_rfl) (by kernel_rfl) (fun _ _ _ h => h) (Or.inl ⟨by rfl, ?_⟩) hHeld ?_
                    rotate_left
                    · intro w hSw; obtain ⟨z0, z1, z2⟩ := hSw; go_simp; try (with_reducible rfl)
                    simp only [Act.put, List.setIfInBounds_toArray, List.set_cons_zero, List.set_cons_succ]
                    refine wpAnyH_done (by kernel_rfl) ?_ _
                    clear qn g55
                    go_wp2
                    go_roundw
                    case rel => exact ⟨k + 1, by go_num, by omega, unhide HI9⟩
                    case measure => simp [intOf]; omega
                  · obtain rfl : k = l.length := by omega
                    rename World => WA
                    obtain ⟨ba, bc, rfl⟩ := own_form hI.brow
                    have HI := hide hI
                    clear hI
                    have HU : Hid (∀ k, k < 2 → ∃ P, ((WA.alloc (.cells #[.slice none 0 0, .int .i64 0] 39)).alloc (.cells #[.pointer none, .pointer (some ⟨WA.heap.size, 0, none⟩)] 23)).cell? ⟨WA.heap.size + 1, k, none⟩ = some P ∧ Unmade ((WA.alloc (.cells #[.slice none 0 0, .int .i64 0] 39)).alloc (.cells #[.pointer none, .pointer (some ⟨WA.heap.size, 0, none⟩)] 23)) P) := hide (by
                      have hs : (WA.alloc (.cells #[.slice none 0 0, .int .i64 0] 39)).heap.size = WA.heap.size + 1 := by simp
                      have hD := heap_new (WA.alloc (.cells #[.slice none 0 0, .int .i64 0] 39)) (.cells #[.pointer none, .pointer (some ⟨WA.heap.size, 0, none⟩)] 23)
                      rw [hs] at hD
                      have hC := (Below.heap_alloc (WA.alloc (.cells #[.slice none 0 0, .int .i64 0] 39)) (.cells #[.pointer none, .pointer (some ⟨WA.heap.size, 0, none⟩)] 23) WA.heap.size (by simp)).trans (heap_new WA _)
                      intro k hk
                      match k, hk with
                      | 0, _ => exact ⟨_, cell_block hD 0 _ rfl, .inl rfl⟩
                      | 1, _ => exact ⟨_, cell_block hD 1 _ rfl, .inr ⟨_, rfl, hC⟩⟩)
                    have HI2 := hide ((unhide HI).below (((Below.refl _ _).alloc (Nat.le_refl _) (.cells #[.slice none 0 0, .int .i64 0] 39)).alloc (by simp) (.cells #[.pointer none, .pointer (some ⟨WA.heap.size, 0, none⟩)] 23)))
                    clear HI
                    go_wp2
                    generalize hWW : ((WA.alloc (.cells #[.slice none 0 0, .int .i64 0] 39)).alloc (.cells #[.pointer none, .pointer (some ⟨WA.heap.size, 0, none⟩)] 23)) = WW at *
                    have hDl : WA.heap.size + 1 < WW.heap.size := by rw [← hWW]; simp
                    clear hWW
                    go_loopw [107] (fun x W => ∃ k : Nat, x = .int .i64 k ∧ k ≤ 2 ∧ Below WW.heap.size WW W) (fun x _ => 2 - (intOf x).toNat)
                    case atStart => exact ⟨0, rfl, Nat.zero_le _, Below.refl _ _⟩
                    case round =>
                      obtain ⟨k, rfl, hk, hb⟩ := hrel
                      by_cases hlt : k < 2
                      · have hlt' : (k : Int) < 2 := by omega
                        obtain ⟨P, hP, hU⟩ := unhide HU k hlt
                        have c0 := (hb.cell (p := ⟨WA.heap.size + 1, k, none⟩) hDl).trans hP
                        have qn := fun w => neq55 0 0 0 0 0 0 w
                        rw [show (!decide (((0 : Int), (0 : Int), (0 : Int)) = (0, 0, 0))) = false by decide] at qn
                        have g55 := guard55
                        have HP := hide (peek_no P wr (hU.below hb))
                        have Hb := hide hb; have HU0 := hide hU
                        clear hP hb hU
                        go_wp2_with fail
                        refine (unhide HP).mono ?_
                        rintro e w1 ⟨rfl, hb1⟩
                        have Hb1 := hide ((unhide Hb).trans (hb1.mono (unhide Hb).size))
                        have HP := hide (next_no P w1 ((unhide HU0).below (unhide Hb1)))
                        clear hb1 Hb c0
                        go_wp2_with fail
                        refine (unhide HP).mono ?_
                        rintro e w2 ⟨rfl, hb2⟩
                        have Hb2 := hide ((unhide Hb1).trans (hb2.mono (unhide Hb1).size))
                        have HP := hide (back_no0 P w2 ((unhide HU0).below (unhide Hb2)))
                        clear hb2 Hb1
                        go_wp2_with fail
                        refine (unhide HP).mono ?_
                        rintro e w3 ⟨rfl, hb3⟩
                        have Hb3 := hide ((unhide Hb2).trans (hb3.mono (unhide Hb2).size))
                        have HP := hide (at_no P w3 ((unhide HU0).below (unhide Hb3)))
                        clear hb3 Hb2
                        go_wp2_with fail
                        refine (unhide HP).mono ?_
                        rintro e w4 ⟨rfl, rfl⟩
                        have HP := hide (left_no P w3 ((unhide HU0).below (unhide Hb3)))
                        go_wp2_with fail
                        refine (unhide HP).mono ?_
                        rintro e w4 ⟨rfl, rfl⟩
                        have HP := hide (mark_no P w3 ((unhide HU0).below (unhide Hb3)))
                        go_wp2_with fail
                        refine (unhide HP).mono ?_
                        rintro e w5 ⟨rfl, hb5⟩
                        have Hb5 := hide ((unhide Hb3).trans (hb5.mono (unhide Hb3).size))
                        clear hb5 Hb3 HP
                        go_wp2
                        go_roundw
                        case rel => exact ⟨k + 1, by go_num, by omega, unhide Hb5⟩
                        case measure => simp [intOf]; omega
                      · obtain rfl : k = 2 := by omega
                        have HI3 := hide ((unhide HI2).below hb)
                        clear hb HI2 HU
                        have HOn := hide (rOnly_any a b ca cb l ks hl hkl wr (trow_below (unhide H1) (Nat.le_refl _) (unhide HI3).bel) (nrow_below (unhide H2) (Nat.le_refl _) (unhide HI3).bel))
                        rw [unhide Hm] at HOn
                        go_wp2_with fail
                        refine (unhide HOn).mono ?_
                        rintro e w4 ⟨v4, rfl, ho4, hb4⟩
                        obtain ⟨ua4, uc4, rfl, ht4, -⟩ := trow_own ho4
                        have HI4 := hide ((unhide HI3).below hb4)
                        obtain ⟨ba', bc', e5, ht5, -⟩ := trow_own (unhide HI4).brow
                        simp only [Value.slice.injEq, true_and] at e5
                        obtain ⟨rfl, rfl⟩ := e5
                        have HSm := hide (same_any ba ua4 bc uc4 m m (by omega) w4 ht5 ht4)
                        rw [show decide (m = m) = true from decide_eq_true rfl] at HSm
                        clear ho4 hb4 ht4 ht5 HI3 HOn
                        go_wp2_with fail
                        refine (unhide HSm).mono ?_
                        rintro e w5 ⟨rfl, hb5⟩
                        have Hb5 := hide ((unhide HI4).bel.trans (hb5.mono (unhide HI4).bel.size))
                        have HAl := hide (alive_any w5 (env_below (unhide HE) (unhide Hb5)))
                        clear hb5 HI4 HSm
                        go_wp2_with fail
                        refine (unhide HAl).mono ?_
                        rintro e w6 ⟨rfl, hb6⟩
                        have Hb6 := hide ((unhide Hb5).trans (hb6.mono (unhide Hb5).size))
                        clear hb6 Hb5 HAl
                        go_wp2
                        go_ret
                        exact ⟨rfl, unhide Hb6⟩
end Go.Proofs.YtkckcnjamlpadabDoor

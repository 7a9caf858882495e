/- The order of sets (layer 2's, the document's). -/
import Derived.Test.YtkimhfajfbcdmaaGreatDoorQW
namespace Go.Proofs.YtkimhfajfbcdmaaGreatDoor
open Go.RowKit

/-- The order of two rows of ranges. -/
def orderV : List Rng → List Rng → Int
  | [], [] => 0
  | [], _ :: _ => -1
  | _ :: _, [] => 1
  | x :: a, y :: b => if x.1 < y.1 then -1 else if y.1 < x.1 then 1 else if x.2 < y.2 then -1 else if y.2 < x.2 then 1 else orderV a b
theorem orderV_drop (l m : List Rng) (k : Nat) (hk : k < l.length) (hm : k < m.length) : orderV (l.drop k) (m.drop k) =
    if (l.getD k (0, 0)).1 < (m.getD k (0, 0)).1 then -1 else if (m.getD k (0, 0)).1 < (l.getD k (0, 0)).1 then 1 else if (l.getD k (0, 0)).2 < (m.getD k (0, 0)).2 then -1 else if (m.getD k (0, 0)).2 < (l.getD k (0, 0)).2 then 1 else orderV (l.drop (k + 1)) (m.drop (k + 1)) := by
  rw [List.drop_eq_getElem_cons hk, List.drop_eq_getElem_cons hm]
  simp [orderV, List.getD_eq_getElem?_getD, List.getElem?_eq_getElem hk, List.getElem?_eq_getElem hm]
theorem orderV_end (l m : List Rng) (k : Nat) (hk : k ≤ l.length) (hm : k ≤ m.length) (h : ¬ (k < l.length ∧ k < m.length)) : orderV (l.drop k) (m.drop k) = if l.length < m.length then -1 else if m.length < l.length then 1 else 0 := by
  by_cases h1 : k < l.length
  · have e : k = m.length := by omega
    subst e
    rw [List.drop_eq_getElem_cons h1, List.drop_length, if_neg (by omega), if_pos h1]; rfl
  · have e : k = l.length := by omega
    subst e
    by_cases h2 : l.length < m.length
    · rw [List.drop_eq_getElem_cons h2, List.drop_length, if_pos h2]; rfl
    · rw [List.drop_length, List.drop_eq_nil_of_le (by omega), if_neg h2, if_neg (by omega)]; rfl
theorem orderV_zero {l m : List Rng} (h : orderV l m = 0) : l = m := by
  induction l generalizing m with
  | nil => cases m with
    | nil => rfl
    | cons y m => simp [orderV] at h
  | cons x l ih => cases m with
    | nil => simp [orderV] at h
    | cons y m =>
      unfold orderV at h
      split at h
      · simp at h
      · split at h
        · simp at h
        · split at h
          · simp at h
          · split at h
            · simp at h
            · have := ih h
              subst this
              congr 1
              exact Prod.ext (by omega) (by omega)
theorem orderV_self (l : List Rng) : orderV l l = 0 := by
  induction l with
  | nil => rfl
  | cons x l ih => simp [orderV, ih]

set_option maxHeartbeats 4000000 in
set_option maxRecDepth 100000 in
theorem order_any (a a2 : Option Addr) (cap cap2 : Nat) (l m : List Rng) (hl : l.length ≤ 281474976710656) (hm : m.length ≤ 281474976710656) (w : World) (hrow : RowAt w a l) (hrow2 : RowAt w a2 m) :
    Calls Tryz.prog 53 #[.slice a l.length cap, .slice a2 m.length cap2] w fun e w' => e = .returned (.int .i64 (orderV l m)) ∧ Below w.heap.size w w' := by
  have Hrow := hide hrow; have Hrow2 := hide hrow2
  clear hrow hrow2
  have HR : Hid (orderV l m = orderV (l.drop 0) (m.drop 0)) := hide rfl
  generalize orderV l m = R at *
  go_enter Tryz.func53, Tryz.ntmps53
  go_wp2
  go_loopw [5] (fun x wr => ∃ k : Nat, x = .int .i64 k ∧ k ≤ l.length ∧ k ≤ m.length ∧ Below w.heap.size w wr ∧ R = orderV (l.drop k) (m.drop k)) (fun x _ => l.length - (intOf x).toNat)
  case atStart => exact ⟨0, rfl, by omega, by omega, Below.refl _ _, unhide HR⟩
  case round =>
    obtain ⟨k, rfl, hk, hk2, hbel, hR⟩ := hrel
    have hsz := hbel.size
    have Hbel := hide hbel; have HRR := hide hR
    clear hbel hR HR
    by_cases hkk : k < l.length ∧ k < m.length
    · obtain ⟨hkl, hkm⟩ := hkk
      obtain ⟨b, off, rfl, hlt, hc⟩ := rowAt_cells (unhide Hrow) (unhide Hbel) hkl
      obtain ⟨b2, off2, rfl, hlt2, hc2⟩ := rowAt_cells (unhide Hrow2) (unhide Hbel) hkm
      have hkl' : (k : Int) < l.length := by omega
      have hkm' : (k : Int) < m.length := by omega
      have hk00 : (0 : Int) ≤ (k : Int) := by omega
      have q0 := (hc k hkl).1
      have q1 := (hc k hkl).2
      have q2 := (hc2 k hkm).1
      have q3 := (hc2 k hkm).2
      have Hst := hide ((unhide HRR).trans (orderV_drop l m k hkl hkm))
      clear hc hc2 HRR
      generalize l.getD k (0, 0) = x at *
      generalize m.getD k (0, 0) = u at *
      obtain ⟨x, y⟩ := x
      obtain ⟨u, v⟩ := u
      simp only at q0 q1 q2 q3 Hst
      generalize hR2 : orderV (l.drop (k + 1)) (m.drop (k + 1)) = R2 at *
      have HR2 := hide hR2
      clear hR2
      have HS := hide (fun (o : Obj) => show (wr.alloc o).cell? ⟨b, off + k * 2, none⟩ = some (.int .i32 x) ∧ (wr.alloc o).cell? ⟨b, off + k * 2 + 1, none⟩ = some (.int .i32 y) ∧ (wr.alloc o).cell? ⟨b2, off2 + k * 2, none⟩ = some (.int .i32 u) ∧ (wr.alloc o).cell? ⟨b2, off2 + k * 2 + 1, none⟩ = some (.int .i32 v) from
        ⟨(World.cell?_alloc_lt _ _ _ hlt).trans q0, (World.cell?_alloc_lt _ _ _ hlt).trans q1, (World.cell?_alloc_lt _ _ _ hlt2).trans q2, (World.cell?_alloc_lt _ _ _ hlt2).trans q3⟩)
      go_wp2_with fail
      refine wp_region_held_drew (S := fun W => W.cell? ⟨b, off + k * 2, none⟩ = some (.int .i32 x) ∧ W.cell? ⟨b, off + k * 2 + 1, none⟩ = some (.int .i32 y) ∧ W.cell? ⟨b2, off2 + k * 2, none⟩ = some (.int .i32 u) ∧ W.cell? ⟨b2, off2 + k * 2 + 1, none⟩ = some (.int .i32 v)) (by kernel_rfl) (⟨q0, q1, q2, q3⟩) (fun hHeld => ?_)
      refine take_dst (i := 0) (dst := some 20) (v := ?_) rfl rfl (by kernel_rfl) (by kernel_rfl) (by kernel_rfl) (fun _ _ _ h => h) (Or.inl ⟨by rfl, ?_⟩) hHeld ?_
      rotate_left
      · intro w hSw; obtain ⟨s0, s1, s2, s3⟩ := hSw; go_simp; try (with_reducible rfl)
      simp only [Act.put, List.setIfInBounds_toArray, List.set_cons_zero, List.set_cons_succ]
      refine take_dst (i := 1) (dst := some 21) (v := ?_) rfl rfl (by kernel_rfl) (by kernel_rfl) (by kernel_rfl) (fun _ _ _ h => h) (Or.inl ⟨by rfl, ?_⟩) hHeld ?_
      rotate_left
      · intro w hSw; obtain ⟨s0, s1, s2, s3⟩ := hSw; go_simp; try (with_reducible rfl)
      simp only [Act.put, List.setIfInBounds_toArray, List.set_cons_zero, List.set_cons_succ]
      refine take_dst (i := 2) (dst := some 22) (v := ?_) rfl rfl (by kernel_rfl) (by kernel_rfl) (by kernel_rfl) (fun _ _ _ h => h) (Or.inl ⟨by rfl, ?_⟩) hHeld ?_
      rotate_left
      · intro w hSw; obtain ⟨s0, s1, s2, s3⟩ := hSw; go_simp; try (with_reducible rfl)
      simp only [Act.put, List.setIfInBounds_toArray, List.set_cons_zero, List.set_cons_succ]
      refine take_dst (i := 3) (dst := some 23) (v := ?_) rfl rfl (by kernel_rfl) (by kernel_rfl) (by kernel_rfl) (fun _ _ _ h => h) (Or.inl ⟨by rfl, ?_⟩) hHeld ?_
      rotate_left
      · intro w hSw; obtain ⟨s0, s1, s2, s3⟩ := hSw; go_simp; try (with_reducible rfl)
      simp only [Act.put, List.setIfInBounds_toArray, List.set_cons_zero, List.set_cons_succ]
      refine take_dst (i := 4) (dst := some 24) (v := ?_) rfl rfl (by kernel_rfl) (by kernel_rfl) (by kernel_rfl) (fun _ _ _ h => h) (Or.inl ⟨by rfl, ?_⟩) hHeld ?_
      rotate_left
      · intro w hSw; obtain ⟨s0, s1, s2, s3⟩ := hSw; go_simp; try (with_reducible rfl)
      simp only [Act.put, List.setIfInBounds_toArray, List.set_cons_zero, List.set_cons_succ]
      refine take_dst (i := 5) (dst := some 25) (v := ?_) rfl rfl (by kernel_rfl) (by kernel_rfl) (by kernel_rfl) (fun _ _ _ h => h) (Or.inl ⟨by rfl, ?_⟩) hHeld ?_
      rotate_left
      · intro w hSw; obtain ⟨s0, s1, s2, s3⟩ := hSw; go_simp; try (with_reducible rfl)
      simp only [Act.put, List.setIfInBounds_toArray, List.set_cons_zero, List.set_cons_succ]
      refine take_dst (i := 6) (dst := some 26) (v := ?_) rfl rfl (by kernel_rfl) (by kernel_rfl) (by kernel_rfl) (fun _ _ _ h => h) (Or.inl ⟨by rfl, ?_⟩) hHeld ?_
      rotate_left
      · intro w hSw; obtain ⟨s0, s1, s2, s3⟩ := hSw; go_simp; try (with_reducible rfl)
      simp only [Act.put, List.setIfInBounds_toArray, List.set_cons_zero, List.set_cons_succ]
      refine take_dst (i := 7) (dst := some 27) (v := ?_) rfl rfl (by kernel_rfl) (by kernel_rfl) (by kernel_rfl) (fun _ _ _ h => h) (Or.inl ⟨by rfl, ?_⟩) hHeld ?_
      rotate_left
      · intro w hSw; obtain ⟨s0, s1, s2, s3⟩ := hSw; go_simp; try (with_reducible rfl)
      simp only [Act.put, List.setIfInBounds_toArray, List.set_cons_zero, List.set_cons_succ]
      refine take_dst (i := 8) (dst := some 28) (v := ?_) rfl rfl (by kernel_rfl) (by kernel_rfl) (by kernel_rfl) (fun _ _ _ h => h) (Or.inl ⟨by rfl, ?_⟩) hHeld ?_
      rotate_left
      · intro w hSw; obtain ⟨s0, s1, s2, s3⟩ := hSw; go_simp; try (with_reducible rfl)
      simp only [Act.put, List.setIfInBounds_toArray, List.set_cons_zero, List.set_cons_succ]
      refine take_dst (i := 9) (dst := some 29) (v := ?_) rfl rfl (by kernel_rfl) (by kernel_rfl) (by kernel_rfl) (fun _ _ _ h => h) (Or.inl ⟨by rfl, ?_⟩) hHeld ?_
      rotate_left
      · intro w hSw; obtain ⟨s0, s1, s2, s3⟩ := hSw; go_simp; try (with_reducible rfl)
      simp only [Act.put, List.setIfInBounds_toArray, List.set_cons_zero, List.set_cons_succ]
      refine take_dst (i := 10) (dst := some 30) (v := ?_) rfl rfl (by kernel_rfl) (by kernel_rfl) (by kernel_rfl) (fun _ _ _ h => h) (Or.inl ⟨by rfl, ?_⟩) hHeld ?_
      rotate_left
      · intro w hSw; obtain ⟨s0, s1, s2, s3⟩ := hSw; go_simp; try (with_reducible rfl)
      simp only [Act.put, List.setIfInBounds_toArray, List.set_cons_zero, List.set_cons_succ]
      refine take_dst (i := 11) (dst := some 31) (v := ?_) rfl rfl (by kernel_rfl) (by kernel_rfl) (by kernel_rfl) (fun _ _ _ h => h) (Or.inl ⟨by rfl, ?_⟩) hHeld ?_
      rotate_left
      · intro w hSw; obtain ⟨s0, s1, s2, s3⟩ := hSw; go_simp; try (with_reducible rfl)
      simp only [Act.put, List.setIfInBounds_toArray, List.set_cons_zero, List.set_cons_succ]
      refine take_dst (i := 12) (dst := some 32) (v := ?_) rfl rfl (by kernel_rfl) (by kernel_rfl) (by kernel_rfl) (fun _ _ _ h => h) (Or.inl ⟨by rfl, ?_⟩) hHeld ?_
      rotate_left
      · intro w hSw; obtain ⟨s0, s1, s2, s3⟩ := hSw; go_simp; try (with_reducible rfl)
      simp only [Act.put, List.setIfInBounds_toArray, List.set_cons_zero, List.set_cons_succ]
      refine take_dst (i := 13) (dst := some 33) (v := ?_) rfl rfl (by kernel_rfl) (by kernel_rfl) (by kernel_rfl) (fun _ _ _ h => h) (Or.inl ⟨by rfl, ?_⟩) hHeld ?_
      rotate_left
      · intro w hSw; obtain ⟨s0, s1, s2, s3⟩ := hSw; go_simp; try (with_reducible rfl)
      simp only [Act.put, List.setIfInBounds_toArray, List.set_cons_zero, List.set_cons_succ]
      refine take_dst (i := 14) (dst := some 34) (v := ?_) rfl rfl (by kernel_rfl) (by kernel_rfl) (by kernel_rfl) (fun _ _ _ h => h) (Or.inl ⟨by rfl, ?_⟩) hHeld ?_
      rotate_left
      · intro w hSw; obtain ⟨s0, s1, s2, s3⟩ := hSw; go_simp; try (with_reducible rfl)
      simp only [Act.put, List.setIfInBounds_toArray, List.set_cons_zero, List.set_cons_succ]
      refine take_dst (i := 15) (dst := some 35) (v := ?_) rfl rfl (by kernel_rfl) (by kernel_rfl) (by kernel_rfl) (fun _ _ _ h => h) (Or.inl ⟨by rfl, ?_⟩) hHeld ?_
      rotate_left
      · intro w hSw; obtain ⟨s0, s1, s2, s3⟩ := hSw; go_simp; try (with_reducible rfl)
      simp only [Act.put, List.setIfInBounds_toArray, List.set_cons_zero, List.set_cons_succ]
      refine take_dst (i := 16) (dst := some 36) (v := ?_) rfl rfl (by kernel_rfl) (by kernel_rfl) (by kernel_rfl) (fun _ _ _ h => h) (Or.inl ⟨by rfl, ?_⟩) hHeld ?_
      rotate_left
      · intro w hSw; obtain ⟨s0, s1, s2, s3⟩ := hSw; go_simp; try (with_reducible rfl)
      simp only [Act.put, List.setIfInBounds_toArray, List.set_cons_zero, List.set_cons_succ]
      refine take_dst (i := 17) (dst := some 37) (v := ?_) rfl rfl (by kernel_rfl) (by kernel_rfl) (by kernel_rfl) (fun _ _ _ h => h) (Or.inl ⟨by rfl, ?_⟩) hHeld ?_
      rotate_left
      · intro w hSw; obtain ⟨s0, s1, s2, s3⟩ := hSw; go_simp; try (with_reducible rfl)
      simp only [Act.put, List.setIfInBounds_toArray, List.set_cons_zero, List.set_cons_succ]
      refine take_dst (i := 18) (dst := some 38) (v := ?_) rfl rfl (by kernel_rfl) (by kernel_rfl) (by kernel_rfl) (fun _ _ _ h => h) (Or.inl ⟨by rfl, ?_⟩) hHeld ?_
      rotate_left
      · intro w hSw; obtain ⟨s0, s1, s2, s3⟩ := hSw; go_simp; try (with_reducible rfl)
      simp only [Act.put, List.setIfInBounds_toArray, List.set_cons_zero, List.set_cons_succ]
      refine take_dst (i := 19) (dst := some 39) (v := ?_) rfl rfl (by kernel_rfl) (by kernel_rfl) (by kernel_rfl) (fun _ _ _ h => h) (Or.inl ⟨by rfl, ?_⟩) hHeld ?_
      rotate_left
      · intro w hSw; obtain ⟨s0, s1, s2, s3⟩ := hSw; go_simp; try (with_reducible rfl)
      simp only [Act.put, List.setIfInBounds_toArray, List.set_cons_zero, List.set_cons_succ]
      refine take_dst (i := 20) (dst := some 40) (v := ?_) rfl rfl (by kernel_rfl) (by kernel_rfl) (by kernel_rfl) (fun _ _ _ h => h) (Or.inl ⟨by rfl, ?_⟩) hHeld ?_
      rotate_left
      · intro w hSw; obtain ⟨s0, s1, s2, s3⟩ := hSw; go_simp; try (with_reducible rfl)
      simp only [Act.put, List.setIfInBounds_toArray, List.set_cons_zero, List.set_cons_succ]
      refine wpAnyH_ready (rs := [21]) (by kernel_rfl) (by simp) ?_
      refine AllReadyH.cons rfl (fun K hK => ?_) AllReadyH.nil
      go_simp
      refine hK.out _ _ (unhide HS _) (fun hHeld => ?_)
      clear hK K
      refine wpAnyH_ready (rs := [22]) (by kernel_rfl) (by simp) ?_
      refine AllReadyH.cons rfl (fun K hK => ?_) AllReadyH.nil
      go_simp
      refine hK.out _ _ (unhide HS _) (fun hHeld => ?_)
      clear hK K
      refine wpAnyH_done (by kernel_rfl) ?_ _
      go_wp2
      go_loopw [7] (fun z wq => ∃ j n : Nat, z = .int .i64 (j : Int) ∧ (j = 0 ∨ j = 2 ∨ j = 4) ∧ wq = (wr.alloc (.cells #[.int .i32 x, .int .i32 u, .int .i32 y, .int .i32 v] 115)).drewN n ∧ (2 ≤ j → ¬ x < u ∧ ¬ u < x) ∧ (4 ≤ j → ¬ y < v ∧ ¬ v < y)) (fun z _ => 4 - (intOf z).toNat)
      case atStart => exact ⟨0, 1, rfl, .inl rfl, rfl, fun h => by omega, fun h => by omega⟩
      case round =>
        obtain ⟨j, n, rfl, hj, rfl, h2, h4⟩ := hrel
        have hbn := (unhide Hbel).alloc hsz (.cells #[.int .i32 x, .int .i32 u, .int .i32 y, .int .i32 v] 115)
        have HB := hide hbn
        clear hbn q0 q1 q2 q3 HS
        rcases hj with rfl | rfl | rfl
        · clear h2 h4
          by_cases c1 : x < u
          · have Hr : Hid (R = -1) := hide (by rw [unhide Hst, if_pos c1])
            go_wp2_with fail
            go_quiet (fail)
            go_wp2
            go_ret
            rw [unhide Hr]
            exact ⟨rfl, below_drewR (below_drewR (unhide HB) _) _⟩
          · by_cases c2 : u < x
            · have Hr : Hid (R = 1) := hide (by rw [unhide Hst, if_neg c1, if_pos c2])
              go_wp2_with fail
              go_quiet (fail)
              go_wp2_with fail
              go_quiet (fail)
              go_wp2
              go_ret
              rw [unhide Hr]
              exact ⟨rfl, below_drewR (below_drewR (below_drewR (unhide HB) _) _) _⟩
            · have Hc := hide (And.intro c1 c2)
              go_wp2_with fail
              go_quiet (fail)
              go_wp2_with fail
              go_quiet (fail)
              go_wp2
              go_roundw
              case rel => exact ⟨2, _, by go_num, by omega, rfl, fun _ => (by have h := unhide Hc; omega), fun h => by omega⟩
              case measure => simp [intOf]
        · have Hc2 := hide (h2 (by omega))
          clear h2 h4
          by_cases c1 : y < v
          · have Hr : Hid (R = -1) := hide (by rw [unhide Hst, if_neg (unhide Hc2).1, if_neg (unhide Hc2).2, if_pos c1])
            go_wp2_with fail
            go_quiet (fail)
            go_wp2
            go_ret
            rw [unhide Hr]
            exact ⟨rfl, below_drewR (below_drewR (unhide HB) _) _⟩
          · by_cases c2 : v < y
            · have Hr : Hid (R = 1) := hide (by rw [unhide Hst, if_neg (unhide Hc2).1, if_neg (unhide Hc2).2, if_neg c1, if_pos c2])
              go_wp2_with fail
              go_quiet (fail)
              go_wp2_with fail
              go_quiet (fail)
              go_wp2
              go_ret
              rw [unhide Hr]
              exact ⟨rfl, below_drewR (below_drewR (below_drewR (unhide HB) _) _) _⟩
            · have Hc := hide (And.intro c1 c2)
              go_wp2_with fail
              go_quiet (fail)
              go_wp2_with fail
              go_quiet (fail)
              go_wp2
              go_roundw
              case rel => exact ⟨4, _, by go_num, by omega, rfl, fun _ => (by have h := unhide Hc2; omega), fun _ => (by have h := unhide Hc; omega)⟩
              case measure => simp [intOf]
        · have Hr : Hid (R = R2) := hide (by rw [unhide Hst, if_neg (h2 (by omega)).1, if_neg (h2 (by omega)).2, if_neg (h4 (by omega)).1, if_neg (h4 (by omega)).2])
          clear h2 h4
          go_wp2
          go_roundw
          case rel => exact ⟨k + 1, by go_num, by omega, by omega, below_drewR (unhide HB) _, by rw [unhide HR2]; exact unhide Hr⟩
          case measure => simp [intOf]; omega
    · have Hend := hide ((unhide HRR).trans (orderV_end l m k hk hk2 hkk))
      by_cases h1 : k < l.length
      · have h1' : (k : Int) < l.length := by omega
        have h2' : ¬ (k : Int) < m.length := by omega
        have h3 : ¬ l.length < m.length := by omega
        have h4 : m.length < l.length := by omega
        have h3' : ¬ (l.length : Int) < m.length := by omega
        have h4' : (m.length : Int) < l.length := by omega
        have Hr : Hid (R = 1) := hide (by rw [unhide Hend, if_neg h3, if_pos h4])
        clear h1 h3 h4 Hend
        go_wp2
        go_ret
        rw [unhide Hr]
        exact ⟨rfl, unhide Hbel⟩
      · have h1' : ¬ (k : Int) < l.length := by omega
        have hke : k = l.length := by omega
        by_cases h2 : l.length < m.length
        · have h2' : (l.length : Int) < m.length := by omega
          have Hr : Hid (R = -1) := hide (by rw [unhide Hend, if_pos h2])
          clear h1 Hend hke
          go_wp2
          go_ret
          rw [unhide Hr]
          exact ⟨rfl, unhide Hbel⟩
        · have h2' : ¬ (l.length : Int) < m.length := by omega
          have h3' : ¬ (m.length : Int) < l.length := by omega
          have Hr : Hid (R = 0) := hide (by rw [unhide Hend, if_neg h2, if_neg (by omega)])
          clear h1 Hend hke
          go_wp2
          go_ret
          rw [unhide Hr]
          exact ⟨rfl, unhide Hbel⟩

end Go.Proofs.YtkimhfajfbcdmaaGreatDoor

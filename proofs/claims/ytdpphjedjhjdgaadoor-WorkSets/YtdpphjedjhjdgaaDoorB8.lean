/- Sets: Within, Meets. -/
import Derived.Test.YtdpphjedjhjdgaaDoorB7
namespace Go.Proofs.YtdpphjedjhjdgaaDoor
open Go.RowKit Go.Maps

/-- Whether all blocks lie within the other set's. -/
def withinB (bl cl : List Blk) : Bool := bl.all fun b => bits .andNot .u64 b.2 (bitsB cl b.1) == 0
/-- Whether none has a bit in common with the other set's. -/
def apartB (bl cl : List Blk) : Bool := bl.all fun b => bits .and .u64 b.2 (bitsB cl b.1) == 0
theorem all_take (f : Blk → Bool) (l : List Blk) (k : Nat) (hk : k < l.length) : (l.take (k + 1)).all f = ((l.take k).all f && f (l.getD k (0, 0))) := by
  rw [List.take_add_one, List.getElem?_eq_getElem hk, List.all_append, List.getD_eq_getElem?_getD, List.getElem?_eq_getElem hk]
  simp
theorem all_not (f : Blk → Bool) (l : List Blk) (k : Nat) (hk : k < l.length) (h : f (l.getD k (0, 0)) = false) : l.all f = false := by
  rw [List.all_eq_false]
  exact ⟨l.getD k (0, 0), by rw [getD_of _ _ hk]; exact List.getElem_mem _, by rw [h]; decide⟩

set_option maxHeartbeats 4000000 in
set_option maxRecDepth 100000 in
theorem within_any (B C : Nat) (O P : Nat → Prop) (bl cl : List Blk) (sz n : Int) (w : World) (h : SetOk w B O bl sz) (hc : SetOk w C P cl n) :
    Calls Tryd.prog 16 #[.pointer (some ⟨B, 0, none⟩), .pointer (some ⟨C, 0, none⟩)] w fun e w' => e = .returned (.bool (withinB bl cl)) ∧ Below w.heap.size w w' := by
  obtain ⟨sv, hB, hr, hs⟩ := h.is.lies
  obtain ⟨va, vc, rfl⟩ := own_form hr
  have hrow := brow_own hr
  have hlen := fit_short h.is.up h.fit
  have c0 := cell_block hB 0 _ rfl
  have hlt0 := lt_of_some hB
  have Hrow := hide hrow
  have HC : Hid (∀ w', Below w.heap.size w w' → SetIs w' C P cl n) := hide (fun w' hb => set_below hc.is hb)
  clear h hc hB hr hs hrow
  go_enter Tryd.func16, Tryd.ntmps16
  go_wp2
  go_loopw [14] (fun x wr => ∃ k : Nat, x = .int .i64 k ∧ k ≤ bl.length ∧ Below w.heap.size w wr ∧ (bl.take k).all (fun b => bits .andNot .u64 b.2 (bitsB cl b.1) == 0) = true) (fun x _ => bl.length - (intOf x).toNat)
  case atStart => exact ⟨0, rfl, Nat.zero_le _, Below.refl _ _, rfl⟩
  case round =>
    obtain ⟨k, rfl, hk, hbel, hall⟩ := hrel
    by_cases hlt : k < bl.length
    · have hlt' : (k : Int) < bl.length := by omega
      rcases unhide Hrow with h | ⟨g, rfl, hgl, hcells⟩
      · subst h; simp at hlt
      obtain ⟨d0, d1⟩ := hcells k hlt
      have e0 := (hbel.cell (p := ⟨g, k * 2, none⟩) hgl).trans d0
      have e1 := (hbel.cell (p := ⟨g, k * 2 + 1, none⟩) hgl).trans d1
      have HA := hide (all_take (fun b => bits .andNot .u64 b.2 (bitsB cl b.1) == 0) bl k hlt)
      rw [hall] at HA
      have HN := hide (all_not (fun b => bits .andNot .u64 b.2 (bitsB cl b.1) == 0) bl k hlt)
      have hbs := hbel.size
      have Hbel := hide hbel
      clear d0 d1 hcells hall hbel
      generalize bl.getD k (0, 0) = b at *
      obtain ⟨t, y⟩ := b
      simp only at e0 e1
      have hb2 := (unhide Hbel).alloc hbs (.cells #[.int .i64 t, .int .u64 y] 73)
      have HT := hide (bitsAt_any C P cl n t _ (unhide HC _ hb2.drew))
      have HD : Hid (∀ w', Below (wr.alloc (.cells #[.int .i64 t, .int .u64 y] 73)).heap.size (wr.alloc (.cells #[.int .i64 t, .int .u64 y] 73)).drew w' → w'.cell? ⟨wr.heap.size, 1, none⟩ = some (.int .u64 y)) := hide (fun w' hb => by
        refine (hb.cell (p := ⟨wr.heap.size, 1, none⟩) (by simp)).trans ?_
        exact World.cell?_alloc_mark wr #[.int .i64 t, .int .u64 y] 73 (0, 0) 1)
      have Hb2 := hide hb2.drew
      clear hb2
      simp only at HA HN
      generalize bitsB cl t = z at *
      by_cases hz : bits .andNot .u64 y z = 0
      · rw [hz] at HA HN
        go_wp2
        go_region_with (go_at_call 36; refine (unhide HT).mono ?_; rintro e w' ⟨rfl, hb⟩; have hc1 := unhide HD w' hb)
        all_goals
          go_wp2
          go_roundw
          case rel => exact ⟨k + 1, by go_num, by omega, (unhide Hb2).trans (hb.mono (by simp; omega)), unhide HA⟩
          case measure => simp [intOf]; omega
      · have HF : Hid (withinB bl cl = false) := hide (unhide HN (by simpa using hz))
        go_wp2
        go_region_with (go_at_call 36; refine (unhide HT).mono ?_; rintro e w' ⟨rfl, hb⟩; have hc1 := unhide HD w' hb)
        all_goals
          go_wp2
          go_ret
          exact ⟨by rw [unhide HF]; rfl, (unhide Hb2).trans (hb.mono (by simp; omega))⟩
    · obtain rfl : k = bl.length := by omega
      rw [List.take_length] at hall
      have HF : Hid (withinB bl cl = true) := hide hall
      have Hbel := hide hbel
      clear hall hbel
      go_wp2
      go_ret
      exact ⟨by rw [unhide HF]; rfl, unhide Hbel⟩

set_option maxHeartbeats 4000000 in
set_option maxRecDepth 100000 in
theorem meets_any (B C : Nat) (O P : Nat → Prop) (bl cl : List Blk) (sz n : Int) (w : World) (h : SetOk w B O bl sz) (hc : SetOk w C P cl n) :
    Calls Tryd.prog 17 #[.pointer (some ⟨B, 0, none⟩), .pointer (some ⟨C, 0, none⟩)] w fun e w' => e = .returned (.bool (!apartB bl cl)) ∧ Below w.heap.size w w' := by
  obtain ⟨sv, hB, hr, hs⟩ := h.is.lies
  obtain ⟨va, vc, rfl⟩ := own_form hr
  have hrow := brow_own hr
  have hlen := fit_short h.is.up h.fit
  have c0 := cell_block hB 0 _ rfl
  have hlt0 := lt_of_some hB
  have Hrow := hide hrow
  have HC : Hid (∀ w', Below w.heap.size w w' → SetIs w' C P cl n) := hide (fun w' hb => set_below hc.is hb)
  clear h hc hB hr hs hrow
  go_enter Tryd.func17, Tryd.ntmps17
  go_wp2
  go_loopw [14] (fun x wr => ∃ k : Nat, x = .int .i64 k ∧ k ≤ bl.length ∧ Below w.heap.size w wr ∧ (bl.take k).all (fun b => bits .and .u64 b.2 (bitsB cl b.1) == 0) = true) (fun x _ => bl.length - (intOf x).toNat)
  case atStart => exact ⟨0, rfl, Nat.zero_le _, Below.refl _ _, rfl⟩
  case round =>
    obtain ⟨k, rfl, hk, hbel, hall⟩ := hrel
    by_cases hlt : k < bl.length
    · have hlt' : (k : Int) < bl.length := by omega
      rcases unhide Hrow with h | ⟨g, rfl, hgl, hcells⟩
      · subst h; simp at hlt
      obtain ⟨d0, d1⟩ := hcells k hlt
      have e0 := (hbel.cell (p := ⟨g, k * 2, none⟩) hgl).trans d0
      have e1 := (hbel.cell (p := ⟨g, k * 2 + 1, none⟩) hgl).trans d1
      have HA := hide (all_take (fun b => bits .and .u64 b.2 (bitsB cl b.1) == 0) bl k hlt)
      rw [hall] at HA
      have HN := hide (all_not (fun b => bits .and .u64 b.2 (bitsB cl b.1) == 0) bl k hlt)
      have hbs := hbel.size
      have Hbel := hide hbel
      clear d0 d1 hcells hall hbel
      generalize bl.getD k (0, 0) = b at *
      obtain ⟨t, y⟩ := b
      simp only at e0 e1
      have hb2 := (unhide Hbel).alloc hbs (.cells #[.int .i64 t, .int .u64 y] 73)
      have HT := hide (bitsAt_any C P cl n t _ (unhide HC _ hb2.drew))
      have HD : Hid (∀ w', Below (wr.alloc (.cells #[.int .i64 t, .int .u64 y] 73)).heap.size (wr.alloc (.cells #[.int .i64 t, .int .u64 y] 73)).drew w' → w'.cell? ⟨wr.heap.size, 1, none⟩ = some (.int .u64 y)) := hide (fun w' hb => by
        refine (hb.cell (p := ⟨wr.heap.size, 1, none⟩) (by simp)).trans ?_
        exact World.cell?_alloc_mark wr #[.int .i64 t, .int .u64 y] 73 (0, 0) 1)
      have Hb2 := hide hb2.drew
      clear hb2
      simp only at HA HN
      generalize bitsB cl t = z at *
      by_cases hz : bits .and .u64 y z = 0
      · rw [hz] at HA HN
        go_wp2
        go_region_with (go_at_call 36; refine (unhide HT).mono ?_; rintro e w' ⟨rfl, hb⟩; have hc1 := unhide HD w' hb)
        all_goals
          go_wp2
          go_roundw
          case rel => exact ⟨k + 1, by go_num, by omega, (unhide Hb2).trans (hb.mono (by simp; omega)), unhide HA⟩
          case measure => simp [intOf]; omega
      · have HF : Hid (apartB bl cl = false) := hide (unhide HN (by simpa using hz))
        go_wp2
        go_region_with (go_at_call 36; refine (unhide HT).mono ?_; rintro e w' ⟨rfl, hb⟩; have hc1 := unhide HD w' hb)
        all_goals
          go_wp2
          go_ret
          exact ⟨by rw [unhide HF]; rfl, (unhide Hb2).trans (hb.mono (by simp; omega))⟩
    · obtain rfl : k = bl.length := by omega
      rw [List.take_length] at hall
      have HF : Hid (apartB bl cl = true) := hide hall
      have Hbel := hide hbel
      clear hall hbel
      go_wp2
      go_ret
      exact ⟨by rw [unhide HF]; rfl, unhide Hbel⟩
end Go.Proofs.YtdpphjedjhjdgaaDoor

/- Sets: the set of 5, 1, 5. -/
import Derived.Test.YtdpphjedjhjdgaaDoorS6
namespace Go.Proofs.YtdpphjedjhjdgaaDoor
open Go.RowKit Go.Maps

/-- What the set has behind so many of 5, 1, 5. -/
def stepB : Nat → List Blk
  | 0 => []
  | 1 => [(0, 32)]
  | _ => [(0, 34)]
def stepN : Nat → Int
  | 0 => 0
  | 1 => 1
  | _ => 2
def l515 : List Int := [5, 1, 5]

theorem blockOf5 (w : World) : Calls Tryd.prog 35 #[.int .i64 5] w fun e w' => e = .returned (.agg #[.int .i64 0, .int .u64 32]) ∧ Below w.heap.size w w' := by
  have h := blockOf_any 5 w
  rw [show (5 : Int) / 64 = 0 by decide, show bitV 5 = 32 by decide] at h
  exact h
theorem blockOf1 (w : World) : Calls Tryd.prog 35 #[.int .i64 1] w fun e w' => e = .returned (.agg #[.int .i64 0, .int .u64 2]) ∧ Below w.heap.size w w' := by
  have h := blockOf_any 1 w
  rw [show (1 : Int) / 64 = 0 by decide, show bitV 1 = 2 by decide] at h
  exact h
theorem lay0 (B : Nat) (w : World) (hB : w.heap[B]? = some (.cells #[.slice none 0 0, .int .i64 0] 53 (0, 0))) :
    Calls Tryd.prog 34 #[.pointer (some ⟨B, 0, none⟩), .agg #[.int .i64 0, .int .u64 32]] w fun e w' => e = .returned (.int .i64 1) ∧ Off (fun j => j = B) w w' ∧ SetIs w' B (fun j => j = B ∨ w.heap.size ≤ j ∧ j < w'.heap.size) (stepB 1) (stepN 1) := by
  have h := lay_first B 0 32 1 (by decide) (fun w => by
    have := ones_any (bits .andNot .u64 32 0) w
    rw [show onesV (bits .andNot .u64 32 0) = 1 by decide +kernel] at this
    exact this) w hB
  rw [show bits .or .u64 0 32 = 32 by decide +kernel] at h
  exact h
theorem lay1 (B : Nat) (O : Nat → Prop) (w : World) (h : SetIs w B O (stepB 1) (stepN 1)) :
    Calls Tryd.prog 34 #[.pointer (some ⟨B, 0, none⟩), .agg #[.int .i64 0, .int .u64 2]] w fun e w' => e = .returned (.int .i64 1) ∧ Off O w w' ∧ SetIs w' B O (stepB 2) (stepN 2) := by
  have h := lay_there B O [(0, 32)] 1 0 2 1 (by decide) (by decide) (by decide) (fun w => by
    have := ones_any (bits .andNot .u64 2 ([((0 : Int), (32 : Int))].getD (loc [(0, 32)] 0) (0, 0)).2) w
    rw [show onesV (bits .andNot .u64 2 ([((0 : Int), (32 : Int))].getD (loc [(0, 32)] 0) (0, 0)).2) = 1 by decide +kernel] at this
    exact this) w h
  rw [show ([((0 : Int), (32 : Int))].set (loc [(0, 32)] 0) (([((0 : Int), (32 : Int))].getD (loc [(0, 32)] 0) (0, 0)).1, bits .or .u64 ([((0 : Int), (32 : Int))].getD (loc [(0, 32)] 0) (0, 0)).2 2)) = [(0, 34)] by decide +kernel] at h
  exact h
theorem lay2 (B : Nat) (O : Nat → Prop) (w : World) (h : SetIs w B O (stepB 2) (stepN 2)) :
    Calls Tryd.prog 34 #[.pointer (some ⟨B, 0, none⟩), .agg #[.int .i64 0, .int .u64 32]] w fun e w' => e = .returned (.int .i64 0) ∧ Off O w w' ∧ SetIs w' B O (stepB 3) (stepN 3) := by
  have h := lay_there B O [(0, 34)] 2 0 32 0 (by decide) (by decide) (by decide) (fun w => by
    have := ones_any (bits .andNot .u64 32 ([((0 : Int), (34 : Int))].getD (loc [(0, 34)] 0) (0, 0)).2) w
    rw [show onesV (bits .andNot .u64 32 ([((0 : Int), (34 : Int))].getD (loc [(0, 34)] 0) (0, 0)).2) = 0 by decide +kernel] at this
    exact this) w h
  rw [show ([((0 : Int), (34 : Int))].set (loc [(0, 34)] 0) (([((0 : Int), (34 : Int))].getD (loc [(0, 34)] 0) (0, 0)).1, bits .or .u64 ([((0 : Int), (34 : Int))].getD (loc [(0, 34)] 0) (0, 0)).2 32)) = [(0, 34)] by decide +kernel] at h
  exact h
theorem off_own {B : Nat} {w W W' : World} (h : Off (fun j => j = B) w W) (h' : Off (fun j => j = B ∨ w.heap.size ≤ j ∧ j < W.heap.size) W W') : Off (fun j => j = B) w W' :=
  off_t' h h' (fun i hi => by rcases hi with h | h; exact .inl h; exact .inr h.1)

set_option maxHeartbeats 4000000 in
set_option maxRecDepth 100000 in
theorem add515 (B : Nat) (a : Addr) (c : Nat) (w : World) (hB : w.heap[B]? = some (.cells #[.slice none 0 0, .int .i64 0] 53 (0, 0))) (hrow : NRow w (some a) l515) (ha : a.block ≠ B) :
    Calls Tryd.prog 20 #[.pointer (some ⟨B, 0, none⟩), .slice (some a) 3 c] w fun e w' => e = .returned (.tuple #[.int .i64 2, .int .i64 0]) ∧ Off (fun j => j = B) w w' ∧ SetIs w' B (fun j => j = B ∨ w.heap.size ≤ j ∧ j < w'.heap.size) [(0, 34)] 2 := by
  have HA := hide (areNumbers_any (some a) c l515 (by decide) w hrow)
  rw [show numsB l515 = true by decide, show l515.length = 3 from rfl] at HA
  obtain ⟨g, off, hga, hgl, hcell⟩ : ∃ g off, a = ⟨g, off, none⟩ ∧ g < w.heap.size ∧ ∀ j, j < 3 → w.cell? ⟨g, off + j, none⟩ = some (.int .i64 (l515.getD j 0)) := by
    rcases hrow with h | ⟨g, off, h, r⟩
    · simp [l515] at h
    · simp only [Option.some.injEq] at h; exact ⟨g, off, h, r⟩
  subst hga
  have HO := hide (fun x w => ones_any x w)
  have hlt := lt_of_some hB
  have hgB : g ≠ B := ha
  clear hrow ha
  go_enter Tryd.func20, Tryd.ntmps20
  go_wp2_with (go_at_call 37; refine (unhide HA).mono ?_; rintro e w' ⟨rfl, hw⟩; obtain rfl := hw.symm)
  go_loopw [16, 6] (fun x s wr => ∃ k : Nat, x = .int .i64 k ∧ k ≤ 3 ∧ s = .int .i64 (stepN k) ∧ Off (fun j => j = B) w wr ∧ (k = 0 ∧ wr.heap[B]? = some (.cells #[.slice none 0 0, .int .i64 0] 53 (0, 0)) ∨ 0 < k ∧ SetIs wr B (fun j => j = B ∨ w.heap.size ≤ j ∧ j < wr.heap.size) (stepB k) (stepN k))) (fun x _ _ => 3 - (intOf x).toNat)
  case atStart => exact ⟨0, rfl, by omega, rfl, off_refl _ _, .inl ⟨rfl, hB⟩⟩
  case round =>
    obtain ⟨k, rfl, hk, rfl, hoff, hst⟩ := hrel
    have HC : Hid (∀ j, j < 3 → wr.cell? ⟨g, off + j, none⟩ = some (.int .i64 (l515.getD j 0))) := hide (fun j hj => (off_cell hoff (p := ⟨g, off + j, none⟩) hgl hgB).trans (hcell j hj))
    have Hoff := hide hoff
    have hwl := hoff.size
    clear hcell hoff HA
    match k, hk with
    | 0, _ =>
      obtain ⟨-, hst⟩ | ⟨h0, hst⟩ := hst
      · have c0 : wr.cell? ⟨g, off, none⟩ = some (.int .i64 5) := unhide HC 0 (by decide)
        have HB5 := hide (blockOf5 wr)
        have HL := hide (fun w' (hb : Below wr.heap.size wr w') => lay0 B w' ((hb.block B (by omega)).trans hst))
        clear hst
        go_wp2_with (first | (go_at_call 35; refine (unhide HB5).mono ?_; rintro e w1 ⟨rfl, hb⟩) | (go_at_call 34; refine (unhide HL w1 hb).mono ?_; rintro e w2 ⟨rfl, ho, hs⟩; have Ho := hide ho; have Hs := hide hs; clear ho hs))
        go_roundw
        case rel =>
          have h1 := off_t (unhide Hoff) (off_t (off_below hb) (unhide Ho))
          exact ⟨1, rfl, by omega, congrArg (Value.int .i64) (by decide +kernel), h1, .inr ⟨by omega, set_mono (unhide Hs) (fun j hj => by rcases hj with h | h; exact .inl h; exact .inr ⟨by have := hb.size; omega, h.2⟩) (fun j hj => by rcases hj with h | h; have := h1.size; omega; exact h.2)⟩⟩
        case measure => simp [intOf]
      · omega
    | 1, _ =>
      obtain ⟨h0, hst⟩ | ⟨h0, hst⟩ := hst
      · omega
      · have c0 : wr.cell? ⟨g, off + 1, none⟩ = some (.int .i64 1) := unhide HC 1 (by decide)
        have HB5 := hide (blockOf1 wr)
        have HL := hide (fun w' (hb : Below wr.heap.size wr w') => lay1 B _ w' (set_below hst hb))
        clear hst
        go_wp2_with (first | (go_at_call 35; refine (unhide HB5).mono ?_; rintro e w1 ⟨rfl, hb⟩) | (go_at_call 34; refine (unhide HL w1 hb).mono ?_; rintro e w2 ⟨rfl, ho, hs⟩; have Ho := hide ho; have Hs := hide hs; clear ho hs))
        go_roundw
        case rel =>
          have h1 := off_own (unhide Hoff) (off_t (off_below hb) (unhide Ho))
          exact ⟨2, rfl, by omega, congrArg (Value.int .i64) (by decide +kernel), h1, .inr ⟨by omega, set_mono (unhide Hs) (fun j hj => by rcases hj with h | h; exact .inl h; exact .inr ⟨h.1, by have := hb.size; have := (unhide Ho).size; omega⟩) (fun j hj => by rcases hj with h | h; have := h1.size; omega; exact h.2)⟩⟩
        case measure => simp [intOf]
    | 2, _ =>
      obtain ⟨h0, hst⟩ | ⟨h0, hst⟩ := hst
      · omega
      · have c0 : wr.cell? ⟨g, off + 2, none⟩ = some (.int .i64 5) := unhide HC 2 (by decide)
        have HB5 := hide (blockOf5 wr)
        have HL := hide (fun w' (hb : Below wr.heap.size wr w') => lay2 B _ w' (set_below hst hb))
        clear hst
        go_wp2_with (first | (go_at_call 35; refine (unhide HB5).mono ?_; rintro e w1 ⟨rfl, hb⟩) | (go_at_call 34; refine (unhide HL w1 hb).mono ?_; rintro e w2 ⟨rfl, ho, hs⟩; have Ho := hide ho; have Hs := hide hs; clear ho hs))
        go_roundw
        case rel =>
          have h1 := off_own (unhide Hoff) (off_t (off_below hb) (unhide Ho))
          exact ⟨3, rfl, by omega, congrArg (Value.int .i64) (by decide +kernel), h1, .inr ⟨by omega, set_mono (unhide Hs) (fun j hj => by rcases hj with h | h; exact .inl h; exact .inr ⟨h.1, by have := hb.size; have := (unhide Ho).size; omega⟩) (fun j hj => by rcases hj with h | h; have := h1.size; omega; exact h.2)⟩⟩
        case measure => simp [intOf]
    | 3, _ =>
      obtain ⟨h0, hst⟩ | ⟨h0, hst⟩ := hst
      · omega
      · have Hs := hide hst
        clear hst
        go_wp2
        go_ret2
        exact ⟨rfl, unhide Hoff, unhide Hs⟩

set_option maxHeartbeats 4000000 in
set_option maxRecDepth 100000 in
theorem new515 (a : Addr) (c : Nat) (w : World) (hrow : NRow w (some a) l515) :
    Calls Tryd.prog 5 #[.slice (some a) 3 c] w fun e w' => e = .returned (.tuple #[.pointer (some ⟨w.heap.size, 0, none⟩), .int .i64 0]) ∧ Below w.heap.size w w' ∧ SetIs w' w.heap.size (fun j => w.heap.size ≤ j ∧ j < w'.heap.size) [(0, 34)] 2 := by
  have hb0 : Below w.heap.size w (w.alloc (.cells #[.slice none 0 0, .int .i64 0] 53)) := (Below.refl _ _).alloc (Nat.le_refl _) _
  have HA := hide (add515 w.heap.size a c (w.alloc (.cells #[.slice none 0 0, .int .i64 0] 53)) (MapKept.heap_alloc w _).1 (nrow_below hrow hb0 (Nat.le_refl _)) (by
    rcases hrow with h | ⟨g, off, h, hl, -⟩
    · simp [l515] at h
    · simp only [Option.some.injEq] at h; subst h; show g ≠ w.heap.size; omega))
  have Hb0 := hide hb0
  clear hrow hb0
  go_enter Tryd.func5, Tryd.ntmps5
  go_wp2_with (go_at_call 20; refine (unhide HA).mono ?_; rintro e w1 ⟨rfl, ho, hs⟩; have Ho := hide ho; have Hs := hide hs; clear ho hs)
  go_ret2
  have hsz := (unhide Ho).size
  simp only [World.size_alloc] at hsz
  refine ⟨rfl, (unhide Hb0).trans (off_to (unhide Ho) (fun i hi => by omega) (by simp)), set_mono (unhide Hs) (fun j hj => ?_) (fun j hj => hj.2)⟩
  simp only [World.size_alloc] at hj
  omega
end Go.Proofs.YtdpphjedjhjdgaaDoor

/- Sets: Copy, Same. -/
import Derived.Test.YtdpphjedjhjdgaaDoorC1
import Derived.Deep.RegionLaw
import Derived.Deep.RegionHeld3
import Derived.Lib.SliceRun
import Derived.BigQuiet
namespace Go.Proofs.YtdpphjedjhjdgaaDoor
open Go.RowKit Go.Maps

theorem below_dN {b : Nat} {w w' : World} (h : Below b w w') (q : Nat) : Below b w (w'.drewN q) := by
  induction q with
  | zero => exact h
  | succ q ih => exact ih.drew
theorem lit_nil (w : World) (e : TypeId) (size : Nat) : (w.alloc (.cells #[] e)).ownsRow w.heap.size e size (.slice (some ⟨w.heap.size, 0, none⟩) 0 0) 0 [] :=
  ⟨by simp, .inr ⟨w.heap.size, 0, #[], rfl, Nat.le_refl _, (MapKept.heap_alloc w _).1, Nat.le_refl _, by decide, by simp, by simp⟩⟩
set_option maxHeartbeats 4000000 in
set_option maxRecDepth 100000 in
theorem clone_any (v : Value) (bl : List Blk) (hlen : bl.length ≤ 16384) (w : World) (h : w.ownsRow 0 73 2 v bl.length (flatB bl)) :
    Calls Tryd.prog 33 #[v] w fun e w' => ∃ v', e = .returned v' ∧ w'.ownsRow w.heap.size 73 2 v' bl.length (flatB bl) ∧ Below w.heap.size w w' := by
  obtain ⟨i0, hi, hz0, hz1, hz2⟩ := info_parts hblk
  have q51 : ∀ (w : World) (a : Option Addr) (n c n' c' : Nat), (binOp .eql 51 (.slice a n c) (.slice none n' c')).run Tryd.prog w = .ok (.bool a.isNone) w := fun w a n c n' c' => Lib.run_eql_slice_nil w _ _ a n c n' c' Tryd.underlying51
  rcases h.2 with ⟨rfl, h0⟩ | ⟨g, cap, cur, rfl, _⟩
  · obtain rfl : bl = [] := List.length_eq_zero_iff.1 h0
    clear h
    go_enter Tryd.func33, Tryd.ntmps33
    go_wp2
    go_ret
    exact ⟨_, rfl, ⟨rfl, .inl ⟨rfl, rfl⟩⟩, Below.refl _ _⟩
  · have hg : g < w.heap.size := (h.lt g rfl).2
    have Hn : Hid (∀ j u, (flatB bl)[j]? = some u → (w.alloc (.cells #[] 73)).cell? ((⟨g, 0, none⟩ : Addr).add j) = some u) := hide (fun j u hu => by
      have := h.cells (g := g) rfl j u hu
      rw [Go.WideShapes.add_plain] at this ⊢
      exact (((Below.refl _ w).alloc (Nat.le_refl _) _).cell (p := ⟨g, 0 + j, none⟩) hg).trans this)
    have Hl : Hid ((flatB bl).length = bl.length * 2) := hide (by rw [flatB_length])
    have Hlit := hide (lit_nil w 73 2)
    clear h
    go_enter Tryd.func33, Tryd.ntmps33
    go_wp2_with (at_builtin; refine wpList_append_own _ rfl _ _ 51 rfl w.heap.size 73 i0 (.agg #[.int .i64 0, .int .u64 0]) 2 16 Tryd.underlying51 hi hz0 hz1 hz2 rfl (by decide) _ 0 [] rfl (unhide Hlit) ⟨g, 0, none⟩ bl.length cap (flatB bl) rfl (unhide Hl) (unhide Hn) (flatB_one bl) (by unfold maxLen; omega) (by omega) (by simp) ?_)
    intro v2 W2 hown2 hg2 hv2
    have hb2 : Below w.heap.size w W2 := ((Below.refl _ w).alloc (Nat.le_refl _) _).grown hg2 (by simp) (fun k hk => by simp [Value.ownBlock] at hk; omega)
    have Hown2 := hide hown2; have Hb2 := hide hb2
    clear hown2 hb2 hg2 hv2
    go_wp2
    go_ret
    exact ⟨_, rfl, unhide Hown2, unhide Hb2⟩
theorem own_weak {w : World} {B : Nat} {e : TypeId} {size : Nat} {v : Value} {n : Nat} {xs : List Value} (h : w.ownsRow B e size v n xs) : w.ownsRow 0 e size v n xs := by
  refine ⟨h.1, ?_⟩
  rcases h.2 with h0 | ⟨g, cap, cur, rfl, hg, rest⟩
  · exact .inl h0
  · exact .inr ⟨g, cap, cur, rfl, Nat.zero_le _, rest⟩
theorem own_alloc {w : World} {B : Nat} {e : TypeId} {size : Nat} {v : Value} {n : Nat} {xs : List Value} (h : w.ownsRow B e size v n xs) (o : Obj) : (w.alloc o).ownsRow B e size v n xs := h.alloc o
/-- What Copy lays: a new set with the same blocks. -/
theorem copy_set {w W1 : World} {B : Nat} {O : Nat → Prop} {bl : List Blk} {sz : Int} (h : SetOk w B O bl sz) {v : Value} (hown : W1.ownsRow w.heap.size 73 2 v bl.length (flatB bl)) :
    SetOk (W1.alloc (.cells #[v, .int .i64 sz] 53)) W1.heap.size (fun k => k = W1.heap.size ∨ v.ownBlock = some k) bl sz := by
  refine ⟨⟨.inl rfl, fun k hk => ?_, h.is.up, h.is.short, v, (MapKept.heap_alloc W1 _).1, own_weak (hown.alloc _), fun k hk => .inr hk⟩, h.fit, h.full⟩
  rw [World.size_alloc]
  rcases hk with rfl | hk
  · omega
  · have := (hown.lt k hk).2; omega
set_option maxHeartbeats 4000000 in
set_option maxRecDepth 100000 in
theorem copy_any (B : Nat) (O : Nat → Prop) (bl : List Blk) (sz : Int) (w : World) (h : SetOk w B O bl sz) :
    Calls Tryd.prog 13 #[.pointer (some ⟨B, 0, none⟩)] w fun e w' => ∃ Z, e = .returned (.pointer (some ⟨Z, 0, none⟩)) ∧ Below w.heap.size w w' ∧ ∃ O', SetOk w' Z O' bl sz ∧ ∀ k, O' k → w.heap.size ≤ k := by
  obtain ⟨sv, hB, hr, hs⟩ := h.is.lies
  have hlen := fit_short h.is.up h.fit
  have c0 := cell_block hB 0 _ rfl
  have c1 := cell_block hB 1 _ rfl
  have hlt := lt_of_some hB
  have HC := hide (clone_any sv bl hlen w.drew hr)
  have HD := hide (fun (v : Value) (W1 : World) (h1 : W1.ownsRow w.heap.size 73 2 v bl.length (flatB bl)) (h2 : Below w.heap.size w.drew W1) => show _ ∧ _ from ⟨copy_set h h1, (h2.cell (p := ⟨B, 1, none⟩) hlt).trans c1⟩)
  clear h hB hr hs
  go_enter Tryd.func13, Tryd.ntmps13
  go_wp2
  go_region_with (go_at_call 33; refine (unhide HC).mono ?_; rintro e W1 ⟨v1, rfl, hown1, hb1⟩; obtain ⟨va1, vc1, rfl⟩ := own_form hown1; obtain ⟨hok1, c2⟩ := unhide HD _ W1 hown1 hb1; have Hok1 := hide hok1; have Hown1 := hide hown1; have Hb1 := hide hb1; clear hok1 hown1 hb1)
  all_goals
    go_wp2
    go_ret
    refine ⟨_, rfl, ?_, _, unhide Hok1, fun k hk => ?_⟩
    · have hb := (Below.refl w.heap.size w).drew.trans (unhide Hb1)
      exact hb.alloc hb.size _
    · have hb := (unhide Hb1).size
      rcases hk with rfl | hk
      · exact hb
      · exact ((unhide Hown1).lt k hk).1
set_option maxHeartbeats 4000000 in
set_option maxRecDepth 100000 in
theorem same_any (B C : Nat) (O P : Nat → Prop) (bl cl : List Blk) (sz n : Int) (w : World) (h : SetOk w B O bl sz) (hc : SetOk w C P cl n) :
    Calls Tryd.prog 18 #[.pointer (some ⟨B, 0, none⟩), .pointer (some ⟨C, 0, none⟩)] w fun e w' => e = .returned (.bool (decide (sz = n) && withinB bl cl)) ∧ Below w.heap.size w w' := by
  obtain ⟨sv, hB, hr, hs⟩ := h.is.lies
  have c1 := cell_block hB 1 _ rfl
  have hdr : Below w.heap.size w w.drew := (Below.refl _ w).drew
  have HL := hide (fun q => lenS_any C P cl n (w.drewN q) (set_below hc.is (below_dN (Below.refl _ w) q)))
  have HL0 := hide (lenS_any C P cl n w.drew (set_below hc.is hdr))
  have HW := hide (within_any B C O P bl cl sz n w.drew (ok_below h hdr) (ok_below hc hdr))
  clear hdr
  clear h hc hB hr hs
  by_cases hz : sz = n
  · subst hz
    rw [decide_eq_true rfl, Bool.true_and]
    generalize withinB bl cl = wb at *
    go_enter Tryd.func18, Tryd.ntmps18
    go_wp2
    go_region_with (first | (go_at_call 12; refine (unhide HL0).mono ?_; rintro e w1 ⟨rfl, hw⟩; obtain rfl := hw.symm) | (go_at_call 16; refine (unhide HW).mono ?_; rintro e w1 ⟨rfl, hb⟩; have Hb := hide hb; clear hb))
    all_goals
      go_wp2
      go_ret
      exact ⟨rfl, (Below.refl _ w).drew.trans (unhide Hb)⟩
  · have hd : decide (sz = n) = false := decide_eq_false hz
    rw [hd, Bool.false_and]
    go_enter Tryd.func18, Tryd.ntmps18
    go_wp2
    go_quiet ((go_at_call 12; exact Calls.quiet_of_same (unhide HL _)))
    all_goals
      go_wp2
      go_ret
      exact ⟨rfl, below_dN (Below.refl _ w) _⟩
end Go.Proofs.YtdpphjedjhjdgaaDoor

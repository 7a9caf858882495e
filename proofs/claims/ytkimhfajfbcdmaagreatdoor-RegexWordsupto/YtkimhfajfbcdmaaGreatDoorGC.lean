/- Pools: a new pool. -/
import Derived.Test.YtkimhfajfbcdmaaGreatDoorQE
import Derived.Laws.MakeOwn
import Derived.Laws.EntriesVeiled
namespace Go.Proofs.YtkimhfajfbcdmaaGreatDoor
open Go.RowKit Go.Maps

variable {av : Nat → Prop}

theorem make16 (w : World) : ∃ mc : Array Value, mc.size = 16 * 6 ∧ (Instr.makeSlice 55 (.int .i64 0) (.int .i64 16)).run Tryz.prog w = .ok (.slice (some ⟨w.heap.size, 0, none⟩) 0 16) (w.alloc (.cells mc 65)) := by
  obtain ⟨i0, hi, hz0, hz1, hz2⟩ := info_parts hnode
  refine ⟨_, ?_, run_makeSlice w 55 65 i0 _ Tryz.underlying55 hi hz0 .i64 .i64 0 16 (by decide) (by decide) (by rw [hz1]; decide) (by rw [hz2]; decide) (by decide)⟩
  rw [size_madeCells, hz1]
  rfl
/-- The three that every pool has. -/
def base3 : List Ab := [⟨0, [], [], 1, 1, false⟩, ⟨1, [], [], 1, 1, true⟩, ⟨6, [], [0], 2, 2, true⟩]
theorem base3_put : putL (putL (putL [] 0 [] []) 1 [] []) 6 [] [0] = base3 := by kernel_rfl
theorem base3_len1 : (putL [] 0 [] []).length = 1 := by kernel_rfl
theorem base3_len2 : (putL (putL [] 0 [] []) 1 [] []).length = 2 := by kernel_rfl
def freshW (w : World) (mc : Array Value) (ov : Value) : World := (((w.alloc (.cells mc 65)).alloc (.map #[] 0)).alloc (.map #[] 0)).alloc (.cells #[.slice (some ⟨w.heap.size, 0, none⟩) 0 16, .map (some (w.heap.size + 1)), .slice none 0 0, .map (some (w.heap.size + 1 + 1)), ov, .int .i64 0] 61)
theorem fresh_below (w : World) (mc : Array Value) (ov : Value) : Below w.heap.size w (freshW w mc ov) := ((((Below.refl _ w).alloc (Nat.le_refl _) _).alloc (by simp) _).alloc (by simp; omega) _).alloc (by simp; omega) _
theorem pool_fresh (w : World) (mc : Array Value) (ov : Value) (hmc : mc.size = 16 * 6) : Pool (fun _ => False) (freshW w mc ov) w.heap.size (w.heap.size + 1 + 1 + 1) (w.heap.size + 1) (w.heap.size + 1 + 1) [] ov 0 0 (.map []) := by
  have hn : (w.alloc (.cells mc 65)).ownsRow w.heap.size 65 6 (.slice (some ⟨w.heap.size, 0, none⟩) 0 16) 0 [] := World.ownsRow_made w mc 16 (Nat.le_refl _) (by unfold maxLen; omega) hmc
  have h1 := World.ownsMap_made (H := Unit) (w.alloc (.cells mc 65)) Tryz.prog 9 (plainElem Tryz.prog 3)
  have h2 := World.ownsMap_made (H := Unit) ((w.alloc (.cells mc 65)).alloc (.map #[] 0)) Tryz.prog 102 (plainElem Tryz.prog 3)
  simp only [World.size_alloc] at h1 h2
  refine ⟨by omega, by omega, by omega, by omega, ⟨by simp [keysA], by simp, by simp, by simp, by simp, by simp⟩, h2.alloc _, [], w.heap.size, 16, .slice none 0 0, [], .map [], ?_⟩
  refine ⟨rfl, ?_, ((hn.alloc _).alloc _).alloc _, World.ownsRow_nil _ _ _ _, (h1.alloc _).alloc _, fun s => ⟨by simp [keysA]; rfl, by simp [keysA, posB]; rfl⟩, by simp⟩
  have := (MapKept.heap_alloc (((w.alloc (.cells mc 65)).alloc (.map #[] 0)).alloc (.map #[] 0)) (.cells #[.slice (some ⟨w.heap.size, 0, none⟩) 0 16, .map (some (w.heap.size + 1)), .slice none 0 0, .map (some (w.heap.size + 1 + 1)), ov, .int .i64 0] 61)).1
  simp only [World.size_alloc] at this
  exact this
def cmpV (pb : Nat) : Value := .func (.func 25) #[.pointer (some ⟨pb, 0, none⟩)] #[]
set_option maxHeartbeats 4000000 in
set_option maxRecDepth 100000 in
theorem newPool_any (w : World) :
    Calls Tryz.prog 11 #[] w fun e' w' => ∃ pb mb sb, e' = .returned (.pointer (some ⟨pb, 0, none⟩)) ∧ Pool (fun _ => False) w' w.heap.size pb mb sb base3 (cmpV pb) 0 0 (.map []) ∧ Below w.heap.size w w' := by
  have hmf : ∀ (fn : Fn) (first cap : Array Value) (w : World), (Instr.makeFunc fn first cap).run Tryz.prog w = .ok (.func fn first cap) w := fun _ _ _ _ => rfl
  have qk := fun w : World => run_makeMap (P := Tryz.prog) 56 w
  have qs := fun w : World => run_makeMap (P := Tryz.prog) 57 w
  obtain ⟨mc, hmc, hmk⟩ := make16 w
  have hP1 := pool_fresh w mc (cmpV (w.heap.size + 1 + 1 + 1)) hmc
  have hf : Fr w.heap.size (w.heap.size + 1) (w.heap.size + 1 + 1) w (freshW w mc (cmpV (w.heap.size + 1 + 1 + 1))) := fr_below (fresh_below w mc _)
  have hB1 := hf.size
  have HP1 := hide hP1; have Hf := hide hf
  clear hP1 hf hmc
  unfold freshW cmpV at HP1 Hf hB1
  go_enter Tryz.func11, Tryz.ntmps11
  go_wp2_with fail
  refine (put_any _ w.heap.size (w.heap.size + 1 + 1 + 1) (w.heap.size + 1) (w.heap.size + 1 + 1) [] _ 0 0 (.map []) (unhide HP1) hB1 0 none none 0 0 [] [] (by simp) (by simp) (rrow_nil _ _) (nrow_nil _ _) (held_none _ _ _ _) (held_none _ _ _ _) (by simp) (by simp) (by simp) (by simp)).mono ?_
  rintro e1 W1 ⟨rfl, hp1, hf1⟩
  have hfa := fr_t (unhide Hf) hf1
  have hB2 := hfa.size
  have Hp1 := hide hp1; have Hfa := hide hfa
  clear hp1 hf1 hfa HP1 Hf hB1 hmk
  go_wp2_with fail
  refine (put_any W1 w.heap.size (w.heap.size + 1 + 1 + 1) (w.heap.size + 1) (w.heap.size + 1 + 1) _ _ 0 0 (.map []) (unhide Hp1) hB2 1 none none 0 0 [] [] (by simp) (by simp) (rrow_nil _ _) (nrow_nil _ _) (held_none _ _ _ _) (held_none _ _ _ _) (by simp) (by simp) (by simp) (by rw [base3_len1]; decide)).mono ?_
  rintro e1 W2 ⟨rfl, hp2, hf2⟩
  have hb2 : Below W2.heap.size W2 (W2.alloc (.cells #[.int .i64 0] 3)) := (Below.refl _ _).alloc (Nat.le_refl _) _
  have hfb := fr_t (unhide Hfa) hf2
  have hfc := fr_t hfb (fr_below hb2)
  have hB3 := hfc.size
  have hp2' := pool_below hp2 hb2
  have hbx : (W2.alloc (.cells #[.int .i64 0] 3)).heap[W2.heap.size]? = some (.cells #[.int .i64 0] 3 (0, 0)) := (MapKept.heap_alloc W2 _).1
  have HPut := hide (put_any _ w.heap.size (w.heap.size + 1 + 1 + 1) (w.heap.size + 1) (w.heap.size + 1 + 1) _ _ 0 0 (.map []) hp2' hB3 6 none (some ⟨W2.heap.size, 0, none⟩) 0 1 [] [0] (by simp) (by simp) (rrow_nil _ _) (nrow_one hbx) (held_none _ _ _ _) (held_new _ _ _ hbx (fun h => h) 0) (fun j hj => by
      obtain rfl : j = 0 := by simp at hj; omega
      rw [base3_len2]; simp) (by simp) (by simp) (by rw [base3_len2]; decide))
  have Hfc := hide hfc
  clear hp2 hf2 hfb hfc hp2' hbx Hp1 Hfa hB2 hB3 hb2
  go_wp2_with fail
  refine (unhide HPut).mono ?_
  rintro e1 W3 ⟨rfl, hp3, hf3⟩
  have hfd := fr_t (unhide Hfc) hf3
  rw [base3_put] at hp3
  have Hp3 := hide hp3; have Hfd := hide hfd
  clear hp3 hf3 hfd HPut Hfc
  go_wp2
  go_ret
  exact ⟨_, _, _, rfl, unhide Hp3, fr_base (unhide Hfd) (Nat.le_refl _)⟩
end Go.Proofs.YtkimhfajfbcdmaaGreatDoor

/- Sets: lay into an empty one. -/
import Derived.Test.YtdpphjedjhjdgaaDoorS5
namespace Go.Proofs.YtdpphjedjhjdgaaDoor
open Go.RowKit Go.Maps

set_option maxHeartbeats 8000000 in
set_option maxRecDepth 100000 in
theorem lay_first (B : Nat) (t x k : Int) (hk : 0 ≤ k ∧ k ≤ 64) (hones : ∀ w, Calls Tryd.prog 48 #[.int .u64 (bits .andNot .u64 x 0)] w fun e w' => e = .returned (.int .i64 k) ∧ w' = w)
    (w : World) (hB : w.heap[B]? = some (.cells #[.slice none 0 0, .int .i64 0] 53 (0, 0))) :
    Calls Tryd.prog 34 #[.pointer (some ⟨B, 0, none⟩), .agg #[.int .i64 t, .int .u64 x]] w fun e w' => e = .returned (.int .i64 k) ∧ Off (fun j => j = B) w w' ∧
      SetIs w' B (fun j => j = B ∨ w.heap.size ≤ j ∧ j < w'.heap.size) [(t, bits .or .u64 0 x)] k := by
  have hlt := lt_of_some hB
  have hb0 : Below w.heap.size w (w.alloc (.cells #[.int .i64 t, .int .u64 x] 73)) := (Below.refl _ _).alloc (Nat.le_refl _) _
  have hS : SetIs w B (fun j => j = B) [] 0 := ⟨rfl, fun k h => by omega, List.Pairwise.nil, by simp, .slice none 0 0, hB, ⟨rfl, .inl ⟨rfl, rfl⟩⟩, fun k h => by simp [Value.ownBlock] at h⟩
  have HF := hide (find_set B _ [] 0 t _ (set_below hS hb0))
  rw [show loc [] t = 0 from rfl, show isAt [] t = false from rfl] at HF
  have HO := hide hones
  have HB := hide hB
  clear hones hS hb0 hB
  go_enter Tryd.func34, Tryd.ntmps34
  go_wp2_with (go_at_call 46; refine (unhide HF).mono ?_; rintro e w1 ⟨rfl, hb⟩)
  have hbw : Below w.heap.size w w1 := ((Below.refl _ _).alloc (Nat.le_refl _) _).trans (hb.mono (by simp))
  have ct : w1.cell? ⟨w.heap.size, 0, none⟩ = some (.int .i64 t) := (hb.cell (p := ⟨w.heap.size, 0, none⟩) (by simp)).trans (World.cell?_alloc_mark w #[.int .i64 t, .int .u64 x] 73 (0, 0) 0)
  have cx : w1.cell? ⟨w.heap.size, 1, none⟩ = some (.int .u64 x) := (hb.cell (p := ⟨w.heap.size, 1, none⟩) (by simp)).trans (World.cell?_alloc_mark w #[.int .i64 t, .int .u64 x] 73 (0, 0) 1)
  have hB1 : w1.heap[B]? = some (.cells #[.slice none 0 0, .int .i64 0] 53 (0, 0)) := (hbw.block B hlt).trans (unhide HB)
  have c0 := cell_block hB1 0 _ rfl
  have f0 := frozen_block hB1 0
  have hsz : w.heap.size < w1.heap.size := by have := hb.size; simp at this; omega
  have HI := hide (insert_first t w1.heap.size (w1.alloc (.cells #[.int .i64 t, .int .u64 0] 73)).drew (World.cell?_alloc_mark w1 #[.int .i64 t, .int .u64 0] 73 (0, 0) 0) (World.cell?_alloc_mark w1 #[.int .i64 t, .int .u64 0] 73 (0, 0) 1))
  have HP : Hid (∀ w2 g, g = w1.heap.size + 1 → Below (w1.alloc (.cells #[.int .i64 t, .int .u64 0] 73)).drew.heap.size (w1.alloc (.cells #[.int .i64 t, .int .u64 0] 73)).drew w2 →
      w2.heap[B]? = some (.cells #[.slice none 0 0, .int .i64 0] 53 (0, 0)) ∧ w2.cell? ⟨w.heap.size, 1, none⟩ = some (.int .u64 x) ∧ Below w.heap.size w w2) := hide (fun w2 g hg hb2 => by
    have hb3 : Below w1.heap.size w1 w2 := (((Below.refl _ w1).alloc (Nat.le_refl _) _).drew).trans (hb2.mono (by simp))
    exact ⟨(hb3.block B (by omega)).trans hB1, (hb3.cell (p := ⟨w.heap.size, 1, none⟩) hsz).trans cx, hbw.trans (hb3.mono hbw.size)⟩)
  have hBl : B < w1.heap.size := by omega
  clear hB1 hb hbw
  go_region_with (go_at_call 47; refine (unhide HI).mono ?_; rintro e w2 ⟨g, c, rfl, hown, hg, hb2⟩; obtain ⟨hB2, cx2, hbw2⟩ := unhide HP w2 g (by simpa using hg) hb2; have d0 := cell_block hB2 0 _ rfl; have e0 := frozen_block hB2 0)
  all_goals
    have hg' : g = w1.heap.size + 1 := by simpa using hg
    subst hg'
    have hB3 : (w2.setCell ⟨B, 0, none⟩ (.slice (some ⟨w1.heap.size + 1, 0, none⟩) 1 c)).heap[B]? = some (.cells #[.slice (some ⟨w1.heap.size + 1, 0, none⟩) 1 c, .int .i64 0] 53 (0, 0)) := block_set (i := 0) hB2 _
    have hr3 : (w2.setCell ⟨B, 0, none⟩ (.slice (some ⟨w1.heap.size + 1, 0, none⟩) 1 c)).ownsRow 0 73 2 (.slice (some ⟨w1.heap.size + 1, 0, none⟩) 1 c) 1 [.int .i64 t, .int .u64 0] :=
      own_off (O := fun k => k = B) hown (off_set (O := fun k => k = B) (off_refl _ _) (p := ⟨B, 0, none⟩) (.inl rfl) _) (fun k hk e => by simp only [Value.ownBlock, Option.some.injEq] at hk; omega)
    have cx3 : (w2.setCell ⟨B, 0, none⟩ (.slice (some ⟨w1.heap.size + 1, 0, none⟩) 1 c)).cell? ⟨w.heap.size, 1, none⟩ = some (.int .u64 x) :=
      (World.cell?_of_block (w := w2) (Below.heap_setCell _ _ _ w.heap.size (by show w.heap.size ≠ B; omega))).trans cx2
    have ho3 : Off (fun j => j = B) w (w2.setCell ⟨B, 0, none⟩ (.slice (some ⟨w1.heap.size + 1, 0, none⟩) 1 c)) := off_set (O := fun j => j = B) (off_below hbw2) (p := ⟨B, 0, none⟩) (.inl rfl) _
    clear hown hB2 cx2 hbw2 d0 e0 hb2 hg HI HP c0 f0 ct cx
    generalize w2.setCell ⟨B, 0, none⟩ (.slice (some ⟨w1.heap.size + 1, 0, none⟩) 1 c) = W3 at *
    have c0 := cell_block hB3 0 _ rfl
    have c1 := cell_block hB3 1 _ rfl
    have f1 := frozen_block hB3 1
    have cg : W3.cell? ⟨w1.heap.size + 1, 1, none⟩ = some (.int .u64 0) := own_cell hr3 rfl 1 (by simp)
    have fg : W3.frozen? ⟨w1.heap.size + 1, 1, none⟩ = false := hr3.frozenAt _
    have HB3 := hide hB3; have Hr3 := hide hr3; have Ho3 := hide ho3
    clear hB3 hr3 ho3 HB
    go_wp2
    go_quiet ((go_at_call 48; exact Calls.quiet_of_same (unhide HO _)))
    go_wp2
    go_region
    go_wp2
    go_ret
    have s1 := (ownsRow_drewN (unhide Hr3) (nq + 1)).stored 1 (.int .u64 (bits .or .u64 0 x))
    have hB4 : ((W3.drewN (nq + 1)).setCell ⟨w1.heap.size + 1, 1, none⟩ (.int .u64 (bits .or .u64 0 x))).heap[B]? = some (.cells #[.slice (some ⟨w1.heap.size + 1, 0, none⟩) 1 c, .int .i64 0] 53 (0, 0)) := (Below.heap_setCell (W3.drewN (nq + 1)) ⟨w1.heap.size + 1, 1, none⟩ _ B (by show B ≠ w1.heap.size + 1; omega)).trans (unhide HB3)
    have ho : Off (fun j => j = B) w (((W3.drewN (nq + 1)).setCell ⟨w1.heap.size + 1, 1, none⟩ (.int .u64 (bits .or .u64 0 x))).setCell ⟨B, 1, none⟩ (.int .i64 k)) :=
      off_set (O := fun j => j = B) (off_set (off_drewN (unhide Ho3) _) (p := ⟨w1.heap.size + 1, 1, none⟩) (.inr (by show w.heap.size ≤ w1.heap.size + 1; omega)) _) (p := ⟨B, 1, none⟩) (.inl rfl) _
    have hr4 : (((W3.drewN (nq + 1)).setCell ⟨w1.heap.size + 1, 1, none⟩ (.int .u64 (bits .or .u64 0 x))).setCell ⟨B, 1, none⟩ (.int .i64 k)).ownsRow 0 73 2 (.slice (some ⟨w1.heap.size + 1, 0, none⟩) 1 c) 1 [.int .i64 t, .int .u64 (bits .or .u64 0 x)] :=
      own_off (O := fun k => k = B) s1.1 (off_set (O := fun k => k = B) (off_refl _ _) (p := ⟨B, 1, none⟩) (.inl rfl) _) (fun k hk e => by simp only [Value.ownBlock, Option.some.injEq] at hk; omega)
    have hgl := (hr4.lt (w1.heap.size + 1) rfl).2
    refine ⟨rfl, ho, .inl rfl, ?_, List.pairwise_singleton _ _, by simp, .slice (some ⟨w1.heap.size + 1, 0, none⟩) 1 c, block_set hB4 _, hr4, ?_⟩
    · rintro j (rfl | h)
      · have := ho.size; omega
      · exact h.2
    · intro j hj
      simp only [Value.ownBlock, Option.some.injEq] at hj
      exact .inr ⟨by omega, by omega⟩
end Go.Proofs.YtdpphjedjhjdgaaDoor

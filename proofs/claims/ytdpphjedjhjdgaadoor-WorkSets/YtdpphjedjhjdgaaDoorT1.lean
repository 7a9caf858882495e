/- Sets: slices.Insert of one block, where there is no room; at the end; any. -/
import Derived.Test.YtdpphjedjhjdgaaDoorS9
namespace Go.Proofs.YtdpphjedjhjdgaaDoor
open Go.RowKit Go.Maps

theorem below_row {B : Nat} {w0 w : World} (hb : Below B w0 w) (g : Nat) (hBg : B ≤ g) (cs : Array Value) : Below B w0 (w.setRow g cs) :=
  ⟨hb.os, hb.tape, hb.output, by simpa [World.setRow] using hb.size, fun k hk => (setRow_other w g k cs (by omega)).trans (hb.block k hk)⟩
theorem zeros_length (z : Array Value) (k : Nat) : (Builtin.zeroCells z k).toList.length = k * z.size := by
  simp [Builtin.zeroCells]
set_option maxHeartbeats 8000000 in
set_option maxRecDepth 100000 in
/-- There is no room. -/
theorem insert_grow (t : Int) (b g c i : Nat) (bl : List Blk) (hi : i < bl.length) (hn40 : bl.length ≤ 1099511627776) (hc : c = bl.length) (w : World) (hb : w.heap[b]? = some (.cells #[.int .i64 t, .int .u64 0] 73 (0, 0)))
    (hgl : g < w.heap.size) (hcell : ∀ j v, (flatB bl)[j]? = some v → w.cell? ⟨g, j, none⟩ = some v) :
    Calls Tryd.prog 47 #[.slice (some ⟨g, 0, none⟩) bl.length c, .int .i64 i, .slice (some ⟨b, 0, none⟩) 1 1] w fun e w' => ∃ G, e = .returned (.slice (some ⟨w.heap.size, 0, none⟩) (bl.length + 1) G) ∧ Below w.heap.size w w' ∧ bl.length + 1 ≤ G ∧ G ≤ maxLen ∧
      ∃ cur', w'.heap[w.heap.size]? = some (.cells (List.toArray cur') 73 (0, 0)) ∧ cur'.length = G * 2 ∧ cur'.take ((bl.length + 1) * 2) = flatB (insB bl i (t, 0)) := by
  obtain ⟨i0, hi0, hz0, hzs, hzb⟩ := info_parts hblk
  have hbl := lt_of_some hb
  have hfl := flatB_length bl
  have hdl : ((flatB bl).drop (i * 2)).length = (bl.length - i) * 2 := by rw [List.length_drop, hfl]; omega
  have hadd : ∀ k j, (⟨g, k, none⟩ : Addr).add j = ⟨g, k + j, none⟩ := fun k j => by unfold Addr.add; split <;> simp_all
  have hold : (Builtin.firstCells i0.size i (.slice (some ⟨g, 0, none⟩) i c)).run Tryd.prog w.drew = .ok ((flatB bl).take (i * 2)).toArray w.drew := by
    rw [hzs]
    exact run_firstCells_some w.drew 2 i ⟨g, 0, none⟩ i c ((flatB bl).take (i * 2)) (by rw [List.length_take, hfl]; omega) (fun j v hj => by
      rw [hadd, Nat.zero_add]
      rw [List.getElem?_take] at hj
      split at hj
      · exact hcell j v hj
      · cases hj)
  obtain ⟨G, hG⟩ : ∃ G, G = grownCap w (bl.length + 1) c 73 := ⟨_, rfl⟩
  have hGn : bl.length + 1 ≤ G := by rw [hG]; exact grownCap_ge w _ _ _
  have hGm : G ≤ maxLen := by rw [hG]; exact grownCap_le_maxLen w (bl.length + 1) c 73 (by unfold maxLen; omega)
  obtain ⟨ROW, hROW⟩ : ∃ ROW : List Value, ROW = (flatB bl).take (i * 2) ++ ((Builtin.zeroCells (Value.agg #[.int .i64 0, .int .u64 0]).cells (bl.length + 1 - i)).toList ++ (Builtin.zeroCells (Value.agg #[.int .i64 0, .int .u64 0]).cells (G - (bl.length + 1))).toList) := ⟨_, rfl⟩
  have hRl : ROW.length = G * 2 := by
    rw [hROW, List.length_append, List.length_append, zeros_length, zeros_length, List.length_take, hfl]
    show min (i * 2) (bl.length * 2) + ((bl.length + 1 - i) * 2 + (G - (bl.length + 1)) * 2) = G * 2
    omega
  have hRt : ROW.take (i * 2) = (flatB bl).take (i * 2) := by
    rw [hROW, List.take_append_of_le_length (by rw [List.length_take, hfl]; omega), List.take_take, Nat.min_self]
  have hrz : ∀ ty, (Builtin.append_ #[51, 3] ty #[.slice (some ⟨g, 0, none⟩) i c, .int .i64 ((bl.length : Int) + 1 - (i : Int))]).run Tryd.prog w =
      .ok (.slice (some ⟨w.heap.size, 0, none⟩) (bl.length + 1) G) (w.drew.alloc (.cells ROW.toArray 73)) := fun ty => by
    have h := Lib.run_append_grow_zeros w 51 3 ty 73 i0 _ .i64 .i64 Tryd.underlying51 Tryd.underlying3 hi0 hz0 (some ⟨g, 0, none⟩) i c ((flatB bl).take (i * 2)) hold (bl.length + 1 - i) (by omega) (by omega) (by omega) (by omega) (by rw [hzb]; omega) (by rw [hzb, show i + (bl.length + 1 - i) = bl.length + 1 by omega]; exact growslice_fits (by omega) (by omega))
    rw [show i + (bl.length + 1 - i) = bl.length + 1 by omega, ← hG] at h
    have e : ((flatB bl).take (i * 2)).toArray ++ Builtin.zeroCells (Value.agg #[.int .i64 0, .int .u64 0]).cells (bl.length + 1 - i) ++ Builtin.zeroCells (Value.agg #[.int .i64 0, .int .u64 0]).cells (G - (bl.length + 1)) = ROW.toArray := by
      rw [hROW]; apply Array.ext'; simp
    rw [show (bl.length : Int) + 1 - (i : Int) = ((bl.length + 1 - i : Nat) : Int) by omega, h, e]
  have hb1 : (w.drew.alloc (.cells ROW.toArray 73)).heap[b]? = some (.cells #[.int .i64 t, .int .u64 0] 73 (0, 0)) := (Below.heap_alloc w.drew _ b hbl).trans hb
  have hs1 : (w.drew.alloc (.cells ROW.toArray 73)).heap[w.heap.size]? = some (.cells ROW.toArray 73 (0, 0)) := (MapKept.heap_alloc w.drew _).1
  have hc1 : ∀ j v, (flatB bl)[j]? = some v → (w.drew.alloc (.cells ROW.toArray 73)).cell? ⟨g, j, none⟩ = some v := fun j v h => (World.cell?_of_block (Below.heap_alloc w.drew _ g hgl)).trans (hcell j v h)
  obtain ⟨C1, hC1⟩ : ∃ C1, C1 = over ROW (i * 2) [.int .i64 t, .int .u64 0] := ⟨_, rfl⟩
  have hC1l : C1.length = G * 2 := by rw [hC1, over_length _ _ _ (by rw [hRl]; simp; omega), hRl]
  have hcpA : ∀ W : World, W.heap = (w.drew.alloc (.cells ROW.toArray 73)).heap → ∀ ty dc, (Builtin.copy_ #[51, 51] ty #[.slice (some ⟨w.heap.size, i * 2, none⟩) (bl.length + 1 - i) dc, .slice (some ⟨b, 0, none⟩) 1 1]).run Tryd.prog W = .ok (goInt (Nat.min 1 (bl.length + 1 - i))) (W.setRow w.heap.size C1.toArray) := fun W hW ty dc => by
    rw [hC1]
    exact run_copy_rows W 51 51 ty 73 2 w.heap.size (i * 2) (bl.length + 1 - i) dc ⟨b, 0, none⟩ 1 1 ROW 73 [.int .i64 t, .int .u64 0] Tryd.underlying51 size92 (by rw [hW]; exact hs1) (by simp only [Nat.min_def, List.length_cons, List.length_nil]; split <;> omega)
      (World.news_of_block (by rw [hW]; exact hb1)) (by rw [hRl]; simp; omega) (by simp [Value.oneCell'])
  have hs2 : ((w.drew.alloc (.cells ROW.toArray 73)).setRow w.heap.size C1.toArray).heap[w.heap.size]? = some (.cells C1.toArray 73 (0, 0)) := setRow_heap _ _ _ _ 73 _ hs1
  have hc2 : ∀ j v, (flatB bl)[j]? = some v → ((w.drew.alloc (.cells ROW.toArray 73)).setRow w.heap.size C1.toArray).cell? ⟨g, j, none⟩ = some v := fun j v h => (World.cell?_of_block (setRow_other _ _ g _ (by omega))).trans (hc1 j v h)
  obtain ⟨C2, hC2⟩ : ∃ C2, C2 = over C1 (i * 2 + 2) ((flatB bl).drop (i * 2)) := ⟨_, rfl⟩
  have hC2l : C2.length = G * 2 := by rw [hC2, over_length _ _ _ (by rw [hC1l, hdl]; omega), hC1l]
  have hC2t : C2.take ((bl.length + 1) * 2) = flatB (insB bl i (t, 0)) := by
    rw [flat_ins, show (bl.length + 1) * 2 = bl.length * 2 + 2 by omega, hC2, hC1]
    exact over_new hRt hfl (by omega) rfl (by omega)
  have hcpB : ∀ W : World, W.heap = ((w.drew.alloc (.cells ROW.toArray 73)).setRow w.heap.size C1.toArray).heap → ∀ ty dc sc, (Builtin.copy_ #[51, 51] ty #[.slice (some ⟨w.heap.size, (i + 1) * 2, none⟩) (bl.length + 1 - (i + 1)) dc, .slice (some ⟨g, i * 2, none⟩) (bl.length - i) sc]).run Tryd.prog W = .ok (goInt (Nat.min (bl.length - i) (bl.length + 1 - (i + 1)))) (W.setRow w.heap.size C2.toArray) := fun W hW ty dc sc => by
    rw [hC2, show (i + 1) * 2 = i * 2 + 2 by omega]
    exact run_copy_rows W 51 51 ty 73 2 w.heap.size (i * 2 + 2) (bl.length + 1 - (i + 1)) dc ⟨g, i * 2, none⟩ (bl.length - i) sc C1 73 ((flatB bl).drop (i * 2)) Tryd.underlying51 size92 (by rw [hW]; exact hs2) (by rw [hdl]; simp only [Nat.min_def]; split <;> omega)
      (fun j v hj => by
        rw [List.getElem?_drop] at hj
        rw [hadd, show W.cell? ⟨g, i * 2 + j, none⟩ = ((w.drew.alloc (.cells ROW.toArray 73)).setRow w.heap.size C1.toArray).cell? ⟨g, i * 2 + j, none⟩ by exact World.cell?_of_block (by rw [hW])]
        exact hc2 _ _ hj)
      (by rw [hC1l, hdl]; omega) (fun v hv => flatB_one bl v (List.mem_of_mem_drop hv))
  have Hend : Hid (∀ W : World, Below w.heap.size w W → W.heap = ((w.drew.alloc (.cells ROW.toArray 73)).setRow w.heap.size C1.toArray).heap → Below w.heap.size w (W.setRow w.heap.size C2.toArray) ∧ bl.length + 1 ≤ G ∧ G ≤ maxLen ∧
      ∃ cur', (W.setRow w.heap.size C2.toArray).heap[w.heap.size]? = some (.cells (List.toArray cur') 73 (0, 0)) ∧ cur'.length = G * 2 ∧ cur'.take ((bl.length + 1) * 2) = flatB (insB bl i (t, 0))) :=
    hide (fun W hW hh => ⟨below_row hW _ (Nat.le_refl _) _, hGn, hGm, C2, setRow_heap W _ _ _ 73 _ (by rw [hh]; exact hs2), hC2l, hC2t⟩)
  have Hbel : Hid (Below w.heap.size w ((w.alloc (.cells ROW.toArray 73)).drew.setRow w.heap.size C1.toArray).drew) := hide (below_row ((Below.refl _ w).alloc (Nat.le_refl _) _).drew _ (Nat.le_refl _) _).drew
  have hE : ((w.alloc (.cells ROW.toArray 73)).drew).heap = (w.drew.alloc (.cells ROW.toArray 73)).heap := rfl
  have hF : (((w.alloc (.cells ROW.toArray 73)).drew.setRow w.heap.size C1.toArray).drew).heap = ((w.drew.alloc (.cells ROW.toArray 73)).setRow w.heap.size C1.toArray).heap := rfl
  have hz2 : ¬ ((i : Int) = (bl.length : Int)) := by omega
  have hw1 : IntKind.i64.wrap ((i : Int) + 1) = (i : Int) + 1 := by rw [IntKind.wrap_i64]; omega
  have hw2 : IntKind.i64.wrap ((bl.length : Int) + 1) = (bl.length : Int) + 1 := by rw [IntKind.wrap_i64]; omega
  have hw3 : IntKind.i64.wrap ((bl.length : Int) + 1 - i) = (bl.length : Int) + 1 - i := by rw [IntKind.wrap_i64]; omega
  have hb1' : (0 : Int) ≤ (i : Int) + 1 := by omega
  have hin : (i : Int) ≤ (bl.length : Int) := by omega
  have htn : ((i : Int) + 1).toNat = i + 1 := by omega
  have hb2 : ¬ (G = i + 1) := by omega
  have hb3 : (i : Int) ≤ (bl.length : Int) + 1 := by omega
  have hb4 : ¬ (c = i) := by omega
  have hb7 : ¬ (G = i) := by omega
  have hb5 : (c : Int) < (bl.length : Int) + 1 := by omega
  have hb6 : (i : Int) + 1 ≤ (bl.length : Int) + 1 := by omega
  have hb8 : (i : Int) ≤ (c : Int) := by omega
  clear hcell hold hG hROW hRl hRt hC1 hC1l hC2 hC2l hC2t hs1 hs2 hc1 hc2 hb1 hb hdl hfl hGn hGm hadd hc
  go_enter Tryd.func47, Tryd.ntmps47
  go_wp2_with (first | (at_builtin; refine wpList_append_known _ rfl _ _ 51 3 rfl _ _ rfl rfl (hrz _) ?_) | (at_builtin; refine wpList_copy_known _ rfl _ _ 51 51 rfl (.slice (some ⟨w.heap.size, i * 2, none⟩) (bl.length + 1 - i) (G - i)) _ rfl rfl (hcpA _ hE _ _) ?_))
  go_region_law (refine step_copy_known rfl (.tmp 50) (.tmp 53) 51 51 rfl (.slice (some ⟨w.heap.size, (i + 1) * 2, none⟩) (bl.length + 1 - (i + 1)) (G - (i + 1))) (.slice (some ⟨g, i * 2, none⟩) (bl.length - i) (c - i)) (by simp [Act.eval, Act.put]) (by simp [Act.eval, Act.put]) (hcpB _ hF _ _ _) ?_)
  all_goals
    go_wp2
    go_ret
    exact ⟨G, rfl, unhide Hend _ (unhide Hbel) hF⟩
end Go.Proofs.YtdpphjedjhjdgaaDoor

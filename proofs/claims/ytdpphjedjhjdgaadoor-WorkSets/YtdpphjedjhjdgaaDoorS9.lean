/- Sets: slices.Insert of one block. -/
import Derived.Test.YtdpphjedjhjdgaaDoorS8
import Derived.Deep.RegionLaw
namespace Go.Proofs.YtdpphjedjhjdgaaDoor
open Go.RowKit Go.Maps

theorem size92 : (Tryd.prog.info? 73).map (·.size) = some 2 := by kernel_rfl
theorem off_setRow {O : Nat → Prop} {a w : World} (h : Off O a w) {g : Nat} (hg : O g ∨ a.heap.size ≤ g) (cs : Array Value) : Off O a (w.setRow g cs) :=
  ⟨h.os, h.tape, h.output, by simpa [World.setRow] using h.size, fun k hk hn => (setRow_other w g k cs (fun e => by subst e; rcases hg with h1 | h1; exact hn h1; omega)).trans (h.block k hk hn)⟩
/-- A block more. -/
def insB (bl : List Blk) (i : Nat) (b : Blk) : List Blk := bl.take i ++ b :: bl.drop i
theorem flat_ins (bl : List Blk) (i : Nat) (t : Int) : flatB (insB bl i (t, 0)) = (flatB bl).take (i * 2) ++ ([.int .i64 t, .int .u64 0] ++ (flatB bl).drop (i * 2)) := by
  unfold insB
  rw [flatB_append, flatB_cons, flatB_take, flatB_drop]; rfl

theorem overlaps_no (w : World) (b g lb cb o : Nat) (x : Array Value) (cur : List Value) (hbg : b ≠ g) (hb : w.heap[b]? = some (.cells x 73 (0, 0))) (hg : w.heap[g]? = some (.cells cur.toArray 73 (0, 0))) (hc : 0 < cur.length) :
    (callFunc 58 #[.slice (some ⟨b, 0, none⟩) 1 1, .slice (some ⟨g, o, none⟩) lb cb]).run Tryd.prog w = .ok (.value (.bool false)) w := by
  rw [run_callFunc_extern Tryd.func58 (by kernel_rfl) (by kernel_rfl) (by kernel_rfl) (e := Extern.SlicesOverlaps.overlaps #[51, 51] #[4]) (by kernel_rfl),
    Lib.run_overlaps_apart w 51 4 73 Tryd.underlying51 2 (fun w => by kernel_rfl) ⟨b, 0, none⟩ ⟨g, o, none⟩ 1 1 lb cb hbg 73 73 x.size cur.length (by simp [World.shape?, hb]) (by simp [World.shape?, hg]) (by omega) (frozen_block hb 0) (frozen_block hb _)]
  rfl

set_option maxHeartbeats 8000000 in
set_option maxRecDepth 100000 in
/-- There is room. -/
theorem insert_room (t : Int) (b g c i : Nat) (bl : List Blk) (cur : List Value) (hi : i < bl.length) (hc : bl.length + 1 ≤ c) (hcm : c ≤ maxLen) (hne : b ≠ g) (w : World) (hb : w.heap[b]? = some (.cells #[.int .i64 t, .int .u64 0] 73 (0, 0)))
    (hg : w.heap[g]? = some (.cells cur.toArray 73 (0, 0))) (hcl : cur.length = c * 2) (hcur : cur.take (bl.length * 2) = flatB bl) :
    Calls Tryd.prog 47 #[.slice (some ⟨g, 0, none⟩) bl.length c, .int .i64 i, .slice (some ⟨b, 0, none⟩) 1 1] w fun e w' => e = .returned (.slice (some ⟨g, 0, none⟩) (bl.length + 1) c) ∧ Off (fun k => k = g) w w' ∧
      ∃ cur', w'.heap[g]? = some (.cells (List.toArray cur') 73 (0, 0)) ∧ cur'.length = c * 2 ∧ cur'.take ((bl.length + 1) * 2) = flatB (insB bl i (t, 0)) := by
  have hov := fun lb cb o => overlaps_no w b g lb cb o _ cur hne hb hg (by omega)
  have hfl := flatB_length bl
  have hdl : ((flatB bl).drop (i * 2)).length = (bl.length - i) * 2 := by rw [List.length_drop, hfl]; omega
  have hn9 : c ≤ 9223372036854775807 := by unfold maxLen at hcm; exact hcm
  have hcp1 : ∀ ty dc sc, (Builtin.copy_ #[51, 51] ty #[.slice (some ⟨g, (i + 1) * 2, none⟩) (bl.length + 1 - (i + 1)) dc, .slice (some ⟨g, i * 2, none⟩) (bl.length + 1 - i) sc]).run Tryd.prog w.drew = .ok (goInt (Nat.min (bl.length + 1 - i) (bl.length + 1 - (i + 1)))) (w.drew.setRow g (over cur (i * 2 + 2) ((flatB bl).drop (i * 2))).toArray) := fun ty dc sc => by
    rw [show (i + 1) * 2 = i * 2 + 2 by omega]
    exact run_copy_rows w.drew 51 51 ty 73 2 g (i * 2 + 2) (bl.length + 1 - (i + 1)) dc ⟨g, i * 2, none⟩ (bl.length + 1 - i) sc cur 73 ((flatB bl).drop (i * 2)) Tryd.underlying51 size92 hg (by rw [hdl]; simp only [Nat.min_def]; split <;> omega)
      (fun j v hj => by
        rw [List.getElem?_drop] at hj
        have e : (⟨g, i * 2, none⟩ : Addr).add j = ⟨g, i * 2 + j, none⟩ := by unfold Addr.add; split <;> simp_all
        rw [e]
        refine cell_block (w := w) hg _ _ ?_
        rw [← hcur, List.getElem?_take] at hj
        split at hj
        · simpa using hj
        · cases hj)
      (by rw [hdl, hcl]; omega) (fun v hv => flatB_one bl v (List.mem_of_mem_drop hv))
  have hl1 : (over cur (i * 2 + 2) ((flatB bl).drop (i * 2))).length = c * 2 := by rw [over_length _ _ _ (by rw [hdl]; omega), hcl]
  have hend : (over (over cur (i * 2 + 2) ((flatB bl).drop (i * 2))) (i * 2) [.int .i64 t, .int .u64 0]).take ((bl.length + 1) * 2) = flatB (insB bl i (t, 0)) := by
    rw [flat_ins, show (bl.length + 1) * 2 = bl.length * 2 + 2 by omega]
    exact over_over hcur (by omega) rfl (by omega) (by omega)
  have hl2 : (over (over cur (i * 2 + 2) ((flatB bl).drop (i * 2))) (i * 2) [.int .i64 t, .int .u64 0]).length = c * 2 := by rw [over_length _ _ _ (by rw [hl1]; simp; omega), hl1]
  obtain ⟨C1, hC1⟩ : ∃ C1, C1 = over cur (i * 2 + 2) ((flatB bl).drop (i * 2)) := ⟨_, rfl⟩
  rw [← hC1] at hcp1 hl1 hend hl2
  have hg1 : (w.drew.setRow g C1.toArray).heap[g]? = some (.cells C1.toArray 73 (0, 0)) := setRow_heap w.drew g _ _ 73 _ hg
  have hb1 : (w.drew.setRow g C1.toArray).heap[b]? = some (.cells #[.int .i64 t, .int .u64 0] 73 (0, 0)) := (setRow_other w.drew g b _ hne).trans hb
  obtain ⟨W1, hW1⟩ : ∃ W1, W1 = w.drew.setRow g C1.toArray := ⟨_, rfl⟩
  have ho1 : Off (fun k => k = g) w W1 := by rw [hW1]; exact off_setRow (O := fun k => k = g) (off_drew (off_refl _ _)) (.inl rfl) _
  rw [← hW1] at hcp1 hg1 hb1
  have hcp2 : ∀ W : World, W = W1 → ∀ ty dc, (Builtin.copy_ #[51, 51] ty #[.slice (some ⟨g, i * 2, none⟩) (bl.length + 1 - i) dc, .slice (some ⟨b, 0, none⟩) 1 1]).run Tryd.prog W = .ok (goInt (Nat.min 1 (bl.length + 1 - i))) (W1.setRow g (over C1 (i * 2) [.int .i64 t, .int .u64 0]).toArray) := fun W hW ty dc => by
    subst hW
    exact run_copy_rows _ 51 51 ty 73 2 g (i * 2) (bl.length + 1 - i) dc ⟨b, 0, none⟩ 1 1 C1 73 [.int .i64 t, .int .u64 0] Tryd.underlying51 size92 hg1 (by simp only [Nat.min_def, List.length_cons, List.length_nil]; split <;> omega)
      (World.news_of_block hb1) (by simp; omega) (by simp [Value.oneCell'])
  have Hend : Hid (Off (fun k => k = g) w (W1.setRow g (over C1 (i * 2) [.int .i64 t, .int .u64 0]).toArray) ∧ ∃ cur', (W1.setRow g (over C1 (i * 2) [.int .i64 t, .int .u64 0]).toArray).heap[g]? = some (.cells (List.toArray cur') 73 (0, 0)) ∧ cur'.length = c * 2 ∧ cur'.take ((bl.length + 1) * 2) = flatB (insB bl i (t, 0))) :=
    hide ⟨off_setRow ho1 (.inl rfl) _, _, setRow_heap W1 g _ _ 73 _ hg1, hl2, hend⟩
  have hz2 : ¬ ((i : Int) = (bl.length : Int)) := by omega
  have hw1 : IntKind.i64.wrap ((i : Int) + 1) = (i : Int) + 1 := by rw [IntKind.wrap_i64]; omega
  have hw2 : IntKind.i64.wrap ((bl.length : Int) + 1) = (bl.length : Int) + 1 := by rw [IntKind.wrap_i64]; omega
  have hb1' : (0 : Int) ≤ (i : Int) + 1 := by omega
  have hin : (i : Int) ≤ (bl.length : Int) := by omega
  have htn : ((i : Int) + 1).toNat = i + 1 := by omega
  have htn2 : ((bl.length : Int) + 1).toNat = bl.length + 1 := by omega
  have hb2 : ¬ (c = i + 1) := by omega
  have hb3 : (i : Int) ≤ (bl.length : Int) + 1 := by omega
  have hb4 : ¬ (c = i) := by omega
  have hb5 : (bl.length : Int) + 1 ≤ c := by omega
  have hb6 : (i : Int) + 1 ≤ (bl.length : Int) + 1 := by omega
  clear hcur hcl hend hl1 hl2 hg hb hg1 hb1 hdl hfl ho1 hW1 hC1
  go_enter Tryd.func47, Tryd.ntmps47
  go_wp2_with (simp only [hov])
  go_region_law (refine step_copy_known rfl (.tmp 73) (.tmp 76) 51 51 rfl (.slice (some ⟨g, (i + 1) * 2, none⟩) (bl.length + 1 - (i + 1)) (c - (i + 1))) (.slice (some ⟨g, i * 2, none⟩) (bl.length + 1 - i) (c - i)) (by simp [Act.eval, Act.put]) (by simp [Act.eval, Act.put]) (hcp1 _ _ _) ?_)
  all_goals
    go_wp2_with (at_builtin; refine wpList_copy_known _ rfl _ _ 51 51 rfl (.slice (some ⟨g, i * 2, none⟩) (bl.length + 1 - i) (c - i)) _ rfl rfl (hcp2 _ rfl _ _) ?_)
    go_ret
    exact ⟨rfl, unhide Hend⟩
end Go.Proofs.YtdpphjedjhjdgaaDoor

/- Contracts of Valid and RuneCountInString. -/
import Derived.Test.YtodncpnhmmnclabW6
import Derived.Test.YtodncpnhmmnclabM5
namespace Go.Proofs.Ytodncpnhmmnclab
open Go.RowKit

set_option maxHeartbeats 1000000 in
set_option maxRecDepth 100000 in
theorem valid_any (s : ByteArray) (w : World) :
    Calls Try.prog 19 #[.string s] w fun e w' => e = .returned (.agg #[.int .i64 (validVals s).1, .int .i64 (validVals s).2]) ∧ Below w.heap.size w w' := by
  go_enter Try.func19, Try.ntmps19
  go_wp2
  go_loopw [] (fun wr => ∃ pos f : Nat, wr.heap[w.heap.size + 1]? = some (.stringIter s pos) ∧ Below (w.heap.size + 1) (w.alloc (.cells #[.int .i64 0, .int .i64 0] 32)) wr ∧ noneF s f pos = badB s ∧ s.size ≤ pos + f) (fun wr => s.size - wr.iterPos (w.heap.size + 1))
  case atStart =>
    refine ⟨0, s.size, ?_, ?_, rfl, by omega⟩
    · have := World.iter_heap (w.alloc (.cells #[.int .i64 0, .int .i64 0] 32)) s 0
      simpa using this
    · exact (Below.refl _ _).alloc (by simp) _
  case round =>
    obtain ⟨pos, f, hit, hbel, hbad, hf⟩ := hrel
    obtain ⟨q0, q1, f0, f1, hs1⟩ := res_cells hbel
    have hk : w.heap.size + 1 < wr.heap.size := (Array.getElem?_eq_some_iff.1 hit).1
    have Hit := hide hit; have Hbel := hide hbel; have Hbad := hide hbad
    clear hit hbel hbad
    by_cases hp : pos < s.size
    · obtain ⟨g, rfl⟩ : ∃ g, f = g + 1 := ⟨f - 1, by omega⟩
      have hnx : ∀ ty, (Instr.next (.pointer (some ⟨w.heap.size + 1, 0, none⟩)) true ty).run Try.prog wr = _ := fun ty => Lib.run_next_any_at wr (w.heap.size + 1) s pos ty (unhide Hit) hp
      have hw := width_pos s pos hp
      have HN := hide (isNone_any s pos (by omega))
      have Hst := hide (fun hn => noneF_step s g pos hp hn)
      have Hhe := hide (fun hn => noneF_here s g pos hp hn)
      have hw2 : ∀ o, (wr.iterAt (w.heap.size + 1) s o).cell? ⟨w.heap.size, 0, none⟩ = some (.int .i64 0) ∧ (wr.iterAt (w.heap.size + 1) s o).cell? ⟨w.heap.size, 1, none⟩ = some (.int .i64 0) ∧ (wr.iterAt (w.heap.size + 1) s o).frozen? ⟨w.heap.size, 0, none⟩ = false ∧ (wr.iterAt (w.heap.size + 1) s o).frozen? ⟨w.heap.size, 1, none⟩ = false := fun o => by
        have hb := (Lib.below_iterAt (unhide Hbel) (show w.heap.size + 1 ≤ w.heap.size + 1 from Nat.le_refl _) s o)
        obtain ⟨a, b, c, d, _⟩ := res_cells hb
        exact ⟨a, b, c, d⟩
      generalize hd : (Utf8.decode s pos).2 = d at *
      generalize hr : (Utf8.decode s pos).1 = r at *
      clear hd hr
      obtain ⟨p0, p1, p2, p3⟩ := hw2 (pos + d)
      clear hw2
      cases hn : noneB s pos
      · rw [hn] at HN
        go_wp2_with fail
        refine (unhide HN _).mono ?_
        rintro e w1 ⟨rfl, rfl⟩
        go_wp2
        go_roundw
        case rel =>
          refine ⟨pos + d, g, Lib.iterAt_heap wr _ s pos (pos + d) (unhide Hit), Lib.below_iterAt (unhide Hbel) (Nat.le_refl _) s (pos + d), ?_, by omega⟩
          rw [← unhide Hst hn]; exact unhide Hbad
        case measure =>
          rw [iterPos_of (Lib.iterAt_heap wr _ s pos (pos + d) (unhide Hit)), iterPos_of (unhide Hit)]
          omega
      · rw [hn] at HN
        go_wp2_with fail
        refine (unhide HN _).mono ?_
        rintro e w1 ⟨rfl, rfl⟩
        go_wp2
        have hv : validVals s = (10, (pos : Int)) := by unfold validVals; rw [← unhide Hbad, unhide Hhe hn]
        refine bodyPost_ret (v := .agg #[.int .i64 10, .int .i64 pos]) (by simp [results, Try.results19, go_sem, p0, p1]) rfl ⟨?_, ?_⟩
        · rw [hv]
        · exact ((below_old (Lib.below_iterAt (unhide Hbel) (Nat.le_refl _) s (pos + d))).setCell (Nat.le_refl _) _).setCell (Nat.le_refl _) _
    · have hnx : ∀ ty, (Instr.next (.pointer (some ⟨w.heap.size + 1, 0, none⟩)) true ty).run Try.prog wr = _ := fun ty => Lib.run_next_end_at wr (w.heap.size + 1) s pos ty (unhide Hit) hp
      have hv : validVals s = (0, 0) := by unfold validVals; rw [← unhide Hbad, noneF_end s f pos hp]
      have Hv := hide hv
      clear hv
      go_wp2
      refine bodyPost_ret (v := .agg #[.int .i64 0, .int .i64 0]) (by simp [results, Try.results19, go_sem, q0, q1]) rfl ⟨?_, ?_⟩
      · rw [unhide Hv]
      · exact ((below_old (unhide Hbel)).setCell (Nat.le_refl _) _).setCell (Nat.le_refl _) _

set_option maxHeartbeats 1000000 in
theorem runeCount_any (s : ByteArray) (hs : s.size < 9223372036854775807) (w : World) :
    Calls Try.prog 20 #[.string s] w fun e w' => ∃ n : Nat, n ≤ s.size ∧ e = .returned (.int .i64 n) ∧ Below w.heap.size w w' := by
  go_enter Try.func20, Try.ntmps20
  go_wp2
  go_loopw [2] (fun n w' => ∃ (pos acc : Nat), w' = w.iter s pos ∧ n = .int .i64 acc ∧ acc ≤ pos ∧ pos ≤ s.size) (fun _ w' => s.size - w'.iterPos w.heap.size)
  case atStart => exact ⟨0, 0, rfl, rfl, Nat.le_refl _, by omega⟩
  case round =>
    obtain ⟨pos, acc, rfl, rfl, ha, hps⟩ := hrel
    by_cases hp : pos < s.size
    · have hnx : ∀ ty, (Instr.next (.pointer (some ⟨w.heap.size, 0, none⟩)) true ty).run Try.prog (w.iter s pos) = _ := fun ty => run_next_any w s pos ty hp
      have hwd := width_pos s pos hp
      go_wp2
      go_roundw
      case rel => exact ⟨pos + (Utf8.decode s pos).2, acc + 1, rfl, by go_num, by omega, by omega⟩
      case measure =>
        simp
        omega
    · have hnx : ∀ ty, (Instr.next (.pointer (some ⟨w.heap.size, 0, none⟩)) true ty).run Try.prog (w.iter s pos) = _ := fun ty => run_next_end w s pos ty hp
      go_wp2
      go_ret
      exact ⟨acc, by omega, rfl, below_iter _ _ _⟩

theorem hrune : (Try.prog.info? 21).map (fun i => (i.zero, i.size, i.bytes)) = some (some (.int .i32 0), 1, 4) := by kernel_rfl

/-- The first fault of a text that has one is told by its place, and its number is not nought. -/
theorem validVals_bad (s : ByteArray) (k : Nat) (h : badB s = some k) : validVals s = (10, (k : Int)) ∧ runesOr s = [] := by simp [validVals, runesOr, h]
theorem validVals_good (s : ByteArray) (h : badB s = none) : validVals s = (0, 0) ∧ runesOr s = runesL s := by simp [validVals, runesOr, h]

set_option maxHeartbeats 1000000 in
set_option maxRecDepth 100000 in
theorem runes_bad (s : ByteArray) (k : Nat) (h : badB s = some k) (w : World) :
    Calls Try.prog 10 #[.string s] w fun e w' => e = .returned (.tuple #[.slice none 0 0, .agg #[.int .i64 10, .int .i64 k]]) ∧ Below w.heap.size w w' := by
  have HV := hide (valid_any s)
  rw [(validVals_bad s k h).1] at HV
  clear h
  go_enter Try.func10, Try.ntmps10
  go_wp2_with fail
  refine (unhide HV _).mono ?_
  rintro e w1 ⟨rfl, hb1⟩
  have hs := hb1.size
  simp at hs hb1
  obtain ⟨q0, q1, f0, f1, hs1⟩ := res_cells hb1
  have hb2 := fun o => hb1.alloc hs o
  have a0 := fun o => (res_cells (hb2 o)).1
  have a1 := fun o => (res_cells (hb2 o)).2.1
  have a2 := fun o => (res_cells (hb2 o)).2.2.1
  have a3 := fun o => (res_cells (hb2 o)).2.2.2.1
  have Hb2 := hide hb2
  clear hb1 hb2
  go_wp2
  go_region
  all_goals go_wp2
  all_goals
    refine bodyPost_ret (v := .tuple #[.slice none 0 0, .agg #[.int .i64 10, .int .i64 k]]) (by simp [results, Try.results10, go_sem, a0, a1]) rfl ⟨rfl, ?_⟩
    exact (((below_old (unhide Hb2 _)).setCell (Nat.le_refl _) _).setCell (Nat.le_refl _) _).drew

set_option maxHeartbeats 1000000 in
set_option maxRecDepth 100000 in
theorem runes_good (s : ByteArray) (hs : s.size ≤ 8388608) (h : badB s = none) (w : World) :
    Calls Try.prog 10 #[.string s] w fun e w' => ∃ v, e = .returned (.tuple #[v, .agg #[.int .i64 0, .int .i64 0]]) ∧ w'.ownsRow (w.heap.size + 1) 21 1 v (runesL s).length ((runesL s).map (Value.int .i32)) ∧ Below w.heap.size w w' := by
  obtain ⟨i0, hi, hz0, hz1, hz2⟩ := info_parts hrune
  have HV := hide (valid_any s)
  rw [(validVals_good s h).1] at HV
  clear h
  have HC := hide (runeCount_any s (by omega))
  go_enter Try.func10, Try.ntmps10
  go_wp2_with fail
  refine (unhide HV _).mono ?_
  rintro e w1 ⟨rfl, hb1⟩
  have hsz := hb1.size
  simp at hsz hb1
  have Hb1 := hide hb1
  clear hb1
  go_wp2_with fail
  refine (unhide HC _).mono ?_
  rintro e w2 ⟨n, hn, rfl, hb2⟩
  have hb3 : Below (w.heap.size + 1) (w.alloc (.cells #[.int .i64 0, .int .i64 0] 32)) w2 := ((unhide Hb1).alloc hsz _).trans (hb2.mono (by simp; omega))
  have hs2 := hb3.size
  simp at hs2
  have Hb3 := hide hb3
  clear hb2 hb3 Hb1
  go_wp2_with (at_make; refine wpList_make_own _ rfl _ _ 30 rfl (w.heap.size + 1) 21 i0 (.int .i32 0) 1 Try.underlying30 hi hz0 hz1 .i64 .i64 _ n rfl rfl rfl (by rw [hz2]; omega) (by unfold maxLen; omega) hs2 ?_; intro w3 hown3 hgrow3)
  have hb4 : Below (w.heap.size + 1) (w.alloc (.cells #[.int .i64 0, .int .i64 0] 32)) w3 := (unhide Hb3).grown hgrow3 hs2 (fun x hx => by cases hx)
  have hs3 := hb4.size
  simp at hs3
  have Hb4 := hide hb4
  have Hown3 := hide hown3
  clear hb4 hown3 hgrow3 Hb3
  go_loopw [5] (fun u wr => ∃ (zs : List Int) (pos f : Nat), wr.ownsRow (w.heap.size + 1) 21 1 u zs.length (zs.map (Value.int .i32)) ∧ wr.heap[w3.heap.size]? = some (.stringIter s pos) ∧ Below (w.heap.size + 1) (w.alloc (.cells #[.int .i64 0, .int .i64 0] 32)) wr ∧ zs ++ runesF s f pos = runesL s ∧ s.size ≤ pos + f ∧ zs.length ≤ pos ∧ pos ≤ s.size) (fun _ wr => s.size - wr.iterPos w3.heap.size)
  case atStart =>
    refine ⟨[], 0, s.size, (unhide Hown3).alloc _, World.iter_heap w3 s 0, (unhide Hb4).alloc hs3 _, rfl, by omega, by simp, by omega⟩
  case round =>
    obtain ⟨zs, pos, f, hown, hit, hbel, hacc, hf, hlen, hpos⟩ := hrel
    obtain ⟨q0, q1, f0, f1, hs1⟩ := res_cells hbel
    have hk : w3.heap.size < wr.heap.size := (Array.getElem?_eq_some_iff.1 hit).1
    have Hown := hide hown; have Hit := hide hit; have Hbel := hide hbel; have Hacc := hide hacc
    clear hown hit hbel hacc
    by_cases hp : pos < s.size
    · obtain ⟨g, rfl⟩ : ∃ g, f = g + 1 := ⟨f - 1, by omega⟩
      have hnx : ∀ ty, (Instr.next (.pointer (some ⟨w3.heap.size, 0, none⟩)) true ty).run Try.prog wr = _ := fun ty => Lib.run_next_any_at wr w3.heap.size s pos ty (unhide Hit) hp
      have hw := width_pos s pos hp
      have Hst := hide (runesF_step s g pos hp)
      generalize hd : (Utf8.decode s pos).2 = d at *
      generalize hr : (Utf8.decode s pos).1 = r at *
      clear hd hr
      have ho1 := ownsRow_iter (unhide Hown) (unhide Hit) (pos + d)
      have hi1 := Lib.iterAt_heap wr _ s pos (pos + d) (unhide Hit)
      have hb2 := Lib.below_iterAt (unhide Hbel) hs3 s (pos + d)
      have hz := Lib.iterAt_size wr w3.heap.size s (pos + d)
      generalize wr.iterAt w3.heap.size s (pos + d) = wx at *
      have Ho1 := hide ho1; have Hi1 := hide hi1; have Hb2 := hide hb2; have Hz := hide hz
      have hx1 : w.heap.size + 1 ≤ wx.heap.size := by omega
      clear ho1 hi1 hb2 hz
      go_wp2_with (at_builtin; refine wpList_append_own _ rfl _ _ 30 rfl (w.heap.size + 1) 21 i0 (.int .i32 0) 1 4 Try.underlying30 hi hz0 hz1 hz2 rfl (by decide) _ _ _ rfl ((unhide Ho1).alloc _) ⟨wx.heap.size, 0, none⟩ 1 1 [.int .i32 r] rfl rfl ?c1 ?c2 ?c3 ?c4 ?c5 ?_)
      case c1 => exact cell_one_new _ _ _
      case c2 => intro u hu; simp at hu; subst hu; rfl
      case c3 => unfold maxLen; omega
      case c4 => omega
      case c5 => simp; omega
      intro v' w2' hown' hgrow _
      go_wp2
      go_roundw
      case rel =>
        refine ⟨zs ++ [(r : Int)], pos + d, g, ?_, iter_grown ((unhide Ho1).alloc _) hgrow (iter_below ((Below.refl wx.heap.size wx).alloc (Nat.le_refl _) _) (unhide Hi1) (Nat.le_refl _)), ((unhide Hb2).alloc hx1 _).grown hgrow (by simp; omega) (fun x hx => ((unhide Ho1).lt x hx).1), ?_, by omega, by rw [List.length_append]; simp; omega, by omega⟩
        · rw [List.length_append, List.map_append]
          exact hown'
        · rw [List.append_assoc, ← unhide Hacc, unhide Hst]
          rfl
      case measure =>
        rw [iterPos_of (iter_grown ((unhide Ho1).alloc _) hgrow (iter_below ((Below.refl wx.heap.size wx).alloc (Nat.le_refl _) _) (unhide Hi1) (Nat.le_refl _))), iterPos_of (unhide Hit)]
        omega
    · have hnx : ∀ ty, (Instr.next (.pointer (some ⟨w3.heap.size, 0, none⟩)) true ty).run Try.prog wr = _ := fun ty => Lib.run_next_end_at wr w3.heap.size s pos ty (unhide Hit) hp
      have hz : zs = runesL s := by rw [← unhide Hacc, runesF_end s f pos hp, List.append_nil]
      have Hz := hide hz
      clear hz
      go_wp2
      refine bodyPost_ret (v := .tuple #[u5, .agg #[.int .i64 0, .int .i64 0]]) (by simp [results, Try.results10, go_sem, q0, q1]) rfl ⟨u5, rfl, ?_, ?_⟩
      · rw [← unhide Hz]
        exact ownsRow_setCell_below (ownsRow_setCell_below (unhide Hown) (Nat.lt_succ_self _) _) (Nat.lt_succ_self _) _
      · exact ((below_old (unhide Hbel)).setCell (Nat.le_refl _) _).setCell (Nat.le_refl _) _

/-- A value is a slice of these runes. -/
def IsRunes (w : World) (v : Value) (zs : List Int) : Prop := ∃ a cap, v = .slice a zs.length cap ∧ RunesAt w a zs
theorem isRunes_own {w : World} {B : Nat} {v : Value} {zs : List Int} (h : w.ownsRow B 21 1 v zs.length (zs.map (Value.int .i32))) : IsRunes w v zs := by
  rcases h.2 with ⟨rfl, h0⟩ | ⟨g, cap, cur, rfl, hg, hheap, hn, hm, hcur, htk⟩
  · have : zs = [] := List.length_eq_zero_iff.1 h0
    subst this
    exact ⟨none, 0, rfl, .inl rfl⟩
  · refine ⟨some ⟨g, 0, none⟩, cap, rfl, .inr ⟨g, 0, rfl, (Array.getElem?_eq_some_iff.1 hheap).1, fun j hj => ?_⟩⟩
    have hc := h.cells (g := g) rfl j (.int .i32 (zs.getD j 0)) (by simp [hj])
    have e : (⟨g, 0, none⟩ : Addr).add j = ⟨g, 0 + j, none⟩ := by unfold Addr.add; split <;> simp_all
    rw [← e]; exact hc
theorem isRunes_below {w w' : World} {v : Value} {zs : List Int} (h : IsRunes w v zs) (hb : Below w.heap.size w w') : IsRunes w' v zs := by
  obtain ⟨a, cap, rfl, h⟩ := h
  refine ⟨a, cap, rfl, ?_⟩
  rcases h with rfl | ⟨b, off, rfl, hlt, hc⟩
  · exact .inl rfl
  · exact .inr ⟨b, off, rfl, Nat.lt_of_lt_of_le hlt hb.size, fun j hj => by rw [hb.cell (by exact hlt)]; exact hc j hj⟩

theorem runes_any (s : ByteArray) (hs : s.size ≤ 8388608) (w : World) :
    Calls Try.prog 10 #[.string s] w fun e w' => ∃ v, e = .returned (.tuple #[v, .agg #[.int .i64 (validVals s).1, .int .i64 (validVals s).2]]) ∧ IsRunes w' v (runesOr s) ∧ Below w.heap.size w w' := by
  cases h : badB s with
  | some k =>
    rw [(validVals_bad s k h).1, (validVals_bad s k h).2]
    exact (runes_bad s k h w).mono fun e w' ⟨he, hb⟩ => ⟨_, he, ⟨none, 0, rfl, .inl rfl⟩, hb⟩
  | none =>
    rw [(validVals_good s h).1, (validVals_good s h).2]
    exact (runes_good s hs h w).mono fun e w' ⟨v, he, ho, hb⟩ => ⟨v, he, isRunes_own ho, hb⟩
end Go.Proofs.Ytodncpnhmmnclab

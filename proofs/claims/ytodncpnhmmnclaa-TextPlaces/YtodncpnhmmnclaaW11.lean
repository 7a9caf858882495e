/- Contracts of firstPlace, behind, At and Byte. -/
import Derived.Test.YtodncpnhmmnclaaW6
import Derived.Test.YtodncpnhmmnclaaM6
namespace Go.Proofs.Ytodncpnhmmnclaa
open Go.RowKit

/-- A block of two numbers. -/
def Pair (w : World) (P : Nat) (x y : Int) : Prop := w.heap[P]? = some (.cells #[.int .i64 x, .int .i64 y] 46 (0, 0))
theorem Pair.facts {w : World} {P : Nat} {x y : Int} (h : Pair w P x y) : w.cell? ⟨P, 0, none⟩ = some (.int .i64 x) ∧ w.cell? ⟨P, 1, none⟩ = some (.int .i64 y) ∧ w.frozen? ⟨P, 0, none⟩ = false ∧ w.frozen? ⟨P, 1, none⟩ = false ∧ P < w.heap.size := by
  unfold Pair at h
  refine ⟨?_, ?_, ?_, ?_, (Array.getElem?_eq_some_iff.1 h).1⟩ <;> simp [World.cell?, World.frozen?, h]
theorem Pair.below {w w' : World} {P B : Nat} {x y : Int} (h : Pair w P x y) (hb : Below B w w') (hP : P < B) : Pair w' P x y := by
  unfold Pair at *; rw [hb.block P hP]; exact h
theorem Pair.new (w : World) (x y : Int) : Pair (w.alloc (.cells #[.int .i64 x, .int .i64 y] 46)) w.heap.size x y := by
  unfold Pair
  show (w.heap.push _)[w.heap.size]? = _
  simp
theorem Pair.alloc {w : World} {P : Nat} {x y : Int} (h : Pair w P x y) (o : Obj) : Pair (w.alloc o) P x y :=
  h.below ((Below.refl w.heap.size w).alloc (Nat.le_refl _) o) h.facts.2.2.2.2
theorem Pair.iterAt {w : World} {P k : Nat} {x y : Int} (h : Pair w P x y) {s : ByteArray} {p : Nat} (hk : w.heap[k]? = some (.stringIter s p)) (p' : Nat) : Pair (w.iterAt k s p') P x y := by
  unfold Pair at *
  rw [Lib.iterAt_other w k P s p' (by intro e; rw [e, hk] at h; cases h)]
  exact h
theorem Pair.set {w : World} {P : Nat} {x y : Int} (h : Pair w P x y) (x' y' : Int) : Pair ((w.setCell ⟨P, 0, none⟩ (.int .i64 x')).setCell ⟨P, 1, none⟩ (.int .i64 y')) P x' y' := by
  unfold Pair at *
  simp only [World.setCell, Array.getElem?_modify, if_true, h]
  simp
theorem Pair.setOther {w : World} {P Q : Nat} {x y : Int} (h : Pair w P x y) (hne : P ≠ Q) (o : Nat) (v : Value) : Pair (w.setCell ⟨Q, o, none⟩ v) P x y := by
  unfold Pair at *; rw [Below.heap_setCell _ _ _ _ hne]; exact h

set_option maxHeartbeats 400000 in
theorem firstPlace_any (w : World) : Calls Try.prog 37 #[] w fun e w' => e = .returned (.agg #[.int .i64 1, .int .i64 1]) ∧ Below w.heap.size w w' := by
  go_enter Try.func37, Try.ntmps37
  go_wp2
  exact bodyPost_ret (v := .agg #[.int .i64 1, .int .i64 1]) (by simp [results, Try.results37, go_sem]) rfl ⟨rfl, (Below.refl _ _).alloc (Nat.le_refl _) _⟩

set_option maxHeartbeats 400000 in
theorem behind_nl (l c : Int) (hl : -1000000000000000000 ≤ l ∧ l ≤ 1000000000000000000) (w : World) :
    Calls Try.prog 38 #[.agg #[.int .i64 l, .int .i64 c], .int .i32 10] w fun e w' => e = .returned (.agg #[.int .i64 (l + 1), .int .i64 1]) ∧ Below w.heap.size w w' := by
  obtain ⟨h1, h2⟩ := hl
  go_enter Try.func38, Try.ntmps38
  go_wp2
  refine bodyPost_ret (v := .agg #[.int .i64 (l + 1), .int .i64 1]) (by simp [results, Try.results38, go_sem]) rfl ⟨rfl, ?_⟩
  exact ((Below.refl _ _).alloc (Nat.le_refl _) _).alloc (by simp) _
set_option maxHeartbeats 400000 in
theorem behind_else (l c r : Int) (hr : (r == 10) = false) (hl : -1000000000000000000 ≤ c ∧ c ≤ 1000000000000000000) (w : World) :
    Calls Try.prog 38 #[.agg #[.int .i64 l, .int .i64 c], .int .i32 r] w fun e w' => e = .returned (.agg #[.int .i64 l, .int .i64 (c + 1)]) ∧ Below w.heap.size w w' := by
  obtain ⟨h1, h2⟩ := hl
  go_enter Try.func38, Try.ntmps38
  go_wp2
  refine bodyPost_ret (v := .agg #[.int .i64 l, .int .i64 (c + 1)]) (by simp [results, Try.results38, go_sem]) rfl ⟨rfl, ?_⟩
  exact ((Below.refl _ _).alloc (Nat.le_refl _) _).alloc (by simp) _
/-- One piece further. -/
theorem behind_st (s : ByteArray) (hs : s.size ≤ 281474976710656) (k : Nat) (hp : (st s k).1 < s.size) (w : World) :
    Calls Try.prog 38 #[.agg #[.int .i64 ((st s k).2.1 : Int), .int .i64 ((st s k).2.2 : Int)], .int .i32 ((Utf8.decode s (st s k).1).1 : Int)] w fun e w' => e = .returned (.agg #[.int .i64 ((st s (k + 1)).2.1 : Int), .int .i64 ((st s (k + 1)).2.2 : Int)]) ∧ Below w.heap.size w w' := by
  have hb := st_bounds s k
  by_cases hr : (Utf8.decode s (st s k).1).1 = 10
  · rw [st_nl s k hp hr, hr]
    exact behind_nl _ _ ⟨by omega, by omega⟩ w
  · rw [st_else s k hp hr]
    exact behind_else _ _ _ (by simp; omega) ⟨by omega, by omega⟩ w

set_option maxHeartbeats 400000 in
theorem at_out (s : ByteArray) (a : Int) (h : a < 0 ∨ (s.size : Int) < a) (w : World) :
    Calls Try.prog 20 #[.string s, .int .i64 a] w fun e w' => e = .returned (.tuple #[.agg #[.int .i64 0, .int .i64 0], .int .i64 13]) ∧ Below w.heap.size w w' := by
  rcases h with h | h
  · go_enter Try.func20, Try.ntmps20
    go_wp2
    exact bodyPost_ret (v := .tuple #[.agg #[.int .i64 0, .int .i64 0], .int .i64 13]) (by simp [results, Try.results20, go_sem]) rfl ⟨rfl, (Below.refl _ _).alloc (Nat.le_refl _) _⟩
  · have h0 : ¬ a < 0 := by omega
    go_enter Try.func20, Try.ntmps20
    go_wp2
    exact bodyPost_ret (v := .tuple #[.agg #[.int .i64 0, .int .i64 0], .int .i64 13]) (by simp [results, Try.results20, go_sem]) rfl ⟨rfl, (Below.refl _ _).alloc (Nat.le_refl _) _⟩

set_option maxHeartbeats 2000000 in
set_option maxRecDepth 100000 in
theorem at_in (s : ByteArray) (hs : s.size ≤ 281474976710656) (a : Nat) (h : a ≤ s.size) (w : World) :
    Calls Try.prog 20 #[.string s, .int .i64 a] w fun e w' => ∃ k, e = .returned (.tuple #[.agg #[.int .i64 ((st s k).2.1 : Int), .int .i64 ((st s k).2.2 : Int)], .int .i64 0]) ∧ (∀ j, j < k → (st s j).1 < a ∧ (st s j).1 < s.size) ∧ (a ≤ (st s k).1 ∨ ¬ (st s k).1 < s.size) ∧ Below w.heap.size w w' := by
  have h' : ¬ (s.size : Int) < (a : Int) := by omega
  have HF := hide (fun w => firstPlace_any w)
  go_enter Try.func20, Try.ntmps20
  go_wp2_with fail
  refine (unhide HF _).mono ?_
  rintro e w1 ⟨rfl, hb1⟩
  have hsz := hb1.size
  simp at hsz hb1
  have HP0 := hide (((Pair.new w 0 0).below hb1 (by omega)).alloc (.cells #[.int .i64 1, .int .i64 1] 46))
  have HP1 := hide (Pair.new w1 1 1)
  have HB := hide ((((Below.refl w.heap.size w).alloc (Nat.le_refl _) (.cells #[.int .i64 0, .int .i64 0] 46)).trans (hb1.mono (by omega))).alloc (by omega) (.cells #[.int .i64 1, .int .i64 1] 46))
  have hlt : w.heap.size < w1.heap.size := by omega
  clear hb1 hsz HF
  go_wp2
  go_loopw [] (fun wr => ∃ k : Nat, Pair wr w.heap.size 0 0 ∧ Pair wr w1.heap.size ((st s k).2.1 : Int) ((st s k).2.2 : Int) ∧ wr.heap[w1.heap.size + 1]? = some (.stringIter s (st s k).1) ∧ Below w.heap.size w wr ∧ ∀ j, j < k → (st s j).1 < a ∧ (st s j).1 < s.size) (fun wr => s.size - wr.iterPos (w1.heap.size + 1))
  case atStart =>
    refine ⟨0, (unhide HP0).alloc _, (unhide HP1).alloc _, ?_, (unhide HB).alloc (unhide HB).size _, fun j hj => by omega⟩
    have := World.iter_heap (w1.alloc (.cells #[.int .i64 1, .int .i64 1] 46)) s 0
    simpa [st] using this
  case round =>
    obtain ⟨k, hp0, hp1, hit, hbel, hall⟩ := hrel
    have hk : w1.heap.size + 1 < wr.heap.size := (Array.getElem?_eq_some_iff.1 hit).1
    have hsz := hbel.size
    have Hp0 := hide hp0; have Hp1 := hide hp1; have Hit := hide hit; have Hbel := hide hbel; have Hall := hide hall
    clear hp0 hp1 hit hbel hall
    by_cases hp : (st s k).1 < s.size
    · have hnx : ∀ ty, (Instr.next (.pointer (some ⟨w1.heap.size + 1, 0, none⟩)) true ty).run Try.prog wr = _ := fun ty => Lib.run_next_any_at wr (w1.heap.size + 1) s _ ty (unhide Hit) hp
      have hw := width_pos s _ hp
      have HX := hide (behind_st s hs k hp)
      have Hpos := hide (st_pos s k hp)
      have hi2 := Lib.iterAt_heap wr _ s (st s k).1 ((st s k).1 + (Utf8.decode s (st s k).1).2) (unhide Hit)
      have hp02 := (unhide Hp0).iterAt (unhide Hit) ((st s k).1 + (Utf8.decode s (st s k).1).2)
      have hp12 := (unhide Hp1).iterAt (unhide Hit) ((st s k).1 + (Utf8.decode s (st s k).1).2)
      have hb2 := Lib.below_iterAt (unhide Hbel) (show w.heap.size ≤ w1.heap.size + 1 by omega) s ((st s k).1 + (Utf8.decode s (st s k).1).2)
      have hz2 := Lib.iterAt_size wr (w1.heap.size + 1) s ((st s k).1 + (Utf8.decode s (st s k).1).2)
      rw [← unhide Hpos] at hi2 hp02 hp12 hb2 hz2
      simp only [← unhide Hpos] at hnx
      generalize hx : st s k = x at *
      generalize hy : st s (k + 1) = y at *
      generalize hr : (Utf8.decode s x.1).1 = r at *
      generalize hd : (Utf8.decode s x.1).2 = d at *
      obtain ⟨x1, x2, x3⟩ := x
      obtain ⟨y1, y2, y3⟩ := y
      simp only at *
      have HXx := hide hx; have HYy := hide hy
      generalize wr.iterAt (w1.heap.size + 1) s y1 = wx at *
      obtain ⟨c00, c01, c02, c03, c04⟩ := hp02.facts
      obtain ⟨c10, c11, c12, c13, c14⟩ := hp12.facts
      have Hp02 := hide hp02; have Hp12 := hide hp12; have Hi2 := hide hi2; have Hb2 := hide hb2; have Hz2 := hide hz2
      have hz3 : wr.heap.size = wx.heap.size := hz2.symm
      clear hp02 hp12 hi2 hb2 hz2 hx hy hr hd Hp0 Hp1
      by_cases ha : x1 < a
      · have ha' : ¬ (a : Int) ≤ (x1 : Int) := by omega
        go_wp2_with fail
        refine (unhide HX _).mono ?_
        rintro e w2 ⟨rfl, hb3⟩
        have hs3 := hb3.size
        have hp03 := (unhide Hp02).below hb3 (by omega)
        have hp13 := (unhide Hp12).below hb3 (by omega)
        have hi3 := iter_below hb3 (unhide Hi2) (Nat.le_refl _)
        have hb4 := (unhide Hb2).trans (hb3.mono (by omega))
        obtain ⟨d10, d11, d12, d13, d14⟩ := hp13.facts
        have Hp03 := hide hp03; have Hp13 := hide hp13; have Hi3 := hide hi3; have Hb4 := hide hb4
        clear hp03 hp13 hi3 hb4 hb3
        go_wp2
        go_roundw
        case rel =>
          have hne : w.heap.size ≠ w1.heap.size := by omega
          have hit5 : ∀ (v u : Value), ((w2.setCell ⟨w1.heap.size, 0, none⟩ v).setCell ⟨w1.heap.size, 1, none⟩ u).heap[w1.heap.size + 1]? = some (.stringIter s y1) := fun v u => by
            rw [Below.heap_setCell _ _ _ _ (by simp), Below.heap_setCell _ _ _ _ (by simp)]; exact unhide Hi3
          refine ⟨k + 1, ((unhide Hp03).setOther hne _ _).setOther hne _ _, ?_, ?_, ((unhide Hb4).setCell (Nat.le_of_lt hlt) _).setCell (Nat.le_of_lt hlt) _, fun j hj => ?_⟩
          · rw [unhide HYy]; exact (unhide Hp13).set _ _
          · rw [unhide HYy]; exact hit5 _ _
          · by_cases e : j = k
            · subst e; rw [unhide HXx]; exact ⟨ha, hp⟩
            · exact unhide Hall j (by omega)
        case measure =>
          have hit5 : ∀ (v u : Value), ((w2.setCell ⟨w1.heap.size, 0, none⟩ v).setCell ⟨w1.heap.size, 1, none⟩ u).heap[w1.heap.size + 1]? = some (.stringIter s y1) := fun v u => by
            rw [Below.heap_setCell _ _ _ _ (by simp), Below.heap_setCell _ _ _ _ (by simp)]; exact unhide Hi3
          rw [iterPos_of (hit5 _ _), iterPos_of (unhide Hit)]
          have := unhide Hpos
          omega
      · have ha' : (a : Int) ≤ (x1 : Int) := by omega
        go_wp2
        refine bodyPost_ret (v := .tuple #[.agg #[.int .i64 x2, .int .i64 x3], .int .i64 0]) (by simp [results, Try.results20, go_sem, c00, c01]) rfl ⟨k, ?_, unhide Hall, ?_, ?_⟩
        · rw [unhide HXx]
        · rw [unhide HXx]; exact .inl (by show a ≤ x1; omega)
        · exact ((unhide Hb2).setCell (Nat.le_refl _) _).setCell (Nat.le_refl _) _
    · have hnx : ∀ ty, (Instr.next (.pointer (some ⟨w1.heap.size + 1, 0, none⟩)) true ty).run Try.prog wr = _ := fun ty => Lib.run_next_end_at wr (w1.heap.size + 1) s _ ty (unhide Hit) hp
      obtain ⟨c00, c01, c02, c03, c04⟩ := (unhide Hp0).facts
      obtain ⟨c10, c11, c12, c13, c14⟩ := (unhide Hp1).facts
      go_wp2
      refine bodyPost_ret (v := .tuple #[.agg #[.int .i64 ((st s k).2.1 : Int), .int .i64 ((st s k).2.2 : Int)], .int .i64 0]) (by simp [results, Try.results20, go_sem, c00, c01]) rfl ⟨k, rfl, unhide Hall, .inr hp, ?_⟩
      exact ((unhide Hbel).setCell (Nat.le_refl _) _).setCell (Nat.le_refl _) _
end Go.Proofs.Ytodncpnhmmnclaa

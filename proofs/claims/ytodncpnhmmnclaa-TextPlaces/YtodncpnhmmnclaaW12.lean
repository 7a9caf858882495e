/- Contract of Byte. -/
import Derived.Test.YtodncpnhmmnclaaW11
namespace Go.Proofs.Ytodncpnhmmnclaa
open Go.RowKit

/-- Behind k pieces the place is this one. -/
def Here (s : ByteArray) (k : Nat) (l c : Int) : Prop := ((st s k).2.1 : Int) = l ∧ ((st s k).2.2 : Int) = c
/-- What Byte answers: the byte of the first piece that stands there, the text's end counted in; or that there is none. -/
def ByteIs (s : ByteArray) (l c n e : Int) : Prop :=
  (∃ k, Here s k l c ∧ (∀ j, j < k → (st s j).1 < s.size ∧ ¬ Here s j l c) ∧ n = (st s k).1 ∧ e = 0) ∨ ((∀ k, ¬ Here s k l c) ∧ n = 0 ∧ e = 13)

set_option maxHeartbeats 2000000 in
set_option maxRecDepth 100000 in
theorem byte_any (s : ByteArray) (hs : s.size ≤ 281474976710656) (l c : Int) (w : World) :
    Calls Try.prog 22 #[.string s, .agg #[.int .i64 l, .int .i64 c]] w fun e w' => ∃ n m : Int, e = .returned (.tuple #[.int .i64 n, .int .i64 m]) ∧ ByteIs s l c n m ∧ Below w.heap.size w w' := by
  have HF := hide (fun w => firstPlace_any w)
  go_enter Try.func22, Try.ntmps22
  go_wp2_with fail
  refine (unhide HF _).mono ?_
  rintro e w1 ⟨rfl, hb1⟩
  have hsz := hb1.size
  simp at hsz hb1
  have HP0 := hide (((Pair.new w l c).below hb1 (by omega)).alloc (.cells #[.int .i64 1, .int .i64 1] 46))
  have HP1 := hide (Pair.new w1 1 1)
  have HB := hide ((((Below.refl w.heap.size w).alloc (Nat.le_refl _) (.cells #[.int .i64 l, .int .i64 c] 46)).trans (hb1.mono (by omega))).alloc (by omega) (.cells #[.int .i64 1, .int .i64 1] 46))
  have hlt : w.heap.size < w1.heap.size := by omega
  clear hb1 hsz HF
  go_wp2
  go_loopw [] (fun wr => ∃ k : Nat, Pair wr w.heap.size l c ∧ Pair wr w1.heap.size ((st s k).2.1 : Int) ((st s k).2.2 : Int) ∧ wr.heap[w1.heap.size + 1]? = some (.stringIter s (st s k).1) ∧ Below w.heap.size w wr ∧ ∀ j, j < k → (st s j).1 < s.size ∧ ¬ Here s j l c) (fun wr => s.size - wr.iterPos (w1.heap.size + 1))
  case atStart =>
    refine ⟨0, (unhide HP0).alloc _, (unhide HP1).alloc _, ?_, (unhide HB).alloc (unhide HB).size _, fun j hj => by omega⟩
    have := World.iter_heap (w1.alloc (.cells #[.int .i64 1, .int .i64 1] 46)) s 0
    simpa [st] using this
  case round =>
    obtain ⟨k, hp0, hp1, hit, hbel, hall⟩ := hrel
    have hk : w1.heap.size + 1 < wr.heap.size := (Array.getElem?_eq_some_iff.1 hit).1
    have hsz := hbel.size
    have Hp0 := hide hp0; have Hp1 := hide hp1; have Hit := hide hit; have Hbel := hide hbel; have Hall := hide hall
    clear hp0 hp1 hit hbel hall
    by_cases hp : (st s k).1 < s.size
    · have hnx : ∀ ty, (Instr.next (.pointer (some ⟨w1.heap.size + 1, 0, none⟩)) true ty).run Try.prog wr = _ := fun ty => Lib.run_next_any_at wr (w1.heap.size + 1) s _ ty (unhide Hit) hp
      have hw := width_pos s _ hp
      have HX := hide (behind_st s hs k hp)
      have Hpos := hide (st_pos s k hp)
      have hi2 := Lib.iterAt_heap wr _ s (st s k).1 ((st s k).1 + (Utf8.decode s (st s k).1).2) (unhide Hit)
      have hp02 := (unhide Hp0).iterAt (unhide Hit) ((st s k).1 + (Utf8.decode s (st s k).1).2)
      have hp12 := (unhide Hp1).iterAt (unhide Hit) ((st s k).1 + (Utf8.decode s (st s k).1).2)
      have hb2 := Lib.below_iterAt (unhide Hbel) (show w.heap.size ≤ w1.heap.size + 1 by omega) s ((st s k).1 + (Utf8.decode s (st s k).1).2)
      have hz2 := Lib.iterAt_size wr (w1.heap.size + 1) s ((st s k).1 + (Utf8.decode s (st s k).1).2)
      rw [← unhide Hpos] at hi2 hp02 hp12 hb2 hz2
      simp only [← unhide Hpos] at hnx
      generalize hx : st s k = x at *
      generalize hy : st s (k + 1) = y at *
      generalize hr : (Utf8.decode s x.1).1 = r at *
      generalize hd : (Utf8.decode s x.1).2 = d at *
      obtain ⟨x1, x2, x3⟩ := x
      obtain ⟨y1, y2, y3⟩ := y
      simp only at *
      have HXx := hide hx; have HYy := hide hy
      generalize wr.iterAt (w1.heap.size + 1) s y1 = wx at *
      obtain ⟨c00, c01, c02, c03, c04⟩ := hp02.facts
      obtain ⟨c10, c11, c12, c13, c14⟩ := hp12.facts
      have Hp02 := hide hp02; have Hp12 := hide hp12; have Hi2 := hide hi2; have Hb2 := hide hb2; have Hz2 := hide hz2
      have hz3 : wr.heap.size = wx.heap.size := hz2.symm
      clear hp02 hp12 hi2 hb2 hz2 hx hy hr hd Hp0 Hp1
      have HH : Hid (Here s k l c ↔ ((x2 : Int) = l ∧ (x3 : Int) = c)) := by unfold Here; rw [unhide HXx]; exact hide Iff.rfl
      by_cases e1 : (x2 : Int) = l
      · by_cases e2 : (x3 : Int) = c
        · have Hyes := hide ((unhide HH).2 ⟨e1, e2⟩)
          go_wp2
          go_ret2
          refine ⟨x1, 0, rfl, .inl ⟨k, unhide Hyes, unhide Hall, ?_, rfl⟩, unhide Hb2⟩
          rw [unhide HXx]
        · have Hno : Hid (¬ Here s k l c) := hide fun h => e2 ((unhide HH).1 h).2
          have b1 : ((x2 : Int) == l) = true := by simp [e1]
          have b2 : ((x3 : Int) == c) = false := by simp [e2]
          have E1 := hide e1
          clear e1
          go_wp2_with fail
          refine (unhide HX _).mono ?_
          rintro e w2 ⟨rfl, hb3⟩
          have hs3 := hb3.size
          have hp03 := (unhide Hp02).below hb3 (by omega)
          have hp13 := (unhide Hp12).below hb3 (by omega)
          have hi3 := iter_below hb3 (unhide Hi2) (Nat.le_refl _)
          have hb4 := (unhide Hb2).trans (hb3.mono (by omega))
          obtain ⟨d10, d11, d12, d13, d14⟩ := hp13.facts
          have Hp03 := hide hp03; have Hp13 := hide hp13; have Hi3 := hide hi3; have Hb4 := hide hb4
          clear hp03 hp13 hi3 hb4 hb3
          go_wp2
          go_roundw
          case rel =>
            have hne : w.heap.size ≠ w1.heap.size := by omega
            have hit5 : ∀ (v u : Value), ((w2.setCell ⟨w1.heap.size, 0, none⟩ v).setCell ⟨w1.heap.size, 1, none⟩ u).heap[w1.heap.size + 1]? = some (.stringIter s y1) := fun v u => by
              rw [Below.heap_setCell _ _ _ _ (by simp), Below.heap_setCell _ _ _ _ (by simp)]; exact unhide Hi3
            refine ⟨k + 1, ((unhide Hp03).setOther hne _ _).setOther hne _ _, ?_, ?_, ((unhide Hb4).setCell (Nat.le_of_lt hlt) _).setCell (Nat.le_of_lt hlt) _, fun j hj => ?_⟩
            · rw [unhide HYy]; exact (unhide Hp13).set _ _
            · rw [unhide HYy]; exact hit5 _ _
            · by_cases e : j = k
              · subst e; rw [unhide HXx]; exact ⟨hp, unhide Hno⟩
              · exact unhide Hall j (by omega)
          case measure =>
            have hit5 : ∀ (v u : Value), ((w2.setCell ⟨w1.heap.size, 0, none⟩ v).setCell ⟨w1.heap.size, 1, none⟩ u).heap[w1.heap.size + 1]? = some (.stringIter s y1) := fun v u => by
              rw [Below.heap_setCell _ _ _ _ (by simp), Below.heap_setCell _ _ _ _ (by simp)]; exact unhide Hi3
            rw [iterPos_of (hit5 _ _), iterPos_of (unhide Hit)]
            have := unhide Hpos
            omega
      · have Hno : Hid (¬ Here s k l c) := hide fun h => e1 ((unhide HH).1 h).1
        have b1 : ((x2 : Int) == l) = false := by simp [e1]
        go_wp2_with fail
        refine (unhide HX _).mono ?_
        rintro e w2 ⟨rfl, hb3⟩
        have hs3 := hb3.size
        have hp03 := (unhide Hp02).below hb3 (by omega)
        have hp13 := (unhide Hp12).below hb3 (by omega)
        have hi3 := iter_below hb3 (unhide Hi2) (Nat.le_refl _)
        have hb4 := (unhide Hb2).trans (hb3.mono (by omega))
        obtain ⟨d10, d11, d12, d13, d14⟩ := hp13.facts
        have Hp03 := hide hp03; have Hp13 := hide hp13; have Hi3 := hide hi3; have Hb4 := hide hb4
        clear hp03 hp13 hi3 hb4 hb3
        go_wp2
        go_roundw
        case rel =>
          have hne : w.heap.size ≠ w1.heap.size := by omega
          have hit5 : ∀ (v u : Value), ((w2.setCell ⟨w1.heap.size, 0, none⟩ v).setCell ⟨w1.heap.size, 1, none⟩ u).heap[w1.heap.size + 1]? = some (.stringIter s y1) := fun v u => by
            rw [Below.heap_setCell _ _ _ _ (by simp), Below.heap_setCell _ _ _ _ (by simp)]; exact unhide Hi3
          refine ⟨k + 1, ((unhide Hp03).setOther hne _ _).setOther hne _ _, ?_, ?_, ((unhide Hb4).setCell (Nat.le_of_lt hlt) _).setCell (Nat.le_of_lt hlt) _, fun j hj => ?_⟩
          · rw [unhide HYy]; exact (unhide Hp13).set _ _
          · rw [unhide HYy]; exact hit5 _ _
          · by_cases e : j = k
            · subst e; rw [unhide HXx]; exact ⟨hp, unhide Hno⟩
            · exact unhide Hall j (by omega)
        case measure =>
          have hit5 : ∀ (v u : Value), ((w2.setCell ⟨w1.heap.size, 0, none⟩ v).setCell ⟨w1.heap.size, 1, none⟩ u).heap[w1.heap.size + 1]? = some (.stringIter s y1) := fun v u => by
            rw [Below.heap_setCell _ _ _ _ (by simp), Below.heap_setCell _ _ _ _ (by simp)]; exact unhide Hi3
          rw [iterPos_of (hit5 _ _), iterPos_of (unhide Hit)]
          have := unhide Hpos
          omega
    · have hnx : ∀ ty, (Instr.next (.pointer (some ⟨w1.heap.size + 1, 0, none⟩)) true ty).run Try.prog wr = _ := fun ty => Lib.run_next_end_at wr (w1.heap.size + 1) s _ ty (unhide Hit) hp
      obtain ⟨c00, c01, c02, c03, c04⟩ := (unhide Hp0).facts
      obtain ⟨c10, c11, c12, c13, c14⟩ := (unhide Hp1).facts
      have hn : (st s k).1 = s.size := by have := (st_bounds s k).1; omega
      have HH : Hid (Here s k l c ↔ (((st s k).2.1 : Int) = l ∧ ((st s k).2.2 : Int) = c)) := hide Iff.rfl
      have Hlast : Hid (¬ Here s k l c → ∀ j, ¬ Here s j l c) := hide fun hno j => by
        by_cases hj : j < k
        · exact (unhide Hall j hj).2
        · unfold Here; rw [st_stay s k j (by omega) hp]; exact hno
      have Hn := hide hn
      clear hn
      generalize ((st s k).2.1 : Int) = x2 at *
      generalize ((st s k).2.2 : Int) = x3 at *
      by_cases e1 : x2 = l
      · by_cases e2 : x3 = c
        · have Hyes := hide ((unhide HH).2 ⟨e1, e2⟩)
          go_wp2
          go_ret2
          refine ⟨s.size, 0, rfl, .inl ⟨k, unhide Hyes, unhide Hall, ?_, rfl⟩, unhide Hbel⟩
          rw [unhide Hn]
        · have Hno : Hid (¬ Here s k l c) := hide fun h => e2 ((unhide HH).1 h).2
          go_wp2
          go_ret2
          exact ⟨0, 13, rfl, .inr ⟨unhide Hlast (unhide Hno), rfl, rfl⟩, unhide Hbel⟩
      · have Hno : Hid (¬ Here s k l c) := hide fun h => e1 ((unhide HH).1 h).1
        go_wp2
        go_ret2
        exact ⟨0, 13, rfl, .inr ⟨unhide Hlast (unhide Hno), rfl, rfl⟩, unhide Hbel⟩
end Go.Proofs.Ytodncpnhmmnclaa

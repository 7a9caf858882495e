/- The cursor. -/
import Derived.Test.YtkckcnjamlpadabDoorA1
namespace Go.Proofs.YtkckcnjamlpadabDoor
open Go.RowKit Go.Maps

/-- A cursor in memory. -/
structure CurAt (w : World) (c g cap : Nat) (l : List T3) (k : Nat) : Prop where
  box : w.heap[c]? = some (.cells #[.slice (some ⟨g, 0, none⟩) l.length cap, .int .i64 (k : Int)] 39 (0, 0))
  row : TRow w (some ⟨g, 0, none⟩) l
  ne : g ≠ c
  gl : g < w.heap.size
  le : k ≤ l.length
theorem CurAt.below {w w' : World} {c g cap k : Nat} {l : List T3} (h : CurAt w c g cap l k) (hb : Below w.heap.size w w') : CurAt w' c g cap l k :=
  ⟨(hb.block _ (lt_of_some h.box)).trans h.box, trow_below h.row (Nat.le_refl _) hb, h.ne, Nat.lt_of_lt_of_le h.gl hb.size, h.le⟩
def lastTo (l : List T3) : Int := if l.length = 0 then 0 else (l.getD (l.length - 1) (0, 0, 0)).2.2
def wantT (l : List T3) (k : Nat) : T3 := if k < l.length then l.getD k (0, 0, 0) else (0, lastTo l, lastTo l)
def tokV (x : T3) : Value := .agg #[.int .i64 x.1, .int .i64 x.2.1, .int .i64 x.2.2]
theorem trow_off {R : Nat} {W W' : World} {g : Nat} {l : List T3} (h : TRow W (some ⟨g, 0, none⟩) l) (ho : OffR R W W') (hne : g ≠ R) : TRow W' (some ⟨g, 0, none⟩) l := by
  rcases h with rfl | ⟨b, off, e, hlt, hc⟩
  · exact .inl rfl
  · simp only [Option.some.injEq, Addr.mk.injEq] at e
    obtain ⟨rfl, rfl, -⟩ := e
    refine .inr ⟨_, 0, rfl, Nat.lt_of_lt_of_le hlt ho.size, fun j hj => ?_⟩
    have e := ho.block _ hlt hne
    rw [World.cell?_of_block (a := ⟨g, 0 + j * 3, none⟩) e, World.cell?_of_block (a := ⟨g, 0 + j * 3 + 1, none⟩) e, World.cell?_of_block (a := ⟨g, 0 + j * 3 + 2, none⟩) e]
    exact hc j hj

set_option maxHeartbeats 1000000 in
set_option maxRecDepth 100000 in
theorem isMade_any (c g cap k : Nat) (l : List T3) (w : World) (h : CurAt w c g cap l k) :
    Calls Tryd.prog 21 #[.pointer (some ⟨c, 0, none⟩)] w fun e w' => e = .returned (.bool true) ∧ w = w' := by
  have c0 := cell_block h.box 0 _ rfl
  clear h
  go_enter Tryd.func21, Tryd.ntmps21
  go_wp2
  go_ret
  exact ⟨rfl, rfl⟩

set_option maxHeartbeats 1000000 in
set_option maxRecDepth 100000 in
theorem left48_any (c g cap k : Nat) (l : List T3) (hl9 : l.length ≤ 281474976710656) (w : World) (h : CurAt w c g cap l k) :
    Calls Tryd.prog 22 #[.pointer (some ⟨c, 0, none⟩)] w fun e w' => e = .returned (.int .i64 ((l.length : Int) - (k : Int))) ∧ Below w.heap.size w w' := by
  have c0 := cell_block h.box 0 _ rfl
  have c1 := cell_block h.box 1 _ rfl
  have hle := h.le
  clear h
  go_enter Tryd.func22, Tryd.ntmps22
  go_wp2
  go_quiet (fail)
  go_wp2
  go_ret
  exact ⟨rfl, below_drewN (Below.refl _ _) _⟩

set_option maxHeartbeats 1000000 in
set_option maxRecDepth 100000 in
theorem end_any (c g cap k : Nat) (l : List T3) (hl9 : l.length ≤ 281474976710656) (w : World) (h : CurAt w c g cap l k) :
    Calls Tryd.prog 33 #[.pointer (some ⟨c, 0, none⟩)] w fun e w' => e = .returned (tokV (0, lastTo l, lastTo l)) ∧ Below w.heap.size w w' := by
  have hcl := lt_of_some h.box
  have hb : ∀ o, (w.alloc o).heap[c]? = _ := fun o => (Below.heap_alloc w o c hcl).trans h.box
  have c0 := fun o => cell_block (hb o) 0 _ rfl
  unfold tokV
  by_cases h0 : l.length = 0
  · rw [show lastTo l = 0 by simp [lastTo, h0]]
    have h0' : ¬ (0 : Int) < l.length := by omega
    clear h hb
    go_enter Tryd.func33, Tryd.ntmps33
    go_wp2
    refine bodyPost_ret (v := .agg #[.int .i64 0, .int .i64 0, .int .i64 0]) (by simp [results, Tryd.results33, go_sem]) rfl ?_
    exact ⟨rfl, (Below.refl _ _).alloc (Nat.le_refl _) _⟩
  · have h0' : (0 : Int) < l.length := by omega
    obtain ⟨b, off, e, hlt, hc⟩ := trow_pos h.row (k := l.length - 1) (by omega)
    simp only [Option.some.injEq, Addr.mk.injEq] at e
    obtain ⟨rfl, rfl, -⟩ := e
    have q2 := (hc (l.length - 1) (by omega)).2.2
    have hq : w.cell? ⟨g, 0 + (l.length - 1) * 3 + 2, none⟩ = some (.int .i64 (lastTo l)) := by
      rw [q2]; simp [lastTo, h0]
    obtain ⟨n, hn⟩ : ∃ n, l.length = n + 1 := ⟨l.length - 1, by omega⟩
    rw [hn] at hq c0 h0'
    rw [show n + 1 - 1 = n by omega] at hq
    simp only [Nat.zero_add] at hq
    have hn7 : n ≤ 281474976710656 := by omega
    have hn9 : ((n + 1 : Nat) : Int) - 1 = (n : Int) := by omega
    have hn8 : (n : Int) < ((n + 1 : Nat) : Int) := by omega
    generalize lastTo l = t at *
    clear hc q2 h hb h0 hn
    go_enter Tryd.func33, Tryd.ntmps33
    go_wp2
    refine bodyPost_ret (v := .agg #[.int .i64 0, .int .i64 t, .int .i64 t]) (by simp [results, Tryd.results33, go_sem]) rfl ?_
    exact ⟨rfl, (Below.refl _ _).alloc (Nat.le_refl _) _⟩
set_option maxHeartbeats 1000000 in
set_option maxRecDepth 100000 in
theorem first_any (c g cap k : Nat) (l : List T3) (hl9 : l.length ≤ 281474976710656) (w : World) (h : CurAt w c g cap l k) :
    Calls Tryd.prog 23 #[.pointer (some ⟨c, 0, none⟩)] w fun e w' => e = .returned (tokV (wantT l k)) ∧ Below w.heap.size w w' := by
  have hle := h.le
  have HL := hide (fun o => left48_any c g cap k l hl9 (w.alloc o) (h.below ((Below.refl _ _).alloc (Nat.le_refl _) o)))
  by_cases hlt : k < l.length
  · rw [show wantT l k = l.getD k (0, 0, 0) by simp [wantT, hlt]]
    have hp : (0 : Int) < (l.length : Int) - (k : Int) := by omega
    have hk' : (k : Int) < l.length := by omega
    have Hh := hide h
    unfold tokV
    generalize hx : l.getD k (0, 0, 0) = x at *
    obtain ⟨x0, x1, x2⟩ := x
    have Hx := hide hx
    clear h hx
    simp only
    go_enter Tryd.func23, Tryd.ntmps23
    go_wp2_with fail
    refine (unhide HL _).mono ?_
    rintro e w1 ⟨rfl, hb1⟩
    have h1 := ((unhide Hh).below ((Below.refl _ _).alloc (Nat.le_refl _) _)).below hb1
    have hX := (hb1.block w.heap.size (by simp)).trans (heap_new w _)
    have HB := hide (((Below.refl _ w).alloc (Nat.le_refl _) _).trans (hb1.mono (by simp)))
    have c0 := cell_block h1.box 0 _ rfl
    have c1 := cell_block h1.box 1 _ rfl
    have a0 := cell_block hX 0 _ rfl
    have a1 := cell_block hX 1 _ rfl
    have a2 := cell_block hX 2 _ rfl
    have f0 := frozen_block hX 0
    have f1 := frozen_block hX 1
    have f2 := frozen_block hX 2
    obtain ⟨b, off, e, hgl, hc⟩ := trow_pos h1.row hlt
    simp only [Option.some.injEq, Addr.mk.injEq] at e
    obtain ⟨rfl, rfl, -⟩ := e
    obtain ⟨q0, q1, q2⟩ := hc k hlt
    rw [unhide Hx] at q0 q1 q2
    simp only [Nat.zero_add] at q0 q1 q2
    clear hc h1 hb1 HL Hh hX
    go_wp2
    go_region
    all_goals go_wp2
    all_goals
      refine bodyPost_ret (v := .agg #[.int .i64 x0, .int .i64 x1, .int .i64 x2]) (by simp [results, Tryd.results23, go_sem, a0, a1, a2]) rfl ?_
      exact ⟨rfl, by first | exact (((((unhide HB).setCell (p := ⟨w.heap.size, 0, none⟩) (Nat.le_refl _) _).setCell (p := ⟨w.heap.size, 1, none⟩) (Nat.le_refl _) _).setCell (p := ⟨w.heap.size, 2, none⟩) (Nat.le_refl _) _)).drew | exact below_drewN (((((unhide HB).setCell (p := ⟨w.heap.size, 0, none⟩) (Nat.le_refl _) _).setCell (p := ⟨w.heap.size, 1, none⟩) (Nat.le_refl _) _).setCell (p := ⟨w.heap.size, 2, none⟩) (Nat.le_refl _) _)) _⟩
  · rw [show wantT l k = (0, lastTo l, lastTo l) by simp [wantT, hlt]]
    have hp : ¬ (0 : Int) < (l.length : Int) - (k : Int) := by omega
    have Hh := hide h
    have HN := hide (fun W (h : CurAt W c g cap l k) => end_any c g cap k l hl9 W h)
    unfold tokV at HN ⊢
    generalize lastTo l = t at *
    clear h
    simp only at HN ⊢
    go_enter Tryd.func23, Tryd.ntmps23
    go_wp2_with fail
    refine (unhide HL _).mono ?_
    rintro e w1 ⟨rfl, hb1⟩
    have h1 := ((unhide Hh).below ((Below.refl _ _).alloc (Nat.le_refl _) _)).below hb1
    have hX := (hb1.block w.heap.size (by simp)).trans (heap_new w _)
    have HB := hide (((Below.refl _ w).alloc (Nat.le_refl _) _).trans (hb1.mono (by simp)))
    have HN1 := hide (unhide HN w1 h1)
    have HX := hide hX
    clear hb1 h1 hX HL Hh HN
    go_wp2_with fail
    refine (unhide HN1).mono ?_
    rintro e w2 ⟨rfl, hb2⟩
    have hX := (hb2.block w.heap.size (lt_of_some (unhide HX))).trans (unhide HX)
    have a0 := cell_block hX 0 _ rfl
    have a1 := cell_block hX 1 _ rfl
    have a2 := cell_block hX 2 _ rfl
    have f0 := frozen_block hX 0
    have f1 := frozen_block hX 1
    have f2 := frozen_block hX 2
    have HB2 := hide ((unhide HB).trans (hb2.mono (unhide HB).size))
    clear hb2 hX HN1 HX
    go_wp2
    refine bodyPost_ret (v := .agg #[.int .i64 0, .int .i64 t, .int .i64 t]) (by simp [results, Tryd.results23, go_sem, a0, a1, a2]) rfl ?_
    exact ⟨rfl, ((((unhide HB2).setCell (p := ⟨w.heap.size, 0, none⟩) (Nat.le_refl _) _).setCell (p := ⟨w.heap.size, 1, none⟩) (Nat.le_refl _) _).setCell (p := ⟨w.heap.size, 2, none⟩) (Nat.le_refl _) _)⟩

set_option maxHeartbeats 1000000 in
set_option maxRecDepth 100000 in
theorem peek_any (c g cap k : Nat) (l : List T3) (hl9 : l.length ≤ 281474976710656) (w : World) (h : CurAt w c g cap l k) :
    Calls Tryd.prog 14 #[.pointer (some ⟨c, 0, none⟩)] w fun e w' => e = .returned (tokV (wantT l k)) ∧ Below w.heap.size w w' := by
  have HM := hide (fun o => isMade_any c g cap k l (w.alloc o) (h.below ((Below.refl _ _).alloc (Nat.le_refl _) o)))
  have HN := hide (fun o => first_any c g cap k l hl9 (w.alloc o) (h.below ((Below.refl _ _).alloc (Nat.le_refl _) o)))
  unfold tokV at HN ⊢
  generalize wantT l k = x at *
  obtain ⟨x0, x1, x2⟩ := x
  simp only at HN ⊢
  clear h
  go_enter Tryd.func14, Tryd.ntmps14
  go_wp2_with fail
  refine (unhide HM _).mono ?_
  rintro e w1 ⟨rfl, rfl⟩
  go_wp2_with fail
  refine (unhide HN _).mono ?_
  rintro e w2 ⟨rfl, hb2⟩
  have hX := (hb2.block w.heap.size (by simp)).trans (heap_new w _)
  have a0 := cell_block hX 0 _ rfl
  have a1 := cell_block hX 1 _ rfl
  have a2 := cell_block hX 2 _ rfl
  have f0 := frozen_block hX 0
  have f1 := frozen_block hX 1
  have f2 := frozen_block hX 2
  have HB2 := hide (((Below.refl _ w).alloc (Nat.le_refl _) _).trans (hb2.mono (by simp)))
  clear hb2 hX HN HM
  go_wp2
  refine bodyPost_ret (v := .agg #[.int .i64 x0, .int .i64 x1, .int .i64 x2]) (by simp [results, Tryd.results14, go_sem, a0, a1, a2]) rfl ?_
  exact ⟨rfl, ((((unhide HB2).setCell (p := ⟨w.heap.size, 0, none⟩) (Nat.le_refl _) _).setCell (p := ⟨w.heap.size, 1, none⟩) (Nat.le_refl _) _).setCell (p := ⟨w.heap.size, 2, none⟩) (Nat.le_refl _) _)⟩

set_option maxHeartbeats 1000000 in
set_option maxRecDepth 100000 in
theorem at_any (c g cap k : Nat) (l : List T3) (w : World) (h : CurAt w c g cap l k) :
    Calls Tryd.prog 11 #[.pointer (some ⟨c, 0, none⟩)] w fun e w' => e = .returned (.int .i64 (k : Int)) ∧ w = w' := by
  have HM := hide (isMade_any c g cap k l w h)
  have c1 := cell_block h.box 1 _ rfl
  clear h
  go_enter Tryd.func11, Tryd.ntmps11
  go_wp2_with fail
  refine (unhide HM).mono ?_
  rintro e w1 ⟨rfl, rfl⟩
  go_wp2
  go_ret
  exact ⟨rfl, rfl⟩
set_option maxHeartbeats 1000000 in
set_option maxRecDepth 100000 in
theorem left_any (c g cap k : Nat) (l : List T3) (hl9 : l.length ≤ 281474976710656) (w : World) (h : CurAt w c g cap l k) :
    Calls Tryd.prog 8 #[.pointer (some ⟨c, 0, none⟩)] w fun e w' => e = .returned (.int .i64 ((l.length : Int) - (k : Int))) ∧ Below w.heap.size w w' := by
  have HM := hide (isMade_any c g cap k l w h)
  have HL := hide (left48_any c g cap k l hl9 w h)
  clear h
  go_enter Tryd.func8, Tryd.ntmps8
  go_wp2_with fail
  refine (unhide HM).mono ?_
  rintro e w1 ⟨rfl, rfl⟩
  go_wp2_with fail
  refine (unhide HL).mono ?_
  rintro e w1 ⟨rfl, hb⟩
  go_wp2
  go_ret
  exact ⟨rfl, hb⟩
end Go.Proofs.YtkckcnjamlpadabDoor

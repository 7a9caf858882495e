/- The readers: readEscape, readRune. -/
import Derived.Test.YtkbhdojgdgiggabDoorT5
import Derived.Shelf.Strings.Search1
import Derived.Sort.Row
namespace Go.Proofs.YtkbhdojgdgiggabDoor
open Go.RowKit Go.Lib

/-- A fault's box, with no fault in it. -/
def FB (c : Nat) (W : World) : Prop := W.heap[c]? = some (.cells #[.int .i64 0, .int .i64 0] 43 (0, 0))
theorem FB.cell0 {c : Nat} {W : World} (h : FB c W) : W.cell? ⟨c, 0, none⟩ = some (.int .i64 0) := by simp [World.cell?, show W.heap[c]? = _ from h]
theorem FB.cell1 {c : Nat} {W : World} (h : FB c W) : W.cell? ⟨c, 1, none⟩ = some (.int .i64 0) := by simp [World.cell?, show W.heap[c]? = _ from h]
theorem FB.fz {c : Nat} {W : World} (h : FB c W) (j : Nat) : W.frozen? ⟨c, j, none⟩ = false := by simp [World.frozen?, show W.heap[c]? = _ from h]
theorem FB.lt {c : Nat} {W : World} (h : FB c W) : c < W.heap.size := (Array.getElem?_eq_some_iff.1 h).1
theorem FB.set {c : Nat} {W : World} (h : FB c W) (j : Nat) (hj : j < 2) : W.setCell ⟨c, j, none⟩ (.int .i64 0) = W := by
  rw [Go.Sort.setCell_eq]
  have e : W.heap.modify c (fun o => match o with | .cells a e f => .cells (a.setIfInBounds j (.int .i64 0)) e f | o => o) = W.heap := by
    apply Array.ext_getElem?
    intro k
    rw [Array.getElem?_modify]
    split
    · rename_i hk; subst hk
      rw [show W.heap[c]? = _ from h]
      have : j = 0 ∨ j = 1 := by omega
      rcases this with rfl | rfl <;> rfl
    · rfl
  exact congrArg (fun x => { W with heap := x }) e
theorem FB.start (w : World) : FB w.heap.size (w.alloc (.cells #[.int .i64 0, .int .i64 0] 43)) := by
  show (w.heap.push _)[w.heap.size]? = _
  simp
theorem FB.below {c B : Nat} {W W' : World} (h : FB c W) (hb : Below B W W') (hc : c < B) : FB c W' := (hb.block c hc).trans h
def RuneR (r : Int) (n : Nat) : Value := .tuple #[.int .i32 r, .int .i64 n, .agg #[.int .i64 0, .int .i64 0]]
set_option maxHeartbeats 2000000 in
set_option maxRecDepth 100000 in
theorem escape_ok (s : ByteArray) (i : Nat) (c r : Int) (hs : s.size < 4611686018427387904) (hc : gb s (i + 1) = c)
    (h : (c = 110 ∧ r = 10) ∨ (c = 116 ∧ r = 9) ∨ (c = 114 ∧ r = 13) ∨ (c = 91 ∧ r = 91) ∨ (c = 93 ∧ r = 93) ∨ (c = 45 ∧ r = 45) ∨ (c = 94 ∧ r = 94) ∨ (c = 92 ∧ r = 92) ∨ (c = 34 ∧ r = 34)) (w : World) :
    Calls Tryd.prog 89 #[.string s, .int .i64 i] w fun e w' => e = .returned (RuneR r (i + 2)) ∧ Below w.heap.size w w' := by
  have hin : i + 1 < s.size := gb_pos (by rw [hc]; omega)
  have c0 : (((i : Int) + 1) == (s.size : Int)) = false := by simp; omega
  have c1 : ((i + 1 : Nat) : Int) < s.size := by omega
  have c3 := gb_in hin
  have Hbel : Hid (Below w.heap.size w (w.alloc (.cells #[.int .i64 0, .int .i64 0] 43))) := hide ((Below.refl _ _).alloc (Nat.le_refl _) _)
  rw [hc] at c3
  go_enter Tryd.func89, Tryd.ntmps89
  rcases h with ⟨rfl, rfl⟩ | ⟨rfl, rfl⟩ | ⟨rfl, rfl⟩ | ⟨rfl, rfl⟩ | ⟨rfl, rfl⟩ | ⟨rfl, rfl⟩ | ⟨rfl, rfl⟩ | ⟨rfl, rfl⟩ | ⟨rfl, rfl⟩
  all_goals
    go_wp2
    refine bodyPost_ret (v := RuneR _ (i + 2)) (by simp [results, Tryd.results89, go_sem, RuneR]) rfl ⟨rfl, unhide Hbel⟩
theorem escape_u (s : ByteArray) (i : Nat) (r : Int) (n : Nat) (hs : s.size < 4611686018427387904) (hc : gb s (i + 1) = 117) (w : World)
    (H : ∀ w, Calls Tryd.prog 100 #[.string s, .int .i64 i] w fun e w' => e = .returned (RuneR r n) ∧ Below w.heap.size w w') :
    Calls Tryd.prog 89 #[.string s, .int .i64 i] w fun e w' => e = .returned (RuneR r n) ∧ Below w.heap.size w w' := by
  have hin : i + 1 < s.size := gb_pos (by rw [hc]; omega)
  have c0 : (((i : Int) + 1) == (s.size : Int)) = false := by simp; omega
  have c1 : ((i + 1 : Nat) : Int) < s.size := by omega
  have c3 := gb_in hin
  rw [hc] at c3
  have HH := hide H
  have Hbel : Hid (Below w.heap.size w (w.alloc (.cells #[.int .i64 0, .int .i64 0] 43))) := hide ((Below.refl _ _).alloc (Nat.le_refl _) _)
  clear H
  go_enter Tryd.func89, Tryd.ntmps89
  go_wp2_with fail
  refine (unhide HH _).mono ?_
  rintro e w1 ⟨rfl, hb⟩
  have hfb := (FB.start w).below hb (by simp)
  have f0 := hfb.cell0; have f1 := hfb.cell1; have z0 := hfb.fz 0; have z1 := hfb.fz 1; have q0 := hfb.set 0 (by omega); have q1 := hfb.set 1 (by omega)
  have hb2 := (unhide Hbel).trans (below_le hb (by simp))
  have Hb2 := hide hb2
  clear hb2 hb hfb
  unfold RuneR
  go_wp2
  refine bodyPost_ret (v := RuneR r n) (by simp [results, Tryd.results89, go_sem, RuneR, f0, f1]) rfl ⟨rfl, unhide Hb2⟩
end Go.Proofs.YtkbhdojgdgiggabDoor

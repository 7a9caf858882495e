/- Contract of Text, out of what appendRune does. -/
import Derived.Test.YtkbhdojgdgiggaaDoorV7
import Derived.Test.YtkbhdojgdgiggaaDoorM4
import Derived.Lib.AppendStr
namespace Go.Proofs.YtkbhdojgdgiggaaDoor
open Go.RowKit Go.Sort Go.Lib

theorem hbyte : (Tryd.prog.info? 5).map (fun i => (i.zero, i.size, i.bytes)) = some (some (.int .u8 0), 1, 1) := by kernel_rfl
theorem own_to_string {w : World} {B : Nat} {v : Value} {l : List UInt8} (h : w.ownsRow B 5 1 v l.length (Lib.byteCells l)) :
    (convert 71 9 v).run Tryd.prog w = .ok (.string ⟨l.toArray⟩) w := by
  obtain ⟨hl, hh⟩ := h
  rcases hh with ⟨rfl, h0⟩ | ⟨g, cap, cur, rfl, hg, hheap, hn, hm, hcur, htk⟩
  · have : l = [] := List.length_eq_zero_iff.1 h0
    subst this
    rw [run_convert_bytes_nil w 71 5 Tryd.underlying71 Tryd.underlying5 0 0 9 Tryd.underlying9]
    rfl
  · refine run_convert_bytes_back w 71 9 5 _ _ _ Tryd.underlying71 Tryd.underlying5 Tryd.underlying9 ?_
    intro j hj
    refine World.ownsRow.cells (w := w) (base := B) (e := 5) (size := 1) (v := .slice (some ⟨g, 0, none⟩) l.length cap) (n := l.length) (xs := Lib.byteCells l) ⟨hl, Or.inr ⟨g, cap, cur, rfl, hg, hheap, hn, hm, hcur, htk⟩⟩ rfl j _ ?_
    simp [Lib.byteCells, hj]
theorem ownsRow_drew {w : World} {B : Nat} {e : TypeId} {size : Nat} {v : Value} {n : Nat} {xs : List Value} (h : w.ownsRow B e size v n xs) : w.drew.ownsRow B e size v n xs := h
/-- A range's box. -/
def BoxAt (c : Nat) (x y : Int) (W : World) : Prop := W.heap[c]? = some (.cells #[.int .i32 x, .int .i32 y] 55 (0, 0))
theorem BoxAt.cell0 {c : Nat} {x y : Int} {W : World} (h : BoxAt c x y W) : W.cell? ⟨c, 0, none⟩ = some (.int .i32 x) := by simp [World.cell?, show W.heap[c]? = _ from h]
theorem BoxAt.cell1 {c : Nat} {x y : Int} {W : World} (h : BoxAt c x y W) : W.cell? ⟨c, 1, none⟩ = some (.int .i32 y) := by simp [World.cell?, show W.heap[c]? = _ from h]
theorem BoxAt.lt {c : Nat} {x y : Int} {W : World} (h : BoxAt c x y W) : c < W.heap.size := (Array.getElem?_eq_some_iff.1 h).1
theorem BoxAt.alloc {c : Nat} {x y : Int} {W : World} (h : BoxAt c x y W) (o : Obj) : BoxAt c x y (W.alloc o) := by
  have hlt := h.lt
  show (W.heap.push o)[c]? = _
  rw [Array.getElem?_push_lt hlt, ← Array.getElem?_eq_getElem hlt]
  exact h
theorem BoxAt.grown {c : Nat} {x y : Int} {W W' : World} (h : BoxAt c x y W) {row : Option Nat} (hg : W.grownBy W' row) (hne : some c ≠ row) : BoxAt c x y W' := (hg.block c h.lt hne).trans h
theorem BoxAt.ne {c : Nat} {x y : Int} {W : World} (h : BoxAt c x y W) {B : Nat} {v : Value} {n : Nat} {xs : List Value} (ho : W.ownsRow B 5 1 v n xs) : some c ≠ v.ownBlock := by
  intro e
  rcases ho.2 with ⟨rfl, _⟩ | ⟨g, cap, cur, rfl, _, hg, _⟩
  · simp [Value.ownBlock] at e
  · simp only [Value.ownBlock, Option.some.injEq] at e
    rw [← e, show W.heap[c]? = _ from h] at hg
    simp at hg
theorem BoxAt.start (w : World) (x y : Int) : BoxAt w.heap.size x y (w.alloc (.cells #[.int .i32 x, .int .i32 y] 55)) := by
  show (w.heap.push _)[w.heap.size]? = _
  simp
/-- What appendRune does with a rune, in worlds behind w. -/
def AppR (w : World) (r : Int) : Prop := ∀ (wr : World) (v : Value) (l : List UInt8), Below w.heap.size w wr → wr.ownsRow w.heap.size 5 1 v l.length (Lib.byteCells l) → l.length ≤ 1000000 →
  Calls Tryd.prog 54 #[v, .int .i32 r] wr fun e w' => ∃ v', e = .returned v' ∧ w'.ownsRow w.heap.size 5 1 v' (l ++ runeT r).length (Lib.byteCells (l ++ runeT r)) ∧ wr.grownBy w' v.ownBlock

set_option maxHeartbeats 4000000 in
set_option maxRecDepth 100000 in
theorem text_yes (a : Option Addr) (cap : Nat) (l : List Rng) (hl : l.length ≤ 2048) (w : World) (hrow : RowAt w a l) (hA : ∀ x ∈ l, AppR w x.1 ∧ AppR w x.2)
    (H : Hid (Calls Tryd.prog 9 #[.slice a l.length cap] w fun e w' => e = .returned (.int .i64 0) ∧ Below w.heap.size w w')) :
    Calls Tryd.prog 31 #[.slice a l.length cap] w fun e w' => e = .returned (.tuple #[.string ⟨(textL l).toArray⟩, .int .i64 0]) ∧ Below w.heap.size w w' := by
  obtain ⟨i0, hi, hz0, hz1, hz2⟩ := info_parts hbyte
  have Hrow := hide hrow; have HA := hide hA
  clear hrow hA
  go_enter Tryd.func31, Tryd.ntmps31
  go_wp2_with fail
  refine (unhide H).mono ?_
  rintro e w0 ⟨rfl, hb0⟩
  have hsz0 := hb0.size
  have Hb0 := hide hb0
  clear hb0 H
  go_wp2
  go_loopw [5, 16] (fun u x wr => ∃ k : Nat, wr.ownsRow w.heap.size 5 1 u (textTo l k).length (Lib.byteCells (textTo l k)) ∧ x = .int .i64 k ∧ k ≤ l.length ∧ Below w.heap.size w wr) (fun _ x _ => l.length - (intOf x).toNat)
  case atStart =>
    exact ⟨0, World.ownsRow_lit w0 #[.int .u8 91] 1 hsz0 (by unfold maxLen; omega) rfl, rfl, by omega, (unhide Hb0).alloc hsz0 _⟩
  case round =>
    obtain ⟨k, hown, rfl, hk, hbel⟩ := hrel
    have hsz := hbel.size
    have hle := textTo_le l k hk
    have Hown := hide hown; have Hbel := hide hbel
    clear hown hbel
    by_cases hkl : k < l.length
    · obtain ⟨b, off, rfl, hlt, hc⟩ := rowAt_cells (unhide Hrow) (unhide Hbel) hkl
      have hkl' : (k : Int) < l.length := by omega
      have q0 := (hc k hkl).1
      have q1 := (hc k hkl).2
      have hmem : l.getD k (0, 0) ∈ l := by
        rw [List.getD_eq_getElem?_getD, List.getElem?_eq_getElem hkl]; exact List.getElem_mem _
      have HAA := hide (unhide HA _ hmem)
      have Hst := hide (textTo_succ l k hkl)
      clear hc hmem
      generalize l.getD k (0, 0) = x at *
      obtain ⟨x, y⟩ := x
      simp only at q0 q1 HAA
      have hrt : rangeT (x, y) = runeT x ++ (if y = x then [] else 45 :: runeT y) := rfl
      rw [hrt] at Hst
      clear hrt
      generalize textTo l k = acc at *
      have Hal := hide ((unhide Hbel).alloc hsz (.cells #[.int .i32 x, .int .i32 y] 55))
      have HX := hide ((unhide HAA).1 (wr.alloc (.cells #[.int .i32 x, .int .i32 y] 55)) _ acc (unhide Hal) ((unhide Hown).alloc _) (by omega))
      go_wp2_with fail
      refine (unhide HX).mono ?_
      rintro e w1 ⟨v1, rfl, hown1, hg1⟩
      have hbx := BoxAt.grown (BoxAt.start wr x y) hg1 (BoxAt.ne (BoxAt.start wr x y) ((unhide Hown).alloc _))
      have hb1 := (unhide Hal).grown hg1 (by simp; omega) (fun x hx => ((unhide Hown).lt x hx).1)
      have hszw1 := hb1.size
      have s0 := hbx.cell0
      have s1 := hbx.cell1
      rw [List.length_append, Lib.byteCells_append] at hown1
      have hle2 := runeT_le x
      have Ho1 : Hid (w1.ownsRow w.heap.size 5 1 v1 (acc ++ runeT x).length (Lib.byteCells (acc ++ runeT x))) := hide (by rw [List.length_append, Lib.byteCells_append]; exact hown1)
      have Hbox := hide hbx; have Hb1 := hide hb1
      clear hbx hb1 hown1 hg1 HX Hal Hown Hbel
      obtain ⟨va, vcap, rfl⟩ := ownsRow_slice (unhide Ho1)
      have hlen1 : (acc ++ runeT x).length ≤ 1000000 := by simp; omega
      by_cases hxy : y = x
      · have hxy' : (y != x) = false := by simp [hxy]
        have Hxy := hide hxy
        clear hxy
        go_wp2
        go_roundw
        case rel =>
          refine ⟨k + 1, ?_, by go_num, by omega, unhide Hb1⟩
          rw [unhide Hst, if_pos (unhide Hxy), List.append_nil]
          have h := unhide Ho1
          simp only [List.length_append] at h ⊢
          exact h
        case measure => simp [intOf]; omega
      · have hxy' : (y != x) = true := by simp [hxy]
        generalize hq : (acc ++ runeT x).length = q at *
        go_wp2_with fail
        refine wp_region_held_drew (S := BoxAt wr.heap.size x y) (by kernel_rfl) (unhide Hbox) (fun hHeld => ?_)
        refine take_dst (i := 0) (dst := some 29) (v := ?_) rfl rfl (by kernel_rfl) (by kernel_rfl) (by kernel_rfl) (fun _ _ _ h => h) (Or.inl ⟨by rfl, ?_⟩) hHeld ?_
        rotate_left
        · intro w hSw; have s1 := hSw.cell1; clear hSw; go_simp; try (with_reducible rfl)
        simp only [Act.put, List.setIfInBounds_toArray, List.set_cons_zero, List.set_cons_succ]
        refine take_dst (i := 3) (dst := some 32) (v := ?_) rfl rfl (by kernel_rfl) (by kernel_rfl) (by kernel_rfl) (fun _ _ _ h => h) (Or.inl ⟨by rfl, ?_⟩) hHeld ?_
        rotate_left
        · intro w hSw; have s1 := hSw.cell1; clear hSw; go_simp; try (with_reducible rfl)
        simp only [Act.put, List.setIfInBounds_toArray, List.set_cons_zero, List.set_cons_succ]
        refine take_dst (i := 4) (dst := some 33) (v := ?_) rfl rfl (by kernel_rfl) (by kernel_rfl) (by kernel_rfl) (fun _ _ _ h => h) (Or.inl ⟨by rfl, ?_⟩) hHeld ?_
        rotate_left
        · intro w hSw; have s1 := hSw.cell1; clear hSw; go_simp; try (with_reducible rfl)
        simp only [Act.put, List.setIfInBounds_toArray, List.set_cons_zero, List.set_cons_succ]
        refine wpAnyH_ready (rs := [1]) (by kernel_rfl) (by simp) ?_
        refine AllReadyH.cons rfl (fun K hK => ?_) AllReadyH.nil
        go_simp
        refine hK.out _ _ (BoxAt.alloc hHeld _) (fun hHeld => ?_)
        clear hK K
        refine wpAnyH_ready (rs := [2]) (by kernel_rfl) (by simp) ?_
        refine AllReadyH.cons rfl (fun K hK => ?_) AllReadyH.nil
        refine wp_append_own _ _ _ 71 rfl w.heap.size 5 i0 (.int .u8 0) 1 1 Tryd.underlying71 hi hz0 hz1 hz2 rfl (by decide) _ _ _ rfl ((ownsRow_drew (unhide Ho1)).alloc _) ⟨w1.heap.size, 0, none⟩ 1 1 [.int .u8 45] rfl rfl ?c1 ?c2 ?c3 ?c4 ?c5 ?_
        case c1 => exact cell_one_new _ _ _
        case c2 => intro u hu; simp at hu; subst hu; rfl
        case c3 => unfold maxLen; omega
        case c4 => omega
        case c5 => simp; omega
        intro v2 w2 hown2 hgrow2 _
        refine hK.out _ _ (BoxAt.grown hHeld hgrow2 (BoxAt.ne hHeld ((ownsRow_drew (unhide Ho1)).alloc _))) (fun hHeld => ?_)
        clear hK K
        simp only [Act.put, List.setIfInBounds_toArray]
        refine wpAnyH_ready (rs := [5]) (by kernel_rfl) (by simp) ?_
        refine AllReadyH.cons rfl (fun K hK => ?_) AllReadyH.nil
        go_simp
        refine ((unhide HAA).2 w2 v2 (acc ++ runeT x ++ [45]) ?d1 ?d2 ?d3).mono ?_
        case d1 => exact (((unhide Hb1).drew).alloc hszw1 _).grown hgrow2 (by simp; omega) (fun x hx => ((unhide Ho1).lt x hx).1)
        case d2 => rw [Lib.byteCells_append, List.length_append, hq]; exact hown2
        case d3 => have := runeT_le x; simp; omega
        rintro e w3 ⟨v3, rfl, hown3, hg3⟩
        have hown2' : w2.ownsRow w.heap.size 5 1 v2 (acc ++ runeT x ++ [45]).length (Lib.byteCells (acc ++ runeT x ++ [45])) := by rw [Lib.byteCells_append, List.length_append, hq]; exact hown2
        have hb2' : Below w.heap.size w w2 := (((unhide Hb1).drew).alloc hszw1 _).grown hgrow2 (by simp; omega) (fun x hx => ((unhide Ho1).lt x hx).1)
        have Hb3 := hide (hb2'.grown hg3 (by have := hb2'.size; omega) (fun x hx => (hown2'.lt x hx).1))
        have Hbx := hide (BoxAt.grown hHeld hg3 (BoxAt.ne hHeld hown2'))
        have Hown3 := hide hown3
        clear hb2' hown2' hown2 hgrow2 hg3 hown3 hHeld
        go_wp2_with fail
        refine hK.out _ _ (unhide Hbx) (fun hHeld => ?_)
        clear hK K
        refine take_dst (i := 6) (dst := some 5) (v := ?_) rfl rfl (by kernel_rfl) (by kernel_rfl) (by kernel_rfl) (fun _ _ _ h => h) (Or.inl ⟨by rfl, ?_⟩) hHeld ?_
        rotate_left
        · intro w hSw; have s1 := hSw.cell1; clear hSw; go_simp; try (with_reducible rfl)
        simp only [Act.put, List.setIfInBounds_toArray, List.set_cons_zero, List.set_cons_succ]
        refine wpAnyH_done (by kernel_rfl) ?_ _
        go_wp2
        go_roundw
        case rel =>
          refine ⟨k + 1, ?_, by go_num, by omega, unhide Hb3⟩
          rw [unhide Hst, if_neg hxy]
          have := unhide Hown3
          simpa [List.append_assoc] using this
        case measure => simp [intOf]; omega
    · have hkl' : ¬ (k : Int) < l.length := by omega
      have hke : k = l.length := by omega
      subst hke
      go_wp2_with (at_builtin; refine wpList_append_own _ rfl _ _ 71 rfl w.heap.size 5 i0 (.int .u8 0) 1 1 Tryd.underlying71 hi hz0 hz1 hz2 rfl (by decide) _ _ _ rfl ((unhide Hown).alloc _) ⟨wr.heap.size, 0, none⟩ 1 1 [.int .u8 93] rfl rfl ?c1 ?c2 ?c3 ?c4 ?c5 ?_)
      case c2 => rfl
      case c3 => unfold maxLen; omega
      case c4 => omega
      case c5 => omega
      intro v' w2 hown' hgrow _
      have hconv : (convert 71 9 v').run Tryd.prog w2 = .ok (.string ⟨(textL l).toArray⟩) w2 := by
        refine own_to_string (B := w.heap.size) ?_
        unfold textL
        rw [Lib.byteCells_append, List.length_append]
        exact hown'
      go_wp2
      go_ret2
      exact ⟨rfl, ((unhide Hbel).alloc hsz _).grown hgrow (by simp; omega) (fun x hx => ((unhide Hown).lt x hx).1)⟩
end Go.Proofs.YtkbhdojgdgiggaaDoor

/- The law RunesWalks, walked at a nil set. -/
import Derived.Test.YtkbhdojgdgiggabDoorW4
namespace Go.Proofs.YtkbhdojgdgiggabDoor
open Go.RowKit

attribute [local go_sem] Oper.semAt_some

theorem kept_nil : keptL [] = [] := by unfold keptL; split <;> rfl
set_option maxHeartbeats 8000000 in
set_option maxRecDepth 100000 in
theorem walks_nil (leave : Int) (hlv : 0 ≤ leave ∧ leave ≤ 255) (w : World) :
    Calls Tryd.prog 6 #[.slice none 0 0, .int .u8 leave] w fun e w' => e = .returned (.bool true) ∧ Below w.heap.size w w' := by
  refine (callsIn_wide (n := 20)).1 ?_
  refine callsIn_of_wp_marks Tryd.func6 rfl trivial ?_ rfl
  simp only [Tryd.ntmps6, List.size_toArray, List.length_cons, List.length_nil, Nat.reduceAdd, Nat.reduceSub, Array.replicate_succ, Array.replicate_zero, List.push_toArray, List.append_toArray, List.nil_append, List.cons_append]
  have hBa : Below w.heap.size w (((w.alloc (.cells #[.slice none 0 0] 22)).alloc (.cells #[.int .u8 leave] 5)).alloc (.cells #[.bool false] 4)) := (((Below.refl _ w).alloc (Nat.le_refl _) _).alloc (by simp) _).alloc (by simp; omega) _
  have hBb := hBa.alloc (by simp; omega) (.cells #[] 53)
  have bS0 := (((Boxed.new w 22 (.slice none 0 0)).alloc (.cells #[.int .u8 leave] 5)).alloc (.cells #[.bool false] 4)).alloc (.cells #[] 53)
  have bL0 := ((Boxed.new (w.alloc (.cells #[.slice none 0 0] 22)) 5 (.int .u8 leave)).alloc (.cells #[.bool false] 4)).alloc (.cells #[] 53)
  have bR0 := (Boxed.new ((w.alloc (.cells #[.slice none 0 0] 22)).alloc (.cells #[.int .u8 leave] 5)) 4 (.bool false)).alloc (.cells #[] 53)
  simp only [World.size_alloc] at bL0 bR0
  have hsz0 : ((((w.alloc (.cells #[.slice none 0 0] 22)).alloc (.cells #[.int .u8 leave] 5)).alloc (.cells #[.bool false] 4)).alloc (.cells #[] 53)).heap.size = w.heap.size + 4 := by simp
  clear hBa
  have HA := hide (all_any (some ⟨w.heap.size + 1 + 1 + 1, 0, none⟩) 0 [] (by simp) ((((w.alloc (.cells #[.slice none 0 0] 22)).alloc (.cells #[.int .u8 leave] 5)).alloc (.cells #[.bool false] 4)).alloc (.cells #[] 53)) (.inr ⟨w.heap.size + 1 + 1 + 1, 0, rfl, by simp, fun j hj => by simp at hj⟩))
  rw [kept_nil] at HA
  gi_wp2_with fail
  generalize (((w.alloc (.cells #[.slice none 0 0] 22)).alloc (.cells #[.int .u8 leave] 5)).alloc (.cells #[.bool false] 4)).alloc (.cells #[] 53) = A at *
  refine ⟨trivial, (callsIn_wide.2 (unhide HA)).mono ?_⟩
  rintro e w2 ⟨rfl, ⟨kv, bK, oK⟩, hb2⟩
  rw [hsz0] at bK oK ⊢
  have hsz2 := hb2.size
  have hkv : (kv = .slice none 0 0 ∧ ([] : List Rng) = []) ∨ ∃ b c, kv = .slice (some ⟨b, 0, none⟩) 0 c ∧ b < w2.heap.size := by
    rcases oK.2 with ⟨e1, _⟩ | ⟨b, c, cur, e1, _, e3, _⟩
    · exact .inl ⟨e1, rfl⟩
    · exact .inr ⟨b, c, e1, (Array.getElem?_eq_some_iff.1 e3).1⟩
  have bS1 := boxed_below bS0 bS0.lt hb2
  have bL1 := boxed_below bL0 bL0.lt hb2
  have bR1 := boxed_below bR0 bR0.lt hb2
  have hB1 := hBb.trans (below_le hb2 hBb.size)
  clear oK hb2 bS0 bL0 bR0 hBb HA
  have bW := Boxed.new w2 50 .nilFunc
  have cW := bW.cell
  have fW := bW.frozen
  have hq : ∀ w', (binOp .eql 50 (.func (.func 42) #[] #[.pointer (some ⟨w.heap.size + 4, 0, none⟩)]) .nilFunc).run Tryd.prog w' = .ok (.bool false) w' := fun w' => func_nil _ _ _ w'
  gi_wp2_with fail
  have bW2 := Boxed.new w2 50 (.func (.func 42) #[] #[.pointer (some ⟨w.heap.size + 4, 0, none⟩)])
  have bS2 := bS1.alloc (.cells #[.func (.func 42) #[] #[.pointer (some ⟨w.heap.size + 4, 0, none⟩)]] 50)
  have bL2 := bL1.alloc (.cells #[.func (.func 42) #[] #[.pointer (some ⟨w.heap.size + 4, 0, none⟩)]] 50)
  have bR2 := bR1.alloc (.cells #[.func (.func 42) #[] #[.pointer (some ⟨w.heap.size + 4, 0, none⟩)]] 50)
  have bK2 := bK.alloc (.cells #[.func (.func 42) #[] #[.pointer (some ⟨w.heap.size + 4, 0, none⟩)]] 50)
  have hB2 := hB1.alloc hB1.size (.cells #[.func (.func 42) #[] #[.pointer (some ⟨w.heap.size + 4, 0, none⟩)]] 50)
  have hsz3 : (w2.alloc (.cells #[.func (.func 42) #[] #[.pointer (some ⟨w.heap.size + 4, 0, none⟩)]] 50)).heap.size = w2.heap.size + 1 := by simp
  clear bW cW fW hq bS1 bL1 bR1 bK hB1
  generalize w2.alloc (.cells #[.func (.func 42) #[] #[.pointer (some ⟨w.heap.size + 4, 0, none⟩)]] 50) = w3 at *
  gi_loopw [7] (fun x wr => x = .int .i64 0 ∧ wr = w3) (fun _ _ => 0)
  case atStart => exact ⟨rfl, rfl⟩
  case round =>
    obtain ⟨rfl, rfl⟩ := hrel
    have bW4 := (bW2.alloc (.cells #[.int .i64 0] 3)).alloc (.cells #[.int .i32 (-1)] 21)
    have cW := bW4.cell
    gi_wp2_with fail
    have bK4 := (bK2.alloc (.cells #[.int .i64 0] 3)).alloc (.cells #[.int .i32 (-1)] 21)
    have bS4 := (bS2.alloc (.cells #[.int .i64 0] 3)).alloc (.cells #[.int .i32 (-1)] 21)
    have bL4 := (bL2.alloc (.cells #[.int .i64 0] 3)).alloc (.cells #[.int .i32 (-1)] 21)
    have bR4 := (bR2.alloc (.cells #[.int .i64 0] 3)).alloc (.cells #[.int .i32 (-1)] 21)
    have bN4 := (Boxed.new wr 3 (.int .i64 0)).alloc (.cells #[.int .i32 (-1)] 21)
    have hB4 : Below w.heap.size w ((wr.alloc (.cells #[.int .i64 0] 3)).alloc (.cells #[.int .i32 (-1)] 21)) := (hB2.alloc hB2.size _).alloc (by have := hB2.size; simp; omega) _
    have hszW : ((wr.alloc (.cells #[.int .i64 0] 3)).alloc (.cells #[.int .i32 (-1)] 21)).heap.size = w2.heap.size + 3 := by simp; omega
    rw [hsz3] at bN4
    clear bW2 cW bS2 bL2 bR2 bK2 hB2
    generalize ((wr.alloc (.cells #[.int .i64 0] 3)).alloc (.cells #[.int .i32 (-1)] 21)) = W0 at *
    have hws := hB4.size
    have hst : ∀ X, Below W0.heap.size W0 X → SeqStopsK Fence.wide 19 Tryd.prog 42 #[.pointer (some ⟨w.heap.size + 4, 0, none⟩)] (fun x : Int => #[Value.int .i32 x]) (Keep (fun _ => False)) (fun ys => ys = runesL []) (fun pre => pre <+: runesL []) (runesL []).length X := fun X hX => by
      have bK5 := boxed_below bK4 bK4.lt hX
      have hX1 := hX.size
      refine all_stops Fence.wide 19 trivial rfl (by omega) (w.heap.size + 4) (fun _ => False) kv [] (by simp) (by simp) X (fun o h => h.elim) bK5.lt bK5.cell ?_
      rcases hkv with h | ⟨b, c, h1, h2⟩
      · exact .inl ⟨h.1, rfl⟩
      · exact .inr ⟨b, 0, c, h1, by omega, fun h => h, fun j hj => by simp at hj⟩
    refine wpIn_rangeFunc_ownH rfl (by omega) (gf := 42) (lb := #[.pointer (some ⟨w.heap.size + 4, 0, none⟩)]) rfl trivial (enters_of Tryd.func42 (by kernel_rfl) rfl) (hst W0 (Below.refl _ _)) keep_t keep_b (Below.refl _ _) (fun _ => rfl)
      (fun _ X => Below W0.heap.size W0 X) (fun _ _ _ => False) (ownFrom_below (Nat.le_refl _) (Nat.le_refl _)) (fun _ _ _ _ _ hs _ _ => hs) (Below.refl _ _)
      (fun _ _ _ => True) (fun _ _ _ _ _ _ _ _ _ => trivial) ?assign ?body ?done ?stop
    case assign =>
      rintro l0 pre x X K hi hK
      gi_wp2
      exact hK _ _ (KeepsFrom.refl _ _) (keep_refl _ _) hi trivial
    case body =>
      rintro l0 pre x a' X _ _ _ _ hlt
      simp [runesL] at hlt
    case stop => rintro D c pre X _ _ h _; exact h.elim
    case done =>
      rintro D xs X hD rfl hX hK
      have bW5 := boxed_below bW4 bW4.lt hX
      have cW := (bW5.alloc (.cells #[.int .i64 0] 3)).cell
      gi_wp2_with fail
      have bS6 := (boxed_below bS4 bS4.lt hX).alloc (.cells #[.int .i64 0] 3)
      have bL6 := (boxed_below bL4 bL4.lt hX).alloc (.cells #[.int .i64 0] 3)
      have bR6 := (boxed_below bR4 bR4.lt hX).alloc (.cells #[.int .i64 0] 3)
      have bN6 := (boxed_below bN4 bN4.lt hX).alloc (.cells #[.int .i64 0] 3)
      have bM6 := Boxed.new X 3 (.int .i64 0)
      have hXa : Below W0.heap.size W0 (X.alloc (.cells #[.int .i64 0] 3)) := hX.alloc hX.size _
      have hDl : D < X.heap.size := (Array.getElem?_eq_some_iff.1 hK).1
      have hK1 : (X.alloc (.cells #[.int .i64 0] 3)).heap[D]? = some (.deferred (some [])) := (Below.heap_alloc X _ D hDl).trans hK
      have hs1 : (X.alloc (.cells #[.int .i64 0] 3)).heap.size = X.heap.size + 1 := by simp
      have hX1 := hX.size
      clear bS4 bL4 bR4 bN4 bK4 bW4 bW5 cW hK hX
      generalize X.alloc (.cells #[.int .i64 0] 3) = X1 at *
      refine wpIn_rangeFunc_ownH rfl (by omega) (gf := 42) (lb := #[.pointer (some ⟨w.heap.size + 4, 0, none⟩)]) rfl trivial (enters_of Tryd.func42 (by kernel_rfl) rfl) (hst X1 hXa) keep_t keep_b (Below.refl _ _) (fun _ => rfl)
        (fun _ Y => Below X1.heap.size X1 Y) (fun _ _ _ => False) (ownFrom_below (Nat.le_refl _) (Nat.le_refl _)) (fun _ _ _ _ _ hs _ _ => hs) (Below.refl _ _)
        (fun _ _ _ => True) (fun _ _ _ _ _ _ _ _ _ => trivial) ?assign2 ?body2 ?done2 ?stop2
      case assign2 =>
        rintro l0 pre x Y K hi hK
        gi_wp2
        exact hK _ _ ((KeepsOthers.alloc _ _).from _) (keep_below ((Below.refl _ Y).alloc (Nat.le_refl _) _)) (hi.alloc hi.size _) trivial
      case body2 =>
        rintro l0 pre x a' Y _ _ _ _ hlt
        simp [runesL] at hlt
      case stop2 => rintro D2 c pre Y _ _ h _; exact h.elim
      case done2 =>
        rintro D2 xs Y hD2 rfl hY hK2
        have hY1 := hY.size
        have bS7 := boxed_below bS6 bS6.lt hY
        have bL7 := boxed_below bL6 bL6.lt hY
        have bR7 := boxed_below bR6 bR6.lt hY
        have bN7 := boxed_below bN6 bN6.lt hY
        have bM7 := boxed_below bM6 bM6.lt hY
        have hK5 : Y.heap[D]? = some (.deferred (some [])) := (hY.block D (by omega)).trans hK1
        have hBY := hB4.trans (below_le (hXa.trans (below_le hY hXa.size)) hB4.size)
        have hs0 : sizeV [] = 0 := by have := runes_size []; rw [kept_nil] at this; simpa [runesL] using this.symm
        have HSz := hide (rSize_any none 0 [] (by simp) Y (.inl rfl))
        have q1 : ((0 : Int) == min leave (sizeV [])) = true := by rw [hs0, beq_iff_eq]; omega
        have q2 : ((0 : Int) == min (sizeV []) 4) = true := by rw [hs0]; rfl
        clear hs0
        generalize sizeV [] = sv at *
        have cS := bS7.cell
        clear hK1 bS6 bL6 bR6 bN6 bM6 hst
        gi_wp2_with fail
        refine ⟨trivial, (callsIn_wide.2 (unhide HSz)).mono ?_⟩
        rintro e Y1 ⟨rfl, hb1⟩
        have bN8 := boxed_below bN7 bN7.lt hb1
        have bL8 := boxed_below bL7 bL7.lt hb1
        have bM8 := boxed_below bM7 bM7.lt hb1
        have bR8 := boxed_below bR7 bR7.lt hb1
        have cN := bN8.cell
        have cL := bL8.cell
        have cM := bM8.cell
        have hb1s := hb1.size
        have HA := hide (awake_any Y1)
        gi_wp2_with fail
        refine ⟨trivial, (callsIn_wide.2 (unhide HA)).mono ?_⟩
        rintro e X2 ⟨rfl, hb2⟩
        have bR9 := boxed_below bR8 bR8.lt hb2
        have cR := bR9.cell
        have fR := bR9.frozen
        have hX2 := hb2.size
        have hD2l : D2 < Y.heap.size := (Array.getElem?_eq_some_iff.1 hK2).1
        have hK6 : X2.heap[D]? = some (.deferred (some [])) := (hb2.block D (by omega)).trans ((hb1.block D (by omega)).trans hK5)
        have hK7 : X2.heap[D2]? = some (.deferred (some [])) := (hb2.block D2 (by omega)).trans ((hb1.block D2 (by omega)).trans hK2)
        have hK8 : (X2.setCell ⟨w.heap.size + 1 + 1, 0, none⟩ (.bool true)).heap[D2]? = some (.deferred (some [])) := ((grownBy_setCell' X2 (w.heap.size + 1 + 1) (.bool true)).block D2 (by omega) (by intro h; cases h; omega)).trans hK7
        have hK9 : ((X2.setCell ⟨w.heap.size + 1 + 1, 0, none⟩ (.bool true)).putObj D2 (.deferred none)).heap[D]? = some (.deferred (some [])) := ((grownBy_putObj' _ D2 (.deferred none)).block D (by have := (grownBy_setCell' X2 (w.heap.size + 1 + 1) (.bool true)).size; omega) (by intro h; cases h; omega)).trans (((grownBy_setCell' X2 (w.heap.size + 1 + 1) (.bool true)).block D (by omega) (by intro h; cases h; omega)).trans hK6)
        have hB9 : Below w.heap.size w (X2.setCell ⟨w.heap.size + 1 + 1, 0, none⟩ (.bool true)) := (hBY.trans (below_le (hb1.trans (below_le hb2 hb1s)) hBY.size)).setCell (p := ⟨w.heap.size + 1 + 1, 0, none⟩) (by show w.heap.size ≤ w.heap.size + 1 + 1; omega) _
        gi_wp2
        refine ⟨by simp, .inl ⟨_, _, rfl, run_takeDeferred hK8, ?_⟩⟩
        refine ⟨by simp, .inl ⟨_, _, rfl, run_takeDeferred hK9, ?_⟩⟩
        have bF := ((bR9.set (.bool true)).kept (grownBy_putObj' _ D2 (.deferred none)) (by intro h; cases h; omega)).kept (grownBy_putObj' _ D (.deferred none)) (by intro h; cases h; omega)
        have cF := bF.cell
        refine ⟨.bool true, ?_, rfl, ?_⟩
        · have hres : Tryd.f6.results = #[.cell 4 4] := by kernel_rfl
          simp only [results, hres]
          go_simp
        · exact (hB9.trans (belowK_b (w := w) (Nat.le_refl _) _ D2 _ _ (by omega) hK8 rfl rfl)).trans (belowK_b (w := w) (Nat.le_refl _) _ D _ _ (by omega) hK9 rfl rfl)
end Go.Proofs.YtkbhdojgdgiggabDoor

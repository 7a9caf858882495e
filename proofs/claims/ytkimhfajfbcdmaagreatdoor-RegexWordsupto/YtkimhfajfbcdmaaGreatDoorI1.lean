/- runes: isByte; readRune and readRange where plain bytes stand. -/
import Derived.Test.YtkimhfajfbcdmaaGreatDoorQA
import Derived.Test.YtkimhfajfbcdmaaGreatDoorS7
import Derived.Shelf.Small.Strs
import Derived.Laws.StructEq
import Derived.Deep.QuietTactic
import Derived.BigQuiet
namespace Go.Proofs.YtkimhfajfbcdmaaGreatDoor
open Go.RowKit Go.Maps

/-! ### Faults are held against one another -/
theorem fields49 : (Tryz.prog.fieldsOf 49).toList.map (fun f => (f.type, f.offset, decide (f.name = "_"))) = [(27, 0, false), (3, 1, false)] := by kernel_rfl
theorem part_int (t : TypeId) (xs : Array Value) (o : Nat) (v : Value) (ha : ∀ w, (isAgg t).run Tryz.prog w = .ok false w) (hx : xs[o]? = some v) (w : World) : (part t xs o).run Tryz.prog w = .ok v w := by
  simp [part, ha, hx, Result.andThen]
theorem eq_fields2 (d : Nat) (fs : List Field) (h : fs.map (fun f => (f.type, f.offset, decide (f.name = "_"))) = [(27, 0, false), (3, 1, false)]) (a b x y : Int) (w : World) :
    (Op.eqFields (d + 1) #[.int .i64 a, .int .i64 b] #[.int .i64 x, .int .i64 y] fs).run Tryz.prog w = .ok (decide ((a, b) = (x, y))) w := by
  have hlen : fs.length = 2 := by simpa using congrArg List.length h
  match fs, hlen, h with
  | [f, g], _, h =>
    simp only [List.map_cons, List.map_nil, List.cons.injEq, Prod.mk.injEq, and_true, decide_eq_false_iff_not] at h
    obtain ⟨⟨f1, f2, f3⟩, ⟨g1, g2, g3⟩⟩ := h
    have e0 : ∀ w (u v : Int), (Op.equalIn (d + 1) 27 (.int .i64 u) (.int .i64 v)).run Tryz.prog w = .ok (u == v) w := fun w u v => run_equalIn_int w d 27 .i64 .i64 u v Tryz.underlying27
    have e1 : ∀ w (u v : Int), (Op.equalIn (d + 1) 3 (.int .i64 u) (.int .i64 v)).run Tryz.prog w = .ok (u == v) w := fun w u v => run_equalIn_int w d 3 .i64 .i64 u v Tryz.underlying3
    have p0 : ∀ w (u v : Int), (part 27 #[.int .i64 u, .int .i64 v] 0).run Tryz.prog w = .ok (.int .i64 u) w := fun w u v => part_int 27 _ 0 _ Tryz.isAgg27 rfl w
    have p1 : ∀ w (u v : Int), (part 3 #[.int .i64 u, .int .i64 v] 1).run Tryz.prog w = .ok (.int .i64 v) w := fun w u v => part_int 3 _ 1 _ Tryz.isAgg3 rfl w
    simp only [Op.eqFields, f1, f2, f3, g1, g2, g3, ne_eq, not_false_eq_true, if_true, Sem.run_bind, p0, p1, e0, e1, Result.andThen_ok, Sem.run_ite, Sem.run_pure]
    by_cases h1 : a = x
    · by_cases h2 : b = y
      · simp [h1, h2]
      · simp [h1, h2]
    · simp [h1]
theorem eql49 (a b x y : Int) (w : World) : (binOp .eql 49 (.agg #[.int .i64 a, .int .i64 b]) (.agg #[.int .i64 x, .int .i64 y])).run Tryz.prog w = .ok (.bool (decide ((a, b) = (x, y)))) w := by
  rw [run_eql_struct, run_equalIn_agg w 9999 49 _ _ (by kernel_rfl) (by kernel_rfl), eq_fields2 9998 _ fields49]
  rfl
theorem neq49 (a b x y : Int) (w : World) : (binOp .neq 49 (.agg #[.int .i64 a, .int .i64 b]) (.agg #[.int .i64 x, .int .i64 y])).run Tryz.prog w = .ok (.bool (!decide ((a, b) = (x, y)))) w := by
  rw [run_neq_struct, run_equalIn_agg w 9999 49 _ _ (by kernel_rfl) (by kernel_rfl), eq_fields2 9998 _ fields49]
  rfl
theorem guard49 : Tryz.prog.eqGuardType Tryz.prog.depth 49 = false := by kernel_rfl
theorem neq49_0 (w : World) : (binOp .neq 49 (.agg #[.int .i64 0, .int .i64 0]) (.agg #[.int .i64 0, .int .i64 0])).run Tryz.prog w = .ok (.bool false) w := neq49 0 0 0 0 w
theorem eql49_0 (w : World) : (binOp .eql 49 (.agg #[.int .i64 0, .int .i64 0]) (.agg #[.int .i64 0, .int .i64 0])).run Tryz.prog w = .ok (.bool true) w := eql49 0 0 0 0 w

/-- Byte c stands at place p. -/
def byteB (s : ByteArray) (p c : Nat) : Bool := decide (p < s.size) && decide ((s.data.getD p 0).toNat = c)
theorem getD_get (s : ByteArray) (p : Nat) (h : p < s.size) : s.data.getD p 0 = s[p] := by
  have h2 : p < s.data.size := h
  simp only [Array.getD]; rw [dif_pos h2]; rfl
set_option maxHeartbeats 1000000 in
set_option maxRecDepth 100000 in
theorem isByte_any (s : ByteArray) (p c : Nat) (w : World) :
    Calls Tryz.prog 175 #[.string s, .int .i64 p, .int .u8 c] w fun e w' => e = .returned (.bool (byteB s p c)) ∧ w = w' := by
  by_cases hlt : p < s.size
  · have hlt' : (p : Int) < s.size := by omega
    have hld : decide ((p : Int) < s.size) = true := decide_eq_true hlt'
    have HX : Hid (byteB s p c = decide ((s[p].toNat : Int) = c)) := hide (by
      unfold byteB
      rw [decide_eq_true hlt, Bool.true_and, getD_get s p hlt, decide_eq_decide]
      omega)
    go_enter Tryz.func175, Tryz.ntmps175
    go_wp2
    go_ret
    exact ⟨by rw [unhide HX]; rfl, rfl⟩
  · have hlt' : ¬ (p : Int) < s.size := by omega
    have hld : decide ((p : Int) < s.size) = false := decide_eq_false hlt'
    have HX : Hid (byteB s p c = false) := hide (by unfold byteB; rw [decide_eq_false hlt, Bool.false_and])
    go_enter Tryz.func175, Tryz.ntmps175
    go_wp2
    go_ret
    exact ⟨by rw [unhide HX]; rfl, rfl⟩
end Go.Proofs.YtkimhfajfbcdmaaGreatDoor

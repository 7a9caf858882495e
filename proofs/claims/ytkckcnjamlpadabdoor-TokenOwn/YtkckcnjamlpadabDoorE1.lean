/- Tokens compared; Same. -/
import Derived.Test.YtkckcnjamlpadabDoorR7
import Derived.Laws.StructEq
namespace Go.Proofs.YtkckcnjamlpadabDoor
open Go.RowKit Go.Maps

theorem fields55 : (Tryd.prog.fieldsOf 27).toList.map (fun f => (f.type, f.offset, decide (f.name = "_"))) = [(3, 0, false), (3, 1, false), (3, 2, false)] := by kernel_rfl
theorem fields43 : (Tryd.prog.fieldsOf 50).toList.map (fun f => (f.type, f.offset, decide (f.name = "_"))) = [(46, 0, false), (3, 1, false)] := by kernel_rfl
theorem part_int (t : TypeId) (xs : Array Value) (o : Nat) (v : Value) (ha : ∀ w, (isAgg t).run Tryd.prog w = .ok false w) (hx : xs[o]? = some v) (w : World) : (part t xs o).run Tryd.prog w = .ok v w := by
  simp [part, ha, hx, Result.andThen]
theorem eq_fields3 (d : Nat) (fs : List Field) (h : fs.map (fun f => (f.type, f.offset, decide (f.name = "_"))) = [(3, 0, false), (3, 1, false), (3, 2, false)]) (a b c x y z : Int) (w : World) :
    (Op.eqFields (d + 1) #[.int .i64 a, .int .i64 b, .int .i64 c] #[.int .i64 x, .int .i64 y, .int .i64 z] fs).run Tryd.prog w = .ok (decide ((a, b, c) = (x, y, z))) w := by
  have hlen : fs.length = 3 := by simpa using congrArg List.length h
  match fs, hlen, h with
  | [f, g, k], _, h =>
    simp only [List.map_cons, List.map_nil, List.cons.injEq, Prod.mk.injEq, and_true, decide_eq_false_iff_not] at h
    obtain ⟨⟨f1, f2, f3⟩, ⟨g1, g2, g3⟩, ⟨k1, k2, k3⟩⟩ := h
    have e1 : ∀ w (u v : Int), (Op.equalIn (d + 1) 3 (.int .i64 u) (.int .i64 v)).run Tryd.prog w = .ok (u == v) w := fun w u v => run_equalIn_int w d 3 .i64 .i64 u v Tryd.underlying3
    have p0 : ∀ w (u v q : Int), (part 3 #[.int .i64 u, .int .i64 v, .int .i64 q] 0).run Tryd.prog w = .ok (.int .i64 u) w := fun w u v q => part_int 3 _ 0 _ Tryd.isAgg3 rfl w
    have p1 : ∀ w (u v q : Int), (part 3 #[.int .i64 u, .int .i64 v, .int .i64 q] 1).run Tryd.prog w = .ok (.int .i64 v) w := fun w u v q => part_int 3 _ 1 _ Tryd.isAgg3 rfl w
    have p2 : ∀ w (u v q : Int), (part 3 #[.int .i64 u, .int .i64 v, .int .i64 q] 2).run Tryd.prog w = .ok (.int .i64 q) w := fun w u v q => part_int 3 _ 2 _ Tryd.isAgg3 rfl w
    simp only [Op.eqFields, f1, f2, f3, g1, g2, g3, k1, k2, k3, ne_eq, not_false_eq_true, if_true, Sem.run_bind, p0, p1, p2, e1, Result.andThen_ok, Sem.run_ite, Sem.run_pure]
    by_cases h1 : a = x
    · by_cases h2 : b = y
      · by_cases h3 : c = z
        · simp [h1, h2, h3]
        · simp [h1, h2, h3]
      · simp [h1, h2]
    · simp [h1]
theorem eql55 (a b c x y z : Int) (w : World) : (binOp .eql 27 (.agg #[.int .i64 a, .int .i64 b, .int .i64 c]) (.agg #[.int .i64 x, .int .i64 y, .int .i64 z])).run Tryd.prog w = .ok (.bool (decide ((a, b, c) = (x, y, z)))) w := by
  rw [run_eql_struct, run_equalIn_agg w 9999 27 _ _ (by kernel_rfl) (by kernel_rfl), eq_fields3 9998 _ fields55]
  rfl
theorem neq55 (a b c x y z : Int) (w : World) : (binOp .neq 27 (.agg #[.int .i64 a, .int .i64 b, .int .i64 c]) (.agg #[.int .i64 x, .int .i64 y, .int .i64 z])).run Tryd.prog w = .ok (.bool (!decide ((a, b, c) = (x, y, z)))) w := by
  rw [run_neq_struct, run_equalIn_agg w 9999 27 _ _ (by kernel_rfl) (by kernel_rfl), eq_fields3 9998 _ fields55]
  rfl
theorem guard55 : Tryd.prog.eqGuardType Tryd.prog.depth 27 = false := by kernel_rfl

def tget (l : List T3) (j : Nat) : T3 := l.getD j (0, 0, 0)
def sameTo (l m : List T3) (k : Nat) : Prop := ∀ j, j < k → tget l j = tget m j
theorem same_all {l m : List T3} (hl : l.length = m.length) (h : sameTo l m l.length) : l = m := by
  apply List.ext_getElem hl
  intro i h1 h2
  have := h i h1
  simpa [tget, List.getD_eq_getElem?_getD, h1, h2] using this

set_option maxHeartbeats 2000000 in
set_option maxRecDepth 100000 in
theorem same_any (a b : Option Addr) (ca cb : Nat) (l m : List T3) (hb9 : l.length ≤ 281474976710656) (w : World) (h1 : TRow w a l) (h2 : TRow w b m) :
    Calls Tryd.prog 9 #[.slice a l.length ca, .slice b m.length cb] w fun e w' => e = .returned (.bool (decide (l = m))) ∧ Below w.heap.size w w' := by
  by_cases hlen : l.length = m.length
  · have hlen' : ((l.length : Int) == (m.length : Int)) = true := by rw [beq_iff_eq]; omega
    have Hyes := hide (fun (h : sameTo l m l.length) => show decide (l = m) = true from decide_eq_true (same_all hlen h))
    have Hno := hide (fun k (hk : tget l k ≠ tget m k) => show decide (l = m) = false from decide_eq_false (fun e => hk (by rw [e])))
    generalize decide (l = m) = D at *
    have H1 := hide h1; have H2 := hide h2
    clear h1 h2
    rw [← hlen]
    have qq := neq55
    have gg := guard55
    go_enter Tryd.func9, Tryd.ntmps9
    go_wp2
    go_loopw [5] (fun x wr => ∃ k : Nat, x = .int .i64 k ∧ k ≤ l.length ∧ sameTo l m k ∧ Below w.heap.size w wr) (fun x _ => l.length - (intOf x).toNat)
    case atStart => exact ⟨0, rfl, Nat.zero_le _, (fun j hj => absurd hj (Nat.not_lt_zero _)), Below.refl _ _⟩
    case round =>
      obtain ⟨k, rfl, hk, hs, hbel⟩ := hrel
      have Hs := hide hs; have Hbel := hide hbel
      clear hs hbel
      by_cases hlt : k < l.length
      · have hlt' : (k : Int) < l.length := by omega
        obtain ⟨ba, oa, rfl, hba, hca⟩ := trow_pos (trow_below (unhide H1) (Nat.le_refl _) (unhide Hbel)) hlt
        obtain ⟨bb, ob, rfl, hbb, hcb⟩ := trow_pos (trow_below (unhide H2) (Nat.le_refl _) (unhide Hbel)) (show k < m.length by omega)
        obtain ⟨q0, q1, q2⟩ := hca k hlt
        obtain ⟨r0, r1, r2⟩ := hcb k (by omega)
        have Hn := hide (unhide Hno k)
        have Hst := hide (fun (e : tget l k = tget m k) => show sameTo l m (k + 1) from fun j hj => by
          by_cases ej : j = k
          · subst ej; exact e
          · exact unhide Hs j (by omega))
        clear hca hcb
        unfold tget at Hn Hst
        generalize l.getD k (0, 0, 0) = x at *
        generalize m.getD k (0, 0, 0) = y at *
        obtain ⟨x0, x1, x2⟩ := x
        obtain ⟨y0, y1, y2⟩ := y
        simp only at q0 q1 q2 r0 r1 r2
        by_cases he : (x0, x1, x2) = (y0, y1, y2)
        · have Hs' := hide (unhide Hst he)
          have hd : decide ((x0, x1, x2) = (y0, y1, y2)) = true := decide_eq_true he
          have qk := fun w => (neq55 x0 x1 x2 y0 y1 y2 w)
          rw [hd] at qk
          clear he hd qq
          go_wp2
          go_quiet (fail)
          go_wp2
          go_roundw
          case rel => exact ⟨k + 1, by go_num, by omega, unhide Hs', below_drewN (unhide Hbel) _⟩
          case measure => simp [intOf]; omega
        · have Hr := hide (unhide Hn he)
          have hd : decide ((x0, x1, x2) = (y0, y1, y2)) = false := decide_eq_false he
          have qk := fun w => (neq55 x0 x1 x2 y0 y1 y2 w)
          rw [hd] at qk
          clear he hd qq
          go_wp2
          go_quiet (fail)
          go_wp2
          go_ret
          rw [unhide Hr]
          exact ⟨rfl, below_drewN (unhide Hbel) _⟩
      · obtain rfl : k = l.length := by omega
        have Hr := hide (unhide Hyes (unhide Hs))
        go_wp2
        go_ret
        rw [unhide Hr]
        exact ⟨rfl, unhide Hbel⟩
  · have hlen' : ((l.length : Int) == (m.length : Int)) = false := by rw [beq_eq_false_iff_ne]; omega
    rw [show decide (l = m) = false from decide_eq_false (fun e => hlen (by rw [e]))]
    clear h1 h2
    go_enter Tryd.func9, Tryd.ntmps9
    go_wp2
    go_ret
    exact ⟨rfl, Below.refl _ _⟩
end Go.Proofs.YtkckcnjamlpadabDoor

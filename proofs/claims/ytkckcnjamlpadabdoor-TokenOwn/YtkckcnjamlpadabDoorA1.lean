/- alive. -/
import Derived.Test.YtkckcnjamlpadabDoorE1
import Derived.Test.YtkckcnjamlpadabDoorR8
namespace Go.Proofs.YtkckcnjamlpadabDoor
open Go.RowKit Go.Maps

def nsA : List (List UInt8) := [endS, errS, [110, 117, 109]]
def lA : List T3 := [(2, 0, 2)]
def srcA : ByteArray := ⟨#[49, 50]⟩
def textA : List UInt8 := [110, 117, 109, 32, 48, 32, 50, 32, 34, 49, 50, 34, 10]
theorem kA : kindsB nsA = true := by decide +kernel
theorem okA : okTo nsA.length srcA.size lA lA.length := by
  intro j hj
  have : j = 0 := by simp [lA] at hj; exact hj
  subst this
  decide +kernel
theorem shortA : shortTo lA lA.length := by
  intro j hj
  have : j = 0 := by simp [lA] at hj; exact hj
  subst this
  decide +kernel
theorem quoteA : quoteL (srcA.extract 0 2) = [34, 49, 50, 34] := by decide +kernel
theorem textA_eq : linesL nsA srcA lA = textA := by
  have : linesL nsA srcA lA = lineL nsA srcA 2 0 2 ++ [10] := by simp [linesL, lA, lineT]
  rw [this]
  unfold lineL
  rw [quoteA, Lib.decDigits_one (show (0 : Nat) < 10 by decide), Lib.decDigits_one (show (2 : Nat) < 10 by decide)]
  rfl
theorem linesA : linesT nsA srcA lA = (textA, 0) := by
  unfold linesT
  rw [checkT_yes kA (by decide) okA, if_pos rfl, any_none shortA, textA_eq]
  rfl
theorem readA : readT nsA srcA textA = (lA, 0, 0) := by
  rw [← textA_eq]
  exact read_lines (by decide) kA (by decide) okA shortA
theorem fields43b : (Tryd.prog.fieldsOf 50).toList.map (fun f => (f.type, f.offset, decide (f.name = "_"))) = [(46, 0, false), (3, 1, false)] := fields43
theorem eq_fields2 (d : Nat) (fs : List Field) (h : fs.map (fun f => (f.type, f.offset, decide (f.name = "_"))) = [(46, 0, false), (3, 1, false)]) (a b x y : Int) (w : World) :
    (Op.eqFields (d + 1) #[.int .i64 a, .int .i64 b] #[.int .i64 x, .int .i64 y] fs).run Tryd.prog w = .ok (decide ((a, b) = (x, y))) w := by
  have hlen : fs.length = 2 := by simpa using congrArg List.length h
  match fs, hlen, h with
  | [f, g], _, h =>
    simp only [List.map_cons, List.map_nil, List.cons.injEq, Prod.mk.injEq, and_true, decide_eq_false_iff_not] at h
    obtain ⟨⟨f1, f2, f3⟩, ⟨g1, g2, g3⟩⟩ := h
    have e0 : ∀ w (u v : Int), (Op.equalIn (d + 1) 46 (.int .i64 u) (.int .i64 v)).run Tryd.prog w = .ok (u == v) w := fun w u v => run_equalIn_int w d 46 .i64 .i64 u v Tryd.underlying46
    have e1 : ∀ w (u v : Int), (Op.equalIn (d + 1) 3 (.int .i64 u) (.int .i64 v)).run Tryd.prog w = .ok (u == v) w := fun w u v => run_equalIn_int w d 3 .i64 .i64 u v Tryd.underlying3
    have p0 : ∀ w (u v : Int), (part 46 #[.int .i64 u, .int .i64 v] 0).run Tryd.prog w = .ok (.int .i64 u) w := fun w u v => part_int 46 _ 0 _ Tryd.isAgg46 rfl w
    have p1 : ∀ w (u v : Int), (part 3 #[.int .i64 u, .int .i64 v] 1).run Tryd.prog w = .ok (.int .i64 v) w := fun w u v => part_int 3 _ 1 _ Tryd.isAgg3 rfl w
    simp only [Op.eqFields, f1, f2, f3, g1, g2, g3, ne_eq, not_false_eq_true, if_true, Sem.run_bind, p0, p1, e0, e1, Result.andThen_ok, Sem.run_ite, Sem.run_pure]
    by_cases h1 : a = x
    · by_cases h2 : b = y
      · simp [h1, h2]
      · simp [h1, h2]
    · simp [h1]
theorem eql43 (a b x y : Int) (w : World) : (binOp .eql 50 (.agg #[.int .i64 a, .int .i64 b]) (.agg #[.int .i64 x, .int .i64 y])).run Tryd.prog w = .ok (.bool (decide ((a, b) = (x, y)))) w := by
  rw [run_eql_struct, run_equalIn_agg w 9999 50 _ _ (by kernel_rfl) (by kernel_rfl), eq_fields2 9998 _ fields43]
  rfl
theorem neq43 (a b x y : Int) (w : World) : (binOp .neq 50 (.agg #[.int .i64 a, .int .i64 b]) (.agg #[.int .i64 x, .int .i64 y])).run Tryd.prog w = .ok (.bool (!decide ((a, b) = (x, y)))) w := by
  rw [run_neq_struct, run_equalIn_agg w 9999 50 _ _ (by kernel_rfl) (by kernel_rfl), eq_fields2 9998 _ fields43]
  rfl
theorem guard43 : Tryd.prog.eqGuardType Tryd.prog.depth 50 = false := by kernel_rfl

set_option maxHeartbeats 2000000 in
set_option maxRecDepth 100000 in
theorem alive_any (w : World) (hE : Env w) : Calls Tryd.prog 6 #[] w fun e w' => e = .returned (.bool true) ∧ Below w.heap.size w w' := by
  have hb0 : Below w.heap.size w ((w.alloc (.cells #[.string ⟨#[101, 110, 100]⟩, .string ⟨#[101, 114, 114, 111, 114]⟩, .string ⟨#[110, 117, 109]⟩] 9)).alloc (.cells #[.int .i64 2, .int .i64 0, .int .i64 2] 27)) := ((Below.refl _ _).alloc (Nat.le_refl _) _).alloc (by simp) _
  have hN0 := (Below.heap_alloc (w.alloc (.cells #[.string ⟨#[101, 110, 100]⟩, .string ⟨#[101, 114, 114, 111, 114]⟩, .string ⟨#[110, 117, 109]⟩] 9)) (.cells #[.int .i64 2, .int .i64 0, .int .i64 2] 27) w.heap.size (by simp)).trans (heap_new w _)
  have hT0 := heap_new (w.alloc (.cells #[.string ⟨#[101, 110, 100]⟩, .string ⟨#[101, 114, 114, 111, 114]⟩, .string ⟨#[110, 117, 109]⟩] 9)) (.cells #[.int .i64 2, .int .i64 0, .int .i64 2] 27)
  rw [show (w.alloc (.cells #[.string ⟨#[101, 110, 100]⟩, .string ⟨#[101, 114, 114, 111, 114]⟩, .string ⟨#[110, 117, 109]⟩] 9)).heap.size = w.heap.size + 1 by simp] at hT0
  have Hb0 := hide hb0; have HN0 := hide hN0; have HT0 := hide hT0
  clear hb0 hN0 hT0
  go_enter Tryd.func6, Tryd.ntmps6
  go_wp2_with fail
  generalize ((w.alloc (.cells #[.string ⟨#[101, 110, 100]⟩, .string ⟨#[101, 114, 114, 111, 114]⟩, .string ⟨#[110, 117, 109]⟩] 9)).alloc (.cells #[.int .i64 2, .int .i64 0, .int .i64 2] 27)) = W at *
  have hrow : SRow W (some ⟨w.heap.size, 0, none⟩) nsA := .inr ⟨_, 0, rfl, lt_of_some (unhide HN0), fun j hj => by
    have : j = 0 ∨ j = 1 ∨ j = 2 := by simp [nsA] at hj; omega
    rcases this with rfl | rfl | rfl
    · exact cell_block (unhide HN0) 0 _ rfl
    · exact cell_block (unhide HN0) 1 _ rfl
    · exact cell_block (unhide HN0) 2 _ rfl⟩
  have htok : TRow W (some ⟨w.heap.size + 1, 0, none⟩) lA := .inr ⟨_, 0, rfl, lt_of_some (unhide HT0), fun j hj => by
    have : j = 0 := by simp [lA] at hj; exact hj
    subst this
    exact ⟨cell_block (unhide HT0) 0 _ rfl, cell_block (unhide HT0) 1 _ rfl, cell_block (unhide HT0) 2 _ rfl⟩⟩
  have hEW := env_below hE (unhide Hb0)
  have HL := hide (lines_any (some ⟨w.heap.size, 0, none⟩) 3 nsA srcA (by decide) (some ⟨w.heap.size + 1, 0, none⟩) 1 lA W hrow htok hEW)
  rw [linesA] at HL
  have Hrow := hide hrow; have Htok := hide htok; have HEW := hide hEW
  clear hrow htok hEW HN0 HT0 hE
  refine (unhide HL).mono ?_
  rintro e w1 ⟨rfl, hb1⟩
  have hB1 := (unhide Hb0).trans (hb1.mono (unhide Hb0).size)
  have HR := hide (read_any (some ⟨w.heap.size, 0, none⟩) 3 nsA srcA (by decide) textA (by decide) w1 (srow_below (unhide Hrow) (Nat.le_refl _) hb1) (env_below (unhide HEW) hb1))
  rw [readA] at HR
  have HB1 := hide hB1
  have HrowB := hide (srow_below (unhide Hrow) (Nat.le_refl _) hb1)
  have HtokB := hide (trow_below (unhide Htok) (Nat.le_refl _) hb1)
  clear hb1 hB1 HL Hb0 Hrow Htok HEW
  go_wp2_with fail
  refine (unhide HR).mono ?_
  rintro e w2 ⟨v, rfl, hown, hb2⟩
  obtain ⟨va, vc, rfl, htr, -⟩ := trow_own hown
  have hB2 := (unhide HB1).trans (hb2.mono (unhide HB1).size)
  have hb3 := fun o => (hb2.alloc hb2.size o)
  have HK := hide (fun o => kinds_any (some ⟨w.heap.size, 0, none⟩) 3 nsA (w2.alloc o) (srow_below (unhide HrowB) (Nat.le_refl _) (hb3 o)))
  rw [show kindsV nsA = 0 by unfold kindsV; rw [kA]; rfl] at HK
  have Hb3 := hide (fun o => hB2.alloc (unhide HB1 |>.trans (hb2.mono (unhide HB1).size) |>.size) o)
  have HtB := hide (fun o => trow_below (unhide HtokB) (Nat.le_refl _) (hb3 o))
  have HtV := hide (fun o => trow_below htr (Nat.le_refl _) ((Below.refl _ w2).alloc (Nat.le_refl _) o))
  clear hown hb2 htr hB2 hb3 HR HrowB HtokB HB1
  go_wp2_with fail
  refine (unhide HK _).mono ?_
  rintro e w3 ⟨rfl, hb4⟩
  have q43 := fun w => eql43 0 0 0 0 w
  have g43 := guard43
  have hX := (hb4.block w2.heap.size (by simp)).trans (heap_new w2 _)
  have x0 := cell_block hX 0 _ rfl
  have x1 := cell_block hX 1 _ rfl
  have HS := hide (same_any (some ⟨w.heap.size + 1, 0, none⟩) va 1 vc lA lA (by decide) w3 (trow_below (unhide HtB _) (Nat.le_refl _) hb4) (trow_below (unhide HtV _) (Nat.le_refl _) hb4))
  have HB4 := hide ((unhide Hb3 _).trans (hb4.mono (unhide Hb3 _).size))
  rw [show decide (lA = lA) = true from decide_eq_true rfl] at HS
  have htx : ((bs textA).toList == [110, 117, 109, 32, 48, 32, 50, 32, 34, 49, 50, 34, 10]) = true := by rw [bs_toList]; rfl
  clear hb4 hX HK HtB HtV
  go_wp2_with fail
  refine (unhide HS).mono ?_
  rintro e w4 ⟨rfl, hb5⟩
  have HB5 := hide ((unhide HB4).trans (hb5.mono (unhide HB4).size))
  clear hb5 HS
  go_wp2
  go_ret
  exact ⟨rfl, unhide HB5⟩
end Go.Proofs.YtkckcnjamlpadabDoor

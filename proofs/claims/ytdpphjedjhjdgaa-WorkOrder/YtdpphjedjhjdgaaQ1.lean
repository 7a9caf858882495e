/- The numbering of pairs: look. -/
import Derived.Test.YtdpphjedjhjdgaaA1
import Derived.DeepKeys4
namespace Go.Proofs.Ytdpphjedjhjdgaa
open Go.RowKit Go.Maps

theorem idle50 (p q r : Addr) (w : World) :
    CallsD Try.prog 50 #[.pointer (some p), .pointer (some q), .pointer (some r)] .returning w fun e u' w' => e = .returned (.tuple #[]) ∧ u' = .returning ∧ w' = w := by
  refine callsD_of_wpS Try.func50 rfl fun c₀ cs hu => ?_
  apply wpS_seq
  apply wpS_region
  simp [wpOpsS, go_sem, recoverD, hu, Try.ntmps50, Exit.thenS]
  refine wpS_cond (t := false) (by simp [Act.eval, Array.replicate]) ?_
  simp only [Bool.false_eq_true, if_false]
  refine wpS_of_wp (wp_skip ?_)
  cases c₀
  simp_all [bodyPostS, results, Try.results50]

def pairV (x : Int × Int) : Value := .agg #[.int .i64 x.1, .int .i64 x.2]
def wfP (x : Int × Int) : Prop := (-9223372036854775808 ≤ x.1 ∧ x.1 ≤ 9223372036854775807) ∧ (-9223372036854775808 ≤ x.2 ∧ x.2 ≤ 9223372036854775807)
theorem laidOut : laidOutB Try.prog = true := by kernel_rfl
theorem row65 : (65 : TypeId) < Try.prog.types.size := of_decide_eq_true (by kernel_rfl)
theorem wide65 : (match Try.prog.underlying 65 with | some (.array _ _) | some (.struct _) => true | _ => false) = true := by kernel_rfl
set_option maxRecDepth 100000 in
theorem law65 : Keyed Try.prog 65 := Keyed.of_law (deep_law_laid laidOut (m := 2) (by omega) row65 (by kernel_rfl) wide65)
theorem lit3 (d : Nat) (n : Int) (h : (Lit.int .i64 n).wf = true) : Try.prog.keyLits (d + 1) 3 [.int .i64 n] = some [.int .i64 n] := by
  unfold Program.keyLits
  rw [Try.underlying3]
  show (if IntKind.i64 = IntKind.i64 ∧ (Lit.int .i64 n).wf = true then some [Lit.int .i64 n] else none) = _
  rw [if_pos ⟨rfl, h⟩]
/-- What a pair reads as. -/
def pk (x : Int × Int) : Lit := .string (keyBytes [.int .i64 x.1, .int .i64 x.2])
theorem key65 (x : Int × Int) (h : wfP x) : keyOf Try.prog 65 (pairV x) = some (pk x) := by
  have w1 : (Lit.int .i64 x.1).wf = true := WalkArith.wf_i64 h.1
  have w2 : (Lit.int .i64 x.2).wf = true := WalkArith.wf_i64 h.2
  have e1 : Try.prog.keyType 65 = true := by kernel_rfl
  have e2 : (pairV x).formed Try.prog 65 = true := by kernel_rfl
  have e3 : Try.prog.keyLits (Try.prog.types.size + 1) 65 (pairV x).cells.toList = some [.int .i64 x.1, .int .i64 x.2] := by
    have c65 : Try.prog.cellsOf 65 = 2 := by kernel_rfl
    have c3 : Try.prog.cellsOf 3 = 1 := by kernel_rfl
    have hs : Try.prog.types.size = 139 + 1 := by kernel_rfl
    rw [hs]
    show Program.keyLits Try.prog (139 + 1 + 1) 65 [.int .i64 x.1, .int .i64 x.2] = _
    unfold Program.keyLits
    rw [Try.underlying65]
    show (if [Value.int .i64 x.1, .int .i64 x.2].length = Try.prog.cellsOf 65 then ([0, 1].mapM fun i => Try.prog.keyLits (139 + 1) 3 (([Value.int .i64 x.1, .int .i64 x.2].drop (i * Try.prog.cellsOf 3)).take (Try.prog.cellsOf 3))).map List.flatten else none) = _
    rw [c65, c3, if_pos (show [Value.int .i64 x.1, .int .i64 x.2].length = 2 from rfl), List.mapM_cons, List.mapM_cons, List.mapM_nil]
    rw [show Try.prog.keyLits (139 + 1) 3 (([Value.int .i64 x.1, .int .i64 x.2].drop (0 * 1)).take 1) = some [.int .i64 x.1] from lit3 139 x.1 w1, show Try.prog.keyLits (139 + 1) 3 (([Value.int .i64 x.1, .int .i64 x.2].drop (1 * 1)).take 1) = some [.int .i64 x.2] from lit3 139 x.2 w2]
    rfl
  unfold keyOf
  rw [Try.underlying65]
  simp only [e1, e2, e3, Bool.and_self, if_true, Option.map_some]
  rfl
theorem pk_inj {x y : Int × Int} (hx : wfP x) (hy : wfP y) (h : pk x = pk y) : x = y := by
  have := law65.inj (key65 x hx) (h ▸ key65 y hy)
  unfold pairV at this
  simp at this
  exact Prod.ext this.1 this.2

set_option maxHeartbeats 1000000 in
set_option maxRecDepth 100000 in
/-- look, where the map's answer is known. -/
theorem lookP_of (B : Nat) (m : Option Nat) (x : Int × Int) (c : Int) (t : Bool) (w : World) (hB : w.cell? ⟨B, 1, none⟩ = some (.map m))
    (hq : ∀ w', Below w.heap.size w w' → (Instr.lookup 98 (.map m) (.agg #[.int .i64 x.1, .int .i64 x.2]) true).run Try.prog w' = .ok (.tuple #[.int .i64 c, .bool t]) w') :
    Calls Try.prog 39 #[.pointer (some ⟨B, 0, none⟩), .agg #[.int .i64 x.1, .int .i64 x.2]] w fun e w' => e = .returned (.tuple #[.int .i64 c, .bool t, .int .i64 0]) ∧ Below w.heap.size w w' := by
  have hmf : ∀ (fn : Fn) (first cap : Array Value) (w : World), (Instr.makeFunc fn first cap).run Try.prog w = .ok (.func fn first cap) w := fun _ _ _ _ => rfl
  have hlt := World.block_lt_of_cell? w _ hB
  have hbl : ∀ o1 o2 o3 o4, Below w.heap.size w ((((w.alloc o1).alloc o2).alloc o3).alloc o4) := fun o1 o2 o3 o4 => ((((Below.refl _ w).alloc (Nat.le_refl _) _).alloc (by simp) _).alloc (by simp; omega) _).alloc (by simp; omega) _
  have hc : ∀ o1 o2 o3 o4, ((((w.alloc o1).alloc o2).alloc o3).alloc o4).cell? ⟨B, 1, none⟩ = some (.map m) := fun o1 o2 o3 o4 => ((hbl o1 o2 o3 o4).cell (p := ⟨B, 1, none⟩) hlt).trans hB
  have hr : ∀ o1 o2 o3 o4, (Instr.lookup 98 (.map m) (.agg #[.int .i64 x.1, .int .i64 x.2]) true).run Try.prog (((((w.alloc o1).alloc o2).alloc o3).alloc o4).drew) = .ok (.tuple #[.int .i64 c, .bool t]) (((((w.alloc o1).alloc o2).alloc o3).alloc o4).drew) := fun o1 o2 o3 o4 => hq _ (hbl o1 o2 o3 o4).drew
  clear hq
  go_enter_defers Try.func39, Try.ntmps39
  go_wp2
  go_region
  all_goals
    go_wp2
    go_region
    all_goals
      go_wp2
      refine leaves_cons (f := 50) (args := #[.pointer (some ⟨w.heap.size + 1, 0, none⟩), .pointer (some ⟨w.heap.size + 1 + 1, 0, none⟩), .pointer (some ⟨w.heap.size + 1 + 1 + 1, 0, none⟩)]) (by simp) (by simp [go_sem]) ?_
      refine (idle50 _ _ _ _).mono ?_
      rintro e u' w'' ⟨rfl, rfl, rfl⟩
      simp [Leaves, settle, results, Try.results39, go_sem]
      exact (hbl _ _ _ _).drew.drew
end Go.Proofs.Ytdpphjedjhjdgaa

/- The numbering of texts: what it is in memory, and its look. -/
import Derived.Test.YtdpphjedjhjdgaaDoorP0
import Derived.Defers
import Derived.Recover
import Derived.Laws.Pointers
namespace Go.Proofs.YtdpphjedjhjdgaaDoor
open Go.RowKit Go.Maps

theorem idle49 (p q r : Addr) (w : World) :
    CallsD Tryd.prog 53 #[.pointer (some p), .pointer (some q), .pointer (some r)] .returning w fun e u' w' => e = .returned (.tuple #[]) ∧ u' = .returning ∧ w' = w := by
  refine callsD_of_wpS Tryd.func53 rfl fun c₀ cs hu => ?_
  apply wpS_seq
  apply wpS_region
  simp [wpOpsS, go_sem, recoverD, hu, Tryd.ntmps53, Exit.thenS]
  refine wpS_cond (t := false) (by simp [Act.eval, Array.replicate]) ?_
  simp only [Bool.false_eq_true, if_false]
  refine wpS_of_wp (wp_skip ?_)
  cases c₀
  simp_all [bodyPostS, results, Tryd.results53]

set_option maxHeartbeats 1000000 in
set_option maxRecDepth 100000 in
/-- look, where the map's answer is known. -/
theorem look_of (B : Nat) (m : Option Nat) (s : ByteArray) (c : Int) (t : Bool) (w : World) (hB : w.cell? ⟨B, 1, none⟩ = some (.map m))
    (hq : ∀ w', Below w.heap.size w w' → (Instr.lookup 95 (.map m) (.string s) true).run Tryd.prog w' = .ok (.tuple #[.int .i64 c, .bool t]) w') :
    Calls Tryd.prog 43 #[.pointer (some ⟨B, 0, none⟩), .string s] w fun e w' => e = .returned (.tuple #[.int .i64 c, .bool t, .int .i64 0]) ∧ Below w.heap.size w w' := by
  have hmf : ∀ (fn : Fn) (first cap : Array Value) (w : World), (Instr.makeFunc fn first cap).run Tryd.prog w = .ok (.func fn first cap) w := fun _ _ _ _ => rfl
  have hlt := World.block_lt_of_cell? w _ hB
  have hbl : ∀ o1 o2 o3, Below w.heap.size w (((w.alloc o1).alloc o2).alloc o3) := fun o1 o2 o3 => (((Below.refl _ w).alloc (Nat.le_refl _) _).alloc (by simp) _).alloc (by simp; omega) _
  have hc : ∀ o1 o2 o3, (((w.alloc o1).alloc o2).alloc o3).cell? ⟨B, 1, none⟩ = some (.map m) := fun o1 o2 o3 => ((hbl o1 o2 o3).cell (p := ⟨B, 1, none⟩) hlt).trans hB
  have hr : ∀ o1 o2 o3, (Instr.lookup 95 (.map m) (.string s) true).run Tryd.prog (((w.alloc o1).alloc o2).alloc o3) = .ok (.tuple #[.int .i64 c, .bool t]) (((w.alloc o1).alloc o2).alloc o3) := fun o1 o2 o3 => hq _ (hbl o1 o2 o3)
  clear hq hbl
  go_enter_defers Tryd.func43, Tryd.ntmps43
  go_wp2
  go_region
  go_wp2
  refine leaves_cons (f := 53) (args := #[.pointer (some ⟨w.heap.size, 0, none⟩), .pointer (some ⟨w.heap.size + 1, 0, none⟩), .pointer (some ⟨w.heap.size + 1 + 1, 0, none⟩)]) (by simp) (by simp [go_sem]) ?_
  refine (idle49 _ _ _ _).mono ?_
  rintro e u' w'' ⟨rfl, rfl, rfl⟩
  simp [Leaves, settle, results, Tryd.results43, go_sem]
  exact ((((Below.refl _ w).alloc (Nat.le_refl _) _).alloc (by simp) _).alloc (by simp; omega) _).drew
end Go.Proofs.YtdpphjedjhjdgaaDoor

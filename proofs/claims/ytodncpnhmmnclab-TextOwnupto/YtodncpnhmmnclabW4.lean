/- Contracts of the reference's Join, and of both Joins at every row of runes. -/
import Derived.Test.YtodncpnhmmnclabW3
namespace Go.Proofs.Ytodncpnhmmnclab
open Go.RowKit

set_option maxHeartbeats 1000000 in
set_option maxRecDepth 100000 in
theorem join_none (a : Option Addr) (cap : Nat) (w : World) :
    Calls Try.prog 12 #[.slice a 0 cap] w fun e w' =>
      e = .returned (.tuple #[.string ⟨#[]⟩, .agg #[.int .i64 0, .int .i64 0]]) ∧ Below w.heap.size w w' := by
  have hconv : ∀ wr, (convert 41 9 (.slice none 0 0)).run Try.prog wr = .ok (.string ByteArray.empty) wr := fun wr => run_convert_bytes_nil wr 41 5 Try.underlying41 Try.underlying5 0 0 9 Try.underlying9
  go_enter Try.func12, Try.ntmps12
  go_wp2
  refine wp_loop_rounds 1 ?_
  rw [rounds_succ]
  go_wp2
  refine bodyPost_ret (v := .tuple #[.string ⟨#[]⟩, .agg #[.int .i64 0, .int .i64 0]]) (by simp [results, Try.results12, go_sem]; rfl) rfl ⟨rfl, ?_⟩
  exact ((Below.refl _ _).alloc (Nat.le_refl _) _)

theorem byteCells_one' (l : List UInt8) : ∀ u ∈ Lib.byteCells l, u.oneCell' = true := by
  intro u hu
  simp only [Lib.byteCells, List.mem_map] at hu
  obtain ⟨x, _, rfl⟩ := hu
  rfl

theorem rune_cell (r : Int) (w : World) : ∀ j u, (Lib.runeCells r)[j]? = some u → (w.alloc (.cells (Lib.runeCells r).toArray 5)).cell? ((⟨w.heap.size, 0, none⟩ : Addr).add j) = some u := by
  intro j u hj
  have e : (⟨w.heap.size, 0, none⟩ : Addr).add j = ⟨w.heap.size, j, none⟩ := by unfold Addr.add; split <;> simp_all
  rw [e, World.cell?_alloc_mark]
  simpa using hj

theorem join_any (a : Option Addr) (cap : Nat) (zs : List Int) (w : World) (hsz : zs.length * 4 ≤ 140737488351232) (h : RunesAt w a zs) :
    Calls Try.prog 12 #[.slice a zs.length cap] w fun e w' =>
      e = .returned (.tuple #[(joinVals zs).1, .agg #[.int .i64 (joinVals zs).2.1, .int .i64 (joinVals zs).2.2]]) ∧ Below w.heap.size w w' := by
  rcases h with rfl | ⟨b, off, rfl, hb, hc⟩
  · exact join_none a cap w
  · exact join_some b off cap zs w hb hsz hc
end Go.Proofs.Ytodncpnhmmnclab

/- Contracts of the reference's Join, and of both Joins at every row of runes. -/
import Derived.Test.YtodncpnhmmnclaaW3
namespace Go.Proofs.Ytodncpnhmmnclaa
open Go.RowKit

set_option maxHeartbeats 1000000 in
set_option maxRecDepth 100000 in
theorem join_none (a : Option Addr) (cap : Nat) (w : World) :
    Calls Try.prog 18 #[.slice a 0 cap] w fun e w' =>
      e = .returned (.tuple #[.string ⟨#[]⟩, .agg #[.int .i64 0, .int .i64 0]]) ∧ Below w.heap.size w w' := by
  have hconv : ∀ wr, (convert 67 9 (.slice none 0 0)).run Try.prog wr = .ok (.string ByteArray.empty) wr := fun wr => run_convert_bytes_nil wr 67 5 Try.underlying67 Try.underlying5 0 0 9 Try.underlying9
  go_enter Try.func18, Try.ntmps18
  go_wp2
  refine wp_loop_rounds 1 ?_
  rw [rounds_succ]
  go_wp2
  refine bodyPost_ret (v := .tuple #[.string ⟨#[]⟩, .agg #[.int .i64 0, .int .i64 0]]) (by simp [results, Try.results18, go_sem]; rfl) rfl ⟨rfl, ?_⟩
  exact ((Below.refl _ _).alloc (Nat.le_refl _) _)

set_option maxHeartbeats 1000000 in
theorem rJoin_none (a : Option Addr) (cap : Nat) (w : World) :
    Calls Try.prog 19 #[.slice a 0 cap] w fun e w' =>
      e = .returned (.tuple #[.string ⟨#[]⟩, .int .i64 0, .int .i64 0]) ∧ Below w.heap.size w w' := by
  have hconv : ∀ wr, (convert 67 9 (.slice none 0 0)).run Try.prog wr = .ok (.string ByteArray.empty) wr := fun wr => run_convert_bytes_nil wr 67 5 Try.underlying67 Try.underlying5 0 0 9 Try.underlying9
  go_enter Try.func19, Try.ntmps19
  go_wp2
  refine wp_loop_rounds 1 ?_
  rw [rounds_succ]
  go_wp2
  go_ret3
  exact ⟨rfl, Below.refl _ _⟩

theorem byteCells_one' (l : List UInt8) : ∀ u ∈ Lib.byteCells l, u.oneCell' = true := by
  intro u hu
  simp only [Lib.byteCells, List.mem_map] at hu
  obtain ⟨x, _, rfl⟩ := hu
  rfl

theorem rune_cell (r : Int) (w : World) : ∀ j u, (Lib.runeCells r)[j]? = some u → (w.alloc (.cells (Lib.runeCells r).toArray 5)).cell? ((⟨w.heap.size, 0, none⟩ : Addr).add j) = some u := by
  intro j u hj
  have e : (⟨w.heap.size, 0, none⟩ : Addr).add j = ⟨w.heap.size, j, none⟩ := by unfold Addr.add; split <;> simp_all
  rw [e, World.cell?_alloc_mark]
  simpa using hj

set_option maxHeartbeats 1000000 in
set_option maxRecDepth 100000 in
theorem rJoin_some (b off cap : Nat) (zs : List Int) (w : World) (hb : b < w.heap.size) (hsz : zs.length * 4 ≤ 140737488351232)
    (hc : ∀ j, j < zs.length → w.cell? ⟨b, off + j, none⟩ = some (.int .i32 (zs.getD j 0))) :
    Calls Try.prog 19 #[.slice (some ⟨b, off, none⟩) zs.length cap] w fun e w' =>
      e = .returned (.tuple #[(joinVals zs).1, .int .i64 (joinVals zs).2.1, .int .i64 (joinVals zs).2.2]) ∧ Below w.heap.size w w' := by
  obtain ⟨i0, hi, hz0, hz1, hz2⟩ := info_parts hbyte
  go_enter Try.func19, Try.ntmps19
  go_wp2
  go_loopw [5, 6] (fun v i wr => ∃ k : Nat, k ≤ zs.length ∧ i = .int .i64 k ∧ wr.ownsRow w.heap.size 5 1 v (joinB (zs.take k)).length (Lib.byteCells (joinB (zs.take k))) ∧ Below w.heap.size w wr ∧ ∀ j, j < k → Utf8.valid (zs.getD j 0) = true) (fun _ i _ => zs.length - (intOf i).toNat)
  case atStart => exact ⟨0, Nat.zero_le _, rfl, World.ownsRow_nil _ _ _ _, Below.refl _ _, fun j hj => by omega⟩
  case round =>
    obtain ⟨k, hk, rfl, hown, hbel, hval⟩ := hrel
    have hs1 := hbel.size
    have Hbel := hide hbel
    have Hval := hide hval
    have Hown := hide hown
    have Hc := hide hc
    clear hbel hval hown hc
    by_cases hlt : k < zs.length
    · have hcell : wr.cell? ⟨b, off + k, none⟩ = some (.int .i32 (zs.getD k 0)) := by rw [(unhide Hbel).cell (by exact hb)]; exact unhide Hc k hlt
      generalize hr : zs.getD k 0 = r at hcell
      have Hr := hide hr
      clear hr
      cases hv : Utf8.valid r
      · go_wp2_with (go_at_call 32; refine (rRune_any r _).mono ?_; rintro e w' ⟨rfl, rfl⟩)
        have hbad : badAt zs = some k := badAt_here' zs k hlt (unhide Hval) (by rw [unhide Hr]; exact hv)
        go_ret3
        refine ⟨?_, unhide Hbel⟩
        rw [joinVals_bad zs k hbad]
        rfl
      · have hlen : (joinB (zs.take k)).length + 4 ≤ 140737488355328 := by have := joinB_take_le zs k; omega
        have hl4 := encodeRune_le r
        go_wp2_with (first | (at_builtin; refine wpList_append_own _ rfl _ _ 67 rfl w.heap.size 5 i0 (.int .u8 0) 1 1 Try.underlying67 hi hz0 hz1 hz2 rfl (by decide) _ _ _ rfl ((unhide Hown).alloc _) ⟨wr.heap.size, 0, none⟩ (Lib.encodeRune r).length (Lib.encodeRune r).length (Lib.runeCells r) rfl ?c0 ?c1 ?c2 ?c3 ?c4 ?c5 ?_) | (go_at_call 32; refine (rRune_any r _).mono ?_; rintro e w' ⟨rfl, rfl⟩) | (go_at_call 33; refine (bytes_any r hv _).mono ?_; rintro e w' ⟨rfl, rfl⟩))
        case c0 => rw [Lib.runeCells_length]; omega
        case c1 => exact rune_cell r wr
        case c2 => rw [← Lib.byteCells_encodeRune]; exact byteCells_one' _
        case c3 => unfold maxLen; omega
        case c4 => omega
        case c5 => simp; omega
        intro v' w2 hown' hgrow _
        go_wp2
        go_roundw
        case rel =>
          refine ⟨k + 1, by omega, by go_num, ?_, ?_, ?_⟩
          · rw [joinB_step zs k hlt, unhide Hr, List.length_append, Lib.byteCells_append, Lib.byteCells_encodeRune]
            exact hown'
          · exact (((unhide Hbel).alloc (by omega) _).grown hgrow (by simp; omega) (fun x hx => ((unhide Hown).lt x hx).1))
          · intro j hj
            by_cases e : j = k
            · subst e; rw [unhide Hr]; exact hv
            · exact unhide Hval j (by omega)
        case measure => simp [intOf]; omega
    · have hk' : k = zs.length := by omega
      have hgood : badAt zs = none := badAt_none' zs (by rw [← hk']; exact unhide Hval)
      have hconv : (convert 67 9 u5).run Try.prog wr = .ok (.string ⟨(joinB zs).toArray⟩) wr := by
        have h := own_to_string (unhide Hown)
        rw [hk', List.take_length] at h
        exact h
      have Hk := hide hk'
      have Hg := hide hgood
      clear hk' hgood
      go_wp2
      go_ret3
      refine ⟨?_, unhide Hbel⟩
      rw [joinVals_good zs (unhide Hg)]
      rfl

theorem join_any (a : Option Addr) (cap : Nat) (zs : List Int) (w : World) (hsz : zs.length * 4 ≤ 140737488351232) (h : RunesAt w a zs) :
    Calls Try.prog 18 #[.slice a zs.length cap] w fun e w' =>
      e = .returned (.tuple #[(joinVals zs).1, .agg #[.int .i64 (joinVals zs).2.1, .int .i64 (joinVals zs).2.2]]) ∧ Below w.heap.size w w' := by
  rcases h with rfl | ⟨b, off, rfl, hb, hc⟩
  · exact join_none a cap w
  · exact join_some b off cap zs w hb hsz hc
theorem rJoin_any (a : Option Addr) (cap : Nat) (zs : List Int) (w : World) (hsz : zs.length * 4 ≤ 140737488351232) (h : RunesAt w a zs) :
    Calls Try.prog 19 #[.slice a zs.length cap] w fun e w' =>
      e = .returned (.tuple #[(joinVals zs).1, .int .i64 (joinVals zs).2.1, .int .i64 (joinVals zs).2.2]) ∧ Below w.heap.size w w' := by
  rcases h with rfl | ⟨b, off, rfl, hb, hc⟩
  · exact rJoin_none a cap w
  · exact rJoin_some b off cap zs w hb hsz hc
end Go.Proofs.Ytodncpnhmmnclaa

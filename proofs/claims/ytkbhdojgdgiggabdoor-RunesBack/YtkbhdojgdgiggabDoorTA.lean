/- Parse and From at what Text writes. -/
import Derived.Test.YtkbhdojgdgiggabDoorT9
namespace Go.Proofs.YtkbhdojgdgiggabDoor
open Go.RowKit Go.Lib Go.Sort

def SetOk (s : ByteArray) (e : Nat) (M : List Rng) : Prop := ∀ w, Calls Tryd.prog 40 #[.string s, .int .i64 0] w fun q w' => ∃ v, q = .returned (.tuple #[v, .int .i64 (e + 1 : Nat), .agg #[.int .i64 0, .int .i64 0]]) ∧ w'.ownsRow w.heap.size 53 2 v M.length (flat M) ∧ Below w.heap.size w w'
set_option maxHeartbeats 1000000 in
set_option maxRecDepth 100000 in
theorem parse_ok (s : ByteArray) (e : Nat) (M : List Rng) (hs : s.size = e + 1) (hM : M.length ≤ 2048) (hS : SetOk s e M) (w : World) :
    Calls Tryd.prog 20 #[.string s] w fun q w' => ∃ v, q = .returned (.tuple #[v, .agg #[.int .i64 0, .int .i64 0]]) ∧ w'.ownsRow w.heap.size 53 2 v M.length (flat M) ∧ Below w.heap.size w w' := by
  have HS := hide hS
  clear hS
  have hl : ¬ ((e + 1 : Nat) : Int) < (s.size : Int) := by omega
  have hm : ¬ (2048 : Int) < (M.length : Int) := by omega
  go_enter Tryd.func20, Tryd.ntmps20
  go_wp2_with fail
  refine (unhide HS _).mono ?_
  rintro q w1 ⟨v, rfl, hown, hb⟩
  obtain ⟨va, vc, rfl⟩ := ownsRow_slice hown
  have hfb := ((FB.start w).below hb (by simp)).alloc (.cells #[.int .i64 0, .int .i64 0] 43)
  have f0 := hfb.cell0; have f1 := hfb.cell1; have z0 := hfb.fz 0; have z1 := hfb.fz 1; have q0 := hfb.set 0 (by omega); have q1 := hfb.set 1 (by omega)
  have hB := (((Below.refl w.heap.size w).alloc (Nat.le_refl _) (.cells #[.int .i64 0, .int .i64 0] 43)).trans (below_le hb (by simp)))
  have Hown := hide (ownsRow_le (hown.alloc (.cells #[.int .i64 0, .int .i64 0] 43)) (show w.heap.size ≤ _ by simp)); have Hb := hide (hB.alloc hB.size (.cells #[.int .i64 0, .int .i64 0] 43))
  clear hown hb hfb hB
  go_wp2
  refine bodyPost_ret (v := .tuple #[.slice va M.length vc, .agg #[.int .i64 0, .int .i64 0]]) (by simp [results, Tryd.results20, go_sem, f0, f1]) rfl ⟨_, rfl, unhide Hown, unhide Hb⟩
set_option maxHeartbeats 1000000 in
set_option maxRecDepth 100000 in
theorem from_ok (s : ByteArray) (e : Nat) (M : List Rng) (hM : M.length ≤ 2048) (hS : SetOk s e M) (w : World) :
    Calls Tryd.prog 21 #[.string s, .int .i64 0] w fun q w' => ∃ v, q = .returned (.tuple #[v, .int .i64 (e + 1 : Nat), .agg #[.int .i64 0, .int .i64 0]]) ∧ w'.ownsRow w.heap.size 53 2 v M.length (flat M) ∧ Below w.heap.size w w' := by
  have HS := hide hS
  clear hS
  have h0 : ¬ (s.size : Int) < 0 := by omega
  have hm : ¬ (2048 : Int) < (M.length : Int) := by omega
  go_enter Tryd.func21, Tryd.ntmps21
  go_wp2_with fail
  refine (unhide HS _).mono ?_
  rintro q w1 ⟨v, rfl, hown, hb⟩
  obtain ⟨va, vc, rfl⟩ := ownsRow_slice hown
  have hfb := ((FB.start w).below hb (by simp)).alloc (.cells #[.int .i64 0, .int .i64 0] 43)
  have f0 := hfb.cell0; have f1 := hfb.cell1; have z0 := hfb.fz 0; have z1 := hfb.fz 1; have q0 := hfb.set 0 (by omega); have q1 := hfb.set 1 (by omega)
  have hB := (((Below.refl w.heap.size w).alloc (Nat.le_refl _) (.cells #[.int .i64 0, .int .i64 0] 43)).trans (below_le hb (by simp)))
  have Hown := hide (ownsRow_le (hown.alloc (.cells #[.int .i64 0, .int .i64 0] 43)) (show w.heap.size ≤ _ by simp)); have Hb := hide (hB.alloc hB.size (.cells #[.int .i64 0, .int .i64 0] 43))
  clear hown hb hfb hB
  go_wp2
  refine bodyPost_ret (v := .tuple #[.slice va M.length vc, .int .i64 (e + 1 : Nat), .agg #[.int .i64 0, .int .i64 0]]) (by simp [results, Tryd.results21, go_sem, f0, f1]) rfl ⟨_, rfl, unhide Hown, unhide Hb⟩
end Go.Proofs.YtkbhdojgdgiggabDoor

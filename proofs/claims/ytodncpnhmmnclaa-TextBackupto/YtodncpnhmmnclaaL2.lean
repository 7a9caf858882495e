/- The law TextEncodes, walked out of the contracts. -/
import Derived.Test.YtodncpnhmmnclaaW7
namespace Go.Proofs.Ytodncpnhmmnclaa
open Go.RowKit

theorem runesAt_below {w w' : World} {a : Option Addr} {zs : List Int} (h : RunesAt w a zs) (hb : Below w.heap.size w w') : RunesAt w' a zs := by
  rcases h with rfl | ⟨b, off, rfl, hlt, hc⟩
  · exact .inl rfl
  · exact .inr ⟨b, off, rfl, Nat.lt_of_lt_of_le hlt hb.size, fun j hj => by rw [hb.cell (by exact hlt)]; exact hc j hj⟩

set_option maxHeartbeats 1000000 in
theorem textEncodes_walk (r : Int) (a : Option Addr) (cap : Nat) (zs : List Int) (w : World) (hsz : zs.length * 4 ≤ 140737488351232) (h : RunesAt w a zs) :
    Calls Try.prog 4 #[.int .i32 r, .slice a zs.length cap] w fun e w' => e = .returned (.bool true) ∧ Below w.heap.size w w' := by
  obtain ⟨x, hx⟩ : ∃ x, joinVals zs = x := ⟨_, rfl⟩
  have H := hide h
  have HA := hide (fun w => alive_any w)
  have HJ := hide (fun (w' : World) (hb : Below w.heap.size w w') => join_any a cap zs w' hsz (runesAt_below h hb))
  have HR := hide (fun (w' : World) (hb : Below w.heap.size w w') => rJoin_any a cap zs w' hsz (runesAt_below h hb))
  rw [hx] at HJ HR
  have hstr : ∃ g, x.1 = .string g := by rw [← hx]; unfold joinVals; split <;> exact ⟨_, rfl⟩
  obtain ⟨x1, x2, x3⟩ := x
  obtain ⟨g, rfl⟩ := hstr
  clear h hx
  have HE := hide (fun w => encode_any r w)
  have HF := hide (fun w => rEncode_any r w)
  generalize encVals r = y at HE HF
  obtain ⟨y1, y2⟩ := y
  go_enter Try.func4, Try.ntmps4
  go_wp2_with fail
  refine (unhide HE _).mono ?_
  rintro e w1 ⟨rfl, rfl⟩
  go_wp2_with fail
  refine (unhide HF _).mono ?_
  rintro e w1 ⟨rfl, hb1⟩
  go_wp2_with fail
  refine (unhide HJ _ hb1).mono ?_
  rintro e w2 ⟨rfl, hb2⟩
  go_wp2_with fail
  have hb3 : Below w.heap.size w (w2.alloc (.cells #[.int .i64 x2, .int .i64 x3] 27)) := (hb1.trans (hb2.mono hb1.size)).alloc (by have := hb1.size; have := hb2.size; omega) _
  refine (unhide HR _ hb3).mono ?_
  rintro e w3 ⟨rfl, hb4⟩
  have hb5 := hb3.trans (hb4.mono hb3.size)
  have q0 : w3.cell? ⟨w2.heap.size, 0, none⟩ = some (.int .i64 x2) := by rw [hb4.cell (by simp), World.cell?_alloc_at _ _ _ _ rfl]; rfl
  have q1 : w3.cell? ⟨w2.heap.size, 1, none⟩ = some (.int .i64 x3) := by rw [hb4.cell (by simp), World.cell?_alloc_at _ _ _ _ rfl]; rfl
  have HB := hide hb5
  clear hb1 hb2 hb3 hb4 hb5 HE HF HJ HR H
  go_wp2_with fail
  refine (unhide HA _).mono ?_
  rintro e w4 ⟨rfl, hb6⟩
  go_wp2
  go_ret
  exact ⟨rfl, (unhide HB).trans (hb6.mono (unhide HB).size)⟩
end Go.Proofs.Ytodncpnhmmnclaa

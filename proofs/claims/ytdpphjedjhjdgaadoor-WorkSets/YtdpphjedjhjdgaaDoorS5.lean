/- Sets: OnesCount64. -/
import Derived.Test.YtdpphjedjhjdgaaDoorS4
namespace Go.Proofs.YtdpphjedjhjdgaaDoor
open Go.RowKit Go.Maps

def o1 (x : Int) : Int := IntKind.u64.wrap (bits .and .u64 (x / 2) 6148914691236517205 + bits .and .u64 x 6148914691236517205)
def o2 (x : Int) : Int := IntKind.u64.wrap (bits .and .u64 (x / 4) 3689348814741910323 + bits .and .u64 x 3689348814741910323)
def o3 (x : Int) : Int := bits .and .u64 (IntKind.u64.wrap (x / 16 + x)) 1085102592571150095
def o4 (x : Int) : Int := IntKind.u64.wrap (x + x / 256)
def o5 (x : Int) : Int := IntKind.u64.wrap (x + x / 65536)
def o6 (x : Int) : Int := IntKind.u64.wrap (x + x / 4294967296)
def o7 (x : Int) : Int := bits .and .i64 (wrap64 x) 127
def onesV (x : Int) : Int := o7 (o6 (o5 (o4 (o3 (o2 (o1 x))))))

set_option maxHeartbeats 4000000 in
set_option maxRecDepth 100000 in
theorem ones_any (x : Int) (w : World) :
    Calls Tryd.prog 48 #[.int .u64 x] w fun e w' => e = .returned (.int .i64 (onesV x)) ∧ w' = w := by
  go_enter Tryd.func48, Tryd.ntmps48
  go_wp2
  go_ret
  exact ⟨rfl, rfl⟩
theorem ones_zero : onesV 0 = 0 := by decide +kernel
theorem ones_bit : ∀ j : Fin 64, onesV ((2 ^ j.val : Nat) : Int) = 1 := by decide +kernel

theorem hblk : (Tryd.prog.info? 73).map (fun i => (i.zero, i.size, i.bytes)) = some (some (.agg #[.int .i64 0, .int .u64 0]), 2, 16) := by kernel_rfl
set_option maxHeartbeats 4000000 in
set_option maxRecDepth 100000 in
/-- Insert into nothing. -/
theorem insert_first (t : Int) (b : Nat) (w : World) (hc : w.cell? ⟨b, 0, none⟩ = some (.int .i64 t)) (hd : w.cell? ⟨b, 1, none⟩ = some (.int .u64 0)) :
    Calls Tryd.prog 47 #[.slice none 0 0, .int .i64 0, .slice (some ⟨b, 0, none⟩) 1 1] w fun e w' => ∃ g c, e = .returned (.slice (some ⟨g, 0, none⟩) 1 c) ∧ w'.ownsRow 0 73 2 (.slice (some ⟨g, 0, none⟩) 1 c) 1 [.int .i64 t, .int .u64 0] ∧ g = w.heap.size ∧ Below w.heap.size w w' := by
  obtain ⟨i0, hi, hz0, hz1, hz2⟩ := info_parts hblk
  go_enter Tryd.func47, Tryd.ntmps47
  go_wp2_with (at_builtin; refine wpList_append_lies _ rfl _ _ 51 rfl 0 73 i0 (.agg #[.int .i64 0, .int .u64 0]) 2 16 Tryd.underlying51 hi hz0 hz1 hz2 rfl (by decide) _ 0 [] rfl (World.ownsRow_nil _ _ _ _) ⟨b, 0, none⟩ 1 1 [.int .i64 t, .int .u64 0] rfl rfl ?c1 ?c2 (by decide) ?c3 ?c4 (Nat.zero_le _) w.heap.size ?c5 ?_)
  case c1 =>
    intro j u hj
    have e : (⟨b, 0, none⟩ : Addr).add j = ⟨b, j, none⟩ := by unfold Addr.add; split <;> simp_all
    rw [e]
    match j, hj with
    | 0, hj => simp at hj; rw [← hj]; exact hc
    | 1, hj => simp at hj; rw [← hj]; exact hd
    | j + 2, hj => simp at hj
  case c2 => simp [Value.oneCell']
  case c3 => decide
  case c4 => decide
  case c5 => rfl
  intro g cap W1 hown hgr hgv hgl
  have hg : g = w.heap.size := by rcases hgv with h | h; simp [Value.ownBlock] at h; exact h
  have Hb : Hid (Below w.heap.size w W1) := hide ((Below.refl _ w).grown hgr (Nat.le_refl _) (fun k hk => by simp [Value.ownBlock] at hk))
  have Hown := hide hown
  clear hown hgr hgv
  go_wp2
  go_ret
  exact ⟨g, cap, rfl, unhide Hown, hg, unhide Hb⟩
end Go.Proofs.YtdpphjedjhjdgaaDoor

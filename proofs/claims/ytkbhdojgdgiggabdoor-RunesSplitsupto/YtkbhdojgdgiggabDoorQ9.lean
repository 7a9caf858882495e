/- slices.Sort at rune: breakPatternsOrdered. -/
import Derived.Test.YtkbhdojgdgiggabDoorQ8
import Derived.Test.YtkbhdojgdgiggabDoorS1
import Derived.Sort.LotD1
import Derived.Sort.LotD5
namespace Go.Proofs.YtkbhdojgdgiggabDoor
open Go.RowKit Go.Sort

theorem next2_same (L : Nat) (hL : L < 4611686018427387904) (w : World) : Calls Tryd.prog 84 #[.int .i64 L] w fun e w' => e = .returned (.int .u64 ((1 <<< bitsLen L : Nat) : Int)) ∧ w' = w := AnyF.nextPowerOfTwo (ρ := Tryd.sortR_ren) { Tryd.sortR with } L hL w
theorem xors_any (rb X : Nat) (hX : X < 18446744073709551616) (w : World) (h : Boxed w rb 111 (.int .u64 X)) :
    Calls Tryd.prog 85 #[.pointer (some ⟨rb, 0, none⟩)] w fun e w' => ∃ R : Nat, e = .returned (.int .u64 R) ∧ R < 18446744073709551616 ∧ w' = (w.setCell ⟨rb, 0, none⟩ (.int .u64 R)).drewN 3 :=
  (AnyF.xorshift_Next (ρ := Tryd.sortR_ren) { Tryd.sortR with } rb 0 X hX w h.cell h.frozen).mono fun _ _ ⟨h1, h2⟩ => ⟨_, h1, xorNextN_lt X hX, h2⟩
theorem and64 (x y : Nat) (hx : x < 18446744073709551616) (hy : y < 18446744073709551616) : bits .and .u64 (x : Int) (y : Int) = ((x &&& y : Nat) : Int) := by
  have e : ∀ z : Nat, z < 18446744073709551616 → (BitVec.ofInt 64 (z : Int)).toNat = z := fun z hz => by
    rw [BitVec.ofInt_natCast, BitVec.toNat_ofNat]; exact Nat.mod_eq_of_lt hz
  have hl : x &&& y ≤ x := Nat.and_le_left
  show IntKind.u64.wrap ((BitVec.ofInt 64 (x : Int) &&& BitVec.ofInt 64 (y : Int)).toNat : Int) = _
  rw [BitVec.toNat_and, e x hx, e y hy]
  exact IntWalk.u64_in _ (by omega)

theorem ofB_other {b sb : Nat} {w w1 : World} (h : OfB b w w1) (hs : w.heap.size ≤ sb) (v : Value) : OfB b w (w1.setCell ⟨sb, 0, none⟩ v) :=
  ⟨Nat.le_trans h.1 (grownBy_setCell' w1 sb v).size, fun k hk hn => ((grownBy_setCell' w1 sb v).block k (Nat.lt_of_lt_of_le hk h.1) (by intro e; cases e; omega)).trans (h.2.1 k hk hn), (grownBy_setCell' w1 sb v).os.trans h.2.2.1, (grownBy_setCell' w1 sb v).tape.trans h.2.2.2.1, (grownBy_setCell' w1 sb v).output.trans h.2.2.2.2⟩
theorem ofB_alloc {b : Nat} {w : World} (o : Obj) : OfB b w (w.alloc o) := ⟨by simp, fun k hk _ => Below.heap_alloc w o k hk, rfl, rfl, rfl⟩
theorem rw_boxed {w w' : World} {b sb : Nat} {t : TypeId} {v : Value} (h : Boxed w sb t v) (hne : sb ≠ b) (ho : OfB b w w') : Boxed w' sb t v := (ho.2.1 sb h.lt hne).trans h

set_option maxRecDepth 100000 in
set_option maxHeartbeats 4000000 in
theorem brk_any (b cap n a c : Nat) (d : Array Int) (hac : a + 12 < c) (hc : c ≤ n) (hn : n ≤ 281474976710656) (w : World) (h : RW w b cap n d) :
    Calls Tryd.prog 63 #[.slice (some ⟨b, 0, none⟩) n cap, .int .i64 a, .int .i64 c] w fun e w' => (∃ v, e = .returned v) ∧ ∃ d', RW w' b cap n d' ∧ PermIn a c d d' ∧ OfB b w w' := by
  obtain ⟨L, hL⟩ : ∃ L, L = c - a := ⟨_, rfl⟩
  obtain ⟨I, hI⟩ : ∃ I, I = a + L / 4 * 2 := ⟨_, rfl⟩
  obtain ⟨m, hm⟩ : ∃ m, m = 1 <<< bitsLen L := ⟨_, rfl⟩
  have hm1 : L < m ∧ m ≤ 2 * L := by
    rw [hm, Nat.shiftLeft_eq, Nat.one_mul]
    exact ⟨lt_two_pow_bitsLen L, two_pow_bitsLen_le (by omega)⟩
  have HN := hide (next2_same L (by omega))
  rw [← hm] at HN
  have eL : (c : Int) - (a : Int) = (L : Int) := by omega
  have eI : (a : Int) + (L : Int) / 4 * 2 = (I : Int) := by omega
  have wI : IntKind.i64.wrap (I : Int) = (I : Int) := IntWalk.i64_in _ (by omega)
  have wL : IntKind.u64.wrap (L : Int) = (L : Int) := IntWalk.u64_in _ (by omega)
  have hL8 : (8 : Int) ≤ (L : Int) := by omega
  have hI1 : a + 1 ≤ I ∧ I + 2 ≤ c ∧ a + L = c := by omega
  have hb := rw_lt h
  have hrw1 : RW (w.alloc (.cells #[.int .u64 (L : Int)] 111)) b cap n d := ⟨h.1, h.2.alloc _⟩
  have hbx := Boxed.new w 111 (.int .u64 (L : Int))
  have Hrw1 := hide hrw1; have Hbx := hide hbx
  clear hI hm hL hrw1 hbx h
  go_enter Tryd.func63, Tryd.ntmps63
  go_wp2_with fail
  refine (unhide HN _).mono ?_
  rintro e w' ⟨rfl, hw⟩
  obtain rfl := hw.symm
  go_wp2
  go_loopw [9] (fun x wr => ∃ (i X : Nat) (d1 : Array Int), x = .int .i64 i ∧ I ≤ i + 1 ∧ i ≤ I + 2 ∧ X < 18446744073709551616 ∧ RW wr b cap n d1 ∧ Boxed wr w.heap.size 111 (.int .u64 X) ∧ PermIn a c d d1 ∧ OfB b w wr) (fun x _ => I + 2 - (intOf x).toNat)
  case atStart => exact ⟨I - 1, L, d, by rw [show (I : Int) - 1 = ((I - 1 : Nat) : Int) by omega], by omega, by omega, by omega, unhide Hrw1, unhide Hbx, permIn_refl d a c, ofB_alloc _⟩
  case round =>
    obtain ⟨i, X, d1, rfl, hi1, hi2, hX, hrw, hbx, hpm, hof⟩ := hrel
    by_cases hle : i ≤ I + 1
    · have hle' : (i : Int) ≤ (I : Int) + 1 := by omega
      have HX := hide (xors_any w.heap.size X hX wr hbx)
      have HH := hide (And.intro hrw (And.intro hbx hof))
      have Hpm := hide hpm
      clear Hrw1 Hbx hrw hbx hof hpm
      go_wp2_with fail
      refine (unhide HX).mono ?_
      rintro e w2 ⟨R, rfl, hR, hw2⟩
      obtain ⟨hrw, hbx, hof⟩ := unhide HH
      have Hrw : Hid (RW w2 b cap n d1) := hide (by rw [hw2]; exact rw_drew 3 (rw_other hrw (by omega) _))
      have Hof : Hid (OfB b w w2) := hide (by rw [hw2]; exact ofB_drew 3 (ofB_other hof (Nat.le_refl _) _))
      have Hbx2 : Hid (Boxed w2 w.heap.size 111 (.int .u64 (R : Int))) := hide (by rw [hw2]; exact hbx.set _)
      clear hrw hbx hof HH HX hw2
      obtain ⟨M, hM⟩ : ∃ M, M = m - 1 := ⟨_, rfl⟩
      have eM : (m : Int) - 1 = (M : Int) := by omega
      have wM : IntKind.u64.wrap (M : Int) = (M : Int) := IntWalk.u64_in _ (by omega)
      obtain ⟨O, hO⟩ : ∃ O, O = R &&& M := ⟨_, rfl⟩
      have eO : bits .and .u64 (R : Int) (M : Int) = (O : Int) := by rw [hO]; exact and64 R M hR (by omega)
      have hOM : O ≤ M := by rw [hO]; exact Nat.and_le_right
      have wO : IntKind.i64.wrap (O : Int) = (O : Int) := IntWalk.i64_in _ (by omega)
      have hOL : O < 2 * L := by omega
      clear hM hO
      by_cases hge : L ≤ O
      · have hge' : (L : Int) ≤ (O : Int) := by omega
        obtain ⟨P, hP⟩ : ∃ P, P = O - L := ⟨_, rfl⟩
        have eP : (O : Int) - (L : Int) = (P : Int) := by omega
        have hPL : P < L := by omega
        clear hP
        obtain ⟨Y, hY⟩ : ∃ Y, Y = a + P := ⟨_, rfl⟩
        have eY : (a : Int) + (P : Int) = (Y : Int) := by omega
        have wY : IntKind.i64.wrap (Y : Int) = (Y : Int) := IntWalk.i64_in _ (by omega)
        have bY : (Y : Int) < n := by omega
        have hYr : a ≤ Y ∧ Y < c := by omega
        have bi : (i : Int) < n := by omega
        have ci := rw_cell (unhide Hrw) i (by omega)
        have cY := rw_cell (unhide Hrw) Y (by omega)
        have fi := rw_frozen (unhide Hrw) i
        have fY := rw_frozen (unhide Hrw) Y
        obtain ⟨vv, c2, f2⟩ := rw_cell2 (unhide Hrw) i Y (by omega) (.int .i32 d1[Y]!)
        have Hs := hide (rw_swp (unhide Hrw) i Y)
        have Hpm2 : Hid (PermIn a c d (swp d1 i Y)) := hide (permIn_trans _ _ _ a c (unhide Hpm) (swp_permIn d1 a c i Y (by omega) (by omega) (by omega) (by omega) (by have := (unhide Hrw).1; omega)))
        clear hY
        go_wp2
        go_region
        go_wp2
        go_roundw
        case rel => exact ⟨i + 1, R, swp d1 i Y, by go_num, by omega, by omega, hR, (unhide Hs).1, rw_boxed (unhide Hbx2) (by omega) (unhide Hs).2, unhide Hpm2, ofB_t (unhide Hof) (unhide Hs).2⟩
        case measure => simp [intOf]; omega
      · have hge' : ¬ (L : Int) ≤ (O : Int) := by omega
        obtain ⟨Y, hY⟩ : ∃ Y, Y = a + O := ⟨_, rfl⟩
        have eY : (a : Int) + (O : Int) = (Y : Int) := by omega
        have wY : IntKind.i64.wrap (Y : Int) = (Y : Int) := IntWalk.i64_in _ (by omega)
        have bY : (Y : Int) < n := by omega
        have hYr : a ≤ Y ∧ Y < c := by omega
        have bi : (i : Int) < n := by omega
        have ci := rw_cell (unhide Hrw) i (by omega)
        have cY := rw_cell (unhide Hrw) Y (by omega)
        have fi := rw_frozen (unhide Hrw) i
        have fY := rw_frozen (unhide Hrw) Y
        obtain ⟨vv, c2, f2⟩ := rw_cell2 (unhide Hrw) i Y (by omega) (.int .i32 d1[Y]!)
        have Hs := hide (rw_swp (unhide Hrw) i Y)
        have Hpm2 : Hid (PermIn a c d (swp d1 i Y)) := hide (permIn_trans _ _ _ a c (unhide Hpm) (swp_permIn d1 a c i Y (by omega) (by omega) (by omega) (by omega) (by have := (unhide Hrw).1; omega)))
        clear hY
        go_wp2
        go_region
        go_wp2
        go_roundw
        case rel => exact ⟨i + 1, R, swp d1 i Y, by go_num, by omega, by omega, hR, (unhide Hs).1, rw_boxed (unhide Hbx2) (by omega) (unhide Hs).2, unhide Hpm2, ofB_t (unhide Hof) (unhide Hs).2⟩
        case measure => simp [intOf]; omega
    · have hle' : ¬ (i : Int) ≤ (I : Int) + 1 := by omega
      go_wp2
      go_end0
      exact ⟨⟨_, rfl⟩, d1, hrw, hpm, hof⟩
end Go.Proofs.YtkbhdojgdgiggabDoor

/- Contracts of the reference's At and Byte. -/
import Derived.Test.YtodncpnhmmnclaaW8
import Derived.Test.YtodncpnhmmnclaaW12
import Derived.Test.YtodncpnhmmnclaaM7
namespace Go.Proofs.Ytodncpnhmmnclaa
open Go.RowKit

set_option maxHeartbeats 400000 in
theorem rAt_out (s : ByteArray) (a : Int) (h : a < 0 ∨ (s.size : Int) < a) (w : World) :
    Calls Try.prog 21 #[.string s, .int .i64 a] w fun e w' => e = .returned (.tuple #[.int .i64 0, .int .i64 0, .int .i64 13]) ∧ Below w.heap.size w w' := by
  rcases h with h | h
  · go_enter Try.func21, Try.ntmps21
    go_wp2
    go_ret3
    exact ⟨rfl, Below.refl _ _⟩
  · have h0 : ¬ a < 0 := by omega
    go_enter Try.func21, Try.ntmps21
    go_wp2
    go_ret3
    exact ⟨rfl, Below.refl _ _⟩

theorem nextW (s : ByteArray) (i : Nat) (h : i < s.size) : ∃ r b, nextV s i = .tuple #[.int .i32 r, .int .i64 ((Utf8.decode s i).2 : Int), .bool b] := by
  unfold nextV
  cases hn : noneB s i
  · rw [nextT_rune s i h hn]; exact ⟨_, _, rfl⟩
  · rw [nextT_none s i h hn]
    simp only [noneB, beq_iff_eq] at hn
    rw [hn]
    exact ⟨_, _, rfl⟩

set_option maxHeartbeats 2000000 in
set_option maxRecDepth 100000 in
theorem rAt_in (s : ByteArray) (hs : s.size ≤ 281474976710656) (a : Nat) (h : a ≤ s.size) (w : World) :
    Calls Try.prog 21 #[.string s, .int .i64 a] w fun e w' => ∃ k, e = .returned (.tuple #[.int .i64 ((st s k).2.1 : Int), .int .i64 ((st s k).2.2 : Int), .int .i64 0]) ∧ (∀ j, j < k → (st s j).1 < a ∧ (st s j).1 < s.size) ∧ a ≤ (st s k).1 ∧ Below w.heap.size w w' := by
  have h' : ¬ (s.size : Int) < (a : Int) := by omega
  obtain ⟨k0, hk1, hk2, hk3, hk4⟩ := line_start s a h
  have hble := beg_le s a
  have Hk1 := hide hk1; have Hk2 := hide hk2; have Hk3 := hide hk3; have Hk4 := hide hk4
  clear hk1 hk2 hk3 hk4
  go_enter Try.func21, Try.ntmps21
  go_wp2
  go_loop [7, 8, 9] (fun l b i => ∃ k : Nat, k ≤ a ∧ l = .int .i64 ((nlc s k : Int) + 1) ∧ b = .int .i64 (beg s k : Int) ∧ i = .int .i64 (k : Int)) (fun _ _ i => a - (intOf i).toNat)
  case atStart => exact ⟨0, Nat.zero_le _, rfl, rfl, rfl⟩
  case round =>
    obtain ⟨k, hk, rfl, rfl, rfl⟩ := hrel
    have hnl := nlc_le s k
    by_cases hlt : k < a
    · have hlt' : (k : Int) < (a : Int) := by omega
      have hix := index_bt s k (by omega)
      have hb := bt_lt s k
      by_cases e : bt s k = 10
      · have e1 : ((bt s k : Int) == 10) = true := by simp [e]
        have Hn := hide (show nlc s (k + 1) = nlc s k + 1 by simp [nlc, e])
        have Hb := hide (show beg s (k + 1) = k + 1 by simp [beg, e])
        clear e
        go_wp2
        go_round
        case rel => exact ⟨k + 1, by omega, by rw [unhide Hn]; go_num, by rw [unhide Hb]; go_num, by go_num⟩
        case measure => simp [intOf]; omega
      · have e1 : ((bt s k : Int) == 10) = false := by simp; omega
        have Hn := hide (show nlc s (k + 1) = nlc s k by simp [nlc, e])
        have Hb := hide (show beg s (k + 1) = beg s k by simp [beg, e])
        clear e
        go_wp2
        go_round
        case rel => exact ⟨k + 1, by omega, by rw [unhide Hn], by rw [unhide Hb], by go_num⟩
        case measure => simp [intOf]; omega
    · have hlt' : ¬ (k : Int) < (a : Int) := by omega
      have e : k = a := by omega
      subst e
      go_wp2
      go_loopw [10, 11] (fun c i wr => ∃ j : Nat, k0 ≤ j ∧ c = .int .i64 ((st s j).2.2 : Int) ∧ i = .int .i64 ((st s j).1 : Int) ∧ (st s j).2.1 = nlc s k + 1 ∧ (∀ t, k0 ≤ t → t < j → (st s t).1 < k) ∧ Below w.heap.size w wr) (fun _ i _ => s.size - (intOf i).toNat)
      case atStart => exact ⟨k0, Nat.le_refl _, by rw [unhide Hk3]; rfl, by rw [unhide Hk1], unhide Hk2, fun t h1 h2 => by omega, Below.refl _ _⟩
      case round =>
        obtain ⟨j, hj, rfl, rfl, hln, hall, hbel⟩ := hrel
        have hbd := st_bounds s j
        have hsz := hbel.size
        have hmono := st_mono s k0 j hj
        rw [unhide Hk1] at hmono
        have Hall := hide hall; have Hbel := hide hbel; have Hln := hide hln
        clear hall hbel hln
        by_cases hp : (st s j).1 < k
        · have hp' : ((st s j).1 : Int) < (k : Int) := by omega
          obtain ⟨r, b, hx⟩ := nextW s (st s j).1 (by omega)
          have HX := hide (rNext_any s (st s j).1 (by omega))
          rw [hx] at HX
          have hw := width_pos s (st s j).1 (by omega)
          have Hst := hide (st_else s j (by omega) (dec_no s _ (no_nl s k _ hmono hp)))
          clear hx
          generalize hq : st s j = q at *
          have Hq := hide hq
          clear hq
          obtain ⟨q1, q2, q3⟩ := q
          simp only at *
          generalize (Utf8.decode s q1).2 = d at *
          go_wp2_with fail
          refine (unhide HX _).mono ?_
          rintro e w1 ⟨rfl, hb1⟩
          go_wp2
          go_roundw
          case rel =>
            refine ⟨j + 1, by omega, by rw [unhide Hst]; go_num, by rw [unhide Hst]; go_num, by rw [unhide Hst]; exact unhide Hln, fun t h1 h2 => ?_, (unhide Hbel).trans (hb1.mono hsz)⟩
            by_cases e : t = j
            · subst e; rw [unhide Hq]; exact hp
            · exact unhide Hall t h1 (by omega)
          case measure => simp [intOf]; omega
        · have hp' : ¬ ((st s j).1 : Int) < (k : Int) := by omega
          go_wp2
          go_ret3
          refine ⟨j, ?_, fun t ht => ?_, by omega, unhide Hbel⟩
          · rw [unhide Hln]; rfl
          · by_cases ht0 : t < k0
            · have h1 : (st s t).1 ≤ (st s k0).1 := st_mono s t k0 (by omega)
              have h2 : (st s t).1 < s.size := unhide Hk4 t ht0
              have := st_lt s t k0 ht0 h2
              rw [unhide Hk1] at this
              omega
            · have := unhide Hall t (by omega) ht; omega
end Go.Proofs.Ytodncpnhmmnclaa

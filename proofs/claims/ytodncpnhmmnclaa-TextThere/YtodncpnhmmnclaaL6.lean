/- The law TextThere, walked out of the contracts. -/
import Derived.Test.YtodncpnhmmnclaaW7
import Derived.Test.YtodncpnhmmnclaaW8
import Derived.Test.YtodncpnhmmnclaaW12
namespace Go.Proofs.Ytodncpnhmmnclaa
open Go.RowKit

theorem next_width (s : ByteArray) (i : Nat) (h : i < s.size) : (nextT s i).2.1 = ((Utf8.decode s i).2 : Int) := by
  cases hn : noneB s i
  · rw [nextT_rune s i h hn]
  · rw [nextT_none s i h hn]
    simp only [noneB, beq_iff_eq] at hn
    rw [hn]
    rfl
theorem at_there (s : ByteArray) (hs : s.size ≤ 281474976710656) (m : Nat) (hm : ∀ j, j < m → (st s j).1 < s.size) (w : World) :
    Calls Try.prog 20 #[.string s, .int .i64 ((st s m).1 : Int)] w fun e w' => e = .returned (.tuple #[.agg #[.int .i64 ((st s m).2.1 : Int), .int .i64 ((st s m).2.2 : Int)], .int .i64 0]) ∧ Below w.heap.size w w' :=
  (at_in s hs (st s m).1 (st_bounds s m).1 w).mono fun e w' ⟨k, he, hk, hor, hb⟩ => by
    have : k = m := st_at s m k hm hk hor
    subst this
    exact ⟨he, hb⟩
theorem byte_there (s : ByteArray) (hs : s.size ≤ 281474976710656) (m : Nat) (hm : ∀ j, j < m → (st s j).1 < s.size) (w : World) :
    Calls Try.prog 22 #[.string s, .agg #[.int .i64 ((st s m).2.1 : Int), .int .i64 ((st s m).2.2 : Int)]] w fun e w' => e = .returned (.tuple #[.int .i64 ((st s m).1 : Int), .int .i64 0]) ∧ Below w.heap.size w w' :=
  (byte_any s hs _ _ w).mono fun e w' ⟨n, x, he, hbi, hb⟩ => by
    rcases hbi with ⟨k, hh, hall, rfl, rfl⟩ | ⟨hno, _, _⟩
    · have : k = m := by
        refine st_found s m k hm (fun j hj => ⟨(hall j hj).1, fun e => (hall j hj).2 ?_⟩) ?_
        · unfold Here; rw [e]; exact ⟨rfl, rfl⟩
        · unfold Here at hh
          have h1 : (st s k).2.1 = (st s m).2.1 := by omega
          have h2 : (st s k).2.2 = (st s m).2.2 := by omega
          exact Prod.ext h1 h2
      subst this
      exact ⟨he, hb⟩
    · exact absurd ⟨rfl, rfl⟩ (hno m)

set_option maxHeartbeats 2000000 in
set_option maxRecDepth 100000 in
theorem textThere_walk (s : ByteArray) (hs : s.size ≤ 281474976710656) (a : Int) (w : World) :
    Calls Try.prog 8 #[.string s, .int .i64 a] w fun e w' => e = .returned (.bool true) ∧ Below w.heap.size w w' := by
  have HA := hide (fun w => alive_any w)
  go_enter Try.func8, Try.ntmps8
  go_wp2
  all_goals
    go_loopw [5] (fun v wr => ∃ m : Nat, v = .int .i64 ((st s m).1 : Int) ∧ (∀ j, j < m → (st s j).1 < s.size) ∧ Below w.heap.size w wr) (fun v _ => s.size - (intOf v).toNat)
    case atStart => exact ⟨0, rfl, fun j hj => by omega, Below.refl _ _⟩
    case round =>
      obtain ⟨m, rfl, hm, hbel⟩ := hrel
      have hbd := st_bounds s m
      have hmle : (st s m).1 ≤ s.size := hbd.1
      have hsz := hbel.size
      have HT := hide (at_there s hs m hm)
      have HY := hide (byte_there s hs m hm)
      have HN := hide (next_any s (st s m).1)
      have HW := hide (fun h => next_width s (st s m).1 h)
      have HP := hide (fun h => st_pos s m h)
      have HQ := hide (fun h => width_pos s (st s m).1 h)
      have Hm := hide hm; have Hb := hide hbel
      unfold nextV at HN
      generalize nextT s ((st s m).1 : Int) = t at *
      obtain ⟨t1, t2, t3⟩ := t
      generalize hx : st s m = x at *
      obtain ⟨x1, x2, x3⟩ := x
      simp only at *
      have HX := hide hx
      clear hm hbel hx hbd
      by_cases hp : x1 < s.size
      · have hw := unhide HQ hp
        have ht : t2 = ((Utf8.decode s x1).2 : Int) := unhide HW hp
        subst ht
        have hpos := hide (unhide HP hp)
        generalize (Utf8.decode s x1).2 = d at *
        clear HQ HW HP
        go_wp2_with fail
        all_goals first
          | (go_at_call 9
             refine (unhide HN _).mono ?_
             rintro e w1 ⟨rfl, hb1⟩
             go_wp2
             go_roundw
             case rel =>
               refine ⟨m + 1, ?_, fun j hj => ?_, (unhide Hb).trans (hb1.mono hsz)⟩
               · rw [unhide hpos]; go_num
               · by_cases e : j = m
                 · subst e; rw [unhide HX]; exact hp
                 · exact unhide Hm j (by omega)
             case measure => simp [intOf]; omega)
          | (go_at_call 20
             refine (unhide HT _).mono ?_
             rintro e w1 ⟨rfl, hb1⟩
             have hb2 := (unhide Hb).trans (hb1.mono hsz)
             have HB := hide (hb2.alloc hb2.size (.cells #[.int .i64 x2, .int .i64 x3] 46))
             clear hb1 hb2
             go_wp2_with fail
             refine (unhide HY _).mono ?_
             rintro e w2 ⟨rfl, hb3⟩
             have HB2 := hide ((unhide HB).trans (hb3.mono (unhide HB).size))
             clear hb3
             go_wp2_with fail
             refine (unhide HA _).mono ?_
             rintro e w3 ⟨rfl, hb4⟩
             go_wp2
             go_ret
             exact ⟨rfl, (unhide HB2).trans (hb4.mono (unhide HB2).size)⟩)
      · clear HQ HW HP
        go_wp2_with fail
        refine (unhide HT _).mono ?_
        rintro e w1 ⟨rfl, hb1⟩
        have hb2 := (unhide Hb).trans (hb1.mono hsz)
        have HB := hide (hb2.alloc hb2.size (.cells #[.int .i64 x2, .int .i64 x3] 46))
        clear hb1 hb2
        go_wp2_with fail
        refine (unhide HY _).mono ?_
        rintro e w2 ⟨rfl, hb3⟩
        have HB2 := hide ((unhide HB).trans (hb3.mono (unhide HB).size))
        clear hb3
        go_wp2_with fail
        refine (unhide HA _).mono ?_
        rintro e w3 ⟨rfl, hb4⟩
        go_wp2
        go_ret
        exact ⟨rfl, (unhide HB2).trans (hb4.mono (unhide HB2).size)⟩
end Go.Proofs.Ytodncpnhmmnclaa

/- The law TextBehind, walked out of the contracts. -/
import Derived.Test.YtodncpnhmmnclabW7
import Derived.Test.YtodncpnhmmnclabW8
namespace Go.Proofs.Ytodncpnhmmnclab
open Go.RowKit

theorem decode_congr (s t : ByteArray) (i j : Nat) (hsz : s.size - i = t.size - j) (h : ∀ d, bt s (i + d) = bt t (j + d)) : Utf8.decode s i = Utf8.decode t j := by
  have h0 := h 0
  simp only [Nat.add_zero] at h0
  rw [dec_eq, dec_eq, hsz, h0, h 1, h 2, h 3]
theorem nextT_congr (s t : ByteArray) (i j : Nat) (hi : i ≤ s.size) (hj : j ≤ t.size) (hsz : s.size - i = t.size - j) (h : ∀ d, bt s (i + d) = bt t (j + d)) : nextT s i = nextT t j := by
  have hd := decode_congr s t i j hsz h
  by_cases hlt : i < s.size
  · have hn : noneB s i = noneB t j := by simp only [noneB, hd]
    cases h2 : noneB t j
    · rw [nextT_rune s i hlt (hn.trans h2), nextT_rune t j (by omega) h2, hd]
    · rw [nextT_none s i hlt (hn.trans h2), nextT_none t j (by omega) h2]
  · rw [nextT_out s i (by omega), nextT_out t j (by omega)]
theorem nextT_cut (s : ByteArray) (i : Nat) (hi : i ≤ s.size) : nextT (s.extract i s.size) 0 = nextT s i := by
  have := nextT_congr (s.extract i s.size) s 0 i (by omega) hi (by simp) (fun d => by rw [Nat.zero_add]; exact bt_extract s i d)
  simpa using this
theorem bt_append (a b : ByteArray) (d : Nat) : bt (a ++ b) (a.size + d) = bt b d := by
  have ha : a.size = a.data.toList.length := Lib.size_eq a
  rw [bt_list, bt_list]
  have : (a ++ b).data.toList = a.data.toList ++ b.data.toList := by simp
  rw [this]
  simp only [List.getD]
  rw [List.getElem?_append_right (by omega)]
  congr 3
  omega
theorem nextT_behind (a s : ByteArray) (i : Nat) (hi : i ≤ s.size) : nextT (a ++ s.extract i s.size) a.size = nextT s i := by
  refine nextT_congr _ s a.size i (by simp) hi (by simp) (fun d => ?_)
  rw [bt_append, bt_extract]

theorem nextW (s : ByteArray) (i : Nat) (h : i < s.size) : ∃ r b, nextV s i = .tuple #[.int .i32 r, .int .i64 ((Utf8.decode s i).2 : Int), .bool b] := by
  unfold nextV
  cases hn : noneB s i
  · rw [nextT_rune s i h hn]; exact ⟨_, _, rfl⟩
  · rw [nextT_none s i h hn]
    simp only [noneB, beq_iff_eq] at hn
    rw [hn]
    exact ⟨_, _, rfl⟩

set_option maxHeartbeats 2000000 in
set_option maxRecDepth 100000 in
theorem textBehind_walk (s a : ByteArray) (hs : s.size ≤ 281474976710656) (ha : a.size ≤ 281474976710656) (k : Int) (w : World) :
    Calls Try.prog 4 #[.string s, .string a, .int .i64 k] w fun e w' => e = .returned (.bool true) ∧ Below w.heap.size w w' := by
  have HA := hide (fun w => alive_any w)
  go_enter Try.func4, Try.ntmps4
  go_wp2
  go_loopw [7, 8] (fun v u wr => ∃ p i : Nat, p ≤ s.size ∧ i ≤ p ∧ v = .int .i64 (p : Int) ∧ u = .int .i64 (i : Int) ∧ Below w.heap.size w wr) (fun v _ _ => s.size - (intOf v).toNat)
  case atStart => exact ⟨0, 0, by omega, by omega, rfl, rfl, Below.refl _ _⟩
  case round =>
    obtain ⟨p, i, hp, hi, rfl, rfl, hbel⟩ := hrel
    have hsz := hbel.size
    have Hbel := hide hbel
    clear hbel
    by_cases hc : (i : Int) < k ∧ p < s.size
    · obtain ⟨hik, hps⟩ := hc
      have hps' : (p : Int) < (s.size : Int) := by omega
      obtain ⟨r, b, hx⟩ := nextW s p hps
      have HX := hide (next_any s p)
      rw [hx] at HX
      have hw := width_pos s p hps
      clear hx
      generalize (Utf8.decode s p).2 = d at *
      go_wp2_with fail
      refine (unhide HX _).mono ?_
      rintro e w1 ⟨rfl, hb1⟩
      go_wp2
      go_roundw
      case rel => exact ⟨p + d, i + 1, by omega, by omega, by go_num, by go_num, (unhide Hbel).trans (hb1.mono hsz)⟩
      case measure => simp [intOf]; omega
    · have H1 := hide (next_any s p)
      have H2 := hide (next_any (s.extract p s.size) 0)
      have H3 := hide (next_any (a ++ s.extract p s.size) a.size)
      unfold nextV at H1 H2 H3
      rw [nextT_cut s p hp] at H2
      rw [nextT_behind a s p hp] at H3
      generalize nextT s p = t at *
      obtain ⟨t1, t2, t3⟩ := t
      have hcat : ∀ wx, (Op.stringOp .add a (s.extract p s.size)).run Try.prog wx = .ok (.string (a ++ s.extract p s.size)) wx := fun wx => run_string_add_sum wx _ _ (by simp; omega)
      by_cases hik : (i : Int) < k
      · have hps' : ¬ (p : Int) < (s.size : Int) := by omega
        go_wp2_with fail
        refine (unhide H1 _).mono ?_
        rintro e w1 ⟨rfl, hb1⟩
        have HB1 := hide ((unhide Hbel).trans (hb1.mono hsz))
        clear hb1
        go_wp2_with fail
        refine (unhide H2 _).mono ?_
        rintro e w2 ⟨rfl, hb2⟩
        have HB2 := hide ((unhide HB1).trans (hb2.mono (unhide HB1).size))
        clear hb2
        go_wp2_with fail
        refine (unhide H3 _).mono ?_
        rintro e w3 ⟨rfl, hb3⟩
        have HB3 := hide ((unhide HB2).trans (hb3.mono (unhide HB2).size))
        clear hb3
        go_wp2_with fail
        refine (unhide HA _).mono ?_
        rintro e w4 ⟨rfl, hb4⟩
        go_wp2
        go_ret
        exact ⟨rfl, (unhide HB3).trans (hb4.mono (unhide HB3).size)⟩
      · clear hc
        go_wp2_with fail
        refine (unhide H1 _).mono ?_
        rintro e w1 ⟨rfl, hb1⟩
        have HB1 := hide ((unhide Hbel).trans (hb1.mono hsz))
        clear hb1
        go_wp2_with fail
        refine (unhide H2 _).mono ?_
        rintro e w2 ⟨rfl, hb2⟩
        have HB2 := hide ((unhide HB1).trans (hb2.mono (unhide HB1).size))
        clear hb2
        go_wp2_with fail
        refine (unhide H3 _).mono ?_
        rintro e w3 ⟨rfl, hb3⟩
        have HB3 := hide ((unhide HB2).trans (hb3.mono (unhide HB2).size))
        clear hb3
        go_wp2_with fail
        refine (unhide HA _).mono ?_
        rintro e w4 ⟨rfl, hb4⟩
        go_wp2
        go_ret
        exact ⟨rfl, (unhide HB3).trans (hb4.mono (unhide HB3).size)⟩
end Go.Proofs.Ytodncpnhmmnclab

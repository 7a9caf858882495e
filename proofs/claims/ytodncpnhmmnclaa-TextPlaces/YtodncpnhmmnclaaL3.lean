/- The law TextPlaces, walked out of the contracts. -/
import Derived.Test.YtodncpnhmmnclaaW7
import Derived.Test.YtodncpnhmmnclaaW14
namespace Go.Proofs.Ytodncpnhmmnclaa
open Go.RowKit

theorem byteIs_one (s : ByteArray) (l c n e n' e' : Int) (h : ByteIs s l c n e) (h' : ByteIs s l c n' e') : n = n' ∧ e = e' := by
  rcases h with ⟨k, hk, hall, rfl, rfl⟩ | ⟨hno, rfl, rfl⟩
  · rcases h' with ⟨k', hk', hall', rfl, rfl⟩ | ⟨hno', _, _⟩
    · have : k = k' := by
        by_cases h1 : k < k'
        · exact absurd hk (hall' k h1).2
        · by_cases h2 : k' < k
          · exact absurd hk' (hall k' h2).2
          · omega
      subst this; exact ⟨rfl, rfl⟩
    · exact absurd hk (hno' k)
  · rcases h' with ⟨k', hk', _, _, _⟩ | ⟨_, rfl, rfl⟩
    · exact absurd hk' (hno k')
    · exact ⟨rfl, rfl⟩

set_option maxHeartbeats 2000000 in
set_option maxRecDepth 100000 in
theorem places_out (s : ByteArray) (hs : s.size ≤ 281474976710656) (a : Int) (h : a < 0 ∨ (s.size : Int) < a) (l c : Int) (w : World) :
    Calls Try.prog 5 #[.string s, .int .i64 a, .agg #[.int .i64 l, .int .i64 c]] w fun e w' => e = .returned (.bool true) ∧ Below w.heap.size w w' := by
  have HA := hide (fun w => alive_any w)
  have H3 := hide (byte_any s hs l c)
  have H4 := hide (rByte_any s hs l c)
  have HO := hide (byteIs_one s l c)
  have H1 := hide (at_out s a h)
  have H2 := hide (rAt_out s a h)
  clear h
  go_enter Try.func5, Try.ntmps5
  go_wp2_with fail
  refine (unhide H1 _).mono ?_
  rintro e w1 ⟨rfl, hb1⟩
  have hsz := hb1.size
  simp at hsz hb1
  have HP0 := hide (((Pair.new w l c).below hb1 (by omega)).alloc (.cells #[.int .i64 0, .int .i64 0] 46))
  have HP1 := hide (Pair.new w1 0 0)
  have HB := hide ((((Below.refl w.heap.size w).alloc (Nat.le_refl _) (.cells #[.int .i64 l, .int .i64 c] 46)).trans (hb1.mono (by omega))).alloc (by omega) (.cells #[.int .i64 0, .int .i64 0] 46))
  have hlt : w.heap.size < w1.heap.size := by omega
  clear hb1 hsz H1
  go_wp2_with fail
  refine (unhide H2 _).mono ?_
  rintro e w2 ⟨rfl, hb2⟩
  have hz2 := hb2.size
  simp at hz2
  have hp0 := (unhide HP0).below hb2 (by simp; omega)
  have hp1 := (unhide HP1).below hb2 (by simp)
  have HB2 := hide ((unhide HB).trans (hb2.mono (unhide HB).size))
  obtain ⟨c00, c01, c02, c03, c04⟩ := hp0.facts
  have HP02 := hide hp0; have HP12 := hide hp1
  clear hp0 hp1 hb2 HP0 HP1 HB H2
  go_wp2_with fail
  refine (unhide H3 _).mono ?_
  rintro e w3 ⟨n, m, rfl, hn, hb3⟩
  have hz3 := hb3.size
  have hp0 := (unhide HP02).below hb3 (by omega)
  have hp1 := (unhide HP12).below hb3 (by omega)
  have HB3 := hide ((unhide HB2).trans (hb3.mono (unhide HB2).size))
  clear c00 c01 c02 c03
  obtain ⟨d00, d01, d02, d03, d04⟩ := hp0.facts
  have HP13 := hide hp1; have Hn := hide hn
  clear hp0 hp1 hb3 HP02 HP12 HB2 H3 hn
  go_wp2_with fail
  refine (unhide H4 _).mono ?_
  rintro e w4 ⟨n', m', rfl, hn', hb4⟩
  obtain ⟨rfl, rfl⟩ := unhide HO n m n' m' (unhide Hn) hn'
  have hp1 := (unhide HP13).below hb4 (by omega)
  have HB4 := hide ((unhide HB3).trans (hb4.mono (unhide HB3).size))
  obtain ⟨e10, e11, e12, e13, e14⟩ := hp1.facts
  clear hp1 hb4 HB3 H4 hn' Hn HO d00 d01 d02 d03
  go_wp2_with fail
  refine (unhide HA _).mono ?_
  rintro e w5 ⟨rfl, hb5⟩
  go_wp2
  go_ret
  exact ⟨rfl, (unhide HB4).trans (hb5.mono (unhide HB4).size)⟩

set_option maxHeartbeats 2000000 in
set_option maxRecDepth 100000 in
theorem places_in (s : ByteArray) (hs : s.size ≤ 281474976710656) (a : Nat) (h : a ≤ s.size) (l c : Int) (w : World) :
    Calls Try.prog 5 #[.string s, .int .i64 a, .agg #[.int .i64 l, .int .i64 c]] w fun e w' => e = .returned (.bool true) ∧ Below w.heap.size w w' := by
  have HA := hide (fun w => alive_any w)
  have H3 := hide (byte_any s hs l c)
  have H4 := hide (rByte_any s hs l c)
  have HO := hide (byteIs_one s l c)
  have H1 := hide (at_in s hs a h)
  have H2 := hide (rAt_in s hs a h)
  have HU := hide (at_one s a)
  clear h
  go_enter Try.func5, Try.ntmps5
  go_wp2_with fail
  refine (unhide H1 _).mono ?_
  rintro e w1 ⟨k, rfl, hk1, hk2, hb1⟩
  have Hk1 := hide hk1; have Hk2 := hide hk2
  clear hk1 hk2
  have hsz := hb1.size
  simp at hsz hb1
  have HP0 := hide (((Pair.new w l c).below hb1 (by omega)).alloc (.cells #[.int .i64 ((st s k).2.1 : Int), .int .i64 ((st s k).2.2 : Int)] 46))
  have HP1 := hide (Pair.new w1 ((st s k).2.1 : Int) ((st s k).2.2 : Int))
  have HB := hide ((((Below.refl w.heap.size w).alloc (Nat.le_refl _) (.cells #[.int .i64 l, .int .i64 c] 46)).trans (hb1.mono (by omega))).alloc (by omega) (.cells #[.int .i64 ((st s k).2.1 : Int), .int .i64 ((st s k).2.2 : Int)] 46))
  have hlt : w.heap.size < w1.heap.size := by omega
  clear hb1 hsz H1
  go_wp2_with fail
  refine (unhide H2 _).mono ?_
  rintro e w2 ⟨j, rfl, hj1, hj2, hb2⟩
  obtain rfl : k = j := unhide HU k j (unhide Hk1) (unhide Hk2) hj1 hj2
  clear hj1 hj2 Hk1 Hk2 HU
  generalize ((st s k).2.1 : Int) = x1 at *
  generalize ((st s k).2.2 : Int) = x2 at *
  have hz2 := hb2.size
  simp at hz2
  have hp0 := (unhide HP0).below hb2 (by simp; omega)
  have hp1 := (unhide HP1).below hb2 (by simp)
  have HB2 := hide ((unhide HB).trans (hb2.mono (unhide HB).size))
  obtain ⟨c00, c01, c02, c03, c04⟩ := hp0.facts
  have HP02 := hide hp0; have HP12 := hide hp1
  clear hp0 hp1 hb2 HP0 HP1 HB H2
  go_wp2_with fail
  refine (unhide H3 _).mono ?_
  rintro e w3 ⟨n, m, rfl, hn, hb3⟩
  have hz3 := hb3.size
  have hp0 := (unhide HP02).below hb3 (by omega)
  have hp1 := (unhide HP12).below hb3 (by omega)
  have HB3 := hide ((unhide HB2).trans (hb3.mono (unhide HB2).size))
  clear c00 c01 c02 c03
  obtain ⟨d00, d01, d02, d03, d04⟩ := hp0.facts
  have HP13 := hide hp1; have Hn := hide hn
  clear hp0 hp1 hb3 HP02 HP12 HB2 H3 hn
  go_wp2_with fail
  refine (unhide H4 _).mono ?_
  rintro e w4 ⟨n', m', rfl, hn', hb4⟩
  obtain ⟨rfl, rfl⟩ := unhide HO n m n' m' (unhide Hn) hn'
  have hp1 := (unhide HP13).below hb4 (by omega)
  have HB4 := hide ((unhide HB3).trans (hb4.mono (unhide HB3).size))
  obtain ⟨e10, e11, e12, e13, e14⟩ := hp1.facts
  clear hp1 hb4 HB3 H4 hn' Hn HO d00 d01 d02 d03
  go_wp2_with fail
  refine (unhide HA _).mono ?_
  rintro e w5 ⟨rfl, hb5⟩
  go_wp2
  go_ret
  exact ⟨rfl, (unhide HB4).trans (hb5.mono (unhide HB4).size)⟩

theorem textPlaces_walk (s : ByteArray) (hs : s.size ≤ 281474976710656) (a l c : Int) (w : World) :
    Calls Try.prog 5 #[.string s, .int .i64 a, .agg #[.int .i64 l, .int .i64 c]] w fun e w' => e = .returned (.bool true) ∧ Below w.heap.size w w' := by
  by_cases h : a < 0 ∨ (s.size : Int) < a
  · exact places_out s hs a h l c w
  · obtain ⟨i, rfl⟩ : ∃ i : Nat, a = i := ⟨a.toNat, by omega⟩
    exact places_in s hs i (by omega) l c w
end Go.Proofs.Ytodncpnhmmnclaa

/- The law TextQuotes, walked out of the contracts. -/
import Derived.Test.YtodncpnhmmnclaaW7
import Derived.Test.YtodncpnhmmnclaaW20
import Derived.Test.YtodncpnhmmnclaaW24
import Derived.Test.YtodncpnhmmnclaaW25
namespace Go.Proofs.Ytodncpnhmmnclaa
open Go.RowKit

theorem decode_congr (s t : ByteArray) (i j : Nat) (hsz : s.size - i = t.size - j) (h : ∀ d, bt s (i + d) = bt t (j + d)) : Utf8.decode s i = Utf8.decode t j := by
  have h0 := h 0
  simp only [Nat.add_zero] at h0
  rw [dec_eq, dec_eq, hsz, h0, h 1, h 2, h 3]
theorem partL_congr (s t : ByteArray) (i j : Nat) (hsz : s.size - i = t.size - j) (h : ∀ d, bt s (i + d) = bt t (j + d)) : partL s i = partL t j := by
  have hd := decode_congr s t i j hsz h
  have hf : (fun d => bt s (i + d)) = fun d => bt t (j + d) := funext h
  have hn : noneB s i = noneB t j := by simp only [noneB, hd]
  have hp : plainB s i = plainB t j := by simp only [plainB, hd, hn]
  unfold partL
  rw [hd, hsz, hf, hp]
theorem qread_shift (s : ByteArray) (a : Nat) (ha : a ≤ s.size) (f j : Nat) (acc : List UInt8) : qread s f (a + j) acc = (qread (s.extract a s.size) f j acc).map fun p => (p.1, a + p.2) := by
  have hsz : (s.extract a s.size).size = s.size - a := by simp
  have hbt : ∀ d, bt (s.extract a s.size) d = bt s (a + d) := fun d => bt_extract s a d
  generalize s.extract a s.size = t at *
  induction f generalizing j acc with
  | zero => rfl
  | succ f ih =>
    have hp := partL_congr s t (a + j) j (by omega) (fun d => by rw [hbt, Nat.add_assoc])
    by_cases h1 : a + j < s.size
    · have h2 : j < t.size := by omega
      by_cases hb : bt s (a + j) = 34
      · rw [qread_close s f _ acc h1 hb, qread_close t f _ acc h2 (by rw [hbt]; exact hb)]
        simp only [Option.map_some, Nat.add_assoc]
      · have hb2 : bt t j ≠ 34 := by rw [hbt]; exact hb
        by_cases hq : (partL t j).2 = 0 ∨ 4096 < acc.length + (partL t j).1.length
        · rw [qread_bad s f _ acc h1 hb (by rw [hp]; exact hq), qread_bad t f _ acc h2 hb2 hq]; rfl
        · rw [qread_part s f _ acc h1 hb (by rw [hp]; omega) (by rw [hp]; omega), qread_part t f _ acc h2 hb2 (by omega) (by omega), hp, Nat.add_assoc]
          exact ih _ _
    · rw [qread_end s _ _ acc h1, qread_end t _ _ acc (by omega)]; rfl
theorem qread_fuel (s : ByteArray) (f g i : Nat) (acc : List UInt8) (hf : s.size ≤ i + f) (hg : s.size ≤ i + g) : qread s f i acc = qread s g i acc := by
  induction f generalizing g i acc with
  | zero => rw [qread_end s 0 i acc (by omega), qread_end s g i acc (by omega)]
  | succ f ih =>
    by_cases hi : i < s.size
    · obtain ⟨g, rfl⟩ : ∃ k, g = k + 1 := ⟨g - 1, by omega⟩
      by_cases hb : bt s i = 34
      · rw [qread_close s f i acc hi hb, qread_close s g i acc hi hb]
      · by_cases hq : (partL s i).2 = 0 ∨ 4096 < acc.length + (partL s i).1.length
        · rw [qread_bad s f i acc hi hb hq, qread_bad s g i acc hi hb hq]
        · rw [qread_part s f i acc hi hb (by omega) (by omega), qread_part s g i acc hi hb (by omega) (by omega)]
          exact ih _ _ _ (by omega) (by omega)
    · rw [qread_end s _ i acc hi, qread_end s _ i acc hi]
/-- The two Quoteds answer the same. -/
theorem rq_eq (s : ByteArray) (a : Int) : rqV s a = ((quotV s a).1, (quotV s a).2.1, (quotV s a).2.2.1) ∧ ((quotV s a).2.2.1 = 0 ∧ (quotV s a).2.2.2 = 0 ∨ (quotV s a).2.2.1 ≠ 0 ∧ (quotV s a).2.2.2 = a) := by
  by_cases h : a < 0 ∨ (s.size : Int) ≤ a
  · rw [show quotV s a = (⟨#[]⟩, 0, 13, a) by unfold quotV; rw [if_pos h], show rqV s a = (⟨#[]⟩, 0, 13) by unfold rqV; rw [if_pos h]]
    exact ⟨rfl, .inr ⟨by simp, rfl⟩⟩
  · obtain ⟨i, rfl⟩ : ∃ i : Nat, a = i := ⟨a.toNat, by omega⟩
    have hi : i < s.size := by omega
    have hsz : (s.extract i s.size).size = s.size - i := by simp
    have hb0 : bt (s.extract i s.size) 0 = bt s i := bt_extract s i 0
    by_cases hb : bt s i = 34
    · have e1 : quotedL (s.extract i s.size) = qread (s.extract i s.size) s.size 1 [] := by
        unfold quotedL; rw [if_pos ⟨by omega, by omega⟩]
        exact qread_fuel _ _ _ _ _ (by omega) (by omega)
      have e2 : rqV s i = rqO (qread s s.size (i + 1) []) := by unfold rqV; rw [if_neg h]; simp only [Int.toNat_natCast]; rw [if_pos hb]; rfl
      rw [e2, qread_shift s i (by omega), ← e1]
      cases hq : quotedL (s.extract i s.size) with
      | none =>
        rw [show quotV s i = (⟨#[]⟩, 0, 12, (i : Int)) by unfold quotV; rw [if_neg h]; simp only [Int.toNat_natCast]; rw [hq]]
        exact ⟨rfl, .inr ⟨by simp, rfl⟩⟩
      | some o =>
        obtain ⟨v, n⟩ := o
        rw [show quotV s i = (⟨v.toArray⟩, (i : Int) + n, 0, 0) by unfold quotV; rw [if_neg h]; simp only [Int.toNat_natCast]; rw [hq]]
        refine ⟨?_, .inl ⟨rfl, rfl⟩⟩
        simp [rqO]
    · have e1 : quotedL (s.extract i s.size) = none := by unfold quotedL; rw [if_neg (by omega)]
      rw [show quotV s i = (⟨#[]⟩, 0, 12, (i : Int)) by unfold quotV; rw [if_neg h]; simp only [Int.toNat_natCast]; rw [e1],
        show rqV s i = (⟨#[]⟩, 0, 12) by unfold rqV; rw [if_neg h]; simp only [Int.toNat_natCast]; rw [if_neg hb]]
      exact ⟨rfl, .inr ⟨by simp, rfl⟩⟩

set_option maxHeartbeats 2000000 in
set_option maxRecDepth 100000 in
theorem textQuotes_walk (v s : ByteArray) (a : Int) (hs : s.size ≤ 281474976710656) (w : World) :
    Calls Try.prog 6 #[.string v, .string s, .int .i64 a] w fun e w' => e = .returned (.bool true) ∧ Below w.heap.size w w' := by
  have HA := hide (fun w => alive_any w)
  have H1 := hide (quote_any v)
  have H2 := hide (rQuote_any v)
  have H3 := hide (unquote_any s hs)
  have H4 := hide (rUnquote_any s hs)
  have H5 := hide (quoted_any s hs a)
  have H6 := rQuoted_any s hs a
  obtain ⟨hrq, hat⟩ := rq_eq s a
  rw [hrq] at H6
  have H6 := hide H6
  clear hrq
  generalize quotV s a = q at *
  generalize unqV s = u at *
  generalize quoteVals v = p at *
  obtain ⟨q1, q2, q3, q4⟩ := q
  obtain ⟨u1, u2⟩ := u
  obtain ⟨p1, p2⟩ := p
  simp only at *
  rcases hat with ⟨rfl, rfl⟩ | ⟨hne, rfl⟩
  · go_enter Try.func6, Try.ntmps6
    go_wp2_with fail
    refine (unhide H1 _).mono ?_
    rintro e w1 ⟨rfl, hb1⟩
    go_wp2_with fail
    refine (unhide H2 _).mono ?_
    rintro e w2 ⟨rfl, hb2⟩
    have hb12 := hb1.trans (hb2.mono hb1.size)
    clear hb1 hb2
    go_wp2_with fail
    refine (unhide H3 _).mono ?_
    rintro e w3 ⟨rfl, hb3⟩
    have hb13 := hb12.trans (hb3.mono hb12.size)
    clear hb12 hb3
    go_wp2_with fail
    refine (unhide H4 _).mono ?_
    rintro e w4 ⟨rfl, hb4⟩
    have hb14 := hb13.trans (hb4.mono hb13.size)
    clear hb13 hb4
    go_wp2_with fail
    refine (unhide H5 _).mono ?_
    rintro e w5 ⟨rfl, hb5⟩
    have hb15 := hb14.trans (hb5.mono hb14.size)
    have hsz5 := hb15.size
    have HB := hide hb15
    clear hb14 hb5 hb15
    go_wp2_with fail
    refine (unhide H6 _).mono ?_
    rintro e w6 ⟨rfl, hb6⟩
    have g0 : w6.cell? ⟨w5.heap.size, 0, none⟩ = some (.int .i64 0) := by rw [hb6.cell (by simp), World.cell?_alloc_at _ _ _ _ rfl]; rfl
    have g1 : w6.cell? ⟨w5.heap.size, 1, none⟩ = some (.int .i64 0) := by rw [hb6.cell (by simp), World.cell?_alloc_at _ _ _ _ rfl]; rfl
    have hb7 := ((unhide HB).alloc hsz5 (.cells #[.int .i64 0, .int .i64 0] 27)).trans (hb6.mono (by simp; omega))
    have HB7 := hide hb7
    clear hb6 hb7 HB
    go_wp2_with fail
    refine (unhide HA _).mono ?_
    rintro e w7 ⟨rfl, hb9⟩
    go_wp2
    go_ret
    exact ⟨rfl, (unhide HB7).trans (hb9.mono (unhide HB7).size)⟩
  · have hne' : (q3 == 0) = false := by simpa using hne
    go_enter Try.func6, Try.ntmps6
    go_wp2_with fail
    refine (unhide H1 _).mono ?_
    rintro e w1 ⟨rfl, hb1⟩
    go_wp2_with fail
    refine (unhide H2 _).mono ?_
    rintro e w2 ⟨rfl, hb2⟩
    have hb12 := hb1.trans (hb2.mono hb1.size)
    clear hb1 hb2
    go_wp2_with fail
    refine (unhide H3 _).mono ?_
    rintro e w3 ⟨rfl, hb3⟩
    have hb13 := hb12.trans (hb3.mono hb12.size)
    clear hb12 hb3
    go_wp2_with fail
    refine (unhide H4 _).mono ?_
    rintro e w4 ⟨rfl, hb4⟩
    have hb14 := hb13.trans (hb4.mono hb13.size)
    clear hb13 hb4
    go_wp2_with fail
    refine (unhide H5 _).mono ?_
    rintro e w5 ⟨rfl, hb5⟩
    have hb15 := hb14.trans (hb5.mono hb14.size)
    have hsz5 := hb15.size
    have HB := hide hb15
    clear hb14 hb5 hb15
    go_wp2_with fail
    refine (unhide H6 _).mono ?_
    rintro e w6 ⟨rfl, hb6⟩
    have g0 : w6.cell? ⟨w5.heap.size, 0, none⟩ = some (.int .i64 q3) := by rw [hb6.cell (by simp), World.cell?_alloc_at _ _ _ _ rfl]; rfl
    have g1 : w6.cell? ⟨w5.heap.size, 1, none⟩ = some (.int .i64 q4) := by rw [hb6.cell (by simp), World.cell?_alloc_at _ _ _ _ rfl]; rfl
    have hb7 := ((unhide HB).alloc hsz5 (.cells #[.int .i64 q3, .int .i64 q4] 27)).trans (hb6.mono (by simp; omega))
    have HB7 := hide hb7
    clear hb6 hb7 HB
    go_wp2_with fail
    refine (unhide HA _).mono ?_
    rintro e w7 ⟨rfl, hb9⟩
    go_wp2
    go_ret
    exact ⟨rfl, (unhide HB7).trans (hb9.mono (unhide HB7).size)⟩
end Go.Proofs.Ytodncpnhmmnclaa

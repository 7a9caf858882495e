/- The law TextAgain, walked out of the contracts. -/
import Derived.Test.YtodncpnhmmnclabW7
import Derived.Test.YtodncpnhmmnclabW19
import Derived.Test.YtodncpnhmmnclabM10
namespace Go.Proofs.Ytodncpnhmmnclab
open Go.RowKit

theorem qFrom_le (v : ByteArray) (f i : Nat) : (qFrom v f i).length ≤ 4 * f := by
  induction f generalizing i with
  | zero => simp [qFrom]
  | succ f ih =>
    have := qpart_le v i
    have := ih (i + (Utf8.decode v i).2)
    unfold qFrom
    split
    · rw [List.length_append]; omega
    · simp
theorem quoteL_le (v : ByteArray) (h : v.size ≤ 4096) : (⟨(quoteL v).toArray⟩ : ByteArray).size ≤ 281474976710656 := by
  show (quoteL v).toArray.size ≤ _
  have := qFrom_le v v.size 0
  simp [quoteL]
  omega
theorem unq_quote (v : ByteArray) (h : v.size ≤ 4096) : unqV ⟨(quoteL v).toArray⟩ = (v, 0) := by
  have hs : (⟨(quoteL v).toArray⟩ : ByteArray).size = (quoteL v).length := by show (quoteL v).toArray.size = _; simp
  unfold unqV
  rw [quoted_quote v h]
  simp only
  rw [if_neg (by omega)]
theorem unqV_cases (s : ByteArray) : unqV s = (⟨#[]⟩, 12) ∨ ∃ u : ByteArray, u.size ≤ 4096 ∧ unqV s = (u, 0) := by
  unfold unqV
  cases hq : quotedL s with
  | none => exact .inl rfl
  | some o =>
    obtain ⟨v, n⟩ := o
    have hl := quotedL_le s v n hq
    simp only
    split
    · exact .inl rfl
    · exact .inr ⟨⟨v.toArray⟩, by show v.toArray.size ≤ _; simpa using hl.1, rfl⟩

set_option maxHeartbeats 2000000 in
set_option maxRecDepth 100000 in
theorem textAgain_walk (v s : ByteArray) (hs : s.size ≤ 281474976710656) (w : World) :
    Calls Try.prog 3 #[.string v, .string s] w fun e w' => e = .returned (.bool true) ∧ Below w.heap.size w w' := by
  have HA := hide (fun w => alive_any w)
  have HU := hide (unquote_any s hs)
  have HQv := hide (quote_any v)
  by_cases hv : v.size ≤ 4096
  · have HB := hide (unquote_any ⟨(quoteL v).toArray⟩ (quoteL_le v hv))
    rw [unq_quote v hv] at HB
    rw [show quoteVals v = (⟨(quoteL v).toArray⟩, 0) from if_pos hv] at HQv
    generalize (⟨(quoteL v).toArray⟩ : ByteArray) = q at *
    rcases unqV_cases s with hu | ⟨u, hul, hu⟩
    · rw [hu] at HU
      clear hu
      go_enter Try.func3, Try.ntmps3
      go_wp2_with fail
      refine (unhide HQv _).mono ?_
      rintro e w1 ⟨rfl, hb1⟩
      have HB1 := hide hb1
      clear hb1
      go_wp2_with fail
      refine (unhide HB _).mono ?_
      rintro e w2 ⟨rfl, hb2⟩
      have HB2 := hide ((unhide HB1).trans (hb2.mono (unhide HB1).size))
      clear hb2
      go_wp2_with fail
      refine (unhide HU _).mono ?_
      rintro e w3 ⟨rfl, hb3⟩
      have HB3 := hide ((unhide HB2).trans (hb3.mono (unhide HB2).size))
      clear hb3
      go_wp2_with fail
      refine (unhide HA _).mono ?_
      rintro e w4 ⟨rfl, hb4⟩
      go_wp2
      go_ret
      exact ⟨rfl, (unhide HB3).trans (hb4.mono (unhide HB3).size)⟩
    · rw [hu] at HU
      clear hu
      have HQu := hide (quote_any u)
      rw [show quoteVals u = (⟨(quoteL u).toArray⟩, 0) from if_pos hul] at HQu
      have HBu := hide (unquote_any ⟨(quoteL u).toArray⟩ (quoteL_le u hul))
      rw [unq_quote u hul] at HBu
      generalize (⟨(quoteL u).toArray⟩ : ByteArray) = qu at *
      go_enter Try.func3, Try.ntmps3
      go_wp2_with fail
      refine (unhide HQv _).mono ?_
      rintro e w1 ⟨rfl, hb1⟩
      have HB1 := hide hb1
      clear hb1
      go_wp2_with fail
      refine (unhide HB _).mono ?_
      rintro e w2 ⟨rfl, hb2⟩
      have HB2 := hide ((unhide HB1).trans (hb2.mono (unhide HB1).size))
      clear hb2
      go_wp2_with fail
      refine (unhide HU _).mono ?_
      rintro e w3 ⟨rfl, hb3⟩
      have HB3 := hide ((unhide HB2).trans (hb3.mono (unhide HB2).size))
      clear hb3
      go_wp2_with fail
      refine (unhide HQu _).mono ?_
      rintro e w4 ⟨rfl, hb4⟩
      have HB4 := hide ((unhide HB3).trans (hb4.mono (unhide HB3).size))
      clear hb4
      go_wp2_with fail
      refine (unhide HBu _).mono ?_
      rintro e w5 ⟨rfl, hb5⟩
      have HB5 := hide ((unhide HB4).trans (hb5.mono (unhide HB4).size))
      clear hb5
      go_wp2_with fail
      refine (unhide HA _).mono ?_
      rintro e w6 ⟨rfl, hb6⟩
      go_wp2
      go_ret
      exact ⟨rfl, (unhide HB5).trans (hb6.mono (unhide HB5).size)⟩
  · rw [show quoteVals v = (⟨#[]⟩, 3) from if_neg hv] at HQv
    have hv' : ¬ (v.size : Int) ≤ 4096 := by omega
    rcases unqV_cases s with hu | ⟨u, hul, hu⟩
    · rw [hu] at HU
      clear hu
      go_enter Try.func3, Try.ntmps3
      go_wp2_with fail
      refine (unhide HQv _).mono ?_
      rintro e w2 ⟨rfl, hb2⟩
      have HB2 := hide hb2
      clear hb2
      go_wp2_with fail
      refine (unhide HU _).mono ?_
      rintro e w3 ⟨rfl, hb3⟩
      have HB3 := hide ((unhide HB2).trans (hb3.mono (unhide HB2).size))
      clear hb3
      go_wp2_with fail
      refine (unhide HA _).mono ?_
      rintro e w4 ⟨rfl, hb4⟩
      go_wp2
      go_ret
      exact ⟨rfl, (unhide HB3).trans (hb4.mono (unhide HB3).size)⟩
    · rw [hu] at HU
      clear hu
      have HQu := hide (quote_any u)
      rw [show quoteVals u = (⟨(quoteL u).toArray⟩, 0) from if_pos hul] at HQu
      have HBu := hide (unquote_any ⟨(quoteL u).toArray⟩ (quoteL_le u hul))
      rw [unq_quote u hul] at HBu
      generalize (⟨(quoteL u).toArray⟩ : ByteArray) = qu at *
      go_enter Try.func3, Try.ntmps3
      go_wp2_with fail
      refine (unhide HQv _).mono ?_
      rintro e w2 ⟨rfl, hb2⟩
      have HB2 := hide hb2
      clear hb2
      go_wp2_with fail
      refine (unhide HU _).mono ?_
      rintro e w3 ⟨rfl, hb3⟩
      have HB3 := hide ((unhide HB2).trans (hb3.mono (unhide HB2).size))
      clear hb3
      go_wp2_with fail
      refine (unhide HQu _).mono ?_
      rintro e w4 ⟨rfl, hb4⟩
      have HB4 := hide ((unhide HB3).trans (hb4.mono (unhide HB3).size))
      clear hb4
      go_wp2_with fail
      refine (unhide HBu _).mono ?_
      rintro e w5 ⟨rfl, hb5⟩
      have HB5 := hide ((unhide HB4).trans (hb5.mono (unhide HB4).size))
      clear hb5
      go_wp2_with fail
      refine (unhide HA _).mono ?_
      rintro e w6 ⟨rfl, hb6⟩
      go_wp2
      go_ret
      exact ⟨rfl, (unhide HB5).trans (hb6.mono (unhide HB5).size)⟩
end Go.Proofs.Ytodncpnhmmnclab

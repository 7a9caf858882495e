/- Contracts of the reference's Quoted and Unquote. -/
import Derived.Test.YtodncpnhmmnclaaW23
namespace Go.Proofs.Ytodncpnhmmnclaa
open Go.RowKit

/-- What the reference's Quoted answers. -/
def rqV (s : ByteArray) (a : Int) : ByteArray × Int × Int :=
  if a < 0 ∨ (s.size : Int) ≤ a then (⟨#[]⟩, 0, 13)
  else if bt s a.toNat = 34 then (match qread s s.size (a.toNat + 1) [] with
    | some (v, n) => (⟨v.toArray⟩, (n : Int), 0)
    | none => (⟨#[]⟩, 0, 12))
  else (⟨#[]⟩, 0, 12)
/-- The answer of a reading. -/
def rqO (o : Option (List UInt8 × Nat)) : ByteArray × Int × Int := match o with
  | some (v, n) => (⟨v.toArray⟩, (n : Int), 0)
  | none => (⟨#[]⟩, 0, 12)

set_option maxHeartbeats 1000000 in
theorem rQuoted_out (s : ByteArray) (a : Int) (h : a < 0 ∨ (¬ a < 0 ∧ (s.size : Int) ≤ a)) (w : World) :
    Calls Try.prog 29 #[.string s, .int .i64 a] w fun e w' => e = .returned (.tuple #[.string ⟨#[]⟩, .int .i64 0, .int .i64 13]) ∧ Below w.heap.size w w' := by
  rcases h with h | ⟨h0, h⟩
  all_goals
    go_enter Try.func29, Try.ntmps29
    go_wp2
    go_ret3
    exact ⟨rfl, Below.refl _ _⟩
set_option maxHeartbeats 1000000 in
theorem rQuoted_no (s : ByteArray) (i : Nat) (hi : i < s.size) (hb : ((bt s i : Int) != 34) = true) (w : World) :
    Calls Try.prog 29 #[.string s, .int .i64 i] w fun e w' => e = .returned (.tuple #[.string ⟨#[]⟩, .int .i64 0, .int .i64 12]) ∧ Below w.heap.size w w' := by
  have h0 : ¬ (i : Int) < 0 := by omega
  have h1 : ¬ (s.size : Int) ≤ i := by omega
  have j := index_bt s i hi
  generalize bt s i = b at *
  go_enter Try.func29, Try.ntmps29
  go_wp2
  go_ret3
  exact ⟨rfl, Below.refl _ _⟩

set_option maxHeartbeats 2000000 in
set_option maxRecDepth 100000 in
theorem rQuoted_yes (s : ByteArray) (hs : s.size ≤ 281474976710656) (i : Nat) (hi : i < s.size) (hb : bt s i = 34) (w : World) :
    Calls Try.prog 29 #[.string s, .int .i64 i] w fun e w' => e = .returned (.tuple #[.string (rqO (qread s s.size (i + 1) [])).1, .int .i64 (rqO (qread s s.size (i + 1) [])).2.1, .int .i64 (rqO (qread s s.size (i + 1) [])).2.2]) ∧ Below w.heap.size w w' := by
  obtain ⟨i0, hi', hz0, hz1, hz2⟩ := info_parts hbyte
  have h0 : ¬ (i : Int) < 0 := by omega
  have h1 : ¬ (s.size : Int) ≤ i := by omega
  have j := index_bt s i hi
  rw [hb] at j
  generalize hR : qread s s.size (i + 1) [] = R
  have HR := hide hR
  clear hR
  go_enter Try.func29, Try.ntmps29
  go_wp2
  go_loopw [7, 8] (fun u x wr => ∃ (acc : List UInt8) (nx f : Nat), wr.ownsRow w.heap.size 5 1 u acc.length (Lib.byteCells acc) ∧ x = .int .i64 nx ∧ Below w.heap.size w wr ∧ qread s f nx acc = R ∧ s.size ≤ nx + f ∧ nx ≤ s.size ∧ acc.length ≤ 4096) (fun _ x _ => s.size - (intOf x).toNat)
  case atStart =>
    exact ⟨[], i + 1, s.size, ⟨rfl, .inl ⟨rfl, rfl⟩⟩, by go_num, Below.refl _ _, unhide HR, by omega, by omega, by simp⟩
  case round =>
    obtain ⟨acc, nx, f, hown, rfl, hbel, hacc, hf, hnx, hlen⟩ := hrel
    obtain ⟨ua, ucap, rfl⟩ := ownsRow_slice hown
    have hsz := hbel.size
    have Hown := hide hown; have Hbel := hide hbel; have Hacc := hide hacc
    clear hown hbel hacc j
    by_cases hp : nx < s.size
    · obtain ⟨g, rfl⟩ : ∃ g, f = g + 1 := ⟨f - 1, by omega⟩
      have hp' : (nx : Int) < s.size := by omega
      have hp2 : ¬ (s.size : Int) ≤ nx := by omega
      have jn := index_bt s nx hp
      by_cases hq : bt s nx = 34
      · rw [hq] at jn
        have hr : R = some (acc, nx + 1) := by rw [← unhide Hacc]; exact qread_close s g nx acc hp hq
        clear hq
        have hconv : (convert 67 9 (.slice ua acc.length ucap)).run Try.prog wr = .ok (.string ⟨acc.toArray⟩) wr := own_to_string (B := w.heap.size) (unhide Hown)
        have Hr := hide hr
        clear hr
        go_wp2
        go_ret3
        rw [unhide Hr]
        exact ⟨rfl, unhide Hbel⟩
      · have hq3 : ((bt s nx : Int) != 34) = true := by simp; omega
        have HRP := hide (rPart_all s hs nx hp)
        have hpl := partL_le s nx hp
        have Hqb := hide (qread_bad s g nx acc hp hq)
        have Hqp := hide (qread_part s g nx acc hp hq)
        have hw := width_pos s nx hp
        generalize partL s nx = P at *
        obtain ⟨l, n⟩ := P
        generalize (Utf8.decode s nx).2 = d at *
        generalize bt s nx = b at *
        simp only at *
        obtain ⟨hpl1, hpl2, hpl3⟩ := hpl
        have Hpl3 := hide hpl3
        clear hpl3
        go_wp2_with fail
        refine (unhide HRP _).mono ?_
        rintro e w1 ⟨rfl, hb1⟩
        have hs1 := hb1.size
        have ho1 := ownsRow_below (unhide Hown) hb1 (Nat.le_refl _)
        have hb2 := (unhide Hbel).trans (hb1.mono hsz)
        have Ho1 := hide ho1; have Hb2 := hide hb2
        clear ho1 hb2 hb1
        by_cases hn0 : n = 0
        · have Hr : Hid (R = none) := hide (by rw [← unhide Hacc]; exact unhide Hqb (Or.inl hn0))
          subst hn0
          go_wp2
          go_ret3
          rw [unhide Hr]
          exact ⟨rfl, unhide Hb2⟩
        · have hn1 : ((n : Int) == 0) = false := by simp; omega
          have hls : (⟨l.toArray⟩ : ByteArray).size = l.length := by show l.toArray.size = _; simp
          by_cases hbig : 4096 < acc.length + l.length
          · have Hr : Hid (R = none) := hide (by rw [← unhide Hacc]; exact unhide Hqb (Or.inr hbig))
            have hbig' : (4096 : Int) < (acc.length : Int) + (l.length : Int) := by omega
            go_wp2
            go_ret3
            rw [unhide Hr]
            exact ⟨rfl, unhide Hb2⟩
          · have hbig' : ¬ (4096 : Int) < (acc.length : Int) + (l.length : Int) := by omega
            have Hst := hide (unhide Hqp hn0 (by omega))
            go_wp2_with (at_builtin; refine Lib.wpList_append_own_string _ rfl _ _ 67 9 rfl w.heap.size 5 i0 Try.underlying67 Try.underlying9 hi' hz0 hz1 hz2 _ _ _ rfl (unhide Ho1) ⟨l.toArray⟩ rfl ?c3 ?c4 ?c5 ?_)
            case c3 => unfold maxLen; show acc.length + l.toArray.size ≤ _; simp; omega
            case c4 => show acc.length + l.toArray.size ≤ _; simp; omega
            case c5 => omega
            intro v' w2 hown' hgrow _
            go_wp2
            go_roundw
            case rel =>
              have h3 := unhide Hpl3 hn0
              refine ⟨acc ++ l, nx + n, g, ?_, by go_num, (unhide Hb2).grown hgrow (by omega) (fun x hx => ((unhide Ho1).lt x hx).1), ?_, by omega, by omega, by rw [List.length_append]; omega⟩
              · rw [Lib.byteCells_append, List.length_append]
                exact hown'
              · rw [← unhide Hst]
                exact unhide Hacc
            case measure =>
              simp [intOf]; omega
    · have hp' : ¬ (nx : Int) < s.size := by omega
      have hp2 : (s.size : Int) ≤ nx := by omega
      have Hr : Hid (R = none) := hide (by rw [← unhide Hacc]; exact qread_end s f nx acc (by omega))
      go_wp2
      go_ret3
      rw [unhide Hr]
      exact ⟨rfl, unhide Hbel⟩

theorem rQuoted_any (s : ByteArray) (hs : s.size ≤ 281474976710656) (a : Int) (w : World) :
    Calls Try.prog 29 #[.string s, .int .i64 a] w fun e w' => e = .returned (.tuple #[.string (rqV s a).1, .int .i64 (rqV s a).2.1, .int .i64 (rqV s a).2.2]) ∧ Below w.heap.size w w' := by
  by_cases h : a < 0 ∨ (s.size : Int) ≤ a
  · rw [show rqV s a = (⟨#[]⟩, 0, 13) by unfold rqV; rw [if_pos h]]
    exact rQuoted_out s a (by omega) w
  · obtain ⟨i, rfl⟩ : ∃ i : Nat, a = i := ⟨a.toNat, by omega⟩
    have hi : i < s.size := by omega
    by_cases hb : bt s i = 34
    · rw [show rqV s i = rqO (qread s s.size (i + 1) []) by unfold rqV; rw [if_neg h]; simp only [Int.toNat_natCast]; rw [if_pos hb]; rfl]
      exact rQuoted_yes s hs i hi hb w
    · rw [show rqV s i = (⟨#[]⟩, 0, 12) by unfold rqV; rw [if_neg h]; simp only [Int.toNat_natCast]; rw [if_neg hb]]
      exact rQuoted_no s i hi (by simp; omega) w

set_option maxHeartbeats 1000000 in
theorem rUnquote_no (s v : ByteArray) (n k : Int) (w : World) (hn : (k != 0) = true ∨ ((k != 0) = false ∧ (n != (s.size : Int)) = true))
    (H : Hid (∀ w, Calls Try.prog 29 #[.string s, .int .i64 0] w fun e w' => e = .returned (.tuple #[.string v, .int .i64 n, .int .i64 k]) ∧ Below w.heap.size w w')) :
    Calls Try.prog 27 #[.string s] w fun e w' => e = .returned (.tuple #[.string ⟨#[]⟩, .int .i64 12]) ∧ Below w.heap.size w w' := by
  rcases hn with hn | ⟨hn, hn2⟩
  all_goals
    go_enter Try.func27, Try.ntmps27
    go_wp2_with fail
    refine (unhide H _).mono ?_
    rintro e w1 ⟨rfl, hb1⟩
    go_wp2
    go_ret2
    exact ⟨rfl, hb1⟩
set_option maxHeartbeats 1000000 in
theorem rUnquote_yes (s v : ByteArray) (w : World)
    (H : Hid (∀ w, Calls Try.prog 29 #[.string s, .int .i64 0] w fun e w' => e = .returned (.tuple #[.string v, .int .i64 (s.size : Int), .int .i64 0]) ∧ Below w.heap.size w w')) :
    Calls Try.prog 27 #[.string s] w fun e w' => e = .returned (.tuple #[.string v, .int .i64 0]) ∧ Below w.heap.size w w' := by
  go_enter Try.func27, Try.ntmps27
  go_wp2_with fail
  refine (unhide H _).mono ?_
  rintro e w1 ⟨rfl, hb1⟩
  go_wp2
  go_ret2
  exact ⟨rfl, hb1⟩
theorem rUnquote_any (s : ByteArray) (hs : s.size ≤ 281474976710656) (w : World) :
    Calls Try.prog 27 #[.string s] w fun e w' => e = .returned (.tuple #[.string (unqV s).1, .int .i64 (unqV s).2]) ∧ Below w.heap.size w w' := by
  have H := rQuoted_any s hs 0
  by_cases h0 : 0 < s.size ∧ bt s 0 = 34
  · have e1 : rqV s 0 = rqO (quotedL s) := by
      unfold rqV quotedL; rw [if_neg (by omega), if_pos h0]
      show (if bt s 0 = 34 then _ else _) = _
      rw [if_pos h0.2]; rfl
    rw [e1] at H
    cases hq : quotedL s with
    | none =>
      rw [hq] at H
      rw [show unqV s = (⟨#[]⟩, 12) by unfold unqV; rw [hq]]
      exact rUnquote_no s _ _ _ w (Or.inl rfl) (hide H)
    | some o =>
      obtain ⟨v, n⟩ := o
      have hl := quotedL_le s v n hq
      rw [hq] at H
      by_cases h : n < s.size
      · rw [show unqV s = (⟨#[]⟩, 12) by unfold unqV; rw [hq]; simp only; rw [if_pos h]]
        exact rUnquote_no s ⟨v.toArray⟩ n 0 w (Or.inr ⟨rfl, by simp; omega⟩) (hide H)
      · rw [show unqV s = (⟨v.toArray⟩, 0) by unfold unqV; rw [hq]; simp only; rw [if_neg h]]
        have hn : n = s.size := by omega
        subst hn
        exact rUnquote_yes s ⟨v.toArray⟩ w (hide H)
  · rw [show unqV s = (⟨#[]⟩, 12) by unfold unqV quotedL; rw [if_neg h0]]
    by_cases h1 : 0 < s.size
    · have e1 : rqV s 0 = (⟨#[]⟩, 0, 12) := by
        unfold rqV; rw [if_neg (by omega)]
        show (if bt s 0 = 34 then _ else _) = _
        rw [if_neg (fun e => h0 ⟨h1, e⟩)]
      rw [e1] at H
      exact rUnquote_no s _ _ _ w (Or.inl rfl) (hide H)
    · have e1 : rqV s 0 = (⟨#[]⟩, 0, 13) := by
        unfold rqV; rw [if_pos (by omega)]
      rw [e1] at H
      exact rUnquote_no s _ _ _ w (Or.inl rfl) (hide H)
end Go.Proofs.Ytodncpnhmmnclaa

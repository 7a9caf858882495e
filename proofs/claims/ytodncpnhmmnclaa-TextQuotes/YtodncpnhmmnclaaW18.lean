/- Contract of readQuoted. -/
import Derived.Test.YtodncpnhmmnclaaW17
import Derived.Test.YtodncpnhmmnclaaM9
namespace Go.Proofs.Ytodncpnhmmnclaa
open Go.RowKit

theorem ownsRow_slice {w : World} {base : Nat} {e : TypeId} {size : Nat} {v : Value} {n : Nat} {xs : List Value} (h : w.ownsRow base e size v n xs) : ∃ a cap, v = .slice a n cap := by
  rcases h.2 with ⟨rfl, h0⟩ | ⟨g, cap, cur, rfl, _⟩
  · subst h0; exact ⟨_, _, rfl⟩
  · exact ⟨_, _, rfl⟩

theorem prefix_q (s : ByteArray) : (decide ((⟨#[34]⟩ : ByteArray).size ≤ s.size) && ((s.extract 0 (⟨#[34]⟩ : ByteArray).size).toList == (⟨#[34]⟩ : ByteArray).toList)) = decide (0 < s.size ∧ bt s 0 = 34) := by
  rw [show (⟨#[34]⟩ : ByteArray).toList = [34] by decide +kernel]
  show (decide (1 ≤ s.size) && ((s.extract 0 1).toList == [34])) = _
  by_cases h : 0 < s.size
  · have e := bytes_at s 0 1 (by omega)
    simp only [Nat.zero_add] at e
    have hl : (s.extract 0 1).toList.length = 1 := by rw [← List.length_map (f := UInt8.toNat), e]; simp
    obtain ⟨x, hx⟩ := List.length_eq_one_iff.1 hl
    rw [hx] at e ⊢
    simp [List.range_succ] at e
    rw [← e]
    have h1 : 1 ≤ s.size := h
    simp only [h, h1, decide_true, true_and, Bool.true_and]
    rw [Bool.eq_iff_iff]
    simp
    constructor
    · intro e; subst e; rfl
    · intro e; exact UInt8.toNat_inj.1 e
  · have h1 : ¬ 1 ≤ s.size := h
    simp [h, h1]

set_option maxHeartbeats 1000000 in
theorem readQuoted_no (s : ByteArray) (h : ¬ (0 < s.size ∧ bt s 0 = 34)) (w : World) :
    Calls Try.prog 40 #[.string s] w fun e w' => e = .returned (.tuple #[.string ⟨#[]⟩, .int .i64 0]) ∧ Below w.heap.size w w' := by
  have HP : Hid (∀ w, Calls Try.prog 42 #[.string s, .string ⟨#[34]⟩] w fun e w' => e = .returned (.bool false) ∧ w = w') := hide fun w => by
    have := hasPrefix_any s ⟨#[34]⟩ w
    rwa [prefix_q, decide_eq_false h] at this
  go_enter Try.func40, Try.ntmps40
  go_wp2_with fail
  refine (unhide HP _).mono ?_
  rintro e w1 ⟨rfl, rfl⟩
  go_wp2
  go_ret2
  exact ⟨rfl, Below.refl _ _⟩

set_option maxHeartbeats 2000000 in
set_option maxRecDepth 100000 in
theorem readQuoted_yes (s : ByteArray) (hs : s.size ≤ 281474976710656) (h : 0 < s.size ∧ bt s 0 = 34) (w : World) :
    Calls Try.prog 40 #[.string s] w fun e w' => e = .returned (.tuple #[.string (readV (qread s s.size 1 [])).1, .int .i64 (readV (qread s s.size 1 [])).2]) ∧ Below w.heap.size w w' := by
  obtain ⟨i0, hi, hz0, hz1, hz2⟩ := info_parts hbyte
  have HP : Hid (∀ w, Calls Try.prog 42 #[.string s, .string ⟨#[34]⟩] w fun e w' => e = .returned (.bool true) ∧ w = w') := hide fun w => by
    have := hasPrefix_any s ⟨#[34]⟩ w
    rwa [prefix_q, decide_eq_true h] at this
  obtain ⟨h0, h34⟩ := h
  generalize hR : qread s s.size 1 [] = R
  have HR := hide hR
  clear hR
  go_enter Try.func40, Try.ntmps40
  go_wp2_with fail
  refine (unhide HP _).mono ?_
  rintro e w1 ⟨rfl, rfl⟩
  go_wp2
  go_loopw [4, 5] (fun u x wr => ∃ (acc : List UInt8) (p nx f : Nat), wr.ownsRow w.heap.size 5 1 u acc.length (Lib.byteCells acc) ∧ x = .int .i64 nx ∧ wr.heap[w.heap.size]? = some (.stringIter s p) ∧ Below w.heap.size w wr ∧ qread s f nx acc = R ∧ s.size ≤ nx + f ∧ p ≤ nx ∧ nx ≤ s.size ∧ (∀ t, p ≤ t → t < nx → bt s t < 128) ∧ acc.length ≤ 4096) (fun _ _ wr => s.size - wr.iterPos w.heap.size)
  case atStart =>
    refine ⟨[], 0, 1, s.size, ⟨rfl, .inl ⟨rfl, rfl⟩⟩, rfl, World.iter_heap w s 0, (Below.refl _ _).alloc (Nat.le_refl _) _, unhide HR, by omega, by omega, by omega, ?_, by simp⟩
    intro t h1 h2
    have : t = 0 := by omega
    subst this; omega
  case round =>
    obtain ⟨acc, p, nx, f, hown, rfl, hit, hbel, hacc, hf, hpn, hnx, hasc, hlen⟩ := hrel
    obtain ⟨ua, ucap, rfl⟩ := ownsRow_slice hown
    have hsz := hbel.size
    have hk : w.heap.size < wr.heap.size := (Array.getElem?_eq_some_iff.1 hit).1
    have Hown := hide hown; have Hit := hide hit; have Hbel := hide hbel; have Hacc := hide hacc; have Hasc := hide hasc
    clear hown hit hbel hacc hasc h34
    by_cases hp : p < s.size
    · have hstep : ∀ ty, (Instr.next (.pointer (some ⟨w.heap.size, 0, none⟩)) true ty).run Try.prog wr = _ := fun ty => Lib.run_next_any_at wr w.heap.size s p ty (unhide Hit) hp
      by_cases hc : p < nx
      · have hd := dec_ascii s p (unhide Hasc p (Nat.le_refl _) hc)
        rw [hd] at hstep
        clear hd
        have hc' : (p : Int) < nx := by omega
        generalize bt s p = r at *
        go_wp2
        go_roundw
        case rel =>
          exact ⟨acc, p + 1, nx, f, ownsRow_iter (unhide Hown) (unhide Hit) (p + 1), rfl, Lib.iterAt_heap wr _ s p (p + 1) (unhide Hit), Lib.below_iterAt (unhide Hbel) (Nat.le_refl _) s (p + 1), unhide Hacc, hf, by omega, hnx, fun t h1 h2 => unhide Hasc t (by omega) h2, hlen⟩
        case measure =>
          rw [iterPos_of (Lib.iterAt_heap wr _ s p (p + 1) (unhide Hit)), iterPos_of (unhide Hit)]
          omega
      · have hpe : nx = p := by omega
        subst hpe
        obtain ⟨g, rfl⟩ : ∃ g, f = g + 1 := ⟨f - 1, by omega⟩
        have hc' : ¬ (nx : Int) < nx := by omega
        by_cases hq : bt s nx = 34
        · have hd := dec_ascii s nx (by omega)
          rw [hd, hq] at hstep
          clear hd
          have hr : R = some (acc, nx + 1) := by rw [← unhide Hacc]; exact qread_close s g nx acc hp hq
          clear hq
          have hconv : (convert 67 9 (.slice ua acc.length ucap)).run Try.prog (wr.iterAt w.heap.size s (nx + 1)) = .ok (.string ⟨acc.toArray⟩) (wr.iterAt w.heap.size s (nx + 1)) :=
            own_to_string (B := w.heap.size) (ownsRow_iter (unhide Hown) (unhide Hit) (nx + 1))
          have Hr := hide hr
          clear hr
          go_wp2
          go_ret2
          rw [unhide Hr]
          exact ⟨rfl, Lib.below_iterAt (unhide Hbel) (Nat.le_refl _) s (nx + 1)⟩
        · have hq2 : (Utf8.decode s nx).1 ≠ 34 := fun e => hq ((dec_q s nx 34 (by omega)).1 e)
          have hq3 : (((Utf8.decode s nx).1 : Int) == 34) = false := by simp; omega
          have HRP := hide (readPart_any s hs nx hp hq2)
          have hpl := partL_le s nx hp
          have Hqb := hide (qread_bad s g nx acc hp hq)
          have Hqp := hide (qread_part s g nx acc hp hq)
          have hw := width_pos s nx hp
          generalize partL s nx = P at *
          obtain ⟨l, n⟩ := P
          generalize hd : (Utf8.decode s nx).2 = d at *
          generalize hr : (Utf8.decode s nx).1 = r at *
          simp only at *
          obtain ⟨hpl1, hpl2, hpl3⟩ := hpl
          have Hpl3 := hide hpl3
          clear hd hr hq hq2 hpl3
          go_wp2_with fail
          refine (unhide HRP _).mono ?_
          rintro e w1 ⟨rfl, hb1⟩
          have hs1 := hb1.size
          rw [Lib.iterAt_size] at hs1 hb1
          have ho1 := ownsRow_below (ownsRow_iter (unhide Hown) (unhide Hit) (nx + d)) hb1 (by rw [Lib.iterAt_size]; exact Nat.le_refl _)
          have hi1 := iter_below hb1 (Lib.iterAt_heap wr _ s nx (nx + d) (unhide Hit)) (by rw [Lib.iterAt_size]; exact Nat.le_refl _)
          have hb2 := (Lib.below_iterAt (unhide Hbel) (Nat.le_refl _) s (nx + d)).trans (hb1.mono hsz)
          have Ho1 := hide ho1; have Hi1 := hide hi1; have Hb2 := hide hb2
          clear ho1 hi1 hb2 hb1
          by_cases hn0 : n = 0
          · have Hr : Hid (R = none) := hide (by rw [← unhide Hacc]; exact unhide Hqb (Or.inl hn0))
            subst hn0
            go_wp2
            go_ret2
            rw [unhide Hr]
            exact ⟨rfl, unhide Hb2⟩
          · have hn1 : ((n : Int) == 0) = false := by simp; omega
            have hls : (⟨l.toArray⟩ : ByteArray).size = l.length := by show l.toArray.size = _; simp
            by_cases hbig : 4096 < acc.length + l.length
            · have Hr : Hid (R = none) := hide (by rw [← unhide Hacc]; exact unhide Hqb (Or.inr hbig))
              have hbig' : (4096 : Int) < (acc.length : Int) + (l.length : Int) := by omega
              go_wp2
              go_ret2
              rw [unhide Hr]
              exact ⟨rfl, unhide Hb2⟩
            · have hbig' : ¬ (4096 : Int) < (acc.length : Int) + (l.length : Int) := by omega
              have Hst := hide (unhide Hqp hn0 (by omega))
              go_wp2_with (at_builtin; refine Lib.wpList_append_own_string _ rfl _ _ 67 9 rfl w.heap.size 5 i0 Try.underlying67 Try.underlying9 hi hz0 hz1 hz2 _ _ _ rfl (unhide Ho1) ⟨l.toArray⟩ rfl ?c3 ?c4 ?c5 ?_)
              case c3 => unfold maxLen; show acc.length + l.toArray.size ≤ _; simp; omega
              case c4 => show acc.length + l.toArray.size ≤ _; simp; omega
              case c5 => omega
              intro v' w2 hown' hgrow _
              go_wp2
              go_roundw
              case rel =>
                have h3 := unhide Hpl3 hn0
                refine ⟨acc ++ l, nx + d, nx + n, g, ?_, by go_num, iter_grown (unhide Ho1) hgrow (unhide Hi1), (unhide Hb2).grown hgrow (by omega) (fun x hx => ((unhide Ho1).lt x hx).1), ?_, by omega, by omega, by omega, h3.2, by rw [List.length_append]; omega⟩
                · rw [Lib.byteCells_append, List.length_append]
                  exact hown'
                · rw [← unhide Hst]
                  exact unhide Hacc
              case measure =>
                rw [iterPos_of (iter_grown (unhide Ho1) hgrow (unhide Hi1)), iterPos_of (unhide Hit)]
                omega
    · have hstep : ∀ ty, (Instr.next (.pointer (some ⟨w.heap.size, 0, none⟩)) true ty).run Try.prog wr = _ := fun ty => Lib.run_next_end_at wr w.heap.size s p ty (unhide Hit) hp
      have Hr : Hid (R = none) := hide (by rw [← unhide Hacc]; exact qread_end s f nx acc (by omega))
      go_wp2
      go_ret2
      rw [unhide Hr]
      exact ⟨rfl, unhide Hbel⟩

theorem readQuoted_any (s : ByteArray) (hs : s.size ≤ 281474976710656) (w : World) :
    Calls Try.prog 40 #[.string s] w fun e w' => e = .returned (.tuple #[.string (readV (quotedL s)).1, .int .i64 (readV (quotedL s)).2]) ∧ Below w.heap.size w w' := by
  by_cases h : 0 < s.size ∧ bt s 0 = 34
  · rw [show quotedL s = qread s s.size 1 [] by unfold quotedL; rw [if_pos h]]
    exact readQuoted_yes s hs h w
  · rw [show quotedL s = none by unfold quotedL; rw [if_neg h]]
    exact readQuoted_no s h w
end Go.Proofs.Ytodncpnhmmnclaa

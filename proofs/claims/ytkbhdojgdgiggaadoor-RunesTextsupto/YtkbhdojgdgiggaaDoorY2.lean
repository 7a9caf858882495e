/- The readers at any text: readRune. (and what it leads to) -/
import Derived.Test.YtkbhdojgdgiggaaDoorX6
import Derived.Test.YtkbhdojgdgiggaaDoorV8
import Derived.RegionTactic
/- The readers at any text: readRune. -/
namespace Go.Proofs.YtkbhdojgdgiggaaDoor
open Go.RowKit Go.Lib

/-- The decoder's tables lie where they should. -/
def UT (w : World) : Prop := Lib.Utf8Tabs 1 2 w ∧ 2 < w.heap.size
theorem UT.below {w w' : World} {B : Nat} (h : UT w) (hb : Below B w w') (hB : 2 < B) : UT w' :=
  ⟨⟨fun c hc => (hb.cell (p := ⟨1, c, none⟩) (show 1 < B by omega)).trans (h.1.1 c hc), fun i hi => ⟨(hb.cell (p := ⟨2, 2 * i, none⟩) hB).trans (h.1.2 i hi).1, (hb.cell (p := ⟨2, 2 * i + 1, none⟩) hB).trans (h.1.2 i hi).2⟩⟩, Nat.lt_of_lt_of_le h.2 hb.size⟩
theorem UT.alloc {w : World} (h : UT w) (o : Obj) : UT (w.alloc o) := h.below ((Below.refl _ _).alloc (Nat.le_refl _) o) h.2
set_option maxHeartbeats 2000000 in
set_option maxRecDepth 100000 in
theorem readRune_esc (s : ByteArray) (i : Nat) (hs : s.size < 4611686018427387904) (hc : gb s i = 92) (w : World) :
    Calls Tryd.prog 93 #[.string s, .int .i64 i] w fun e w' => e = .returned (escM s i).val ∧ Below w.heap.size w w' := by
  have hin : i < s.size := gb_pos (by rw [hc]; omega)
  have HI := hide (isByte_any s i 92 (by omega))
  rw [hc] at HI
  have HH := hide (escape_any s i hs hin)
  generalize escM s i = R at *
  obtain ⟨r, n, why, pos⟩ := R
  have Hbel : Hid (Below w.heap.size w (w.alloc (.cells #[.int .i64 0, .int .i64 0] 48))) := hide ((Below.refl _ _).alloc (Nat.le_refl _) _)
  go_enter Tryd.func93, Tryd.ntmps93
  go_wp2_with fail
  refine (unhide HI _).mono ?_
  rintro e w' ⟨rfl, hw⟩
  obtain rfl := hw.symm
  go_wp2_with fail
  refine (unhide HH _).mono ?_
  rintro e w1 ⟨rfl, hb⟩
  have hfb := (FX.start w 0 0).below hb (by simp)
  have f0 := hfb.cell0; have f1 := hfb.cell1; have z0 := hfb.fz 0; have z1 := hfb.fz 1
  have g1 := hfb.set0 why; have y0 := g1.fz 1; have y1 := g1.cell1
  have g2 := g1.set1 pos; have x0 := g2.cell0; have x1 := g2.cell1
  have Hb2 := hide (below_fault ((unhide Hbel).trans (belowLe hb (by simp))) (Nat.le_refl _) (.int .i64 why) (.int .i64 pos))
  clear hb hfb g1 g2
  unfold Rd.val
  go_wp2
  refine bodyPost_ret (v := Rd.val ⟨r, n, why, pos⟩) (by simp [results, Tryd.results93, go_sem, Rd.val, x0, x1]) rfl ⟨rfl, unhide Hb2⟩
/-- What readRune does with a rune of a text, and how many bytes it has. -/
def decB (r : Int) (k : Nat) : Bool := (r == 65533 && decide (k < 2)) || decide (r ≤ 32) || r == 127 || sepB r
set_option maxHeartbeats 2000000 in
set_option maxRecDepth 100000 in
theorem readRune_dec (s : ByteArray) (i : Nat) (hs : s.size < 4611686018427387904) (hi : i ≤ s.size) (hc : gb s i ≠ 92) (r : Int) (k : Nat) (hr : ¬ (r = 65533 ∧ k < 2) → Utf8.valid r = true) (hk : k ≤ 4)
    (hd : ((Lib.decodeGo (s.extract i s.size)).1 : Int) = r ∧ (Lib.decodeGo (s.extract i s.size)).2 = k) (w : World) (hU : UT w) :
    Calls Tryd.prog 93 #[.string s, .int .i64 i] w fun e w' => e = .returned (if decB r k then badRd i else ⟨r, i + k, 0, 0⟩).val ∧ Below w.heap.size w w' := by
  have c1 : (i : Int) ≤ s.size := by omega
  have HI := hide (isByte_any s i 92 (by omega))
  rw [show (gb s i == 92) = false by simpa using hc] at HI
  have HD := hide (Tryd.utf8_DecodeRuneInString (s.extract i s.size) (w.alloc (.cells #[.int .i64 0, .int .i64 0] 48)) (hU.alloc _).1)
  rw [hd.1, hd.2] at HD
  have HN := hide (noForm_eq (i : Int))
  have Hbel : Hid (Below w.heap.size w (w.alloc (.cells #[.int .i64 0, .int .i64 0] 48))) := hide ((Below.refl _ _).alloc (Nat.le_refl _) _)
  clear hd hU
  by_cases hn : r = 65533 ∧ k < 2
  · obtain ⟨rfl, hk2⟩ := hn
    have hdec : decB 65533 k = true := by simp [decB, hk2]
    rw [hdec, if_pos rfl]
    have hk3 : (k : Int) < 2 := by omega
    clear hdec
    go_enter Tryd.func93, Tryd.ntmps93
    go_wp2_with fail
    refine (unhide HI _).mono ?_
    rintro e w' ⟨rfl, hw⟩
    obtain rfl := hw.symm
    go_wp2_with fail
    refine (unhide HD).mono ?_
    rintro e w1 ⟨rfl, hb⟩
    have hfb := (FX.start w 0 0).below hb (by simp)
    have Hb1 := hide ((unhide Hbel).trans (belowLe hb (by simp)))
    clear hb HD
    have hfc := hfb.alloc (.cells #[.int .i64 5, .int .i64 i] 48)
    have f0 := hfc.cell0; have f1 := hfc.cell1; have z0 := hfc.fz 0; have z1 := hfc.fz 1
    have g1 := hfc.set0 5; have y0 := g1.fz 1; have y1 := g1.cell1
    have g2 := g1.set1 i; have x0 := g2.cell0; have x1 := g2.cell1
    have Hb2 := hide (below_fault ((unhide Hb1).alloc (unhide Hb1).size (.cells #[.int .i64 5, .int .i64 i] 48)) (Nat.le_refl _) (.int .i64 5) (.int .i64 i))
    clear hfb hfc g1 g2
    go_wp2_with fail
    refine (unhide HN _).mono ?_
    rintro e w' ⟨rfl, hw⟩
    obtain rfl := hw.symm
    go_wp2
    refine bodyPost_ret (v := Rd.val (badRd i)) (by simp [results, Tryd.results93, go_sem, Rd.val, badRd, x0, x1]) rfl ⟨rfl, unhide Hb2⟩
  · have hv := hr hn
    have HC := hide (containsRune_any r hv)
    have Hn := hide hn
    clear hr hn
    -- whether the first test is passed by r or by k
    have hnone : (r == 65533) = false ∨ ((r == 65533) = true ∧ ¬ (k : Int) < 2) := by
      have := unhide Hn
      by_cases h : r = 65533
      · right; exact ⟨by simpa using h, fun hk => this ⟨h, by omega⟩⟩
      · left; simpa using h
    by_cases h32 : r ≤ 32
    · have hdec : decB r k = true := by simp [decB, h32]
      rw [hdec, if_pos rfl]
      clear hdec
      have h65 : (r == 65533) = false := by simp; omega
      clear hnone
      go_enter Tryd.func93, Tryd.ntmps93
      go_wp2_with fail
      refine (unhide HI _).mono ?_
      rintro e w' ⟨rfl, hw⟩
      obtain rfl := hw.symm
      go_wp2_with fail
      refine (unhide HD).mono ?_
      rintro e w1 ⟨rfl, hb⟩
      have hfb := (FX.start w 0 0).below hb (by simp)
      have Hb1 := hide ((unhide Hbel).trans (belowLe hb (by simp)))
      clear hb HD
      have hfc := hfb.alloc (.cells #[.int .i64 5, .int .i64 i] 48)
      have f0 := hfc.cell0; have f1 := hfc.cell1; have z0 := hfc.fz 0; have z1 := hfc.fz 1
      have g1 := hfc.set0 5; have y0 := g1.fz 1; have y1 := g1.cell1
      have g2 := g1.set1 i; have x0 := g2.cell0; have x1 := g2.cell1
      have Hb2 := hide (below_fault ((unhide Hb1).alloc (unhide Hb1).size (.cells #[.int .i64 5, .int .i64 i] 48)) (Nat.le_refl _) (.int .i64 5) (.int .i64 i))
      clear hfb hfc g1 g2
      go_wp2_with fail
      refine (unhide HN _).mono ?_
      rintro e w' ⟨rfl, hw⟩
      obtain rfl := hw.symm
      go_wp2
      refine bodyPost_ret (v := Rd.val (badRd i)) (by simp [results, Tryd.results93, go_sem, Rd.val, badRd, x0, x1]) rfl ⟨rfl, unhide Hb2⟩
    · by_cases h127 : r = 127
      · subst h127
        have hdec : decB 127 k = true := by simp [decB]
        rw [hdec, if_pos rfl]
        clear hdec hnone
        go_enter Tryd.func93, Tryd.ntmps93
        go_wp2_with fail
        refine (unhide HI _).mono ?_
        rintro e w' ⟨rfl, hw⟩
        obtain rfl := hw.symm
        go_wp2_with fail
        refine (unhide HD).mono ?_
        rintro e w1 ⟨rfl, hb⟩
        have hfb := (FX.start w 0 0).below hb (by simp)
        have Hb1 := hide ((unhide Hbel).trans (belowLe hb (by simp)))
        clear hb HD
        have hfc := hfb.alloc (.cells #[.int .i64 5, .int .i64 i] 48)
        have f0 := hfc.cell0; have f1 := hfc.cell1; have z0 := hfc.fz 0; have z1 := hfc.fz 1
        have g1 := hfc.set0 5; have y0 := g1.fz 1; have y1 := g1.cell1
        have g2 := g1.set1 i; have x0 := g2.cell0; have x1 := g2.cell1
        have Hb2 := hide (below_fault ((unhide Hb1).alloc (unhide Hb1).size (.cells #[.int .i64 5, .int .i64 i] 48)) (Nat.le_refl _) (.int .i64 5) (.int .i64 i))
        clear hfb hfc g1 g2
        go_wp2_with fail
        refine (unhide HN _).mono ?_
        rintro e w' ⟨rfl, hw⟩
        obtain rfl := hw.symm
        go_wp2
        refine bodyPost_ret (v := Rd.val (badRd i)) (by simp [results, Tryd.results93, go_sem, Rd.val, badRd, x0, x1]) rfl ⟨rfl, unhide Hb2⟩
      · have h127' : (r == 127) = false := by simpa using h127
        cases hsp : sepB r with
        | true =>
          have hdec : decB r k = true := by simp [decB, hsp]
          rw [hdec, if_pos rfl]
          have h65 : (r == 65533) = false := by
            have : r = 91 ∨ r = 93 ∨ r = 45 ∨ r = 34 := by simpa [sepB, or_assoc] using hsp
            simp; omega
          rw [hsp] at HC
          clear hdec hnone hsp
          go_enter Tryd.func93, Tryd.ntmps93
          go_wp2_with fail
          refine (unhide HI _).mono ?_
          rintro e w' ⟨rfl, hw⟩
          obtain rfl := hw.symm
          go_wp2_with fail
          refine (unhide HD).mono ?_
          rintro e w1 ⟨rfl, hb⟩
          have hfb := (FX.start w 0 0).below hb (by simp)
          have Hb1 := hide ((unhide Hbel).trans (belowLe hb (by simp)))
          clear hb HD
          go_wp2_with fail
          refine (unhide HC _).mono ?_
          rintro e w2 ⟨rfl, hb⟩
          have hfb := hfb.below hb hfb.lt
          have Hb1 := hide ((unhide Hb1).trans (belowLe hb (unhide Hb1).size))
          clear hb HC
          have hfc := hfb.alloc (.cells #[.int .i64 5, .int .i64 i] 48)
          have f0 := hfc.cell0; have f1 := hfc.cell1; have z0 := hfc.fz 0; have z1 := hfc.fz 1
          have g1 := hfc.set0 5; have y0 := g1.fz 1; have y1 := g1.cell1
          have g2 := g1.set1 i; have x0 := g2.cell0; have x1 := g2.cell1
          have Hb2 := hide (below_fault ((unhide Hb1).alloc (unhide Hb1).size (.cells #[.int .i64 5, .int .i64 i] 48)) (Nat.le_refl _) (.int .i64 5) (.int .i64 i))
          clear hfb hfc g1 g2
          go_wp2_with fail
          refine (unhide HN _).mono ?_
          rintro e w' ⟨rfl, hw⟩
          obtain rfl := hw.symm
          go_wp2
          refine bodyPost_ret (v := Rd.val (badRd i)) (by simp [results, Tryd.results93, go_sem, Rd.val, badRd, x0, x1]) rfl ⟨rfl, unhide Hb2⟩
        | false =>
          have hdec : decB r k = false := by
            have := unhide Hn
            simp only [decB, hsp, h127', Bool.or_false, Bool.or_eq_false_iff, Bool.and_eq_false_imp, decide_eq_false_iff_not]
            exact ⟨fun h => fun hk => this ⟨by simpa using h, hk⟩, h32⟩
          rw [hdec, if_neg (by simp)]
          rw [hsp] at HC
          clear hdec hsp
          rcases hnone with h65 | ⟨h65, hk2⟩
          · go_enter Tryd.func93, Tryd.ntmps93
            go_wp2_with fail
            refine (unhide HI _).mono ?_
            rintro e w' ⟨rfl, hw⟩
            obtain rfl := hw.symm
            go_wp2_with fail
            refine (unhide HD).mono ?_
            rintro e w1 ⟨rfl, hb⟩
            have hfb := (FX.start w 0 0).below hb (by simp)
            have Hb1 := hide ((unhide Hbel).trans (belowLe hb (by simp)))
            clear hb HD
            go_wp2_with fail
            refine (unhide HC _).mono ?_
            rintro e w2 ⟨rfl, hb⟩
            have hfb := hfb.below hb hfb.lt
            have Hb1 := hide ((unhide Hb1).trans (belowLe hb (unhide Hb1).size))
            clear hb HC
            have f0 := hfb.cell0; have f1 := hfb.cell1; have z0 := hfb.fz 0; have z1 := hfb.fz 1
            have g1 := hfb.set0 0; have y0 := g1.fz 1; have y1 := g1.cell1
            have g2 := g1.set1 0; have x0 := g2.cell0; have x1 := g2.cell1
            have Hb2 := hide (below_fault (unhide Hb1) (Nat.le_refl _) (.int .i64 0) (.int .i64 0))
            clear hfb g1 g2
            go_wp2
            refine bodyPost_ret (v := Rd.val ⟨r, i + k, 0, 0⟩) (by simp [results, Tryd.results93, go_sem, Rd.val, x0, x1]) rfl ⟨rfl, unhide Hb2⟩
          · have hr65 : r = 65533 := by simpa using h65
            subst hr65
            clear h65
            go_enter Tryd.func93, Tryd.ntmps93
            go_wp2_with fail
            refine (unhide HI _).mono ?_
            rintro e w' ⟨rfl, hw⟩
            obtain rfl := hw.symm
            go_wp2_with fail
            refine (unhide HD).mono ?_
            rintro e w1 ⟨rfl, hb⟩
            have hfb := (FX.start w 0 0).below hb (by simp)
            have Hb1 := hide ((unhide Hbel).trans (belowLe hb (by simp)))
            clear hb HD
            go_wp2_with fail
            refine (unhide HC _).mono ?_
            rintro e w2 ⟨rfl, hb⟩
            have hfb := hfb.below hb hfb.lt
            have Hb1 := hide ((unhide Hb1).trans (belowLe hb (unhide Hb1).size))
            clear hb HC
            have f0 := hfb.cell0; have f1 := hfb.cell1; have z0 := hfb.fz 0; have z1 := hfb.fz 1
            have g1 := hfb.set0 0; have y0 := g1.fz 1; have y1 := g1.cell1
            have g2 := g1.set1 0; have x0 := g2.cell0; have x1 := g2.cell1
            have Hb2 := hide (below_fault (unhide Hb1) (Nat.le_refl _) (.int .i64 0) (.int .i64 0))
            clear hfb g1 g2
            go_wp2
            refine bodyPost_ret (v := Rd.val ⟨65533, i + k, 0, 0⟩) (by simp [results, Tryd.results93, go_sem, Rd.val, x0, x1]) rfl ⟨rfl, unhide Hb2⟩
end Go.Proofs.YtkbhdojgdgiggaaDoor

/- The readers at any text: readRune, whole; what a rune that is read is. -/
namespace Go.Proofs.YtkbhdojgdgiggaaDoor
open Go.RowKit Go.Lib

theorem none_of (s : ByteArray) (i : Nat) (hi : i < s.size) : noneB s i = true ↔ ((Utf8.decode s i).1 : Int) = 65533 ∧ (Utf8.decode s i).2 < 2 := by
  have hw := width_pos s i hi
  unfold noneB
  rw [beq_iff_eq, Prod.ext_iff]
  constructor
  · rintro ⟨a, b⟩; exact ⟨by rw [a]; rfl, by rw [b]; decide⟩
  · rintro ⟨a, b⟩; exact ⟨by have := a; simp only; omega, by simp only; omega⟩
theorem readRune_any (s : ByteArray) (i : Nat) (hs : s.size < 4611686018427387904) (hi : i ≤ s.size) (w : World) (hU : UT w) :
    Calls Tryd.prog 93 #[.string s, .int .i64 i] w fun e w' => e = .returned (runM s i).val ∧ Below w.heap.size w w' := by
  by_cases hc : gb s i = 92
  · unfold runM; rw [if_pos hc]; exact readRune_esc s i hs hc w
  · by_cases hin : i < s.size
    · have hd : Lib.decodeGo (s.extract i s.size) = Utf8.decode s i := by
        unfold Lib.decodeGo
        rw [if_neg (by simp [ByteArray.size_extract]; omega), decode_extract]
      have hw := width_pos s i hin
      have hv : ¬ (((Utf8.decode s i).1 : Int) = 65533 ∧ (Utf8.decode s i).2 < 2) → Utf8.valid ((Utf8.decode s i).1 : Int) = true := fun h =>
        (piece_rune s i hin (Bool.eq_false_iff.2 fun e => h ((none_of s i hin).1 e))).1
      have H := readRune_dec s i hs hi hc ((Utf8.decode s i).1 : Int) (Utf8.decode s i).2 hv hw.2.1 ⟨by rw [hd], by rw [hd]⟩ w hU
      have e : runM s i = if decB ((Utf8.decode s i).1 : Int) (Utf8.decode s i).2 then badRd i else ⟨((Utf8.decode s i).1 : Int), i + (Utf8.decode s i).2, 0, 0⟩ := by
        unfold runM
        rw [if_neg hc]
        cases hn : noneB s i with
        | true =>
          rw [nextT_none s i hin hn]
          have := (none_of s i hin).1 hn
          have hdec : decB ((Utf8.decode s i).1 : Int) (Utf8.decode s i).2 = true := by simp [decB, this]
          rw [hdec]; rfl
        | false =>
          rw [nextT_rune s i hin hn]
          have hno : ¬ (((Utf8.decode s i).1 : Int) = 65533 ∧ (Utf8.decode s i).2 < 2) := fun h => by
            rw [(none_of s i hin).2 h] at hn; cases hn
          have hdec : decB ((Utf8.decode s i).1 : Int) (Utf8.decode s i).2 = !loneB ((Utf8.decode s i).1 : Int) := by
            have h1 : (((Utf8.decode s i).1 : Int) == 65533 && decide ((Utf8.decode s i).2 < 2)) = false := by simpa using hno
            simp only [decB, loneB, sepB, h1, Bool.false_or, Bool.not_not, Bool.or_assoc]
          rw [hdec]
          simp only [Bool.true_and]
          cases loneB ((Utf8.decode s i).1 : Int) <;> simp
      rw [e]; exact H
    · have hie : i = s.size := by omega
      have hd : Lib.decodeGo (s.extract i s.size) = (65533, 0) := by
        unfold Lib.decodeGo
        rw [if_pos (by simp [ByteArray.size_extract]; omega)]
      have H := readRune_dec s i hs hi hc 65533 0 (fun h => absurd ⟨rfl, by omega⟩ h) (by omega) ⟨by rw [hd]; rfl, by rw [hd]⟩ w hU
      have e : runM s i = badRd i := by
        unfold runM
        rw [if_neg hc, nextT_out s i (.inr (by omega))]; rfl
      rw [e]
      exact H
/-- A rune that was read ends within the text. -/
theorem runM_ok (s : ByteArray) (i : Nat) (h : (runM s i).why = 0) : i < (runM s i).n ∧ (runM s i).n ≤ s.size ∧ 0 ≤ (runM s i).r ∧ (runM s i).r ≤ 1114111 ∧ (runM s i).pos = 0 := by
  have hbad : ∀ j, (badRd j).why = 0 → False := fun j h => by simp [badRd] at h
  unfold runM at h ⊢
  by_cases hc : gb s i = 92
  · rw [if_pos hc] at h ⊢
    unfold escM at h ⊢
    have hin : ∀ c : Int, 0 ≤ c → gb s (i + 1) = c → i + 2 ≤ s.size := fun c h0 e => by
      have := gb_pos (s := s) (i := i + 1) (by rw [e]; exact h0); omega
    by_cases h1 : gb s (i + 1) = 110
    · rw [if_pos h1]; have := hin _ (by omega) h1; simp; omega
    rw [if_neg h1] at h ⊢
    by_cases h2 : gb s (i + 1) = 116
    · rw [if_pos h2]; have := hin _ (by omega) h2; simp; omega
    rw [if_neg h2] at h ⊢
    by_cases h3 : gb s (i + 1) = 114
    · rw [if_pos h3]; have := hin _ (by omega) h3; simp; omega
    rw [if_neg h3] at h ⊢
    by_cases h4 : markedB (gb s (i + 1)) = true
    · rw [if_pos h4]
      have hm := marked_cases h4
      have := hin _ (by omega) rfl
      have := gb_lt s (i + 1)
      simp; omega
    rw [if_neg h4] at h ⊢
    by_cases h5 : gb s (i + 1) = 117
    · rw [if_pos h5] at h ⊢
      unfold numM at h ⊢
      by_cases n1 : gb s (i + 2) ≠ 123
      · rw [if_pos n1] at h; exact absurd h (fun h => hbad _ h)
      rw [if_neg n1] at h ⊢
      by_cases n2 : digs s 6 (i + 3) = 0 ∨ gb s (i + 3 + digs s 6 (i + 3)) ≠ 125
      · rw [if_pos n2] at h; exact absurd h (fun h => hbad _ h)
      rw [if_neg n2] at h ⊢
      by_cases n3 : 1114111 < numTo s (i + 3) (digs s 6 (i + 3))
      · rw [if_pos n3] at h; simp at h
      rw [if_neg n3] at h ⊢
      have hsp := digs_spec s 6 (i + 3)
      have hr := numTo_in s (i + 3) _ hsp.2.1 _ (Nat.le_refl _)
      have hg : gb s (i + 3 + digs s 6 (i + 3)) = 125 := by
        have := not_or.1 n2
        simpa using this.2
      have := gb_pos (s := s) (i := i + 3 + digs s 6 (i + 3)) (by rw [hg]; omega)
      refine ⟨?_, ?_, ?_, ?_, rfl⟩ <;> dsimp only <;> omega
    · rw [if_neg h5] at h; exact absurd h (fun h => hbad _ h)
  · rw [if_neg hc] at h ⊢
    by_cases hn : ((nextT s i).2.2 && loneB (nextT s i).1) = true
    · rw [if_pos hn]
      have hin : i < s.size := by
        by_cases hin : i < s.size
        · exact hin
        · rw [nextT_out s i (.inr (by omega))] at hn; simp at hn
      cases hno : noneB s i with
      | true => rw [nextT_none s i hin hno] at hn; simp at hn
      | false =>
        rw [nextT_rune s i hin hno]
        have hw := width_pos s i hin
        have hv := (valid_iff _).1 (piece_rune s i hin hno).1
        refine ⟨?_, ?_, ?_, ?_, rfl⟩ <;> dsimp only <;> omega
    · rw [if_neg hn] at h; exact absurd h (fun h => hbad _ h)
theorem runM_why (s : ByteArray) (i : Nat) : 0 ≤ (runM s i).why := by
  have hb : ∀ j, 0 ≤ (badRd j).why := fun j => by simp [badRd]
  unfold runM escM numM
  repeat' split
  all_goals first | exact hb _ | simp
end Go.Proofs.YtkbhdojgdgiggaaDoor

/- The readers at any text: readRange. -/
namespace Go.Proofs.YtkbhdojgdgiggaaDoor
open Go.RowKit Go.Lib

theorem BoxAt.fz {c : Nat} {x y : Int} {W : World} (h : BoxAt c x y W) (j : Nat) : W.frozen? ⟨c, j, none⟩ = false := by simp [World.frozen?, show W.heap[c]? = _ from h]
theorem FX.same0 {c : Nat} {a b : Int} {W : World} (h : FX c a b W) : W.setCell ⟨c, 0, none⟩ (.int .i64 a) = W := by
  rw [Go.Sort.setCell_eq]
  have e : W.heap.modify c (fun o => match o with | .cells x e f => .cells (x.setIfInBounds 0 (.int .i64 a)) e f | o => o) = W.heap := by
    apply Array.ext_getElem?
    intro k
    rw [Array.getElem?_modify]
    split
    · rename_i hk; subst hk
      rw [show W.heap[c]? = _ from h]; rfl
    · rfl
  exact congrArg (fun x => { W with heap := x }) e
theorem FX.same1 {c : Nat} {a b : Int} {W : World} (h : FX c a b W) : W.setCell ⟨c, 1, none⟩ (.int .i64 b) = W := by
  rw [Go.Sort.setCell_eq]
  have e : W.heap.modify c (fun o => match o with | .cells x e f => .cells (x.setIfInBounds 1 (.int .i64 b)) e f | o => o) = W.heap := by
    apply Array.ext_getElem?
    intro k
    rw [Array.getElem?_modify]
    split
    · rename_i hk; subst hk
      rw [show W.heap[c]? = _ from h]; rfl
    · rfl
  exact congrArg (fun x => { W with heap := x }) e
theorem BoxAt.same0 {c : Nat} {a b : Int} {W : World} (h : BoxAt c a b W) : W.setCell ⟨c, 0, none⟩ (.int .i32 a) = W := by
  rw [Go.Sort.setCell_eq]
  have e : W.heap.modify c (fun o => match o with | .cells x e f => .cells (x.setIfInBounds 0 (.int .i32 a)) e f | o => o) = W.heap := by
    apply Array.ext_getElem?
    intro k
    rw [Array.getElem?_modify]
    split
    · rename_i hk; subst hk
      rw [show W.heap[c]? = _ from h]; rfl
    · rfl
  exact congrArg (fun x => { W with heap := x }) e
theorem BoxAt.same1 {c : Nat} {a b : Int} {W : World} (h : BoxAt c a b W) : W.setCell ⟨c, 1, none⟩ (.int .i32 b) = W := by
  rw [Go.Sort.setCell_eq]
  have e : W.heap.modify c (fun o => match o with | .cells x e f => .cells (x.setIfInBounds 1 (.int .i32 b)) e f | o => o) = W.heap := by
    apply Array.ext_getElem?
    intro k
    rw [Array.getElem?_modify]
    split
    · rename_i hk; subst hk
      rw [show W.heap[c]? = _ from h]; rfl
    · rfl
  exact congrArg (fun x => { W with heap := x }) e
theorem BoxAt.other {c d : Nat} {a b : Int} {W : World} (h : BoxAt c a b W) (hd : d ≠ c) (j : Nat) (v : Value) : BoxAt c a b (W.setCell ⟨d, j, none⟩ v) := by
  rw [Go.Sort.setCell_eq]
  show (W.heap.modify d _)[c]? = _
  rw [Array.getElem?_modify, if_neg hd]; exact h
/-- readRune reads this there. -/
def RdAt (s : ByteArray) (i : Nat) (R : Rd) : Prop := ∀ w, UT w → Calls Tryd.prog 93 #[.string s, .int .i64 i] w fun e w' => e = .returned R.val ∧ Below w.heap.size w w'
theorem ut_two {w : World} (hU : UT w) : UT ((w.alloc (.cells #[.int .i32 0, .int .i32 0] 55)).alloc (.cells #[.int .i64 0, .int .i64 0] 48)) := (hU.alloc _).alloc _
set_option maxHeartbeats 2000000 in
set_option maxRecDepth 100000 in
theorem range_one (s : ByteArray) (i : Nat) (x : Int) (n : Nat) (hr : RdAt s i ⟨x, n, 0, 0⟩) (hn : gb s n ≠ 45) (w : World) (hU : UT w) :
    Calls Tryd.prog 74 #[.string s, .int .i64 i] w fun e w' => e = .returned (Rg.val ⟨x, x, n, 0, 0⟩) ∧ Below w.heap.size w w' := by
  have HI := hide (isByte_any s n 45 (by omega))
  rw [show (gb s n == 45) = false by simpa using hn] at HI
  have HR := hide hr; have HUA := hide (ut_two hU)
  clear hr hU
  have hlt : ¬ x < x := by omega
  go_enter Tryd.func74, Tryd.ntmps74
  go_wp2_with fail
  refine (unhide HR _ (unhide HUA)).mono ?_
  rintro e w1 ⟨rfl, hb⟩
  have hfb : FX (w.heap.size + 1) 0 0 w1 := FX.below (W := (w.alloc (.cells #[.int .i32 0, .int .i32 0] 55)).alloc (.cells #[.int .i64 0, .int .i64 0] 48)) (by
    have := FX.start (w.alloc (.cells #[.int .i32 0, .int .i32 0] 55)) 0 0
    simpa using this) hb (by simp)
  have hxb : BoxAt w.heap.size 0 0 w1 := (hb.block w.heap.size (by simp; omega)).trans ((BoxAt.start w 0 0).alloc _)
  have hB1 : Below w.heap.size w w1 := (((Below.refl w.heap.size w).alloc (Nat.le_refl _) _).alloc (by simp) _).trans (belowLe hb (by simp; omega))
  have f0 := hfb.cell0; have f1 := hfb.cell1; have z0 := hfb.fz 0; have z1 := hfb.fz 1; have q0 := hfb.same0; have q1 := hfb.same1
  have Hfb := hide hfb; have Hxb := hide hxb; have HB1 := hide hB1
  have HU1 := hide ((unhide HUA).below hb (by have := (unhide HUA).2; omega))
  clear hb hfb hxb hB1
  unfold Rd.val
  go_wp2_with fail
  refine (unhide HI _).mono ?_
  rintro e w' ⟨rfl, hw⟩
  obtain rfl := hw.symm
  have y0 := (unhide Hxb).cell0; have y1 := (unhide Hxb).cell1
  have u0 := (unhide Hxb).fz 0; have u1 := (unhide Hxb).fz 1
  go_wp2
  refine bodyPost_ret (v := Rg.val ⟨x, x, n, 0, 0⟩) (by simp [results, Tryd.results74, go_sem, Rg.val, f0, f1, y0, y1]) rfl ⟨rfl, ?_⟩
  exact ((((unhide HB1).setCell (p := ⟨w.heap.size, 0, none⟩) (Nat.le_refl _) _).setCell (p := ⟨w.heap.size, 1, none⟩) (Nat.le_refl _) _).setCell (p := ⟨w.heap.size + 1, 0, none⟩) (Nat.le_succ _) _).setCell (p := ⟨w.heap.size + 1, 1, none⟩) (Nat.le_succ _) _
set_option maxHeartbeats 2000000 in
set_option maxRecDepth 100000 in
theorem range_two (s : ByteArray) (i : Nat) (x y : Int) (n m : Nat) (hs : s.size < 4611686018427387904) (hr : RdAt s i ⟨x, n, 0, 0⟩) (hn : gb s n = 45) (hr2 : RdAt s (n + 1) ⟨y, m, 0, 0⟩) (hxy : x ≤ y) (w : World) (hU : UT w) :
    Calls Tryd.prog 74 #[.string s, .int .i64 i] w fun e w' => e = .returned (Rg.val ⟨x, y, m, 0, 0⟩) ∧ Below w.heap.size w w' := by
  have HI := hide (isByte_any s n 45 (by omega))
  rw [hn] at HI
  have hin : n < s.size := gb_pos (by rw [hn]; omega)
  have HR := hide hr; have HR2 := hide hr2; have HUA := hide (ut_two hU)
  clear hr hr2 hU
  have hlt : ¬ y < x := by omega
  go_enter Tryd.func74, Tryd.ntmps74
  go_wp2_with fail
  refine (unhide HR _ (unhide HUA)).mono ?_
  rintro e w1 ⟨rfl, hb⟩
  have hfb : FX (w.heap.size + 1) 0 0 w1 := FX.below (W := (w.alloc (.cells #[.int .i32 0, .int .i32 0] 55)).alloc (.cells #[.int .i64 0, .int .i64 0] 48)) (by
    have := FX.start (w.alloc (.cells #[.int .i32 0, .int .i32 0] 55)) 0 0
    simpa using this) hb (by simp)
  have hxb : BoxAt w.heap.size 0 0 w1 := (hb.block w.heap.size (by simp; omega)).trans ((BoxAt.start w 0 0).alloc _)
  have hB1 : Below w.heap.size w w1 := (((Below.refl w.heap.size w).alloc (Nat.le_refl _) _).alloc (by simp) _).trans (belowLe hb (by simp; omega))
  have f0 := hfb.cell0; have f1 := hfb.cell1; have z0 := hfb.fz 0; have z1 := hfb.fz 1; have q0 := hfb.same0; have q1 := hfb.same1
  have Hfb := hide hfb; have Hxb := hide hxb; have HB1 := hide hB1
  have HU1 := hide ((unhide HUA).below hb (by have := (unhide HUA).2; omega))
  clear hb hfb hxb hB1
  unfold Rd.val
  go_wp2_with fail
  refine (unhide HI _).mono ?_
  rintro e w' ⟨rfl, hw⟩
  obtain rfl := hw.symm
  go_wp2_with fail
  refine (unhide HR2 _ (unhide HU1)).mono ?_
  rintro e w2 ⟨rfl, hb⟩
  clear f0 f1 z0 z1 q0 q1
  have hfb := (unhide Hfb).below hb (unhide Hfb).lt
  have hxb : BoxAt w.heap.size 0 0 w2 := (hb.block w.heap.size (unhide Hxb).lt).trans (unhide Hxb)
  have hB1 : Below w.heap.size w w2 := (unhide HB1).trans (belowLe hb (unhide HB1).size)
  clear Hfb Hxb HB1
  have f0 := hfb.cell0; have f1 := hfb.cell1; have z0 := hfb.fz 0; have z1 := hfb.fz 1; have q0 := hfb.same0; have q1 := hfb.same1
  have HB1 := hide hB1
  have y0 := hxb.cell0; have y1 := hxb.cell1
  have u0 := hxb.fz 0; have u1 := hxb.fz 1
  clear hb hfb hxb hB1
  unfold Rd.val
  go_wp2
  refine bodyPost_ret (v := Rg.val ⟨x, y, m, 0, 0⟩) (by simp [results, Tryd.results74, go_sem, Rg.val, f0, f1, y0, y1]) rfl ⟨rfl, ?_⟩
  exact ((((unhide HB1).setCell (p := ⟨w.heap.size, 0, none⟩) (Nat.le_refl _) _).setCell (p := ⟨w.heap.size, 1, none⟩) (Nat.le_refl _) _).setCell (p := ⟨w.heap.size + 1, 0, none⟩) (Nat.le_succ _) _).setCell (p := ⟨w.heap.size + 1, 1, none⟩) (Nat.le_succ _) _
set_option maxHeartbeats 2000000 in
set_option maxRecDepth 100000 in
theorem range_bad1 (s : ByteArray) (i : Nat) (x : Int) (n pos : Nat) (why : Int) (hw0 : why ≠ 0) (hr : RdAt s i ⟨x, n, why, pos⟩) (w : World) (hU : UT w) :
    Calls Tryd.prog 74 #[.string s, .int .i64 i] w fun e w' => e = .returned (Rg.val ⟨0, 0, 0, why, pos⟩) ∧ Below w.heap.size w w' := by
  have HR := hide hr; have HUA := hide (ut_two hU)
  clear hr hU
  have hne : (why == 0) = false := by simpa using hw0
  go_enter Tryd.func74, Tryd.ntmps74
  go_wp2_with fail
  refine (unhide HR _ (unhide HUA)).mono ?_
  rintro e w1 ⟨rfl, hb⟩
  have hfb : FX (w.heap.size + 1) 0 0 w1 := FX.below (W := (w.alloc (.cells #[.int .i32 0, .int .i32 0] 55)).alloc (.cells #[.int .i64 0, .int .i64 0] 48)) (by
    have := FX.start (w.alloc (.cells #[.int .i32 0, .int .i32 0] 55)) 0 0
    simpa using this) hb (by simp)
  have hxb : BoxAt w.heap.size 0 0 w1 := (hb.block w.heap.size (by simp; omega)).trans ((BoxAt.start w 0 0).alloc _)
  have hB1 : Below w.heap.size w w1 := (((Below.refl w.heap.size w).alloc (Nat.le_refl _) _).alloc (by simp) _).trans (belowLe hb (by simp; omega))
  have f0 := hfb.cell0; have f1 := hfb.cell1; have z0 := hfb.fz 0; have z1 := hfb.fz 1
  have HF := hide ((hfb.set0 why).set1 (pos : Int))
  have HX := hide ((hxb.other (d := w.heap.size + 1) (by omega) 0 (.int .i64 why)).other (d := w.heap.size + 1) (by omega) 1 (.int .i64 (pos : Int)))
  have HB := hide (below_fault hB1 (show w.heap.size ≤ w.heap.size + 1 by omega) (.int .i64 why) (.int .i64 (pos : Int)))
  have k0 := (unhide HF).cell0; have k1 := (unhide HF).cell1
  have j1 := (hfb.set0 why).fz 1
  clear hb hfb hxb hB1
  unfold Rd.val
  go_wp2
  clear f0 f1 z0 z1 j1 k0 k1
  generalize (w1.setCell ⟨w.heap.size + 1, 0, none⟩ (.int .i64 why)).setCell ⟨w.heap.size + 1, 1, none⟩ (.int .i64 (pos : Int)) = W at *
  have f0 := (unhide HF).cell0; have f1 := (unhide HF).cell1; have z0 := (unhide HF).fz 0; have z1 := (unhide HF).fz 1; have q0 := (unhide HF).same0; have q1 := (unhide HF).same1
  have y0 := (unhide HX).cell0; have y1 := (unhide HX).cell1; have u0 := (unhide HX).fz 0; have u1 := (unhide HX).fz 1; have p0 := (unhide HX).same0; have p1 := (unhide HX).same1
  go_region
  go_wp2
  refine bodyPost_ret (v := Rg.val ⟨0, 0, 0, why, pos⟩) (by simp [results, Tryd.results74, go_sem, Rg.val, f0, f1, y0, y1]) rfl ⟨rfl, ?_⟩
  exact (unhide HB).drew
set_option maxHeartbeats 2000000 in
set_option maxRecDepth 100000 in
theorem range_bad2 (s : ByteArray) (i : Nat) (x y : Int) (n m pos : Nat) (why : Int) (hs : s.size < 4611686018427387904) (hw0 : why ≠ 0) (hr : RdAt s i ⟨x, n, 0, 0⟩) (hn : gb s n = 45) (hr2 : RdAt s (n + 1) ⟨y, m, why, pos⟩) (w : World) (hU : UT w) :
    Calls Tryd.prog 74 #[.string s, .int .i64 i] w fun e w' => e = .returned (Rg.val ⟨0, 0, 0, why, pos⟩) ∧ Below w.heap.size w w' := by
  have HI := hide (isByte_any s n 45 (by omega))
  rw [hn] at HI
  have hin : n < s.size := gb_pos (by rw [hn]; omega)
  have HR := hide hr; have HR2 := hide hr2; have HUA := hide (ut_two hU)
  clear hr hr2 hU
  have hne : (why == 0) = false := by simpa using hw0
  go_enter Tryd.func74, Tryd.ntmps74
  go_wp2_with fail
  refine (unhide HR _ (unhide HUA)).mono ?_
  rintro e w1 ⟨rfl, hb⟩
  have hfb : FX (w.heap.size + 1) 0 0 w1 := FX.below (W := (w.alloc (.cells #[.int .i32 0, .int .i32 0] 55)).alloc (.cells #[.int .i64 0, .int .i64 0] 48)) (by
    have := FX.start (w.alloc (.cells #[.int .i32 0, .int .i32 0] 55)) 0 0
    simpa using this) hb (by simp)
  have hxb : BoxAt w.heap.size 0 0 w1 := (hb.block w.heap.size (by simp; omega)).trans ((BoxAt.start w 0 0).alloc _)
  have hB1 : Below w.heap.size w w1 := (((Below.refl w.heap.size w).alloc (Nat.le_refl _) _).alloc (by simp) _).trans (belowLe hb (by simp; omega))
  have f0 := hfb.cell0; have f1 := hfb.cell1; have z0 := hfb.fz 0; have z1 := hfb.fz 1; have q0 := hfb.same0; have q1 := hfb.same1
  have Hfb := hide hfb; have Hxb := hide hxb; have HB1 := hide hB1
  have HU1 := hide ((unhide HUA).below hb (by have := (unhide HUA).2; omega))
  clear hb hfb hxb hB1
  unfold Rd.val
  go_wp2_with fail
  refine (unhide HI _).mono ?_
  rintro e w' ⟨rfl, hw⟩
  obtain rfl := hw.symm
  go_wp2_with fail
  refine (unhide HR2 _ (unhide HU1)).mono ?_
  rintro e w2 ⟨rfl, hb⟩
  clear f0 f1 z0 z1 q0 q1
  have hfb := (unhide Hfb).below hb (unhide Hfb).lt
  have hxb : BoxAt w.heap.size 0 0 w2 := (hb.block w.heap.size (unhide Hxb).lt).trans (unhide Hxb)
  have hB1 : Below w.heap.size w w2 := (unhide HB1).trans (belowLe hb (unhide HB1).size)
  clear Hfb Hxb HB1
  have f0 := hfb.cell0; have f1 := hfb.cell1; have z0 := hfb.fz 0; have z1 := hfb.fz 1
  have HF := hide ((hfb.set0 why).set1 (pos : Int))
  have HX := hide ((hxb.other (d := w.heap.size + 1) (by omega) 0 (.int .i64 why)).other (d := w.heap.size + 1) (by omega) 1 (.int .i64 (pos : Int)))
  have HB := hide (below_fault hB1 (show w.heap.size ≤ w.heap.size + 1 by omega) (.int .i64 why) (.int .i64 (pos : Int)))
  have k0 := (unhide HF).cell0; have k1 := (unhide HF).cell1
  have j1 := (hfb.set0 why).fz 1
  clear hb hfb hxb hB1
  unfold Rd.val
  go_wp2
  clear f0 f1 z0 z1 j1 k0 k1
  generalize (w2.setCell ⟨w.heap.size + 1, 0, none⟩ (.int .i64 why)).setCell ⟨w.heap.size + 1, 1, none⟩ (.int .i64 (pos : Int)) = W at *
  have f0 := (unhide HF).cell0; have f1 := (unhide HF).cell1; have z0 := (unhide HF).fz 0; have z1 := (unhide HF).fz 1; have q0 := (unhide HF).same0; have q1 := (unhide HF).same1
  have y0 := (unhide HX).cell0; have y1 := (unhide HX).cell1; have u0 := (unhide HX).fz 0; have u1 := (unhide HX).fz 1; have p0 := (unhide HX).same0; have p1 := (unhide HX).same1
  go_region
  go_wp2
  refine bodyPost_ret (v := Rg.val ⟨0, 0, 0, why, pos⟩) (by simp [results, Tryd.results74, go_sem, Rg.val, f0, f1, y0, y1]) rfl ⟨rfl, ?_⟩
  exact (unhide HB).drew
set_option maxHeartbeats 2000000 in
set_option maxRecDepth 100000 in
theorem range_bad3 (s : ByteArray) (i : Nat) (x y : Int) (n m : Nat) (hs : s.size < 4611686018427387904) (hr : RdAt s i ⟨x, n, 0, 0⟩) (hn : gb s n = 45) (hr2 : RdAt s (n + 1) ⟨y, m, 0, 0⟩) (hxy : y < x) (w : World) (hU : UT w) :
    Calls Tryd.prog 74 #[.string s, .int .i64 i] w fun e w' => e = .returned (Rg.val ⟨0, 0, 0, 1, i⟩) ∧ Below w.heap.size w w' := by
  have HI := hide (isByte_any s n 45 (by omega))
  rw [hn] at HI
  have hin : n < s.size := gb_pos (by rw [hn]; omega)
  have HR := hide hr; have HR2 := hide hr2; have HUA := hide (ut_two hU)
  clear hr hr2 hU
  go_enter Tryd.func74, Tryd.ntmps74
  go_wp2_with fail
  refine (unhide HR _ (unhide HUA)).mono ?_
  rintro e w1 ⟨rfl, hb⟩
  have hfb : FX (w.heap.size + 1) 0 0 w1 := FX.below (W := (w.alloc (.cells #[.int .i32 0, .int .i32 0] 55)).alloc (.cells #[.int .i64 0, .int .i64 0] 48)) (by
    have := FX.start (w.alloc (.cells #[.int .i32 0, .int .i32 0] 55)) 0 0
    simpa using this) hb (by simp)
  have hxb : BoxAt w.heap.size 0 0 w1 := (hb.block w.heap.size (by simp; omega)).trans ((BoxAt.start w 0 0).alloc _)
  have hB1 : Below w.heap.size w w1 := (((Below.refl w.heap.size w).alloc (Nat.le_refl _) _).alloc (by simp) _).trans (belowLe hb (by simp; omega))
  have f0 := hfb.cell0; have f1 := hfb.cell1; have z0 := hfb.fz 0; have z1 := hfb.fz 1; have q0 := hfb.same0; have q1 := hfb.same1
  have Hfb := hide hfb; have Hxb := hide hxb; have HB1 := hide hB1
  have HU1 := hide ((unhide HUA).below hb (by have := (unhide HUA).2; omega))
  clear hb hfb hxb hB1
  unfold Rd.val
  go_wp2_with fail
  refine (unhide HI _).mono ?_
  rintro e w' ⟨rfl, hw⟩
  obtain rfl := hw.symm
  go_wp2_with fail
  refine (unhide HR2 _ (unhide HU1)).mono ?_
  rintro e w2 ⟨rfl, hb⟩
  clear f0 f1 z0 z1 q0 q1
  have hfb := (unhide Hfb).below hb (unhide Hfb).lt
  have hxb : BoxAt w.heap.size 0 0 w2 := (hb.block w.heap.size (unhide Hxb).lt).trans (unhide Hxb)
  have hB1 : Below w.heap.size w w2 := (unhide HB1).trans (belowLe hb (unhide HB1).size)
  clear Hfb Hxb HB1
  have f0 := hfb.cell0; have f1 := hfb.cell1; have z0 := hfb.fz 0; have z1 := hfb.fz 1; have q0 := hfb.same0; have q1 := hfb.same1
  have HB1 := hide hB1
  have HF := hide ((hfb.set0 1).set1 (i : Int))
  have j1 := (hfb.set0 1).fz 1
  have k0 := (unhide HF).cell0; have k1 := (unhide HF).cell1
  have y0 := hxb.cell0; have y1 := hxb.cell1
  have u0 := hxb.fz 0; have u1 := hxb.fz 1
  have p0 := hxb.same0; have p1 := hxb.same1
  have HXo := hide ((hxb.other (d := w.heap.size + 1) (by omega) 0 (.int .i64 1)).other (d := w.heap.size + 1) (by omega) 1 (.int .i64 (i : Int)))
  have o0 := (unhide HXo).cell0; have o1 := (unhide HXo).cell1
  clear hb hfb hxb hB1
  unfold Rd.val
  go_wp2
  refine bodyPost_ret (v := Rg.val ⟨0, 0, 0, 1, i⟩) (by simp [results, Tryd.results74, go_sem, Rg.val, k0, k1, o0, o1]) rfl ⟨rfl, ?_⟩
  exact below_fault (unhide HB1) (Nat.le_succ _) _ _
theorem readRange_any (s : ByteArray) (i : Nat) (hs : s.size < 4611686018427387904) (hi : i ≤ s.size) (w : World) (hU : UT w) :
    Calls Tryd.prog 74 #[.string s, .int .i64 i] w fun e w' => e = .returned (rngM s i).val ∧ Below w.heap.size w w' := by
  have h1 : RdAt s i (runM s i) := fun w hU => readRune_any s i hs hi w hU
  have k1 := runM_ok s i
  have h2 : gb s (runM s i).n = 45 → RdAt s ((runM s i).n + 1) (runM s ((runM s i).n + 1)) := fun h w hU => readRune_any s _ hs (by have := gb_pos (s := s) (i := (runM s i).n) (by rw [h]; omega); omega) w hU
  have k2 := runM_ok s ((runM s i).n + 1)
  unfold rngM
  generalize runM s i = A at *
  by_cases c1 : A.why ≠ 0
  · rw [if_pos c1]
    exact range_bad1 s i A.r A.n A.pos A.why c1 h1 w hU
  rw [if_neg c1]
  have e1 : A.why = 0 := by simpa using c1
  have hA : RdAt s i ⟨A.r, A.n, 0, 0⟩ := by
    have := k1 e1
    obtain ⟨r, n, why, pos⟩ := A
    simp only at e1 this
    rw [e1, this.2.2.2.2] at h1
    exact h1
  by_cases c2 : gb s A.n = 45
  · rw [if_pos c2]
    have h3 := h2 c2
    generalize runM s (A.n + 1) = B at *
    by_cases c3 : B.why ≠ 0
    · rw [if_pos c3]
      exact range_bad2 s i A.r B.r A.n B.n B.pos B.why hs c3 hA c2 h3 w hU
    rw [if_neg c3]
    have e2 : B.why = 0 := by simpa using c3
    have hB : RdAt s (A.n + 1) ⟨B.r, B.n, 0, 0⟩ := by
      have := k2 e2
      obtain ⟨r, n, why, pos⟩ := B
      simp only at e2 this
      rw [e2, this.2.2.2.2] at h3
      exact h3
    by_cases c4 : B.r < A.r
    · rw [if_pos c4]
      exact range_bad3 s i A.r B.r A.n B.n hs hA c2 hB c4 w hU
    · rw [if_neg c4]
      exact range_two s i A.r B.r A.n B.n hs hA c2 hB (by omega) w hU
  · rw [if_neg c2]
    exact range_one s i A.r A.n hA c2 w hU
theorem rngM_ok (s : ByteArray) (i : Nat) (h : (rngM s i).why = 0) : i < (rngM s i).n ∧ (rngM s i).n ≤ s.size ∧ isR ((rngM s i).lo, (rngM s i).hi) = true ∧ (rngM s i).pos = 0 := by
  have k1 := runM_ok s i
  have k2 := runM_ok s ((runM s i).n + 1)
  unfold rngM at h ⊢
  generalize runM s i = A at *
  by_cases c1 : A.why ≠ 0
  · rw [if_pos c1] at h; exact absurd h c1
  rw [if_neg c1] at h ⊢
  have e1 := k1 (by simpa using c1)
  by_cases c2 : gb s A.n = 45
  · rw [if_pos c2] at h ⊢
    generalize runM s (A.n + 1) = B at *
    by_cases c3 : B.why ≠ 0
    · rw [if_pos c3] at h; exact absurd h c3
    rw [if_neg c3] at h ⊢
    have e2 := k2 (by simpa using c3)
    by_cases c4 : B.r < A.r
    · rw [if_pos c4] at h; simp at h
    · rw [if_neg c4]
      refine ⟨by dsimp only; omega, by dsimp only; omega, by simp [isR]; omega, rfl⟩
  · rw [if_neg c2]
    refine ⟨by dsimp only; omega, by dsimp only; omega, by simp [isR]; omega, rfl⟩
end Go.Proofs.YtkbhdojgdgiggaaDoor

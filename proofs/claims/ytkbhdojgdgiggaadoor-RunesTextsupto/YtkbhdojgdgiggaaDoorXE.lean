/- The document's reader of an escape. -/
import Derived.Test.YtkbhdojgdgiggaaDoorXD
namespace Go.Proofs.YtkbhdojgdgiggaaDoor
open Go.RowKit Go.Lib Go.Sort

set_option maxHeartbeats 2000000 in
set_option maxRecDepth 100000 in
theorem rEscape_one (s : ByteArray) (i : Nat) (c r : Int) (hs : s.size < 4611686018427387904) (hc : gb s (i + 1) = c)
    (h : (c = 110 ∧ r = 10) ∨ (c = 116 ∧ r = 9) ∨ (c = 114 ∧ r = 13)) (w : World) :
    Calls Tryd.prog 94 #[.string s, .int .i64 i] w fun e w' => e = .returned (Rd.val ⟨r, i + 2, 0, 0⟩) ∧ Below w.heap.size w w' := by
  have hin : i + 1 < s.size := gb_pos (by rw [hc]; omega)
  have HA := hide (rAt_any s (i + 1))
  rw [atB_in hin, hc] at HA
  go_enter Tryd.func94, Tryd.ntmps94
  rcases h with ⟨rfl, rfl⟩ | ⟨rfl, rfl⟩ | ⟨rfl, rfl⟩
  all_goals
    go_wp2_with fail
    refine (unhide HA _).mono ?_
    rintro e w' ⟨rfl, hw⟩
    obtain rfl := hw.symm
    go_wp2
    refine bodyPost_ret (v := Rd.val ⟨_, i + 2, 0, 0⟩) (by simp [results, Tryd.results94, go_sem, Rd.val]) rfl ⟨rfl, ?_⟩
    exact (Below.refl _ _).alloc (Nat.le_refl _) _
set_option maxHeartbeats 2000000 in
set_option maxRecDepth 100000 in
theorem rEscape_mark (s : ByteArray) (i : Nat) (c : Int) (hs : s.size < 4611686018427387904) (hc : gb s (i + 1) = c) (hm : markedB c = true) (w : World) :
    Calls Tryd.prog 94 #[.string s, .int .i64 i] w fun e w' => e = .returned (Rd.val ⟨c, i + 2, 0, 0⟩) ∧ Below w.heap.size w w' := by
  have hcs := marked_cases hm
  have hin : i + 1 < s.size := gb_pos (by rw [hc]; omega)
  have hin' : (i : Int) + 1 < s.size := by omega
  have HA := hide (rAt_any s (i + 1))
  rw [atB_in hin, hc] at HA
  have HM := hide (marked_any c)
  rw [hm] at HM
  have a1 : (c == 110) = false := by simp; omega
  have a2 : (c == 116) = false := by simp; omega
  have a3 : (c == 114) = false := by simp; omega
  have b0 : 0 ≤ c := by omega
  have b1 : c < 256 := by omega
  clear hcs hm
  go_enter Tryd.func94, Tryd.ntmps94
  go_wp2_with fail
  refine (unhide HA _).mono ?_
  rintro e w' ⟨rfl, hw⟩
  obtain rfl := hw.symm
  go_wp2_with fail
  refine (unhide HM _).mono ?_
  rintro e w' ⟨rfl, hw⟩
  obtain rfl := hw.symm
  go_wp2
  refine bodyPost_ret (v := Rd.val ⟨c, i + 2, 0, 0⟩) (by simp [results, Tryd.results94, go_sem, Rd.val]) rfl ⟨rfl, ?_⟩
  exact (Below.refl _ _).alloc (Nat.le_refl _) _
set_option maxHeartbeats 2000000 in
set_option maxRecDepth 100000 in
theorem rEscape_bad (s : ByteArray) (i : Nat) (c : Int) (hs : s.size < 4611686018427387904) (hi : i < s.size) (hc : gb s (i + 1) = c) (a1 : c ≠ 110) (a2 : c ≠ 116) (a3 : c ≠ 114) (a4 : markedB c = false) (a5 : c ≠ 117) (w : World) :
    Calls Tryd.prog 94 #[.string s, .int .i64 i] w fun e w' => e = .returned (badRd (i + 1)).val ∧ Below w.heap.size w w' := by
  have HA := hide (rAt_any s (i + 1))
  go_enter Tryd.func94, Tryd.ntmps94
  by_cases hin : i + 1 < s.size
  · have hin' : (i : Int) + 1 < s.size := by omega
    rw [atB_in hin, hc] at HA
    have HM := hide (marked_any c)
    rw [a4] at HM
    have b0 : 0 ≤ c := by rw [← hc, ← gb_in hin]; omega
    have b1 : c < 256 := by have := gb_lt s (i + 1); omega
    have k1 : (c == 110) = false := by simpa using a1
    have k2 : (c == 116) = false := by simpa using a2
    have k3 : (c == 114) = false := by simpa using a3
    have k5 : (c != 117) = true := by simpa using a5
    clear a4
    go_wp2_with fail
    refine (unhide HA _).mono ?_
    rintro e w' ⟨rfl, hw⟩
    obtain rfl := hw.symm
    go_wp2_with fail
    refine (unhide HM _).mono ?_
    rintro e w' ⟨rfl, hw⟩
    obtain rfl := hw.symm
    go_wp2
    refine bodyPost_ret (v := (badRd (i + 1)).val) (by simp [results, Tryd.results94, go_sem, Rd.val, badRd]) rfl ⟨rfl, ?_⟩
    exact (Below.refl _ _).alloc (Nat.le_refl _) _
  · have hin' : ¬ (i : Int) + 1 < s.size := by omega
    rw [atB_out hin] at HA
    go_wp2_with fail
    refine (unhide HA _).mono ?_
    rintro e w' ⟨rfl, hw⟩
    obtain rfl := hw.symm
    go_wp2
    refine bodyPost_ret (v := (badRd (i + 1)).val) (by simp [results, Tryd.results94, go_sem, Rd.val, badRd]) rfl ⟨rfl, ?_⟩
    exact (Below.refl _ _).alloc (Nat.le_refl _) _
set_option maxHeartbeats 2000000 in
set_option maxRecDepth 100000 in
theorem rEscape_num (s : ByteArray) (i : Nat) (hs : s.size < 4611686018427387904) (hc : gb s (i + 1) = 117) (w : World) :
    Calls Tryd.prog 94 #[.string s, .int .i64 i] w fun e w' => e = .returned (numM s i).val ∧ Below w.heap.size w w' := by
  have hin : i + 1 < s.size := gb_pos (by rw [hc]; omega)
  have hin' : (i : Int) + 1 < s.size := by omega
  have HA := hide (rAt_any s (i + 1))
  rw [atB_in hin, hc] at HA
  have HM := hide (marked_any 117)
  rw [show markedB 117 = false by decide] at HM
  have HA2 := hide (rAt_any s (i + 2))
  by_cases h1 : gb s (i + 2) = 123
  · have hin2 : i + 2 < s.size := gb_pos (by rw [h1]; omega)
    rw [atB_in hin2, h1] at HA2
    obtain ⟨K, hK⟩ : ∃ K, digs s 6 (i + 3) = K := ⟨_, rfl⟩
    have hsp := digs_spec s 6 (i + 3)
    have hM : numM s i = if K = 0 ∨ gb s (i + 3 + K) ≠ 125 then badRd (i + 3 + K) else if 1114111 < numTo s (i + 3) K then ⟨0, 0, 11, i⟩ else ⟨numTo s (i + 3) K, i + 3 + K + 1, 0, 0⟩ := by
      unfold numM; rw [if_neg (by simpa using h1), hK]
    rw [hK] at hsp
    obtain ⟨hk6, hd, hend⟩ := hsp
    have Hd := hide hd; have Hend := hide hend
    generalize numM s i = R at *
    have HR := hide hM
    clear hM hK hd hend
    go_enter Tryd.func94, Tryd.ntmps94
    go_wp2_with fail
    refine (unhide HA _).mono ?_
    rintro e w' ⟨rfl, hw⟩
    obtain rfl := hw.symm
    go_wp2_with fail
    refine (unhide HM _).mono ?_
    rintro e w' ⟨rfl, hw⟩
    obtain rfl := hw.symm
    go_wp2_with fail
    refine (unhide HA2 _).mono ?_
    rintro e w' ⟨rfl, hw⟩
    obtain rfl := hw.symm
    go_wp2
    go_loopw [8, 9] (fun x y wr => ∃ j : Nat, x = .int .i64 (numTo s (i + 3) j) ∧ y = .int .i64 (i + 3 + j : Nat) ∧ j ≤ K ∧ wr = w.alloc (.cells #[.int .i64 0, .int .i64 0] 48)) (fun _ y _ => i + 3 + K - (intOf y).toNat)
    case atStart => exact ⟨0, rfl, by go_num, by omega, rfl⟩
    case round =>
      obtain ⟨j, rfl, rfl, hj, rfl⟩ := hrel
      have hr := numTo_in s (i + 3) K (unhide Hd) j hj
      have HAj := hide (rAt_any s (i + 3 + j))
      have HDj := hide (hexed_any (atB s (i + 3 + j)) (atB_ge _ _) (atB_lt _ _))
      rw [digV_at] at HDj
      by_cases hjk : j < K
      · have hdj := unhide Hd j hjk
        have hnx : numTo s (i + 3) (j + 1) = 16 * numTo s (i + 3) j + digV (gb s (i + 3 + j)) := rfl
        have hlim : numTo s (i + 3) j < 1048576 := Int.lt_of_lt_of_le hr.2 (by
          have : (16 : Int) ^ j ≤ 16 ^ 5 := by
            have := Nat.pow_le_pow_right (n := 16) (by omega) (show j ≤ 5 by omega)
            exact_mod_cast this
          simpa using this)
        have c2 : ((i + 3 + j : Nat) : Int) < (i : Int) + 9 := by omega
        have hd16 := digV_le (gb s (i + 3 + j))
        have hi9 : i + 9 < 4611686018427387904 + 9 := by omega
        have Hnx := hide hnx
        obtain ⟨hr1, hr2⟩ := hr
        clear hnx hr2
        generalize digV (gb s (i + 3 + j)) = d at *
        generalize numTo s (i + 3) j = q at *
        generalize atB s (i + 3 + j) = a at *
        go_wp2_with fail
        refine (unhide HAj _).mono ?_
        rintro e w' ⟨rfl, hw⟩
        obtain rfl := hw.symm
        go_wp2_with fail
        refine (unhide HDj _).mono ?_
        rintro e w' ⟨rfl, hw⟩
        obtain rfl := hw.symm
        go_wp2_with fail
        refine (unhide HAj _).mono ?_
        rintro e w' ⟨rfl, hw⟩
        obtain rfl := hw.symm
        go_wp2_with fail
        refine (unhide HDj _).mono ?_
        rintro e w' ⟨rfl, hw⟩
        obtain rfl := hw.symm
        go_wp2
        refine ⟨⟨j + 1, ?_, by go_num, by omega, trivial⟩, ?_⟩
        · rw [unhide Hnx]
        · simp [intOf]; omega
      · have hjk' : j = K := by omega
        subst hjk'
        have hr6 : numTo s (i + 3) j < 16777216 := Int.lt_of_lt_of_le hr.2 (by
          have : (16 : Int) ^ j ≤ 16 ^ 6 := by
            have := Nat.pow_le_pow_right (n := 16) (by omega) hk6
            exact_mod_cast this
          simpa using this)
        have hr0 := hr.1
        have hend := unhide Hend
        have Hb1 : Hid (Below w.heap.size w (w.alloc (.cells #[.int .i64 0, .int .i64 0] 48))) := hide ((Below.refl _ _).alloc (Nat.le_refl _) _)
        have hbr := atB_eq s (i + 3 + j) 125 (by omega)
        have hg0 : Hid (gb s (i + 3 + j) = 125 ↔ atB s (i + 3 + j) = 125) := hide (by
          have := hbr; rw [Bool.eq_iff_iff] at this; simpa using this.symm)
        clear hr hbr Hend
        generalize numTo s (i + 3) j = q at *
        generalize hdd : digV (gb s (i + 3 + j)) = d at *
        generalize gb s (i + 3 + j) = g at *
        generalize atB s (i + 3 + j) = a at *
        clear hdd
        by_cases hj6 : j < 6
        · have c2 : ((i + 3 + j : Nat) : Int) < (i : Int) + 9 := by omega
          have hneg : ¬ 0 ≤ d := by rcases hend with h | h <;> omega
          by_cases hz : j = 0
          · subst hz
            go_wp2_with fail
            refine (unhide HAj _).mono ?_
            rintro e w' ⟨rfl, hw⟩
            obtain rfl := hw.symm
            go_wp2_with fail
            refine (unhide HDj _).mono ?_
            rintro e w' ⟨rfl, hw⟩
            obtain rfl := hw.symm
            go_wp2
            refine bodyPost_ret (v := (badRd (i + 3 + 0)).val) (by simp [results, Tryd.results94, go_sem, Rd.val, badRd]) rfl ⟨by rw [unhide HR, if_pos (by simp)], ?_⟩
            exact (Below.refl _ _).alloc (Nat.le_refl _) _
          · have cne : (((i + 3 + j : Nat) : Int) == (i : Int) + 3) = false := by simp; omega
            have cne2 : ((i + 3 + j : Nat) : Int) ≠ (i : Int) + 3 := by omega
            by_cases h125 : a = 125
            · have hg := (unhide hg0).2 h125
              have hc1 : Hid (¬ (j = 0 ∨ g ≠ 125)) := hide (by simp [hz, hg])
              subst h125
              clear hg
              by_cases hv : (1114111 : Int) < q
              · have HE := hide (by rw [unhide HR, if_neg (unhide hc1), if_pos hv] : R = ⟨0, 0, 11, i⟩)
                go_wp2_with fail
                refine (unhide HAj _).mono ?_
                rintro e w' ⟨rfl, hw⟩
                obtain rfl := hw.symm
                go_wp2_with fail
                refine (unhide HDj _).mono ?_
                rintro e w' ⟨rfl, hw⟩
                obtain rfl := hw.symm
                go_wp2_with fail
                refine (unhide HAj _).mono ?_
                rintro e w' ⟨rfl, hw⟩
                obtain rfl := hw.symm
                go_wp2
                refine bodyPost_ret (v := Rd.val ⟨0, 0, 11, i⟩) (by simp [results, Tryd.results94, go_sem, Rd.val]) rfl ⟨by rw [unhide HE], ?_⟩
                exact (Below.refl _ _).alloc (Nat.le_refl _) _
              · have HE := hide (by rw [unhide HR, if_neg (unhide hc1), if_neg hv] : R = ⟨q, i + 3 + j + 1, 0, 0⟩)
                go_wp2_with fail
                refine (unhide HAj _).mono ?_
                rintro e w' ⟨rfl, hw⟩
                obtain rfl := hw.symm
                go_wp2_with fail
                refine (unhide HDj _).mono ?_
                rintro e w' ⟨rfl, hw⟩
                obtain rfl := hw.symm
                go_wp2_with fail
                refine (unhide HAj _).mono ?_
                rintro e w' ⟨rfl, hw⟩
                obtain rfl := hw.symm
                go_wp2
                refine bodyPost_ret (v := Rd.val ⟨q, i + 3 + j + 1, 0, 0⟩) (by simp [results, Tryd.results94, go_sem, Rd.val]) rfl ⟨by rw [unhide HE], ?_⟩
                exact unhide Hb1
            · have hgn : Hid (g ≠ 125) := hide fun e => h125 ((unhide hg0).1 e)
              have ha : (a != 125) = true := by simpa using h125
              go_wp2_with fail
              refine (unhide HAj _).mono ?_
              rintro e w' ⟨rfl, hw⟩
              obtain rfl := hw.symm
              go_wp2_with fail
              refine (unhide HDj _).mono ?_
              rintro e w' ⟨rfl, hw⟩
              obtain rfl := hw.symm
              go_wp2_with fail
              refine (unhide HAj _).mono ?_
              rintro e w' ⟨rfl, hw⟩
              obtain rfl := hw.symm
              go_wp2
              refine bodyPost_ret (v := (badRd (i + 3 + j)).val) (by simp [results, Tryd.results94, go_sem, Rd.val, badRd]) rfl ⟨by rw [unhide HR, if_pos (.inr (unhide hgn))], ?_⟩
              exact (Below.refl _ _).alloc (Nat.le_refl _) _
        · have c2 : ¬ ((i + 3 + j : Nat) : Int) < (i : Int) + 9 := by omega
          by_cases hz : j = 0
          · exfalso; omega
          · have cne : (((i + 3 + j : Nat) : Int) == (i : Int) + 3) = false := by simp; omega
            have cne2 : ((i + 3 + j : Nat) : Int) ≠ (i : Int) + 3 := by omega
            by_cases h125 : a = 125
            · have hg := (unhide hg0).2 h125
              have hc1 : Hid (¬ (j = 0 ∨ g ≠ 125)) := hide (by simp [hz, hg])
              subst h125
              clear hg
              by_cases hv : (1114111 : Int) < q
              · have HE := hide (by rw [unhide HR, if_neg (unhide hc1), if_pos hv] : R = ⟨0, 0, 11, i⟩)
                go_wp2_with fail
                refine (unhide HAj _).mono ?_
                rintro e w' ⟨rfl, hw⟩
                obtain rfl := hw.symm
                go_wp2
                refine bodyPost_ret (v := Rd.val ⟨0, 0, 11, i⟩) (by simp [results, Tryd.results94, go_sem, Rd.val]) rfl ⟨by rw [unhide HE], ?_⟩
                exact (Below.refl _ _).alloc (Nat.le_refl _) _
              · have HE := hide (by rw [unhide HR, if_neg (unhide hc1), if_neg hv] : R = ⟨q, i + 3 + j + 1, 0, 0⟩)
                go_wp2_with fail
                refine (unhide HAj _).mono ?_
                rintro e w' ⟨rfl, hw⟩
                obtain rfl := hw.symm
                go_wp2
                refine bodyPost_ret (v := Rd.val ⟨q, i + 3 + j + 1, 0, 0⟩) (by simp [results, Tryd.results94, go_sem, Rd.val]) rfl ⟨by rw [unhide HE], ?_⟩
                exact unhide Hb1
            · have hgn : Hid (g ≠ 125) := hide fun e => h125 ((unhide hg0).1 e)
              have ha : (a != 125) = true := by simpa using h125
              go_wp2_with fail
              refine (unhide HAj _).mono ?_
              rintro e w' ⟨rfl, hw⟩
              obtain rfl := hw.symm
              go_wp2
              refine bodyPost_ret (v := (badRd (i + 3 + j)).val) (by simp [results, Tryd.results94, go_sem, Rd.val, badRd]) rfl ⟨by rw [unhide HR, if_pos (.inr (unhide hgn))], ?_⟩
              exact (Below.refl _ _).alloc (Nat.le_refl _) _
  · have hM : numM s i = badRd (i + 2) := by unfold numM; rw [if_pos h1]
    rw [hM]
    have k1 : (atB s (i + 2) != 123) = true := by rw [bne, atB_eq s (i + 2) 123 (by omega)]; simpa using h1
    generalize atB s (i + 2) = a at *
    go_enter Tryd.func94, Tryd.ntmps94
    go_wp2_with fail
    refine (unhide HA _).mono ?_
    rintro e w' ⟨rfl, hw⟩
    obtain rfl := hw.symm
    go_wp2_with fail
    refine (unhide HM _).mono ?_
    rintro e w' ⟨rfl, hw⟩
    obtain rfl := hw.symm
    go_wp2_with fail
    refine (unhide HA2 _).mono ?_
    rintro e w' ⟨rfl, hw⟩
    obtain rfl := hw.symm
    go_wp2
    refine bodyPost_ret (v := (badRd (i + 2)).val) (by simp [results, Tryd.results94, go_sem, Rd.val, badRd]) rfl ⟨rfl, ?_⟩
    exact (Below.refl _ _).alloc (Nat.le_refl _) _
theorem rEscape_any (s : ByteArray) (i : Nat) (hs : s.size < 4611686018427387904) (hi : i < s.size) (w : World) :
    Calls Tryd.prog 94 #[.string s, .int .i64 i] w fun e w' => e = .returned (escM s i).val ∧ Below w.heap.size w w' := by
  unfold escM
  by_cases h1 : gb s (i + 1) = 110
  · rw [if_pos h1]; exact rEscape_one s i 110 10 hs h1 (.inl ⟨rfl, rfl⟩) w
  rw [if_neg h1]
  by_cases h2 : gb s (i + 1) = 116
  · rw [if_pos h2]; exact rEscape_one s i 116 9 hs h2 (.inr (.inl ⟨rfl, rfl⟩)) w
  rw [if_neg h2]
  by_cases h3 : gb s (i + 1) = 114
  · rw [if_pos h3]; exact rEscape_one s i 114 13 hs h3 (.inr (.inr ⟨rfl, rfl⟩)) w
  rw [if_neg h3]
  by_cases h4 : markedB (gb s (i + 1)) = true
  · rw [if_pos h4]; exact rEscape_mark s i _ hs rfl h4 w
  rw [if_neg h4]
  by_cases h5 : gb s (i + 1) = 117
  · rw [if_pos h5]; exact rEscape_num s i hs h5 w
  rw [if_neg h5]
  exact rEscape_bad s i _ hs hi rfl h1 h2 h3 (Bool.eq_false_iff.2 h4) h5 w
end Go.Proofs.YtkbhdojgdgiggaaDoor

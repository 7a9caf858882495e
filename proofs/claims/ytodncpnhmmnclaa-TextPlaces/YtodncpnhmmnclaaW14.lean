/- Contract of the reference's Byte. -/
import Derived.Test.YtodncpnhmmnclaaW13
namespace Go.Proofs.Ytodncpnhmmnclaa
open Go.RowKit

/-- Lines that the text has not. -/
theorem no_line (s : ByteArray) (l c : Int) (h : l < 1 ∨ (nlc s s.size : Int) + 1 < l) : ∀ k, ¬ Here s k l c := by
  intro k hk
  obtain ⟨h1, _⟩ := hk
  have hb := st_bounds s k
  have hl := st_line s k
  have hm := nlc_mono s (st s k).1 s.size hb.1
  omega
/-- Pieces ahead of a line's first one stand on lines ahead of it. -/
theorem ahead_line (s : ByteArray) (k0 t : Nat) (h3 : (st s k0).2.2 = 1) (h4 : ∀ t, t < k0 → (st s t).1 < s.size) (ht : t < k0) : (st s t).2.1 < (st s k0).2.1 := by
  have := st_lex s t k0 ht (h4 t ht)
  have hb := st_bounds s t
  omega
theorem start_of (s : ByteArray) (k : Nat) (l : Int) (hl : (nlc s k : Int) + 1 = l) (h : ∀ t, t < k → (nlc s t : Int) + 1 < l) : beg s k = k := by
  cases k with
  | zero => rfl
  | succ k =>
    have := h k (by omega)
    by_cases e : bt s k = 10
    · simp [beg, e]
    · simp only [nlc, e, if_false] at hl; omega

set_option maxHeartbeats 2000000 in
set_option maxRecDepth 100000 in
theorem rByte_any (s : ByteArray) (hs : s.size ≤ 281474976710656) (l c : Int) (w : World) :
    Calls Try.prog 23 #[.string s, .int .i64 l, .int .i64 c] w fun e w' => ∃ n m : Int, e = .returned (.tuple #[.int .i64 n, .int .i64 m]) ∧ ByteIs s l c n m ∧ Below w.heap.size w w' := by
  go_enter Try.func23, Try.ntmps23
  go_wp2
  go_loop [8, 9] (fun a n => ∃ k : Nat, k ≤ s.size ∧ a = .int .i64 (k : Int) ∧ n = .int .i64 ((nlc s k : Int) + 1) ∧ ∀ t, t < k → (nlc s t : Int) + 1 < l) (fun a _ => s.size - (intOf a).toNat)
  case atStart => exact ⟨0, Nat.zero_le _, rfl, rfl, fun t ht => by omega⟩
  case round =>
    obtain ⟨k, hk, rfl, rfl, hall⟩ := hrel
    have hnl := nlc_le s k
    have Hall := hide hall
    clear hall
    by_cases hc : k < s.size ∧ (nlc s k : Int) + 1 < l
    · obtain ⟨hlt, hln⟩ := hc
      have hlt' : (k : Int) < (s.size : Int) := by omega
      have hix := index_bt s k (by omega)
      have hb := bt_lt s k
      by_cases e : bt s k = 10
      · have e1 : ((bt s k : Int) == 10) = true := by simp [e]
        have Hn := hide (show nlc s (k + 1) = nlc s k + 1 by simp [nlc, e])
        clear e
        go_wp2
        go_round
        case rel =>
          refine ⟨k + 1, by omega, by go_num, by rw [unhide Hn]; go_num, fun t ht => ?_⟩
          by_cases et : t = k
          · subst et; exact hln
          · exact unhide Hall t (by omega)
        case measure => simp [intOf]; omega
      · have e1 : ((bt s k : Int) == 10) = false := by simp; omega
        have Hn := hide (show nlc s (k + 1) = nlc s k by simp [nlc, e])
        clear e
        go_wp2
        go_round
        case rel =>
          refine ⟨k + 1, by omega, by go_num, by rw [unhide Hn], fun t ht => ?_⟩
          by_cases et : t = k
          · subst et; exact hln
          · exact unhide Hall t (by omega)
        case measure => simp [intOf]; omega
    · have Hno : Hid ((nlc s k : Int) + 1 ≠ l → ∀ j, ¬ Here s j l c) := hide fun hne => by
        refine no_line s l c ?_
        by_cases hlow : (nlc s k : Int) + 1 < l
        · have : k = s.size := by omega
          subst this; exact .inr hlow
        · left
          cases k with
          | zero => simp [nlc] at *; omega
          | succ k =>
            have := unhide Hall k (by omega)
            have : nlc s (k + 1) ≤ nlc s k + 1 := by simp only [nlc]; split <;> omega
            omega
      have hge : (s.size : Int) ≤ (k : Int) ∨ l ≤ (nlc s k : Int) + 1 := by omega
      by_cases he : (nlc s k : Int) + 1 = l
      · have b1 : ((nlc s k : Int) + 1 != l) = false := by simp [he]
        have hstart := start_of s k l he (unhide Hall)
        obtain ⟨k0, hk1, hk2, hk3, hk4⟩ := line_start s k hk
        rw [hstart] at hk1
        have hnn : ¬ (nlc s k : Int) + 1 < l := by omega
        have hl1 : ¬ l < 1 := by omega
        have Hk1 := hide hk1; have Hk2 := hide hk2; have Hk3 := hide hk3; have Hk4 := hide hk4; have He := hide he
        clear hk1 hk2 hk3 hk4 he hstart hge hc
        by_cases hq : (k : Int) < (s.size : Int)
        all_goals
          go_wp2
          go_loopw [8, 10] (fun a n wr => ∃ j : Nat, k0 ≤ j ∧ a = .int .i64 ((st s j).1 : Int) ∧ n = .int .i64 ((st s j).2.2 : Int) ∧ (st s j).2.1 = nlc s k + 1 ∧ (∀ t, k0 ≤ t → t < j → (st s t).1 < s.size ∧ ((st s t).2.2 : Int) ≠ c) ∧ Below w.heap.size w wr) (fun a _ _ => s.size - (intOf a).toNat)
          case atStart => exact ⟨k0, Nat.le_refl _, by rw [unhide Hk1], by rw [unhide Hk3]; rfl, unhide Hk2, fun t h1 h2 => by omega, Below.refl _ _⟩
          case round =>
            obtain ⟨j, hj, rfl, rfl, hln, hall2, hbel⟩ := hrel
            have hbd := st_bounds s j
            have hsz := hbel.size
            have Hall2 := hide hall2; have Hbel := hide hbel; have Hln := hide hln
            clear hall2 hbel hln
            by_cases hcol : ((st s j).2.2 : Int) = c
            · have b2 : (((st s j).2.2 : Int) == c) = true := by simp [hcol]
              have Hcol := hide hcol
              clear hcol
              go_wp2
              go_ret2
              refine ⟨(st s j).1, 0, rfl, .inl ⟨j, ⟨?_, unhide Hcol⟩, fun t ht => ?_, rfl, rfl⟩, unhide Hbel⟩
              · rw [unhide Hln]; have := unhide He; omega
              · by_cases ht0 : t < k0
                · refine ⟨unhide Hk4 t ht0, fun hh => ?_⟩
                  have h1 := ahead_line s k0 t (unhide Hk3) (unhide Hk4) ht0
                  rw [unhide Hk2] at h1
                  have h2 := hh.1
                  have := unhide He
                  omega
                · have := unhide Hall2 t (by omega) ht
                  exact ⟨this.1, fun hh => this.2 hh.2⟩
            · have b2 : (((st s j).2.2 : Int) == c) = false := by simp [hcol]
              have Hcol := hide hcol
              clear hcol
              have Hnone : Hid ((¬ (st s j).1 < s.size ∨ bt s (st s j).1 = 10) → ∀ t, ¬ Here s t l c) := hide fun hor t hh => by
                by_cases ht0 : t < k0
                · have h1 := ahead_line s k0 t (unhide Hk3) (unhide Hk4) ht0
                  rw [unhide Hk2] at h1
                  have h2 := hh.1
                  have := unhide He
                  omega
                · by_cases htj : t < j
                  · exact (unhide Hall2 t (by omega) htj).2 hh.2
                  · by_cases e : t = j
                    · subst e; exact unhide Hcol hh.2
                    · rcases hor with hend | hnl2
                      · unfold Here at hh
                        rw [st_stay s j t (by omega) hend] at hh
                        exact unhide Hcol hh.2
                      · by_cases hpz : (st s j).1 < s.size
                        · have hs1 := st_nl s j hpz (by rw [dec_nl s _ hnl2])
                          have h5 : (st s (j + 1)).2.1 ≤ (st s t).2.1 := by
                            by_cases e2 : t = j + 1
                            · subst e2; exact Nat.le_refl _
                            · by_cases hp2 : (st s (j + 1)).1 < s.size
                              · have := st_lex s (j + 1) t (by omega) hp2; omega
                              · rw [st_stay s (j + 1) t (by omega) hp2]; exact Nat.le_refl _
                          rw [hs1] at h5
                          have h2 := hh.1
                          have := unhide He
                          have := unhide Hln
                          simp only at h5
                          omega
                        · unfold Here at hh
                          rw [st_stay s j t (by omega) hpz] at hh
                          exact unhide Hcol hh.2
              by_cases hp : (st s j).1 < s.size
              · have hp' : ¬ (s.size : Int) ≤ ((st s j).1 : Int) := by omega
                have hix := index_bt s (st s j).1 hp
                have hb := bt_lt s (st s j).1
                by_cases e : bt s (st s j).1 = 10
                · have e1 : ((bt s (st s j).1 : Int) == 10) = true := by simp [e]
                  have Hno2 := hide (unhide Hnone (.inr e))
                  clear e
                  go_wp2
                  go_ret2
                  exact ⟨0, 13, rfl, .inr ⟨unhide Hno2, rfl, rfl⟩, unhide Hbel⟩
                · have e1 : ((bt s (st s j).1 : Int) == 10) = false := by simp; omega
                  obtain ⟨r, b, hx⟩ := nextW s (st s j).1 hp
                  have HX := hide (rNext_any s (st s j).1 (by omega))
                  rw [hx] at HX
                  have hw := width_pos s (st s j).1 hp
                  have Hst := hide (st_else s j hp (dec_no s _ e))
                  clear hx e Hnone
                  generalize hq2 : st s j = q at *
                  have Hq := hide hq2
                  clear hq2
                  obtain ⟨q1, q2, q3⟩ := q
                  simp only at *
                  generalize (Utf8.decode s q1).2 = d at *
                  go_wp2_with fail
                  refine (unhide HX _).mono ?_
                  rintro e w1 ⟨rfl, hb1⟩
                  go_wp2
                  go_roundw
                  case rel =>
                    refine ⟨j + 1, by omega, by rw [unhide Hst]; go_num, by rw [unhide Hst]; go_num, by rw [unhide Hst]; exact unhide Hln, fun t h1 h2 => ?_, (unhide Hbel).trans (hb1.mono hsz)⟩
                    by_cases e : t = j
                    · subst e; rw [unhide Hq]; exact ⟨hp, unhide Hcol⟩
                    · exact unhide Hall2 t h1 (by omega)
                  case measure => simp [intOf]; omega
              · have hp' : (s.size : Int) ≤ ((st s j).1 : Int) := by omega
                have Hno2 := hide (unhide Hnone (.inl hp))
                go_wp2
                go_ret2
                exact ⟨0, 13, rfl, .inr ⟨unhide Hno2, rfl, rfl⟩, unhide Hbel⟩
      · have b1 : ((nlc s k : Int) + 1 != l) = true := by simp [he]
        have Hn2 := hide (unhide Hno he)
        by_cases hq : (k : Int) < (s.size : Int)
        · have hq2 : ¬ (nlc s k : Int) + 1 < l := by omega
          go_wp2
          go_ret2
          exact ⟨0, 13, rfl, .inr ⟨unhide Hn2, rfl, rfl⟩, Below.refl _ _⟩
        · go_wp2
          go_ret2
          exact ⟨0, 13, rfl, .inr ⟨unhide Hn2, rfl, rfl⟩, Below.refl _ _⟩
end Go.Proofs.Ytodncpnhmmnclaa

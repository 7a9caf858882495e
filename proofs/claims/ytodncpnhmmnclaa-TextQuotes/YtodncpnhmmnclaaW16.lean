/- Contract of readRune. -/
import Derived.Test.YtodncpnhmmnclaaW15
namespace Go.Proofs.Ytodncpnhmmnclaa
open Go.RowKit

theorem numGo_stop (n : Nat) (f : Nat → Nat) (k i v : Nat) (h : ¬ (i < n ∧ 0 ≤ hexV (f i))) : numGo n f k i v = (i, v) := by cases k <;> simp only [numGo]; rw [if_neg h]
theorem numGo_step (n : Nat) (f : Nat → Nat) (k i v : Nat) (h1 : i < n) (h2 : 0 ≤ hexV (f i)) : numGo n f (k + 1) i v = numGo n f k (i + 1) (16 * v + (hexV (f i)).toNat) := by simp only [numGo]; rw [if_pos ⟨h1, h2⟩]
theorem numF_no1 (n : Nat) (f : Nat → Nat) (h : ¬ (2 < n ∧ f 2 = 123)) : numF n f = ([], 0) := by
  have : numOk n f = false := by
    cases h2 : numOk n f
    · rfl
    · simp only [numOk, Bool.and_eq_true, decide_eq_true_eq] at h2; exact absurd ⟨h2.1, h2.2.1⟩ h
  unfold numF; rw [this]; rfl
theorem numF_no (n : Nat) (f : Nat → Nat) (i v : Nat) (hg : numGo n f 6 3 0 = (i, v)) (h : ¬ (4 ≤ i ∧ ¬ (4 < i ∧ f 3 = 48) ∧ i < n ∧ f i = 125 ∧ Utf8.valid (v : Int) = true)) : numF n f = ([], 0) := by
  have : numOk n f = false := by
    cases h2 : numOk n f
    · rfl
    · simp only [numOk, hg, Bool.and_eq_true, decide_eq_true_eq, Bool.not_eq_true', Bool.and_eq_false_iff, decide_eq_false_iff_not] at h2
      exact absurd ⟨h2.2.2.1, fun hh => by rcases h2.2.2.2.1 with q | q; exact q hh.1; exact q hh.2, h2.2.2.2.2.1, h2.2.2.2.2.2.1, h2.2.2.2.2.2.2⟩ h
  unfold numF; rw [this]; rfl
theorem numF_yes (n : Nat) (f : Nat → Nat) (i v : Nat) (hg : numGo n f 6 3 0 = (i, v)) (h1 : 2 < n) (h2 : f 2 = 123) (h : 4 ≤ i ∧ ¬ (4 < i ∧ f 3 = 48) ∧ i < n ∧ f i = 125 ∧ Utf8.valid (v : Int) = true) : numF n f = (Lib.encodeRune (v : Int), i + 1) := by
  have : numOk n f = true := by
    simp only [numOk, hg, Bool.and_eq_true, decide_eq_true_eq, Bool.not_eq_true', Bool.and_eq_false_iff, decide_eq_false_iff_not]
    refine ⟨h1, h2, h.1, ?_, h.2.2.1, h.2.2.2.1, h.2.2.2.2⟩
    by_cases e : 4 < i
    · exact .inr fun q => h.2.1 ⟨e, q⟩
    · exact .inl e
  unfold numF; rw [this, hg]; rfl
theorem pow_bd (i v : Nat) (h : v < 16 ^ (i - 3)) (hi : i ≤ 8) : v < 1048576 := by
  have : 16 ^ (i - 3) ≤ 16 ^ 5 := Nat.pow_le_pow_right (by omega) (by omega)
  omega
theorem pow_bd9 (i v : Nat) (h : v < 16 ^ (i - 3)) (hi : i ≤ 9) : v < 16777216 := by
  have : 16 ^ (i - 3) ≤ 16 ^ 6 := Nat.pow_le_pow_right (by omega) (by omega)
  omega
theorem pow_step (i v d : Nat) (h : v < 16 ^ (i - 3)) (hi : 3 ≤ i) (hd : d ≤ 15) : 16 * v + d < 16 ^ (i + 1 - 3) := by
  rw [show i + 1 - 3 = (i - 3) + 1 by omega, Nat.pow_succ]
  omega

set_option maxHeartbeats 4000000 in
set_option maxRecDepth 100000 in
theorem readRune_any (t : ByteArray) (hs : t.size ≤ 281474976710656) (w : World) :
    Calls Try.prog 51 #[.string t] w fun e w' => e = .returned (.tuple #[.string ⟨(numF t.size (bt t)).1.toArray⟩, .int .i64 ((numF t.size (bt t)).2 : Int)]) ∧ Below w.heap.size w w' := by
  by_cases hn : 2 < t.size
  · have hn2 : ¬ (t.size : Int) < 3 := by omega
    have j2 : ∀ w, (Instr.index 9 (.string t) (.int .i64 2)).run Try.prog w = .ok (.int .u8 (bt t 2 : Int)) w := fun w => index_bt t 2 (by omega) w
    have b2 := bt_lt t 2
    by_cases h2 : bt t 2 = 123
    · have c2 : ((bt t 2 : Int) != 123) = false := by simp; omega
      have Hno := hide (fun i v hg => numF_no t.size (bt t) i v hg)
      have Hye := hide (fun i v hg h => numF_yes t.size (bt t) i v hg hn h2 h)
      have H2 := hide h2
      clear h2
      generalize numF t.size (bt t) = X at *
      go_enter Try.func51, Try.ntmps51
      go_wp2
      go_loopw [4, 5] (fun x y wr => ∃ i v : Nat, 3 ≤ i ∧ i ≤ 9 ∧ i ≤ t.size ∧ x = .int .i32 (v : Int) ∧ y = .int .i64 (i : Int) ∧ v < 16 ^ (i - 3) ∧ numGo t.size (bt t) (9 - i) i v = numGo t.size (bt t) 6 3 0 ∧ wr = w) (fun _ y _ => 9 - (intOf y).toNat)
      case atStart => exact ⟨3, 0, by omega, by omega, by omega, rfl, rfl, by simp, rfl, rfl⟩
      case round =>
        obtain ⟨i, v, hi3, hi9, hin, rfl, rfl, hv, hgo, hw⟩ := hrel
        subst hw
        have hv9 := pow_bd9 i v hv hi9
        have Hv := hide hv; have Hgo := hide hgo
        clear hv hgo
        by_cases hc : i < t.size ∧ i < 9
        · obtain ⟨hit, hi8⟩ := hc
          have hit' : (i : Int) < (t.size : Int) := by omega
          have hi8' : (i : Int) < 9 := by omega
          have jx := index_bt t i hit
          have bx := bt_lt t i
          have HX := hide (idx_any (bt t i) bx)
          have hb := hexV_bd (bt t i)
          have hv8 := pow_bd i v (unhide Hv) (by omega)
          have Hst := hide (fun h => numGo_step t.size (bt t) (8 - i) i v hit h)
          have Hsp := hide (fun h => numGo_stop t.size (bt t) (9 - i) i v h)
          generalize hd : hexV (bt t i) = d at *
          have Hd := hide hd
          clear hd
          by_cases hd0 : 0 ≤ d
          · have hsh : bits .or .i32 ((v : Int) * 16) d = (v : Int) * 16 + d := or4_i32 _ _ (by omega) (by omega) (by omega) hd0 (by omega)
            go_wp2_with fail
            refine (unhide HX _).mono ?_
            rintro e w1 ⟨rfl, rfl⟩
            go_wp2
            go_roundw
            case rel =>
              refine ⟨i + 1, 16 * v + d.toNat, by omega, by omega, by omega, ?_, by go_num, pow_step i v _ (unhide Hv) hi3 (by omega), ?_, by first | rfl | trivial⟩
              · exact congrArg (Value.int .i32) (by omega)
              · rw [← unhide Hgo, show 9 - i = (8 - i) + 1 by omega, unhide Hst hd0, show 9 - (i + 1) = 8 - i by omega]
            case measure => simp [intOf]; omega
          · have HG : Hid (numGo t.size (bt t) 6 3 0 = (i, v)) := hide (by rw [← unhide Hgo]; exact unhide Hsp (fun h => hd0 h.2))
            have Hok := hide (unhide Hno i v (unhide HG))
            have Hyes := hide (unhide Hye i v (unhide HG))
            clear Hst Hsp Hgo Hv Hno Hye
            go_wp2_with fail
            refine (unhide HX _).mono ?_
            rintro e w1 ⟨rfl, rfl⟩
            clear HX jx
            have h3i : (3 : Int) ≤ (i : Int) := by omega
            by_cases a1 : i = 3
            · first
                | (exfalso; omega)
                | (subst a1
                   have Hr := hide (unhide Hok (by omega))
                   go_wp2
                   go_ret2
                   rw [unhide Hr]
                   exact ⟨rfl, Below.refl _ _⟩)
            · have a4 : 4 ≤ i := by omega
              have j3 : ∀ w, (Instr.index 9 (.string t) (.int .i64 3)).run Try.prog w = .ok (.int .u8 (bt t 3 : Int)) w := fun w => index_bt t 3 (by omega) w
              have b3 := bt_lt t 3
              by_cases a5 : 4 < i ∧ bt t 3 = 48
              · have Hr := hide (unhide Hok (fun h => h.2.1 a5))
                have c1 : ((i : Int) == 4) = false := by simp; omega
                have c2 : (4 : Int) < (i : Int) := by omega
                have c3 : ((bt t 3 : Int) != 48) = false := by simp; omega
                clear a5
                go_wp2
                go_ret2
                rw [unhide Hr]
                exact ⟨rfl, Below.refl _ _⟩
              · have hone : ((i : Int) == 4) = true ∨ (((i : Int) == 4) = false ∧ (4 : Int) < (i : Int) ∧ ((bt t 3 : Int) != 48) = true) := by
                  by_cases e : i = 4
                  · left; simp; omega
                  · right; refine ⟨by simp; omega, by omega, by simp; omega⟩
                by_cases a6 : i < t.size
                · have c6 : ¬ (t.size : Int) ≤ (i : Int) := by omega
                  have ji := index_bt t i a6
                  have bi := bt_lt t i
                  by_cases a7 : bt t i = 125
                  · have c7 : ((bt t i : Int) != 125) = false := by simp; omega
                    cases hv2 : Utf8.valid (v : Int)
                    · have Hr := hide (unhide Hok (fun h => by rw [hv2] at h; exact absurd h.2.2.2.2 (by simp)))
                      have HE := hide (encode_bad (v : Int) hv2)
                      clear hv2 a7
                      rcases hone with c1 | ⟨c1, c2, c3⟩
                      all_goals
                        go_wp2_with fail
                        refine (unhide HE _).mono ?_
                        rintro e w1 ⟨rfl, rfl⟩
                        go_wp2
                        go_ret2
                        rw [unhide Hr]
                        exact ⟨rfl, Below.refl _ _⟩
                    · have Hr := hide (unhide Hyes ⟨a4, a5, a6, a7, hv2⟩)
                      have HE := hide (encode_good (v : Int) hv2)
                      clear hv2 a7
                      rcases hone with c1 | ⟨c1, c2, c3⟩
                      all_goals
                        go_wp2_with fail
                        refine (unhide HE _).mono ?_
                        rintro e w1 ⟨rfl, rfl⟩
                        go_wp2
                        go_ret2
                        rw [unhide Hr]
                        exact ⟨rfl, Below.refl _ _⟩
                  · have c7 : ((bt t i : Int) != 125) = true := by simp; omega
                    have Hr := hide (unhide Hok (fun h => a7 h.2.2.2.1))
                    clear a7
                    rcases hone with c1 | ⟨c1, c2, c3⟩
                    all_goals
                      go_wp2
                      go_ret2
                      rw [unhide Hr]
                      exact ⟨rfl, Below.refl _ _⟩
                · have c6 : (t.size : Int) ≤ (i : Int) := by omega
                  have Hr := hide (unhide Hok (fun h => a6 h.2.2.1))
                  rcases hone with c1 | ⟨c1, c2, c3⟩
                  all_goals
                    go_wp2
                    go_ret2
                    rw [unhide Hr]
                    exact ⟨rfl, Below.refl _ _⟩
        · have HG : Hid (numGo t.size (bt t) 6 3 0 = (i, v)) := hide (by
            rw [← unhide Hgo]
            by_cases e : i = 9
            · subst e; rfl
            · exact numGo_stop _ _ _ _ _ (fun h => hc ⟨h.1, by omega⟩))
          have Hok := hide (unhide Hno i v (unhide HG))
          have Hyes := hide (unhide Hye i v (unhide HG))
          have hcc : (t.size : Int) ≤ (i : Int) ∨ (9 : Int) ≤ (i : Int) := by omega
          clear Hgo Hv Hno Hye hc
          by_cases hq : (i : Int) < (t.size : Int)
          · have hq9 : ¬ (i : Int) < 9 := by omega
            clear hcc
            have h3i : (3 : Int) ≤ (i : Int) := by omega
            by_cases a1 : i = 3
            · first
                | (exfalso; omega)
                | (subst a1
                   have Hr := hide (unhide Hok (by omega))
                   go_wp2
                   go_ret2
                   rw [unhide Hr]
                   exact ⟨rfl, Below.refl _ _⟩)
            · have a4 : 4 ≤ i := by omega
              have j3 : ∀ w, (Instr.index 9 (.string t) (.int .i64 3)).run Try.prog w = .ok (.int .u8 (bt t 3 : Int)) w := fun w => index_bt t 3 (by omega) w
              have b3 := bt_lt t 3
              by_cases a5 : 4 < i ∧ bt t 3 = 48
              · have Hr := hide (unhide Hok (fun h => h.2.1 a5))
                have c1 : ((i : Int) == 4) = false := by simp; omega
                have c2 : (4 : Int) < (i : Int) := by omega
                have c3 : ((bt t 3 : Int) != 48) = false := by simp; omega
                clear a5
                go_wp2
                go_ret2
                rw [unhide Hr]
                exact ⟨rfl, Below.refl _ _⟩
              · have hone : ((i : Int) == 4) = true ∨ (((i : Int) == 4) = false ∧ (4 : Int) < (i : Int) ∧ ((bt t 3 : Int) != 48) = true) := by
                  by_cases e : i = 4
                  · left; simp; omega
                  · right; refine ⟨by simp; omega, by omega, by simp; omega⟩
                by_cases a6 : i < t.size
                · have c6 : ¬ (t.size : Int) ≤ (i : Int) := by omega
                  have ji := index_bt t i a6
                  have bi := bt_lt t i
                  by_cases a7 : bt t i = 125
                  · have c7 : ((bt t i : Int) != 125) = false := by simp; omega
                    cases hv2 : Utf8.valid (v : Int)
                    · have Hr := hide (unhide Hok (fun h => by rw [hv2] at h; exact absurd h.2.2.2.2 (by simp)))
                      have HE := hide (encode_bad (v : Int) hv2)
                      clear hv2 a7
                      rcases hone with c1 | ⟨c1, c2, c3⟩
                      all_goals
                        go_wp2_with fail
                        refine (unhide HE _).mono ?_
                        rintro e w1 ⟨rfl, rfl⟩
                        go_wp2
                        go_ret2
                        rw [unhide Hr]
                        exact ⟨rfl, Below.refl _ _⟩
                    · have Hr := hide (unhide Hyes ⟨a4, a5, a6, a7, hv2⟩)
                      have HE := hide (encode_good (v : Int) hv2)
                      clear hv2 a7
                      rcases hone with c1 | ⟨c1, c2, c3⟩
                      all_goals
                        go_wp2_with fail
                        refine (unhide HE _).mono ?_
                        rintro e w1 ⟨rfl, rfl⟩
                        go_wp2
                        go_ret2
                        rw [unhide Hr]
                        exact ⟨rfl, Below.refl _ _⟩
                  · have c7 : ((bt t i : Int) != 125) = true := by simp; omega
                    have Hr := hide (unhide Hok (fun h => a7 h.2.2.2.1))
                    clear a7
                    rcases hone with c1 | ⟨c1, c2, c3⟩
                    all_goals
                      go_wp2
                      go_ret2
                      rw [unhide Hr]
                      exact ⟨rfl, Below.refl _ _⟩
                · have c6 : (t.size : Int) ≤ (i : Int) := by omega
                  have Hr := hide (unhide Hok (fun h => a6 h.2.2.1))
                  rcases hone with c1 | ⟨c1, c2, c3⟩
                  all_goals
                    go_wp2
                    go_ret2
                    rw [unhide Hr]
                    exact ⟨rfl, Below.refl _ _⟩
          · clear hcc
            have h3i : (3 : Int) ≤ (i : Int) := by omega
            by_cases a1 : i = 3
            · first
                | (exfalso; omega)
                | (subst a1
                   have Hr := hide (unhide Hok (by omega))
                   go_wp2
                   go_ret2
                   rw [unhide Hr]
                   exact ⟨rfl, Below.refl _ _⟩)
            · have a4 : 4 ≤ i := by omega
              have j3 : ∀ w, (Instr.index 9 (.string t) (.int .i64 3)).run Try.prog w = .ok (.int .u8 (bt t 3 : Int)) w := fun w => index_bt t 3 (by omega) w
              have b3 := bt_lt t 3
              by_cases a5 : 4 < i ∧ bt t 3 = 48
              · have Hr := hide (unhide Hok (fun h => h.2.1 a5))
                have c1 : ((i : Int) == 4) = false := by simp; omega
                have c2 : (4 : Int) < (i : Int) := by omega
                have c3 : ((bt t 3 : Int) != 48) = false := by simp; omega
                clear a5
                go_wp2
                go_ret2
                rw [unhide Hr]
                exact ⟨rfl, Below.refl _ _⟩
              · have hone : ((i : Int) == 4) = true ∨ (((i : Int) == 4) = false ∧ (4 : Int) < (i : Int) ∧ ((bt t 3 : Int) != 48) = true) := by
                  by_cases e : i = 4
                  · left; simp; omega
                  · right; refine ⟨by simp; omega, by omega, by simp; omega⟩
                by_cases a6 : i < t.size
                · have c6 : ¬ (t.size : Int) ≤ (i : Int) := by omega
                  have ji := index_bt t i a6
                  have bi := bt_lt t i
                  by_cases a7 : bt t i = 125
                  · have c7 : ((bt t i : Int) != 125) = false := by simp; omega
                    cases hv2 : Utf8.valid (v : Int)
                    · have Hr := hide (unhide Hok (fun h => by rw [hv2] at h; exact absurd h.2.2.2.2 (by simp)))
                      have HE := hide (encode_bad (v : Int) hv2)
                      clear hv2 a7
                      rcases hone with c1 | ⟨c1, c2, c3⟩
                      all_goals
                        go_wp2_with fail
                        refine (unhide HE _).mono ?_
                        rintro e w1 ⟨rfl, rfl⟩
                        go_wp2
                        go_ret2
                        rw [unhide Hr]
                        exact ⟨rfl, Below.refl _ _⟩
                    · have Hr := hide (unhide Hyes ⟨a4, a5, a6, a7, hv2⟩)
                      have HE := hide (encode_good (v : Int) hv2)
                      clear hv2 a7
                      rcases hone with c1 | ⟨c1, c2, c3⟩
                      all_goals
                        go_wp2_with fail
                        refine (unhide HE _).mono ?_
                        rintro e w1 ⟨rfl, rfl⟩
                        go_wp2
                        go_ret2
                        rw [unhide Hr]
                        exact ⟨rfl, Below.refl _ _⟩
                  · have c7 : ((bt t i : Int) != 125) = true := by simp; omega
                    have Hr := hide (unhide Hok (fun h => a7 h.2.2.2.1))
                    clear a7
                    rcases hone with c1 | ⟨c1, c2, c3⟩
                    all_goals
                      go_wp2
                      go_ret2
                      rw [unhide Hr]
                      exact ⟨rfl, Below.refl _ _⟩
                · have c6 : (t.size : Int) ≤ (i : Int) := by omega
                  have Hr := hide (unhide Hok (fun h => a6 h.2.2.1))
                  rcases hone with c1 | ⟨c1, c2, c3⟩
                  all_goals
                    go_wp2
                    go_ret2
                    rw [unhide Hr]
                    exact ⟨rfl, Below.refl _ _⟩
    · have c2 : ((bt t 2 : Int) != 123) = true := by simp; omega
      have Hx := hide (numF_no1 t.size (bt t) (fun h => h2 h.2))
      clear h2
      generalize numF t.size (bt t) = X at *
      go_enter Try.func51, Try.ntmps51
      go_wp2
      go_ret2
      rw [unhide Hx]
      exact ⟨rfl, Below.refl _ _⟩
  · have hn2 : (t.size : Int) < 3 := by omega
    have Hx := hide (numF_no1 t.size (bt t) (fun h => hn h.1))
    generalize numF t.size (bt t) = X at *
    go_enter Try.func51, Try.ntmps51
    go_wp2
    go_ret2
    rw [unhide Hx]
    exact ⟨rfl, Below.refl _ _⟩
end Go.Proofs.Ytodncpnhmmnclaa

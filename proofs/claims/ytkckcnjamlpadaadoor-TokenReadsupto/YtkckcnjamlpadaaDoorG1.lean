/- The document's name, Kinds, right, Check; both Finds. -/
import Derived.Test.YtkckcnjamlpadaaDoorL2
namespace Go.Proofs.YtkckcnjamlpadaaDoor
open Go.RowKit Go.Maps

theorem nameB_of {s : ByteArray} (h1 : 1 ≤ s.size) (h2 : s.size ≤ 64) : nameB s = decide (digB (bt s 0) = false ∧ allTo s s.size) := by
  unfold nameB; rw [decide_eq_decide]; exact ⟨fun h => h.2.2, fun h => ⟨h1, h2, h⟩⟩
/-- What the document's name has seen to be right. -/
def docTo (s : ByteArray) (k : Nat) : Prop := ∀ i, i < k → letB (bt s i) = true ∨ (i ≠ 0 ∧ digB (bt s i) = true)
theorem let_dig (c : Nat) : letB c = true → digB c = false := by
  simp only [letB, digB, decide_eq_true_eq, decide_eq_false_iff_not]; omega
theorem docTo_iff {s : ByteArray} (h : 1 ≤ s.size) : docTo s s.size ↔ digB (bt s 0) = false ∧ allTo s s.size := by
  constructor
  · intro hd
    refine ⟨?_, fun i hi => ?_⟩
    · rcases hd 0 (by omega) with h | h
      · exact let_dig _ h
      · exact absurd rfl h.1
    · rcases hd i hi with h | h
      · exact .inl h
      · exact .inr h.2
  · rintro ⟨h0, ha⟩ i hi
    rcases ha i hi with h | h
    · exact .inl h
    · by_cases e : i = 0
      · subst e; rw [h0] at h; cases h
      · exact .inr ⟨e, h⟩

set_option maxHeartbeats 4000000 in
set_option maxRecDepth 100000 in
theorem rName_any (s : ByteArray) (w : World) : Calls Tryd.prog 36 #[.string s] w fun e w' => e = .returned (.bool (nameB s)) ∧ w = w' := by
  by_cases h0 : s.size < 1
  · rw [show nameB s = false by unfold nameB; rw [decide_eq_false_iff_not]; omega]
    have h0' : (s.size : Int) < 1 := by omega
    go_enter Tryd.func36, Tryd.ntmps36
    go_wp2
    go_ret
    exact ⟨rfl, rfl⟩
  have h0' : ¬ (s.size : Int) < 1 := by omega
  by_cases h1 : 64 < s.size
  · rw [show nameB s = false by unfold nameB; rw [decide_eq_false_iff_not]; omega]
    have h1' : (64 : Int) < s.size := by omega
    go_enter Tryd.func36, Tryd.ntmps36
    go_wp2
    go_ret
    exact ⟨rfl, rfl⟩
  have h1' : ¬ (64 : Int) < s.size := by omega
  have Hyes := hide (fun (h : docTo s s.size) => show nameB s = true by rw [nameB_of (by omega) (by omega)]; exact decide_eq_true ((docTo_iff (by omega)).1 h))
  have Hno := hide (fun (h : ¬ docTo s s.size) => show nameB s = false by rw [nameB_of (by omega) (by omega)]; exact decide_eq_false (fun k => h ((docTo_iff (by omega)).2 k)))
  generalize nameB s = R at *
  go_enter Tryd.func36, Tryd.ntmps36
  go_wp2
  go_loop [3] (fun x => ∃ k : Nat, x = .int .i64 k ∧ k ≤ s.size ∧ docTo s k) (fun x => s.size - (intOf x).toNat)
  case atStart => exact ⟨0, rfl, Nat.zero_le _, fun i hi => absurd hi (Nat.not_lt_zero _)⟩
  case round =>
    obtain ⟨k, rfl, hk, hall⟩ := hrel
    have Hall := hide hall
    clear hall
    by_cases hlt : k < s.size
    · have hlt' : (k : Int) < s.size := by omega
      have ik := index_bt s k hlt
      have Hs := hide (fun (h : letB (bt s k) = true ∨ (k ≠ 0 ∧ digB (bt s k) = true)) => show docTo s (k + 1) from fun i hi => by
        by_cases e : i = k
        · subst e; exact h
        · exact unhide Hall i (by omega))
      have Hn := hide (fun (h : ¬ (letB (bt s k) = true ∨ (k ≠ 0 ∧ digB (bt s k) = true))) => unhide Hno (fun hd => h (hd k hlt)))
      have Hl := hide (show letB (bt s k) = decide ((65 ≤ bt s k ∧ bt s k ≤ 90) ∨ (97 ≤ bt s k ∧ bt s k ≤ 122) ∨ bt s k = 95) from rfl)
      have Hd := hide (show digB (bt s k) = decide (48 ≤ bt s k ∧ bt s k ≤ 57) from rfl)
      generalize bt s k = c at *
      go_wp2
      all_goals first
        | (go_ret; rw [unhide Hn (by rw [unhide Hl, unhide Hd]; simp only [decide_eq_true_eq]; first | omega | (simp at *; omega))]; exact ⟨rfl, rfl⟩)
        | (go_round
           case rel => exact ⟨k + 1, by go_num, by omega, unhide Hs (by rw [unhide Hl, unhide Hd]; simp only [decide_eq_true_eq]; first | omega | (simp at *; omega))⟩
           case measure => simp [intOf]; omega)
    · obtain rfl : k = s.size := by omega
      have Hr := hide (unhide Hyes (unhide Hall))
      go_wp2
      go_ret
      rw [unhide Hr]
      exact ⟨rfl, rfl⟩
end Go.Proofs.YtkckcnjamlpadaaDoor

/- Lists of work: container/heap's down. -/
import Derived.Test.YtdpphjedjhjdgabDoorL6
namespace Go.Proofs.YtdpphjedjhjdgabDoor
open Go.RowKit Go.Maps

/-- Which of a place's two children is the lesser. -/
def kidL (ts : List Tk) (n i : Nat) : Nat := if 2 * i + 2 < n ∧ lessT (ts.getD (2 * i + 2) tk0) (ts.getD (2 * i + 1) tk0) = true then 2 * i + 2 else 2 * i + 1
theorem kidL_cases (ts : List Tk) (n i : Nat) : kidL ts n i = 2 * i + 2 ∧ 2 * i + 2 < n ∨ kidL ts n i = 2 * i + 1 := by
  unfold kidL; split
  · rename_i h; exact .inl ⟨rfl, h.1⟩
  · exact .inr rfl
/-- A task goes down: the tasks, and its place. -/
def downF : Nat → List Tk → Nat → Nat → List Tk × Nat
  | 0, ts, _, i => (ts, i)
  | f + 1, ts, n, i => if 2 * i + 1 < n then (if lessT (ts.getD (kidL ts n i) tk0) (ts.getD i tk0) then downF f (swapT ts i (kidL ts n i)) n (kidL ts n i) else (ts, i)) else (ts, i)
def downL (ts : List Tk) (n i : Nat) : List Tk × Nat := downF (n - i) ts n i
theorem downF_more (f : Nat) : ∀ (ts : List Tk) (n i : Nat), n - i ≤ f → downF f ts n i = downF (n - i) ts n i := by
  induction f using Nat.strongRecOn with
  | ind f ih =>
    intro ts n i hj
    cases f with
    | zero => rw [show n - i = 0 by omega]
    | succ f =>
      by_cases h : 2 * i + 1 < n
      · obtain ⟨m, hm⟩ : ∃ m, n - i = m + 1 := ⟨n - i - 1, by omega⟩
        have hk := kidL_cases ts n i
        rw [hm]
        show (if 2 * i + 1 < n then (if lessT (ts.getD (kidL ts n i) tk0) (ts.getD i tk0) then downF f (swapT ts i (kidL ts n i)) n (kidL ts n i) else (ts, i)) else (ts, i)) = (if 2 * i + 1 < n then (if lessT (ts.getD (kidL ts n i) tk0) (ts.getD i tk0) then downF m (swapT ts i (kidL ts n i)) n (kidL ts n i) else (ts, i)) else (ts, i))
        rw [ih f (by omega) _ n (kidL ts n i) (by omega), ih m (by omega) _ n (kidL ts n i) (by omega)]
      · have e : ∀ g, downF g ts n i = (ts, i) := fun g => by cases g with
          | zero => rfl
          | succ g => show (if 2 * i + 1 < n then _ else _) = _; rw [if_neg h]
        rw [e, e]
theorem downL_eq (ts : List Tk) (n i : Nat) : downL ts n i = if 2 * i + 1 < n then (if lessT (ts.getD (kidL ts n i) tk0) (ts.getD i tk0) then downL (swapT ts i (kidL ts n i)) n (kidL ts n i) else (ts, i)) else (ts, i) := by
  unfold downL
  have hk := kidL_cases ts n i
  rw [← downF_more (n - i + 1) ts n i (by omega)]
  show (if 2 * i + 1 < n then (if lessT (ts.getD (kidL ts n i) tk0) (ts.getD i tk0) then downF (n - i) (swapT ts i (kidL ts n i)) n (kidL ts n i) else (ts, i)) else (ts, i)) = _
  rw [downF_more (n - i) _ n (kidL ts n i) (by omega)]

set_option maxHeartbeats 4000000 in
set_option maxRecDepth 100000 in
theorem down_any (B : Nat) (O : Nat → Prop) (ts : List Tk) (n i0 : Nat) (hi : i0 < ts.length) (hn : n ≤ ts.length) (hlen : ts.length ≤ 1048576) (w : World) (h : LstIs w B O ts) :
    Calls Tryd.prog 62 #[.iface 85 (.pointer (some ⟨B, 0, none⟩)), .int .i64 i0, .int .i64 n] w fun e w' => e = .returned (.bool (decide ((i0 : Int) < (downL ts n i0).2))) ∧ Off O w w' ∧ w'.heap.size = w.heap.size ∧ LstIs w' B O (downL ts n i0).1 := by
  go_enter Tryd.func62, Tryd.ntmps62
  go_wp2
  go_loopw [7] (fun x wr => ∃ (k : Nat) (ls : List Tk), x = .int .i64 k ∧ k < ls.length ∧ ls.length = ts.length ∧ LstIs wr B O ls ∧ Off O w wr ∧ wr.heap.size = w.heap.size ∧ downL ls n k = downL ts n i0) (fun x _ => n - (intOf x).toNat)
  case atStart => exact ⟨i0, ts, rfl, hi, rfl, h, off_refl _ _, rfl, rfl⟩
  case round =>
    obtain ⟨k, ls, rfl, hk, hll, hL, hoff, hsz, hdn⟩ := hrel
    have HL := hide hL; have Ho := hide hoff
    have hk' : (k : Int) < 1048576 := by omega
    obtain ⟨a, ha⟩ : ∃ a : Nat, 2 * (k : Int) + 1 = a := ⟨2 * k + 1, by omega⟩
    have ha2 : 2 * k + 1 = a := by omega
    rw [downL_eq, ha2] at hdn
    clear h hi
    by_cases h1 : a < n
    · have h1' : ¬ (n : Int) ≤ a := by omega
      have h1'' : ¬ ((a : Int) < 0) := by omega
      rw [if_pos h1] at hdn
      obtain ⟨b, hb⟩ : ∃ b : Nat, (a : Int) + 1 = b := ⟨a + 1, by omega⟩
      have hb2 : 2 * k + 2 = b := by omega
      have hkidd : kidL ls n k = if b < n ∧ lessT (ls.getD b tk0) (ls.getD a tk0) = true then b else a := by unfold kidL; rw [ha2, hb2]
      have HSw := hide (fun j (hj : j < ls.length) q => swap_any B O ls k j hk hj (wr.drewN q) (lst_drewN hL q))
      have HLs := hide (fun j (hj : j < ls.length) q => less_any B O ls j k hj hk (wr.drewN q) (lst_drewN hL q) (by omega))
      have hka : k < a := by omega
      have hab : a < b := by omega
      clear ha2 hb2
      by_cases h2 : b < n
      · have h2' : (b : Int) < n := by omega
        have HL2 := hide (less_any B O ls b a (by omega) (by omega) wr hL (by omega))
        cases hq : lessT (ls.getD b tk0) (ls.getD a tk0)
        · rw [hq] at HL2
          rw [show kidL ls n k = a by rw [hkidd, hq]; simp] at hdn
          clear hL hoff hq hkidd
          have HLs1 := hide (unhide HLs a (by omega))
          have HSw1 := hide (unhide HSw a (by omega))
          cases hc : lessT (ls.getD a tk0) (ls.getD k tk0)
          · rw [hc] at hdn HLs1
            have Hd := hide hdn
            clear hdn hc HLs HSw HSw1
            go_wp2_with fail
            refine (unhide HL2).mono ?_
            rintro e w1 ⟨rfl, q, rfl⟩
            go_wp2_with fail
            refine (unhide HLs1 q).mono ?_
            rintro e w2 ⟨rfl, q2, rfl⟩
            go_wp2
            go_ret
            have hd := unhide Hd
            simp only [Bool.false_eq_true, if_false] at hd
            rw [← hd]
            exact ⟨ret_bool (by simp), off_drewN (unhide Ho) _, hsz, lst_drewN (unhide HL) _⟩
          · rw [hc] at hdn HLs1
            have Hd := hide hdn
            clear hdn hc HLs HSw
            go_wp2_with fail
            refine (unhide HL2).mono ?_
            rintro e w1 ⟨rfl, q, rfl⟩
            go_wp2_with fail
            refine (unhide HLs1 q).mono ?_
            rintro e w2 ⟨rfl, q2, rfl⟩
            obtain ⟨q3, hq3⟩ := drew_two wr q q2
            rw [hq3]
            go_wp2_with fail
            refine (unhide HSw1 q3).mono ?_
            rintro e w3 ⟨rfl, ho2, hs2, hl2⟩
            have Ho2 := hide ho2; have Hl2 := hide hl2; clear ho2 hl2
            go_wp2
            go_roundw
            case rel =>
              have hd := unhide Hd
              simp only [if_true] at hd
              exact ⟨a, _, rfl, by rw [swapT_length]; omega, by rw [swapT_length]; exact hll, unhide Hl2, off_t (off_drewN (unhide Ho) q3) (unhide Ho2), hs2.trans hsz, hd⟩
            case measure => simp [intOf]; omega
        · rw [hq] at HL2
          rw [show kidL ls n k = b by rw [hkidd, hq]; simp [h2]] at hdn
          clear hL hoff hq hkidd
          have HLs1 := hide (unhide HLs b (by omega))
          have HSw1 := hide (unhide HSw b (by omega))
          cases hc : lessT (ls.getD b tk0) (ls.getD k tk0)
          · rw [hc] at hdn HLs1
            have Hd := hide hdn
            clear hdn hc HLs HSw HSw1
            go_wp2_with fail
            refine (unhide HL2).mono ?_
            rintro e w1 ⟨rfl, q, rfl⟩
            go_wp2_with fail
            refine (unhide HLs1 q).mono ?_
            rintro e w2 ⟨rfl, q2, rfl⟩
            go_wp2
            go_ret
            have hd := unhide Hd
            simp only [Bool.false_eq_true, if_false] at hd
            rw [← hd]
            exact ⟨ret_bool (by simp), off_drewN (unhide Ho) _, hsz, lst_drewN (unhide HL) _⟩
          · rw [hc] at hdn HLs1
            have Hd := hide hdn
            clear hdn hc HLs HSw
            go_wp2_with fail
            refine (unhide HL2).mono ?_
            rintro e w1 ⟨rfl, q, rfl⟩
            go_wp2_with fail
            refine (unhide HLs1 q).mono ?_
            rintro e w2 ⟨rfl, q2, rfl⟩
            obtain ⟨q3, hq3⟩ := drew_two wr q q2
            rw [hq3]
            go_wp2_with fail
            refine (unhide HSw1 q3).mono ?_
            rintro e w3 ⟨rfl, ho2, hs2, hl2⟩
            have Ho2 := hide ho2; have Hl2 := hide hl2; clear ho2 hl2
            go_wp2
            go_roundw
            case rel =>
              have hd := unhide Hd
              simp only [if_true] at hd
              exact ⟨b, _, rfl, by rw [swapT_length]; omega, by rw [swapT_length]; exact hll, unhide Hl2, off_t (off_drewN (unhide Ho) q3) (unhide Ho2), hs2.trans hsz, hd⟩
            case measure => simp [intOf]; omega
      · have h2' : ¬ (b : Int) < n := by omega
        rw [show kidL ls n k = a by rw [hkidd, if_neg (by omega)]] at hdn
        clear hL hoff hkidd
        have HLs1 := hide (unhide HLs a (by omega) 0)
        have HSw1 := hide (unhide HSw a (by omega))
        cases hc : lessT (ls.getD a tk0) (ls.getD k tk0)
        · rw [hc] at hdn HLs1
          have Hd := hide hdn
          clear hdn hc HLs HSw HSw1
          go_wp2_with fail
          refine (unhide HLs1).mono ?_
          rintro e w2 ⟨rfl, q2, rfl⟩
          go_wp2
          go_ret
          have hd := unhide Hd
          simp only [Bool.false_eq_true, if_false] at hd
          rw [← hd]
          exact ⟨ret_bool (by simp), off_drewN (unhide Ho) _, hsz, lst_drewN (unhide HL) _⟩
        · rw [hc] at hdn HLs1
          have Hd := hide hdn
          clear hdn hc HLs HSw
          go_wp2_with fail
          refine (unhide HLs1).mono ?_
          rintro e w2 ⟨rfl, q2, rfl⟩
          obtain ⟨q3, hq3⟩ := drew_two wr 0 q2
          try rw [hq3]
          go_wp2_with fail
          refine (unhide HSw1 q3).mono ?_
          rintro e w3 ⟨rfl, ho2, hs2, hl2⟩
          have Ho2 := hide ho2; have Hl2 := hide hl2; clear ho2 hl2
          go_wp2
          go_roundw
          case rel =>
            have hd := unhide Hd
            simp only [if_true] at hd
            exact ⟨a, _, rfl, by rw [swapT_length]; omega, by rw [swapT_length]; exact hll, unhide Hl2, off_t (off_drewN (unhide Ho) q3) (unhide Ho2), hs2.trans hsz, hd⟩
          case measure => simp [intOf]; omega
    · have h1' : (n : Int) ≤ a := by omega
      rw [if_neg h1] at hdn
      have Hd := hide hdn
      clear hL hoff hdn ha2
      go_wp2
      go_ret
      rw [← unhide Hd]
      exact ⟨ret_bool (by simp), unhide Ho, hsz, unhide HL⟩
end Go.Proofs.YtdpphjedjhjdgabDoor

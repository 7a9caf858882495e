/- The document's number. -/
import Derived.Test.YtkckcnjamlpadaaDoorD4
import Derived.Test.YtkckcnjamlpadaaDoorR8
import Derived.Deep.RegionHeld3
import Derived.Deep.QuietTactic
namespace Go.Proofs.YtkckcnjamlpadaaDoor
open Go.RowKit Go.Maps

/-- What digits tell. -/
def valL (l : List UInt8) : Nat := l.foldl (fun n c => 10 * n + (c.toNat - 48)) 0
theorem valL_snoc (l : List UInt8) (c : UInt8) : valL (l ++ [c]) = 10 * valL l + (c.toNat - 48) := by simp [valL]
theorem val_dec (u : Nat) : valL (Lib.decDigits u) = u := by
  induction u using Nat.strongRecOn with
  | _ u ih =>
    by_cases h1 : u < 10
    · rw [Lib.decDigits, dif_pos h1]
      have := digit_toNat u h1
      show 10 * 0 + _ = u
      rw [this]; omega
    · rw [Lib.decDigits, dif_neg h1, valL_snoc, ih (u / 10) (by omega), digit_toNat (u % 10) (by omega)]; omega
theorem fold_ge : ∀ (l : List UInt8) (n : Nat), n ≤ l.foldl (fun n c => 10 * n + (c.toNat - 48)) n
  | [], n => Nat.le_refl _
  | c :: l, n => by
    rw [List.foldl_cons]
    exact Nat.le_trans (by omega) (fold_ge l _)
theorem val_take (l : List UInt8) (k : Nat) (hk : k < l.length) : 10 * valL (l.take k) ≤ valL l := by
  have e : l = l.take k ++ (l[k] :: l.drop (k + 1)) := by rw [← List.drop_eq_getElem_cons hk, List.take_append_drop]
  conv => rhs; rw [e]
  unfold valL
  rw [List.foldl_append, List.foldl_cons]
  exact Nat.le_trans (by omega) (fold_ge _ _)
/-- The first k bytes from a place on are digits. -/
def digTo (s : List UInt8) (k : Nat) : Prop := ∀ j, j < k → 48 ≤ (s.getD j 0).toNat ∧ (s.getD j 0).toNat ≤ 57
/-- Where the document's number stops, it has read a whole number that stands there. -/
theorem num_whole {s rest : List UInt8} {v k : Nat} {c : UInt8} (hv : v < 10995116277760) (hs : s = Lib.decDigits v ++ c :: rest) (hc : c.toNat < 48) (hd : digTo s k)
    (hstop : k = s.length ∨ ¬ (48 ≤ (s.getD k 0).toNat ∧ (s.getD k 0).toNat ≤ 57) ∨ 1099511627776 ≤ valL (s.take k)) : k = (Lib.decDigits v).length ∧ valL (s.take k) = v := by
  have hl : s.length = (Lib.decDigits v).length + (rest.length + 1) := by rw [hs]; simp
  by_cases h1 : (Lib.decDigits v).length < k
  · have := hd _ h1
    have hg : s.getD (Lib.decDigits v).length 0 = c := by rw [hs, List.getD_eq_getElem?_getD, List.getElem?_append_right (Nat.le_refl _)]; simp
    rw [hg] at this
    omega
  · by_cases h2 : k < (Lib.decDigits v).length
    · exfalso
      have ht : s.take k = (Lib.decDigits v).take k := by rw [hs, List.take_append_of_le_length (by omega)]
      have hg : s.getD k 0 = (Lib.decDigits v)[k] := by rw [hs, List.getD_eq_getElem?_getD, List.getElem?_append_left h2, List.getElem?_eq_getElem h2]; rfl
      rcases hstop with h | h | h
      · omega
      · rw [hg] at h
        exact h (dec_digit v _ (List.getElem_mem h2))
      · rw [ht] at h
        have := val_take (Lib.decDigits v) k h2
        rw [val_dec] at this
        omega
    · have e : k = (Lib.decDigits v).length := by omega
      refine ⟨e, ?_⟩
      rw [e, hs, List.take_left', val_dec]
      rfl
theorem bt_drop (l : List UInt8) (i j : Nat) (h : i + j < l.length) : bt (bs l) (i + j) = ((l.drop i).getD j 0).toNat := by
  rw [bt_bs l (i + j) h, List.getD_eq_getElem?_getD, List.getElem?_drop, List.getElem?_eq_getElem h]; rfl
theorem take_snoc8 (l : List UInt8) (k : Nat) (h : k < l.length) : l.take (k + 1) = l.take k ++ [l.getD k 0] := by
  rw [List.take_add_one, List.getElem?_eq_getElem h, List.getD_eq_getElem?_getD, List.getElem?_eq_getElem h]; rfl
theorem extract_bs (l : List UInt8) (i j : Nat) (h : i ≤ j) : (bs l).extract i j = bs ((l.drop i).take (j - i)) := by
  obtain ⟨d, rfl⟩ : ∃ d, j = i + d := ⟨j - i, by omega⟩
  rw [extract_list, Nat.add_sub_cancel_left]; rfl

/-- What the document's number answers, of s from the place i on. -/
def NumPost (s : List UInt8) (i : Nat) (n m : Int) : Prop :=
  ((n = -1 ∧ m = (i : Int)) ∨ ∃ u j : Nat, n = (u : Int) ∧ m = (j : Int) ∧ i ≤ j ∧ j ≤ s.length ∧ u < 10995116277760) ∧
  (∀ v rest (c : UInt8), v < 10995116277760 → s.drop i = Lib.decDigits v ++ c :: rest → c.toNat < 48 → n = (v : Int) ∧ m = ((i + (Lib.decDigits v).length : Nat) : Int))
/-- The document's number stops. -/
def NumStop (s : List UInt8) (i j m : Nat) : Prop := i ≤ j ∧ j ≤ s.length ∧ m < 10995116277760 ∧ ∀ v rest (c : UInt8), v < 10995116277760 → s.drop i = Lib.decDigits v ++ c :: rest → c.toNat < 48 → j = i + (Lib.decDigits v).length ∧ m = v
theorem numStop {s : List UInt8} {i j m : Nat} (hij : i ≤ j) (hj : j ≤ s.length) (hm : m = valL ((s.drop i).take (j - i))) (hb : m < 10995116277760) (hd : digTo (s.drop i) (j - i))
    (hstop : j = s.length ∨ ¬ (48 ≤ ((s.drop i).getD (j - i) 0).toNat ∧ ((s.drop i).getD (j - i) 0).toNat ≤ 57) ∨ 1099511627776 ≤ m) : NumStop s i j m := by
  refine ⟨hij, hj, hb, fun v rest c hv hs hc => ?_⟩
  have := num_whole hv hs hc hd (by
    rcases hstop with h | h | h
    · left; simp; omega
    · exact .inr (.inl h)
    · exact .inr (.inr (by rw [← hm]; exact h)))
  rw [← hm] at this
  omega
theorem numPost_no {s : List UInt8} {i j m : Nat} (h : NumStop s i j m) (hn : j = i ∨ Lib.decDigits m ≠ (s.drop i).take (j - i)) : NumPost s i (-1) (i : Int) := by
  refine ⟨.inl ⟨rfl, rfl⟩, fun v rest c hv hs hc => ?_⟩
  obtain ⟨h1, rfl⟩ := h.2.2.2 v rest c hv hs hc
  exfalso
  rcases hn with hn | hn
  · have := List.length_pos_iff.2 (dec_ne m); omega
  · apply hn
    rw [hs, h1, Nat.add_sub_cancel_left, List.take_left' rfl]
theorem numPost_yes {s : List UInt8} {i j m : Nat} (h : NumStop s i j m) : NumPost s i (m : Int) (j : Int) := by
  refine ⟨.inr ⟨m, j, rfl, rfl, h.1, h.2.1, h.2.2.1⟩, fun v rest c hv hs hc => ?_⟩
  obtain ⟨h1, rfl⟩ := h.2.2.2 v rest c hv hs hc
  exact ⟨rfl, by rw [h1]⟩

set_option maxHeartbeats 4000000 in
set_option maxRecDepth 100000 in
theorem num_any (s : List UInt8) (hs : s.length ≤ 281474976710656) (i : Nat) (hi : i ≤ s.length) (w : World) (hE : Env w) :
    Calls Tryd.prog 58 #[.string (bs s), .int .i64 (i : Int)] w fun e w' => ∃ n m, e = .returned (.tuple #[.int .i64 n, .int .i64 m]) ∧ Below w.heap.size w w' ∧ NumPost s i n m := by
  have HE := hide hE
  clear hE
  have hsz : (bs s).size = s.length := rfl
  go_enter Tryd.func58, Tryd.ntmps58
  go_wp2
  go_loop [6, 7] (fun y x => ∃ m j : Nat, y = .int .i64 (m : Int) ∧ x = .int .i64 (j : Int) ∧ i ≤ j ∧ j ≤ s.length ∧ m < 10995116277760 ∧ m = valL ((s.drop i).take (j - i)) ∧ digTo (s.drop i) (j - i)) (fun _ x => s.length - (intOf x).toNat)
  case atStart => exact ⟨0, i, rfl, rfl, Nat.le_refl _, hi, by omega, by rw [Nat.sub_self]; rfl, by rw [Nat.sub_self]; exact fun j hj => absurd hj (Nat.not_lt_zero _)⟩
  case round =>
    obtain ⟨m, j, rfl, rfl, hij, hj, hmb, hm, hd⟩ := hrel
    have hij' : (i : Int) ≤ j := by omega
    have hjl' : (j : Int) ≤ s.length := by omega
    have Hstop := hide (numStop hij hj hm hmb hd)
    by_cases hgo : j < s.length ∧ (48 ≤ bt (bs s) j ∧ bt (bs s) j ≤ 57) ∧ m < 1099511627776
    · obtain ⟨hlt, ⟨hc1, hc2⟩, hm2⟩ := hgo
      have hlt' : (j : Int) < s.length := by omega
      have ik := index_bt (bs s) j hlt
      have hbt := bt_drop s i (j - i) (by omega)
      rw [show i + (j - i) = j by omega] at hbt
      have Hd2 := hide (show digTo (s.drop i) (j + 1 - i) from fun q hq => by
        by_cases e : q = j - i
        · subst e; rw [← hbt]; exact ⟨hc1, hc2⟩
        · exact hd q (by omega))
      have Hm2 := hide (show 10 * m + (bt (bs s) j - 48) = valL ((s.drop i).take (j + 1 - i)) by
        rw [show j + 1 - i = (j - i) + 1 by omega, take_snoc8 _ _ (by simp; omega), valL_snoc, ← hm, hbt])
      clear hm hd Hstop hbt
      generalize bt (bs s) j = c at *
      have hc1' : (48 : Int) ≤ (c : Int) := by omega
      have hc2' : (c : Int) ≤ 57 := by omega
      have hm2' : (m : Int) < 1099511627776 := by omega
      go_wp2
      go_round
      case rel => exact ⟨10 * m + (c - 48), j + 1, by go_num, by go_num, by omega, by omega, by omega, unhide Hm2, unhide Hd2⟩
      case measure => simp [intOf]; omega
    · have HS : Hid (NumStop s i j m) := by
        refine hide (unhide Hstop ?_)
        by_cases h1 : j = s.length
        · exact .inl h1
        · have hbt := bt_drop s i (j - i) (by omega)
          rw [show i + (j - i) = j by omega] at hbt
          by_cases h2 : 48 ≤ bt (bs s) j ∧ bt (bs s) j ≤ 57
          · exact .inr (.inr (by omega))
          · exact .inr (.inl (by rw [← hbt]; exact h2))
      clear Hstop hm hd
      have HI := hide (itoa_any m (by omega) w.drew (env_below (unhide HE) ((Below.refl _ w).drew)))
      have hcase : (¬ (j : Int) < s.length) ∨ (j < s.length ∧ ¬ (48 : Int) ≤ (bt (bs s) j : Int)) ∨ (j < s.length ∧ (48 : Int) ≤ (bt (bs s) j : Int) ∧ ¬ (bt (bs s) j : Int) ≤ 57) ∨ (j < s.length ∧ (48 : Int) ≤ (bt (bs s) j : Int) ∧ (bt (bs s) j : Int) ≤ 57 ∧ ¬ (m : Int) < 1099511627776) := by omega
      clear hgo
      by_cases h0 : j = i
      · subst h0
        have HP := hide (numPost_no (unhide HS) (.inl rfl))
        rcases hcase with h1 | ⟨h1, h2⟩ | ⟨h1, h2, h3⟩ | ⟨h1, h2, h3, h4⟩
        · go_wp2
          go_quiet (fail)
          go_wp2
          go_ret2
          exact ⟨_, _, rfl, below_drewN (Below.refl _ _) _, unhide HP⟩
        all_goals
          have h1' : (j : Int) < s.length := by omega
          have ik := index_bt (bs s) j h1
          generalize bt (bs s) j = c at *
          go_wp2
          go_quiet (fail)
          go_wp2
          go_ret2
          exact ⟨_, _, rfl, below_drewN (Below.refl _ _) _, unhide HP⟩
      · have h0' : ((j : Int) == (i : Int)) = false := by rw [beq_eq_false_iff_ne]; omega
        by_cases heq : Lib.decDigits m = (s.drop i).take (j - i)
        · have HP := hide (numPost_yes (unhide HS))
          have hcmp : ((bs (Lib.decDigits m)).toList == ((bs s).extract i j).toList) = true := by rw [extract_bs s i j hij, heq]; simp
          clear heq HS
          generalize bs (Lib.decDigits m) = D at *
          rcases hcase with h1 | ⟨h1, h2⟩ | ⟨h1, h2, h3⟩ | ⟨h1, h2, h3, h4⟩
          · go_wp2
            go_region_held3 (fun _ : World => True) (first | trivial | fail) (first | (go_at_call 52; refine (unhide HI).mono ?_; rintro e w1 ⟨rfl, hb1⟩; have Hb1 := hide (((Below.refl _ w).drew).trans hb1); clear hb1) | fail)
            all_goals
              go_wp2
              go_ret2
              exact ⟨_, _, rfl, unhide Hb1, unhide HP⟩
          all_goals
            have h1' : (j : Int) < s.length := by omega
            have ik := index_bt (bs s) j h1
            generalize bt (bs s) j = c at *
            go_wp2
            go_region_held3 (fun _ : World => True) (first | trivial | fail) (first | (go_at_call 52; refine (unhide HI).mono ?_; rintro e w1 ⟨rfl, hb1⟩; have Hb1 := hide (((Below.refl _ w).drew).trans hb1); clear hb1) | fail)
            all_goals
              go_wp2
              go_ret2
              exact ⟨_, _, rfl, unhide Hb1, unhide HP⟩
        · have HP := hide (numPost_no (unhide HS) (.inr heq))
          have hcmp : ((bs (Lib.decDigits m)).toList == ((bs s).extract i j).toList) = false := by rw [extract_bs s i j hij]; exact bs_ne heq
          clear heq HS
          generalize bs (Lib.decDigits m) = D at *
          rcases hcase with h1 | ⟨h1, h2⟩ | ⟨h1, h2, h3⟩ | ⟨h1, h2, h3, h4⟩
          · go_wp2
            go_region_held3 (fun _ : World => True) (first | trivial | fail) (first | (go_at_call 52; refine (unhide HI).mono ?_; rintro e w1 ⟨rfl, hb1⟩; have Hb1 := hide (((Below.refl _ w).drew).trans hb1); clear hb1) | fail)
            all_goals
              go_wp2
              go_ret2
              exact ⟨_, _, rfl, unhide Hb1, unhide HP⟩
          all_goals
            have h1' : (j : Int) < s.length := by omega
            have ik := index_bt (bs s) j h1
            generalize bt (bs s) j = c at *
            go_wp2
            go_region_held3 (fun _ : World => True) (first | trivial | fail) (first | (go_at_call 52; refine (unhide HI).mono ?_; rintro e w1 ⟨rfl, hb1⟩; have Hb1 := hide (((Below.refl _ w).drew).trans hb1); clear hb1) | fail)
            all_goals
              go_wp2
              go_ret2
              exact ⟨_, _, rfl, unhide Hb1, unhide HP⟩
end Go.Proofs.YtkckcnjamlpadaaDoor

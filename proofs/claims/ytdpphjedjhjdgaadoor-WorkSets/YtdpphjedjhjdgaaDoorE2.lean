/- Sets: Add of any numbers; how many there are. -/
import Derived.Test.YtdpphjedjhjdgaaDoorT8
import Derived.Test.YtdpphjedjhjdgaaDoorA1
namespace Go.Proofs.YtdpphjedjhjdgaaDoor
open Go.RowKit Go.Maps

theorem hint : (Tryd.prog.info? 3).map (fun i => (i.zero, i.size, i.bytes)) = some (some (.int .i64 0), 1, 8) := by kernel_rfl
theorem hbyte : (Tryd.prog.info? 5).map (fun i => (i.zero, i.size, i.bytes)) = some (some (.int .u8 0), 1, 1) := by kernel_rfl

/-- How many of the first numbers are in it. -/
def cnt (N : Nat) (h : Int → Bool) : Nat := ((List.range N).filter fun i : Nat => h i).length
theorem cnt_succ (N : Nat) (h : Int → Bool) : cnt (N + 1) h = cnt N h + if h N then 1 else 0 := by
  unfold cnt
  rw [List.range_succ, List.filter_append, List.length_append]
  congr 1
  rw [List.filter_cons, List.filter_nil]
  split <;> rfl
theorem cnt_le (N : Nat) (h : Int → Bool) : cnt N h ≤ N := by
  have := List.length_filter_le (fun i : Nat => h i) (List.range N)
  simpa [cnt] using this
theorem cnt_zero (N : Nat) (h : Int → Bool) (h0 : ∀ m, h m = false) : cnt N h = 0 := by
  unfold cnt
  rw [List.filter_eq_nil_iff.2]
  · rfl
  · intro a _; simp [h0]
theorem cnt_out (h : Int → Bool) (n : Int) (v : Bool) : ∀ N : Nat, (N : Int) ≤ n → cnt N (fun m => if m = n then v else h m) = cnt N h := by
  intro N
  induction N with
  | zero => intro _; rfl
  | succ N ih =>
    intro hN
    rw [cnt_succ, cnt_succ, ih (by omega), if_neg (show ¬ (N : Int) = n by omega)]
theorem cnt_put (h : Int → Bool) (n : Int) (hn : 0 ≤ n) : ∀ N : Nat, n < N → (cnt N (fun m => if m = n then true else h m) : Int) = cnt N h + newK (h n) := by
  intro N
  induction N with
  | zero => intro hN; omega
  | succ N ih =>
    intro hN
    rw [cnt_succ, cnt_succ]
    by_cases e : (N : Int) = n
    · rw [cnt_out h n true N (by omega), if_pos e, e]
      unfold newK
      cases h n <;> simp
    · have := ih (by omega)
      rw [if_neg e]
      omega
theorem addS_cnt (N : Nat) (h : Int → Bool) (l : List Int) (hv : ∀ k, k < l.length → 0 ≤ l.getD k 0 ∧ l.getD k 0 < N) : ∀ k, k ≤ l.length → (addS h (l.take k)).2 = (cnt N (addS h (l.take k)).1 : Int) - cnt N h := by
  intro k
  induction k with
  | zero => intro _; show (0 : Int) = _; simp [addS]
  | succ k ih =>
    intro hk
    rw [addS_succ h l k (by omega)]
    have := ih (by omega)
    have h2 := hv k (by omega)
    show (addS h (l.take k)).2 + _ = _
    rw [cnt_put _ _ h2.1 N h2.2]
    omega

set_option maxHeartbeats 4000000 in
set_option maxRecDepth 100000 in
theorem add_all (B : Nat) (O : Nat → Prop) (bl : List Blk) (sz : Int) (a : Option Addr) (c : Nat) (l : List Int) (hnum : numsB l = true) (hl48 : l.length ≤ 281474976710656) (hsz : ∀ k, k ≤ l.length → 0 ≤ sz + (addS (hasB bl) (l.take k)).2 ∧ sz + (addS (hasB bl) (l.take k)).2 ≤ 1099511627776) (w : World) (h : SetOk w B O bl sz) (hrow : NRow w a l) (hapart : l ≠ [] → ∀ x, a = some x → ¬ O x.block) :
    Calls Tryd.prog 20 #[.pointer (some ⟨B, 0, none⟩), .slice a l.length c] w fun e w' => e = .returned (.tuple #[.int .i64 (addS (hasB bl) l).2, .int .i64 0]) ∧ Off O w w' ∧
      ∃ bl' O', SetOk w' B O' bl' (sz + (addS (hasB bl) l).2) ∧ (∀ k, O' k → O k ∨ w.heap.size ≤ k) ∧ ∀ m, hasB bl' m = (addS (hasB bl) l).1 m := by
  have HA := hide (areNumbers_any a c l (by omega) w hrow)
  rw [hnum] at HA
  have hnums : ∀ k, k < l.length → 0 ≤ l.getD k 0 ∧ l.getD k 0 < 1048576 := fun k hk => by
    have := List.all_eq_true.1 hnum (l.getD k 0) (by rw [List.getD_eq_getElem?_getD, List.getElem?_eq_getElem hk]; exact List.getElem_mem _)
    simpa using this
  have Hnums := hide hnums
  have Hsz := hide hsz
  have hOl := h.is.lt
  have HOl := hide hOl
  have Hrow := hide hrow
  have Hap := hide hapart
  have H0 : Hid (∃ bl' O', SetOk w B O' bl' (sz + (addS (hasB bl) (l.take 0)).2) ∧ (∀ k, O' k → O k ∨ w.heap.size ≤ k) ∧ ∀ m, hasB bl' m = (addS (hasB bl) (l.take 0)).1 m) := hide ⟨bl, O, by
    show SetOk w B O bl (sz + 0)
    rw [Int.add_zero]; exact h, fun k hk => .inl hk, fun m => rfl⟩
  clear h hnum hnums hOl hrow hapart hsz
  generalize hasB bl = hs at *
  go_enter Tryd.func20, Tryd.ntmps20
  go_wp2_with (go_at_call 37; refine (unhide HA).mono ?_; rintro e w' ⟨rfl, hw⟩; obtain rfl := hw.symm)
  go_loopw [16, 6] (fun x s wr => ∃ k : Nat, x = .int .i64 k ∧ k ≤ l.length ∧ s = .int .i64 (addS hs (l.take k)).2 ∧ Off O w wr ∧ ∃ bl' O', SetOk wr B O' bl' (sz + (addS hs (l.take k)).2) ∧ (∀ k, O' k → O k ∨ w.heap.size ≤ k) ∧ ∀ m, hasB bl' m = (addS hs (l.take k)).1 m) (fun x _ _ => l.length - (intOf x).toNat)
  case atStart => exact ⟨0, rfl, Nat.zero_le _, rfl, off_refl _ _, unhide H0⟩
  case round =>
    obtain ⟨k, rfl, hk, rfl, hoff, bl1, O1, hok, hO1, hhas⟩ := hrel
    by_cases hlt : k < l.length
    · have hlt' : (k : Int) < l.length := by omega
      obtain ⟨g, off, rfl, hgl, hcell⟩ : ∃ g off, a = some ⟨g, off, none⟩ ∧ g < w.heap.size ∧ ∀ j, j < l.length → w.cell? ⟨g, off + j, none⟩ = some (.int .i64 (l.getD j 0)) := by
        rcases unhide Hrow with h | h
        · subst h; simp at hlt
        · exact h
      have hgO : ¬ O g := unhide Hap (fun e => by subst e; simp at hlt) _ rfl
      have ck : wr.cell? ⟨g, off + k, none⟩ = some (.int .i64 (l.getD k 0)) := (off_cell hoff (p := ⟨g, off + k, none⟩) hgl hgO).trans (hcell k hlt)
      have hle := addS_le hs l k hk
      have HS := hide (addS_succ hs l k hlt)
      have HB := hide (blockOf_any (l.getD k 0) wr)
      have HL := hide (fun w' (hb : Below wr.heap.size wr w') => lay_num B O1 bl1 (sz + (addS hs (l.take k)).2) (l.getD k 0) (unhide Hnums k hlt) (unhide Hsz k hk) w' (ok_below hok hb))
      rw [hhas] at HL
      have Hhas := hide hhas
      have Hoff := hide hoff
      have HO1 := hide hO1
      have hwl := hoff.size
      have hk01 := newK_01 ((addS hs (l.take k)).1 (l.getD k 0))
      have hws : IntKind.i64.wrap ((addS hs (l.take k)).2 + newK ((addS hs (l.take k)).1 (l.getD k 0))) = (addS hs (l.take k)).2 + newK ((addS hs (l.take k)).1 (l.getD k 0)) := by rw [IntKind.wrap_i64]; omega
      clear hok hhas hoff hcell HA H0 hle hk01
      generalize newK ((addS hs (l.take k)).1 (l.getD k 0)) = kk at *
      generalize hcs : (addS hs (l.take k)).2 = cs at *
      have Hcs := hide hcs
      clear hcs
      generalize l.getD k 0 = n at *
      go_wp2_with (first | (go_at_call 35; refine (unhide HB).mono ?_; rintro e w1 ⟨rfl, hb⟩) | (go_at_call 34; refine (unhide HL w1 hb).mono ?_; rintro e w2 ⟨rfl, ho, bl2, O2, hok2, hO2, hhas2⟩; have Ho := hide ho; have Hok2 := hide hok2; have HO2 := hide hO2; have Hhas2 := hide hhas2; clear ho hok2 hO2 hhas2))
      go_roundw
      case rel =>
        have hsz1 := hb.size
        refine ⟨k + 1, by go_num, by omega, ?_, off_t' (unhide Hoff) (off_t (off_below hb) (unhide Ho)) (unhide HO1), bl2, O2, ?_, fun j hj => ?_, fun m => ?_⟩
        · rw [unhide HS]
        · rw [unhide HS]
          have := unhide Hok2
          rw [Int.add_assoc] at this
          exact this
        · rcases unhide HO2 j hj with h | h
          · exact unhide HO1 j h
          · exact .inr (by omega)
        · rw [unhide Hhas2, unhide HS, unhide Hhas]
      case measure => simp [intOf]; omega
    · obtain rfl : k = l.length := by omega
      have hlt' : ¬ ((l.length : Int) < l.length) := by omega
      rw [List.take_length] at *
      have Hok := hide hok; have HO1 := hide hO1; have Hhas := hide hhas; have Hoff := hide hoff
      clear hok hO1 hhas hoff HA H0
      go_wp2
      go_ret2
      exact ⟨rfl, unhide Hoff, bl1, O1, unhide Hok, unhide HO1, unhide Hhas⟩

set_option maxHeartbeats 4000000 in
set_option maxRecDepth 100000 in
theorem add_wrong (B : Nat) (a : Option Addr) (c : Nat) (l : List Int) (hnum : numsB l = false) (hl48 : l.length ≤ 281474976710656) (w : World) (hrow : NRow w a l) :
    Calls Tryd.prog 20 #[.pointer (some ⟨B, 0, none⟩), .slice a l.length c] w fun e w' => e = .returned (.tuple #[.int .i64 0, .int .i64 1]) ∧ w' = w := by
  have HA := hide (areNumbers_any a c l hl48 w hrow)
  rw [hnum] at HA
  clear hnum hrow
  go_enter Tryd.func20, Tryd.ntmps20
  go_wp2_with (go_at_call 37; refine (unhide HA).mono ?_; rintro e w' ⟨rfl, hw⟩; obtain rfl := hw.symm)
  go_ret2
  exact ⟨rfl, rfl⟩
set_option maxHeartbeats 4000000 in
set_option maxRecDepth 100000 in
theorem add_zero (B : Nat) (w : World) : Calls Tryd.prog 20 #[.pointer (some ⟨B, 0, none⟩), .slice none 0 0] w fun e w' => e = .returned (.tuple #[.int .i64 0, .int .i64 0]) ∧ w' = w := by
  have HA := hide (areNumbers_any none 0 [] (by decide) w (.inl rfl))
  rw [show numsB [] = true from rfl, show ([] : List Int).length = 0 from rfl] at HA
  go_enter Tryd.func20, Tryd.ntmps20
  go_wp2_with (go_at_call 37; refine (unhide HA).mono ?_; rintro e w' ⟨rfl, hw⟩; obtain rfl := hw.symm)
  go_loop [16, 6] (fun x y => x = .int .i64 0 ∧ y = .int .i64 0) (fun x _ => 0)
  case atStart => exact ⟨rfl, rfl⟩
  case round =>
    obtain ⟨rfl, rfl⟩ := hrel
    go_wp2
    go_ret2
    exact ⟨rfl, rfl⟩
set_option maxHeartbeats 4000000 in
set_option maxRecDepth 100000 in
theorem new_zero (w : World) : Calls Tryd.prog 5 #[.slice none 0 0] w fun e w' => e = .returned (.tuple #[.pointer (some ⟨w.heap.size, 0, none⟩), .int .i64 0]) ∧ w' = w.alloc (.cells #[.slice none 0 0, .int .i64 0] 53) := by
  have HA := hide (add_zero w.heap.size (w.alloc (.cells #[.slice none 0 0, .int .i64 0] 53)))
  go_enter Tryd.func5, Tryd.ntmps5
  go_wp2_with (go_at_call 20; refine (unhide HA).mono ?_; rintro e w1 ⟨rfl, hw⟩; obtain rfl := hw.symm)
  go_ret2
  exact ⟨rfl, rfl⟩
theorem fit_nil : FitB [] := fun b hb => by simp at hb
theorem has_nil (m : Int) : hasB [] m = false := by rw [has_bit fit_nil]; simp [bitsB, isAt]
theorem set_zero {w : World} {B : Nat} (h : w.heap[B]? = some (.cells #[.slice none 0 0, .int .i64 0] 53 (0, 0))) : SetOk w B (fun k => k = B) [] 0 :=
  ⟨⟨rfl, fun k hk => by rw [hk]; exact lt_of_some h, List.Pairwise.nil, by simp, .slice none 0 0, h, ⟨rfl, .inl ⟨rfl, rfl⟩⟩, fun k h => by simp [Value.ownBlock] at h⟩, fit_nil, fun b hb => by simp at hb⟩
set_option maxHeartbeats 4000000 in
set_option maxRecDepth 100000 in
theorem refNumbers_any (a : Option Addr) (c : Nat) (l : List Int) (hl : l.length ≤ 281474976710656) (w : World) (hrow : NRow w a l) :
    Calls Tryd.prog 6 #[.slice a l.length c] w fun e w' => e = .returned (.bool (numsB l)) ∧ w' = w := by
  go_enter Tryd.func6, Tryd.ntmps6
  go_wp2
  go_loop [3] (fun x => ∃ k : Nat, x = .int .i64 k ∧ k ≤ l.length ∧ numsB (l.take k) = true) (fun x => l.length - (intOf x).toNat)
  case atStart => exact ⟨0, rfl, Nat.zero_le _, rfl⟩
  case round =>
    obtain ⟨k, rfl, hk, hn⟩ := hrel
    by_cases hlt : k < l.length
    · have hlt' : (k : Int) < l.length := by omega
      rcases id hrow with h0 | ⟨g, off, rfl, hgl, hc⟩
      · subst h0; simp at hlt
      have ck := hc k hlt
      have HT := hide (numsB_take l k hlt)
      rw [hn] at HT
      have HO := hide (fun h => numsB_of_take (l := l) (k := k + 1) h)
      clear hc hrow hn
      generalize l.getD k 0 = n at *
      by_cases h1 : n < 0
      · have hf : numsB l = false := unhide HO (by rw [unhide HT]; simp; omega)
        have Hf := hide hf
        clear hf
        go_wp2
        go_ret
        exact ⟨by rw [unhide Hf]; rfl, rfl⟩
      · by_cases h2 : (1048576 : Int) ≤ n
        · have hf : numsB l = false := unhide HO (by rw [unhide HT]; simp; omega)
          have Hf := hide hf
          clear hf
          go_wp2
          go_ret
          exact ⟨by rw [unhide Hf]; rfl, rfl⟩
        · have hf : numsB (l.take (k + 1)) = true := by rw [unhide HT]; simp; omega
          have Hf := hide hf
          have h3 : n < 1048576 := by omega
          clear hf
          go_wp2
          go_round
          case rel => exact ⟨k + 1, by go_num, by omega, unhide Hf⟩
          case measure => simp [intOf]; omega
    · obtain rfl : k = l.length := by omega
      have hlt' : ¬ ((l.length : Int) < l.length) := by omega
      rw [List.take_length] at hn
      have Hn := hide hn
      clear hn hrow
      go_wp2
      go_ret
      exact ⟨by rw [unhide Hn]; rfl, rfl⟩
end Go.Proofs.YtdpphjedjhjdgaaDoor

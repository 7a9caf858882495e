/- Sets: Add, Drop. -/
import Derived.Test.YtdpphjedjhjdgaaDoorT7
namespace Go.Proofs.YtdpphjedjhjdgaaDoor
open Go.RowKit Go.Maps

/-- What is in a set, and how many came to it, behind numbers laid in. -/
def addS (h : Int → Bool) (l : List Int) : (Int → Bool) × Int := l.foldl (fun p n => (fun m => if m = n then true else p.1 m, p.2 + newK (p.1 n))) (h, 0)
/-- .. behind numbers taken out. -/
def dropS (h : Int → Bool) (l : List Int) : (Int → Bool) × Int := l.foldl (fun p n => (fun m => if m = n then false else p.1 m, p.2 + newK (!p.1 n))) (h, 0)
theorem newK_01 (h : Bool) : 0 ≤ newK h ∧ newK h ≤ 1 := by unfold newK; split <;> omega
theorem addS_succ (h : Int → Bool) (l : List Int) (k : Nat) (hk : k < l.length) : addS h (l.take (k + 1)) = (fun m => if m = l.getD k 0 then true else (addS h (l.take k)).1 m, (addS h (l.take k)).2 + newK ((addS h (l.take k)).1 (l.getD k 0))) := by
  unfold addS
  rw [List.take_add_one, List.getElem?_eq_getElem hk, List.foldl_append, List.getD_eq_getElem?_getD, List.getElem?_eq_getElem hk]; rfl
theorem dropS_succ (h : Int → Bool) (l : List Int) (k : Nat) (hk : k < l.length) : dropS h (l.take (k + 1)) = (fun m => if m = l.getD k 0 then false else (dropS h (l.take k)).1 m, (dropS h (l.take k)).2 + newK (!(dropS h (l.take k)).1 (l.getD k 0))) := by
  unfold dropS
  rw [List.take_add_one, List.getElem?_eq_getElem hk, List.foldl_append, List.getD_eq_getElem?_getD, List.getElem?_eq_getElem hk]; rfl
theorem addS_le (h : Int → Bool) (l : List Int) (k : Nat) (hk : k ≤ l.length) : 0 ≤ (addS h (l.take k)).2 ∧ (addS h (l.take k)).2 ≤ k := by
  induction k with
  | zero => simp [addS]
  | succ k ih =>
    rw [addS_succ h l k (by omega)]
    have := ih (by omega)
    have := newK_01 ((addS h (l.take k)).1 (l.getD k 0))
    simp only
    omega
theorem dropS_le (h : Int → Bool) (l : List Int) (k : Nat) (hk : k ≤ l.length) : 0 ≤ (dropS h (l.take k)).2 ∧ (dropS h (l.take k)).2 ≤ k := by
  induction k with
  | zero => simp [dropS]
  | succ k ih =>
    rw [dropS_succ h l k (by omega)]
    have := ih (by omega)
    have := newK_01 (!(dropS h (l.take k)).1 (l.getD k 0))
    simp only
    omega

set_option maxHeartbeats 4000000 in
set_option maxRecDepth 100000 in
theorem add_any (B : Nat) (O : Nat → Prop) (bl : List Blk) (sz : Int) (a : Option Addr) (c : Nat) (l : List Int) (hnum : numsB l = true) (hsz : 0 ≤ sz ∧ sz + l.length ≤ 1099511627776) (w : World) (h : SetOk w B O bl sz) (hrow : NRow w a l) (hapart : ∀ x, a = some x → ¬ O x.block) :
    Calls Tryd.prog 20 #[.pointer (some ⟨B, 0, none⟩), .slice a l.length c] w fun e w' => e = .returned (.tuple #[.int .i64 (addS (hasB bl) l).2, .int .i64 0]) ∧ Off O w w' ∧
      ∃ bl' O', SetOk w' B O' bl' (sz + (addS (hasB bl) l).2) ∧ (∀ k, O' k → O k ∨ w.heap.size ≤ k) ∧ ∀ m, hasB bl' m = (addS (hasB bl) l).1 m := by
  have HA := hide (areNumbers_any a c l (by omega) w hrow)
  rw [hnum] at HA
  have hnums : ∀ k, k < l.length → 0 ≤ l.getD k 0 ∧ l.getD k 0 < 1048576 := fun k hk => by
    have := List.all_eq_true.1 hnum (l.getD k 0) (by rw [List.getD_eq_getElem?_getD, List.getElem?_eq_getElem hk]; exact List.getElem_mem _)
    simpa using this
  have Hnums := hide hnums
  have hOl := h.is.lt
  have HOl := hide hOl
  have Hrow := hide hrow
  have Hap := hide hapart
  have H0 : Hid (∃ bl' O', SetOk w B O' bl' (sz + (addS (hasB bl) (l.take 0)).2) ∧ (∀ k, O' k → O k ∨ w.heap.size ≤ k) ∧ ∀ m, hasB bl' m = (addS (hasB bl) (l.take 0)).1 m) := hide ⟨bl, O, by
    show SetOk w B O bl (sz + 0)
    rw [Int.add_zero]; exact h, fun k hk => .inl hk, fun m => rfl⟩
  clear h hnum hnums hOl hrow hapart
  generalize hasB bl = hs at *
  go_enter Tryd.func20, Tryd.ntmps20
  go_wp2_with (go_at_call 37; refine (unhide HA).mono ?_; rintro e w' ⟨rfl, hw⟩; obtain rfl := hw.symm)
  go_loopw [16, 6] (fun x s wr => ∃ k : Nat, x = .int .i64 k ∧ k ≤ l.length ∧ s = .int .i64 (addS hs (l.take k)).2 ∧ Off O w wr ∧ ∃ bl' O', SetOk wr B O' bl' (sz + (addS hs (l.take k)).2) ∧ (∀ k, O' k → O k ∨ w.heap.size ≤ k) ∧ ∀ m, hasB bl' m = (addS hs (l.take k)).1 m) (fun x _ _ => l.length - (intOf x).toNat)
  case atStart => exact ⟨0, rfl, Nat.zero_le _, rfl, off_refl _ _, unhide H0⟩
  case round =>
    obtain ⟨k, rfl, hk, rfl, hoff, bl1, O1, hok, hO1, hhas⟩ := hrel
    by_cases hlt : k < l.length
    · have hlt' : (k : Int) < l.length := by omega
      obtain ⟨g, off, rfl, hgl, hcell⟩ : ∃ g off, a = some ⟨g, off, none⟩ ∧ g < w.heap.size ∧ ∀ j, j < l.length → w.cell? ⟨g, off + j, none⟩ = some (.int .i64 (l.getD j 0)) := by
        rcases unhide Hrow with h | h
        · subst h; simp at hlt
        · exact h
      have hgO : ¬ O g := unhide Hap _ rfl
      have ck : wr.cell? ⟨g, off + k, none⟩ = some (.int .i64 (l.getD k 0)) := (off_cell hoff (p := ⟨g, off + k, none⟩) hgl hgO).trans (hcell k hlt)
      have hle := addS_le hs l k hk
      have HS := hide (addS_succ hs l k hlt)
      have HB := hide (blockOf_any (l.getD k 0) wr)
      have HL := hide (fun w' (hb : Below wr.heap.size wr w') => lay_num B O1 bl1 (sz + (addS hs (l.take k)).2) (l.getD k 0) (unhide Hnums k hlt) (by omega) w' (ok_below hok hb))
      rw [hhas] at HL
      have Hhas := hide hhas
      have Hoff := hide hoff
      have HO1 := hide hO1
      have hwl := hoff.size
      have hk01 := newK_01 ((addS hs (l.take k)).1 (l.getD k 0))
      have hws : IntKind.i64.wrap ((addS hs (l.take k)).2 + newK ((addS hs (l.take k)).1 (l.getD k 0))) = (addS hs (l.take k)).2 + newK ((addS hs (l.take k)).1 (l.getD k 0)) := by rw [IntKind.wrap_i64]; omega
      clear hok hhas hoff hcell HA H0 hle hk01
      generalize newK ((addS hs (l.take k)).1 (l.getD k 0)) = kk at *
      generalize hcs : (addS hs (l.take k)).2 = cs at *
      have Hcs := hide hcs
      clear hcs
      generalize l.getD k 0 = n at *
      go_wp2_with (first | (go_at_call 35; refine (unhide HB).mono ?_; rintro e w1 ⟨rfl, hb⟩) | (go_at_call 34; refine (unhide HL w1 hb).mono ?_; rintro e w2 ⟨rfl, ho, bl2, O2, hok2, hO2, hhas2⟩; have Ho := hide ho; have Hok2 := hide hok2; have HO2 := hide hO2; have Hhas2 := hide hhas2; clear ho hok2 hO2 hhas2))
      go_roundw
      case rel =>
        have hsz1 := hb.size
        refine ⟨k + 1, by go_num, by omega, ?_, off_t' (unhide Hoff) (off_t (off_below hb) (unhide Ho)) (unhide HO1), bl2, O2, ?_, fun j hj => ?_, fun m => ?_⟩
        · rw [unhide HS]
        · rw [unhide HS]
          have := unhide Hok2
          rw [Int.add_assoc] at this
          exact this
        · rcases unhide HO2 j hj with h | h
          · exact unhide HO1 j h
          · exact .inr (by omega)
        · rw [unhide Hhas2, unhide HS, unhide Hhas]
      case measure => simp [intOf]; omega
    · obtain rfl : k = l.length := by omega
      have hlt' : ¬ ((l.length : Int) < l.length) := by omega
      rw [List.take_length] at *
      have Hok := hide hok; have HO1 := hide hO1; have Hhas := hide hhas; have Hoff := hide hoff
      clear hok hO1 hhas hoff HA H0
      go_wp2
      go_ret2
      exact ⟨rfl, unhide Hoff, bl1, O1, unhide Hok, unhide HO1, unhide Hhas⟩
/-- Any number taken out, one that can't be in it, too. -/
theorem take_any (B : Nat) (O : Nat → Prop) (bl : List Blk) (sz n : Int) (hsz : 0 ≤ sz ∧ sz ≤ 1099511627776) (w : World) (h : SetOk w B O bl sz) :
    Calls Tryd.prog 45 #[.pointer (some ⟨B, 0, none⟩), .agg #[.int .i64 (n / 64), .int .u64 (bitV n)]] w fun e w' => e = .returned (.int .i64 (newK (!hasB bl n))) ∧ Off O w w' ∧
      ∃ bl', SetOk w' B O bl' (sz - newK (!hasB bl n)) ∧ ∀ m, hasB bl' m = if m = n then false else hasB bl m := by
  by_cases hn : 0 ≤ n ∧ n < 1048576
  · exact take_num B O bl sz n hn hsz w h
  · have hat : isAt bl (n / 64) = false := by
      cases hat : isAt bl (n / 64)
      · rfl
      · simp only [isAt, List.any_eq_true, beq_iff_eq] at hat
        obtain ⟨b, hb, he⟩ := hat
        have := (h.fit b hb).2
        omega
    have hb0 : bitsB bl (n / 64) = 0 := by unfold bitsB; rw [hat]; rfl
    have hh : hasB bl n = false := by rw [has_bit h.fit, hb0]; simp
    rw [hh]
    refine (take_not B O bl sz (n / 64) (bitV n) hat w h.is).mono fun e w' ⟨e1, e2⟩ => ⟨e1, off_below e2, bl, ?_, fun m => ?_⟩
    · show SetOk w' B O bl (sz - 0)
      rw [Int.sub_zero]
      exact ok_below h e2
    · by_cases e : m = n
      · rw [if_pos e, e, hh]
      · rw [if_neg e]

set_option maxHeartbeats 4000000 in
set_option maxRecDepth 100000 in
theorem drop_any (B : Nat) (O : Nat → Prop) (bl : List Blk) (sz : Int) (a : Option Addr) (c : Nat) (l : List Int) (hl40 : l.length ≤ 1099511627776) (hsz : ∀ k, k ≤ l.length → (dropS (hasB bl) (l.take k)).2 ≤ sz) (hsz2 : sz ≤ 1099511627776) (w : World) (h : SetOk w B O bl sz) (hrow : NRow w a l) (hapart : ∀ x, a = some x → ¬ O x.block) :
    Calls Tryd.prog 28 #[.pointer (some ⟨B, 0, none⟩), .slice a l.length c] w fun e w' => e = .returned (.int .i64 (dropS (hasB bl) l).2) ∧ Off O w w' ∧
      ∃ bl', SetOk w' B O bl' (sz - (dropS (hasB bl) l).2) ∧ ∀ m, hasB bl' m = (dropS (hasB bl) l).1 m := by
  have Hrow := hide hrow
  have Hap := hide hapart
  have H0 : Hid (∃ bl', SetOk w B O bl' (sz - (dropS (hasB bl) (l.take 0)).2) ∧ ∀ m, hasB bl' m = (dropS (hasB bl) (l.take 0)).1 m) := hide ⟨bl, by
    show SetOk w B O bl (sz - 0)
    rw [Int.sub_zero]; exact h, fun m => rfl⟩
  have Hsz := hide hsz
  clear h hrow hapart hsz
  generalize hasB bl = hs at *
  go_enter Tryd.func28, Tryd.ntmps28
  go_wp2
  go_loopw [12, 5] (fun x s wr => ∃ k : Nat, x = .int .i64 k ∧ k ≤ l.length ∧ s = .int .i64 (dropS hs (l.take k)).2 ∧ Off O w wr ∧ ∃ bl', SetOk wr B O bl' (sz - (dropS hs (l.take k)).2) ∧ ∀ m, hasB bl' m = (dropS hs (l.take k)).1 m) (fun x _ _ => l.length - (intOf x).toNat)
  case atStart => exact ⟨0, rfl, Nat.zero_le _, rfl, off_refl _ _, unhide H0⟩
  case round =>
    obtain ⟨k, rfl, hk, rfl, hoff, bl1, hok, hhas⟩ := hrel
    by_cases hlt : k < l.length
    · have hlt' : (k : Int) < l.length := by omega
      obtain ⟨g, off, rfl, hgl, hcell⟩ : ∃ g off, a = some ⟨g, off, none⟩ ∧ g < w.heap.size ∧ ∀ j, j < l.length → w.cell? ⟨g, off + j, none⟩ = some (.int .i64 (l.getD j 0)) := by
        rcases unhide Hrow with h | h
        · subst h; simp at hlt
        · exact h
      have hgO : ¬ O g := unhide Hap _ rfl
      have ck : wr.cell? ⟨g, off + k, none⟩ = some (.int .i64 (l.getD k 0)) := (off_cell hoff (p := ⟨g, off + k, none⟩) hgl hgO).trans (hcell k hlt)
      have hle := dropS_le hs l k hk
      have hsk := unhide Hsz k hk
      have HS := hide (dropS_succ hs l k hlt)
      have HB := hide (blockOf_any (l.getD k 0) wr)
      have HL := hide (fun w' (hb : Below wr.heap.size wr w') => take_any B O bl1 (sz - (dropS hs (l.take k)).2) (l.getD k 0) (by omega) w' (ok_below hok hb))
      rw [hhas] at HL
      have Hhas := hide hhas
      have Hoff := hide hoff
      have hk01 := newK_01 (!(dropS hs (l.take k)).1 (l.getD k 0))
      have hws : IntKind.i64.wrap ((dropS hs (l.take k)).2 + newK (!(dropS hs (l.take k)).1 (l.getD k 0))) = (dropS hs (l.take k)).2 + newK (!(dropS hs (l.take k)).1 (l.getD k 0)) := by rw [IntKind.wrap_i64]; omega
      clear hok hhas hoff hcell H0 hle hk01 hsk
      generalize newK (!(dropS hs (l.take k)).1 (l.getD k 0)) = kk at *
      generalize hcs : (dropS hs (l.take k)).2 = cs at *
      have Hcs := hide hcs
      clear hcs
      generalize l.getD k 0 = n at *
      go_wp2_with (first | (go_at_call 35; refine (unhide HB).mono ?_; rintro e w1 ⟨rfl, hb⟩) | (go_at_call 45; refine (unhide HL w1 hb).mono ?_; rintro e w2 ⟨rfl, ho, bl2, hok2, hhas2⟩; have Ho := hide ho; have Hok2 := hide hok2; have Hhas2 := hide hhas2; clear ho hok2 hhas2))
      go_roundw
      case rel =>
        refine ⟨k + 1, by go_num, by omega, ?_, off_t (unhide Hoff) (off_t (off_below hb) (unhide Ho)), bl2, ?_, fun m => ?_⟩
        · rw [unhide HS]
        · rw [unhide HS]
          have := unhide Hok2
          rw [Int.sub_sub] at this
          exact this
        · rw [unhide Hhas2, unhide HS, unhide Hhas]
      case measure => simp [intOf]; omega
    · obtain rfl : k = l.length := by omega
      have hlt' : ¬ ((l.length : Int) < l.length) := by omega
      rw [List.take_length] at *
      have Hok := hide hok; have Hhas := hide hhas; have Hoff := hide hoff
      clear hok hhas hoff H0
      go_wp2
      go_ret
      exact ⟨rfl, unhide Hoff, bl1, unhide Hok, unhide Hhas⟩
end Go.Proofs.YtdpphjedjhjdgaaDoor

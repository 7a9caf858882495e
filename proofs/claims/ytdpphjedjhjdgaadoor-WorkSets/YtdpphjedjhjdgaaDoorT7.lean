/- Sets: one number laid in, one number taken out. -/
import Derived.Test.YtdpphjedjhjdgaaDoorT6
namespace Go.Proofs.YtdpphjedjhjdgaaDoor
open Go.RowKit Go.Maps

/-- No block is empty. -/
def FullB (bl : List Blk) : Prop := ∀ b ∈ bl, b.2 ≠ 0
theorem full_set {bl : List Blk} (hf : FullB bl) (i : Nat) (v : Blk) (hv : v.2 ≠ 0) : FullB (bl.set i v) := fun b hb => by
  rcases List.mem_or_eq_of_mem_set hb with h | h
  · exact hf b h
  · rw [h]; exact hv
theorem full_ins {bl : List Blk} (hf : FullB bl) (i : Nat) (v : Blk) (hv : v.2 ≠ 0) : FullB (insB bl i v) := fun b hb => by
  unfold insB at hb
  rcases List.mem_append.1 hb with h | h
  · exact hf b (List.mem_of_mem_take h)
  · rcases List.mem_cons.1 h with h | h
    · rw [h]; exact hv
    · exact hf b (List.mem_of_mem_drop h)
theorem full_del {bl : List Blk} (hf : FullB bl) (i : Nat) : FullB (bl.eraseIdx i) := fun b hb => hf b ((List.eraseIdx_sublist _ _).subset hb)
theorem or_full {X Y : Nat} (h : X ≠ 0) : ((Y ||| X : Nat) : Int) ≠ 0 := by
  have : X ≤ Y ||| X := Nat.right_le_or
  omega
theorem pow_full (a : Nat) : 2 ^ a ≠ 0 := Nat.ne_of_gt (Nat.two_pow_pos a)
/-- A set that fits. -/
structure SetOk (w : World) (B : Nat) (O : Nat → Prop) (bl : List Blk) (sz : Int) : Prop where
  is : SetIs w B O bl sz
  fit : FitB bl
  full : FullB bl
theorem ok_below {w w' : World} {B : Nat} {O : Nat → Prop} {bl : List Blk} {n : Int} (h : SetOk w B O bl n) (hb : Below w.heap.size w w') : SetOk w' B O bl n := ⟨set_below h.is hb, h.fit, h.full⟩
theorem ok_off {w w' : World} {B : Nat} {O O' : Nat → Prop} {bl : List Blk} {n : Int} (h : SetOk w B O bl n) (ho : Off O' w w') (hd : ∀ k, O k → ¬ O' k) : SetOk w' B O bl n := ⟨set_off h.is ho hd, h.fit, h.full⟩

theorem nat_fit {X : Nat} (h : X < 2 ^ 64) : 0 ≤ (X : Int) ∧ (X : Int) < 18446744073709551616 := by omega
def newK (h : Bool) : Int := if h then 0 else 1
theorem ones_not (Y a : Nat) (ha : a < 64) : onesV (bits .andNot .u64 ((2 ^ a : Nat) : Int) (Y : Int)) = newK (Y.testBit a) := by
  rw [not_u64, notN_pow _ _ ha]
  cases h : Y.testBit a
  · exact ones_bit ⟨a, ha⟩
  · exact ones_zero
theorem ones_and (Y a : Nat) (hY : Y < 2 ^ 64) (ha : a < 64) : onesV (bits .and .u64 ((2 ^ a : Nat) : Int) (Y : Int)) = newK (!Y.testBit a) := by
  rw [and_u64 _ _ (pow_lt ha) hY, Nat.and_comm, and_pow]
  cases h : Y.testBit a
  · exact ones_zero
  · exact ones_bit ⟨a, ha⟩
theorem newK_le (h : Bool) : 0 ≤ newK h ∧ newK h ≤ 64 := by unfold newK; split <;> omega
theorem num_parts {n : Int} (hn : 0 ≤ n ∧ n < 1048576) : (0 ≤ n / 64 ∧ n / 64 < 16384) ∧ (n % 64).toNat < 64 := by
  have h1 := Int.emod_nonneg n (show (64 : Int) ≠ 0 by decide)
  have h2 := Int.emod_lt_of_pos n (show (0 : Int) < 64 by decide)
  omega

theorem lay_num (B : Nat) (O : Nat → Prop) (bl : List Blk) (sz n : Int) (hn : 0 ≤ n ∧ n < 1048576) (hsz : 0 ≤ sz ∧ sz ≤ 1099511627776) (w : World) (h : SetOk w B O bl sz) :
    Calls Tryd.prog 34 #[.pointer (some ⟨B, 0, none⟩), .agg #[.int .i64 (n / 64), .int .u64 (bitV n)]] w fun e w' => e = .returned (.int .i64 (newK (hasB bl n))) ∧ Off O w w' ∧
      ∃ bl' O', SetOk w' B O' bl' (sz + newK (hasB bl n)) ∧ (∀ k, O' k → O k ∨ w.heap.size ≤ k) ∧ ∀ m, hasB bl' m = if m = n then true else hasB bl m := by
  obtain ⟨ht, ha⟩ := num_parts hn
  have hup := h.is.up
  have hfit := h.fit
  have hhas := has_bit hfit n
  obtain ⟨a, haa⟩ : ∃ a, a = (n % 64).toNat := ⟨_, rfl⟩
  have hbv : bitV n = ((2 ^ a : Nat) : Int) := by rw [haa]; rfl
  rw [← haa] at ha hhas
  have hp := pow_lt ha
  cases hat : isAt bl (n / 64)
  · have hb0 : bitsB bl (n / 64) = 0 := by unfold bitsB; rw [hat]; rfl
    have hh : hasB bl n = false := by rw [hhas, hb0]; simp
    have hlen := fit_short hup hfit
    have ho : bits .or .u64 0 (bitV n) = bitV n := by
      rw [hbv]
      have := or_u64 0 (2 ^ a) (by decide) hp
      rw [Nat.zero_or] at this
      exact this
    have key := lay_new B O bl sz (n / 64) (bitV n) (newK (hasB bl n)) hat (by omega) hsz (newK_le _) (fun w => by
      have := ones_any (bits .andNot .u64 (bitV n) 0) w
      rw [hbv] at this
      have e : onesV (bits .andNot .u64 ((2 ^ a : Nat) : Int) ((0 : Nat) : Int)) = _ := ones_not 0 a ha
      rw [Nat.zero_testBit] at e
      rw [hh, hbv]
      rw [show ((0 : Nat) : Int) = 0 from rfl] at e
      rw [e] at this
      exact this) w h.is
    rw [ho] at key
    have hri := rises_ins hup hat (bitV n)
    have hfi := fit_ins hfit (loc bl (n / 64)) (n / 64, bitV n) ⟨by rw [hbv]; exact nat_fit hp, ht⟩
    refine key.mono fun e w' ⟨e1, e2, e3⟩ => ⟨e1, e2, _, _, ⟨e3, hfi, full_ins h.full _ _ (show bitV n ≠ 0 by rw [hbv]; have := pow_full a; omega)⟩, fun k hk => hk.imp id (fun h => h.1), fun m => ?_⟩
    refine has_put hfit hfi n true (fun s hs => bitsB_same hri hup (fun y => mem_ins _ _ _ hs)) (fun i => ?_) m
    rw [bitsB_mem hri (show (n / 64, bitV n) ∈ _ by unfold insB; simp), hb0, hbv, Int.toNat_natCast, Nat.testBit_two_pow, ← haa]
    simp only [Int.toNat_zero, Nat.zero_testBit]
    by_cases e : i = a
    · simp [e]
    · have e' : ¬ a = i := fun h => e h.symm
      simp [e, e']
  · obtain ⟨hl, he⟩ := (isAt_iff hup (n / 64)).1 hat
    have hmem : bl.getD (loc bl (n / 64)) (0, 0) ∈ bl := by rw [getD_of _ _ hl]; exact List.getElem_mem _
    have hb0 : bitsB bl (n / 64) = (bl.getD (loc bl (n / 64)) (0, 0)).2 := by unfold bitsB; rw [hat]; rfl
    obtain ⟨Y, hY⟩ := Int.eq_ofNat_of_zero_le (hfit _ hmem).1.1
    have hY2 : Y < 2 ^ 64 := by have := (hfit _ hmem).1.2; rw [hY] at this; omega
    rw [hb0, hY, Int.toNat_natCast] at hhas
    have ho : bits .or .u64 (bl.getD (loc bl (n / 64)) (0, 0)).2 (bitV n) = ((Y ||| 2 ^ a : Nat) : Int) := by rw [hY, hbv]; exact or_u64 Y (2 ^ a) hY2 hp
    have key := lay_there B O bl sz (n / 64) (bitV n) (newK (hasB bl n)) hat hsz (newK_le _) (fun w => by
      have := ones_any (bits .andNot .u64 (bitV n) (bl.getD (loc bl (n / 64)) (0, 0)).2) w
      have e := ones_not Y a ha
      rw [← hhas, ← hbv] at e
      rw [hY] at this ⊢
      rw [e] at this
      exact this) w h.is
    rw [ho, he] at key
    have hor : Y ||| 2 ^ a < 2 ^ 64 := Nat.or_lt_two_pow hY2 hp
    have hfi := fit_set hfit (loc bl (n / 64)) (n / 64, ((Y ||| 2 ^ a : Nat) : Int)) ⟨nat_fit hor, ht⟩
    have hri : Rises (bl.set (loc bl (n / 64)) (n / 64, ((Y ||| 2 ^ a : Nat) : Int))) := by have := rises_set hup (loc bl (n / 64)) ((Y ||| 2 ^ a : Nat) : Int); rw [he] at this; exact this
    refine key.mono fun e w' ⟨e1, e2, e3⟩ => ⟨e1, e2, _, _, ⟨e3, hfi, full_set h.full _ _ (or_full (pow_full a))⟩, fun k hk => .inl hk, fun m => ?_⟩
    refine has_put hfit hfi n true (fun s hs => bitsB_same hri hup (fun y => mem_set hl _ hs he)) (fun i => ?_) m
    rw [bitsB_mem hri (show (n / 64, ((Y ||| 2 ^ a : Nat) : Int)) ∈ _ from List.mem_set hl _), hb0, hY, Int.toNat_natCast, Nat.testBit_or, Nat.testBit_two_pow, ← haa]
    by_cases e : i = a
    · simp [e]
    · have e' : ¬ a = i := fun h => e h.symm
      simp [e, e']

set_option maxHeartbeats 2000000 in
set_option maxRecDepth 100000 in
theorem take_not (B : Nat) (O : Nat → Prop) (bl : List Blk) (n t x : Int) (hat : isAt bl t = false) (w : World) (h : SetIs w B O bl n) :
    Calls Tryd.prog 45 #[.pointer (some ⟨B, 0, none⟩), .agg #[.int .i64 t, .int .u64 x]] w fun e w' => e = .returned (.int .i64 0) ∧ Below w.heap.size w w' := by
  have hb0 : Below w.heap.size w (w.alloc (.cells #[.int .i64 t, .int .u64 x] 73)) := (Below.refl _ _).alloc (Nat.le_refl _) _
  have HF := hide (find_set B O bl n t _ (set_below h hb0))
  rw [hat] at HF
  have Hb0 := hide hb0
  clear h hb0 hat
  go_enter Tryd.func45, Tryd.ntmps45
  go_wp2_with (go_at_call 46; refine (unhide HF).mono ?_; rintro e w1 ⟨rfl, hb⟩)
  go_ret
  exact ⟨rfl, (unhide Hb0).trans (hb.mono (by simp))⟩

theorem take_num (B : Nat) (O : Nat → Prop) (bl : List Blk) (sz n : Int) (hn : 0 ≤ n ∧ n < 1048576) (hsz : 0 ≤ sz ∧ sz ≤ 1099511627776) (w : World) (h : SetOk w B O bl sz) :
    Calls Tryd.prog 45 #[.pointer (some ⟨B, 0, none⟩), .agg #[.int .i64 (n / 64), .int .u64 (bitV n)]] w fun e w' => e = .returned (.int .i64 (newK (!hasB bl n))) ∧ Off O w w' ∧
      ∃ bl', SetOk w' B O bl' (sz - newK (!hasB bl n)) ∧ ∀ m, hasB bl' m = if m = n then false else hasB bl m := by
  obtain ⟨ht, ha⟩ := num_parts hn
  have hup := h.is.up
  have hfit := h.fit
  have hhas := has_bit hfit n
  obtain ⟨a, haa⟩ : ∃ a, a = (n % 64).toNat := ⟨_, rfl⟩
  have hbv : bitV n = ((2 ^ a : Nat) : Int) := by rw [haa]; rfl
  rw [← haa] at ha hhas
  have hp := pow_lt ha
  cases hat : isAt bl (n / 64)
  · have hb0 : bitsB bl (n / 64) = 0 := by unfold bitsB; rw [hat]; rfl
    have hh : hasB bl n = false := by rw [hhas, hb0]; simp
    rw [hh]
    refine (take_not B O bl sz (n / 64) (bitV n) hat w h.is).mono fun e w' ⟨e1, e2⟩ => ⟨e1, off_below e2, bl, ?_, fun m => ?_⟩
    · show SetOk w' B O bl (sz - 0)
      rw [Int.sub_zero]
      exact ok_below h e2
    · by_cases e : m = n
      · rw [if_pos e, e, hh]
      · rw [if_neg e]
  · obtain ⟨hl, he⟩ := (isAt_iff hup (n / 64)).1 hat
    have hmem : bl.getD (loc bl (n / 64)) (0, 0) ∈ bl := by rw [getD_of _ _ hl]; exact List.getElem_mem _
    have hb0 : bitsB bl (n / 64) = (bl.getD (loc bl (n / 64)) (0, 0)).2 := by unfold bitsB; rw [hat]; rfl
    obtain ⟨Y, hY⟩ := Int.eq_ofNat_of_zero_le (hfit _ hmem).1.1
    have hY2 : Y < 2 ^ 64 := by have := (hfit _ hmem).1.2; rw [hY] at this; omega
    rw [hb0, hY, Int.toNat_natCast] at hhas
    have hno : bits .andNot .u64 (bl.getD (loc bl (n / 64)) (0, 0)).2 (bitV n) = (notN Y (2 ^ a) : Int) := by rw [hY, hbv]; exact not_u64 Y (2 ^ a)
    have hones : ∀ w, Calls Tryd.prog 48 #[.int .u64 (bits .and .u64 (bitV n) (bl.getD (loc bl (n / 64)) (0, 0)).2)] w fun e w' => e = .returned (.int .i64 (newK (!hasB bl n))) ∧ w' = w := fun w => by
      have := ones_any (bits .and .u64 (bitV n) (bl.getD (loc bl (n / 64)) (0, 0)).2) w
      have e := ones_and Y a hY2 ha
      rw [← hhas, ← hbv] at e
      rw [hY] at this ⊢
      rw [e] at this
      exact this
    have hbit : ∀ i, (notN Y (2 ^ a)).testBit i = if i = a then false else Y.testBit i := fun i => by
      rw [notN_bit _ _ _ hY2, Nat.testBit_two_pow]
      by_cases e : i = a
      · simp [e]
      · have e' : ¬ a = i := fun h => e h.symm
        simp [e, e']
    have hlt := notN_lt Y (2 ^ a)
    by_cases hz : notN Y (2 ^ a) = 0
    · have key := take_del B O bl sz (n / 64) (bitV n) (newK (!hasB bl n)) hat hsz (newK_le _) (by rw [hno, hz]; rfl) hones w h.is
      have hri : Rises (bl.eraseIdx (loc bl (n / 64))) := hup.sublist (List.eraseIdx_sublist _ _)
      have hfi := fit_del hfit (loc bl (n / 64))
      refine key.mono fun e w' ⟨e1, e2, e3⟩ => ⟨e1, e2, _, ⟨e3, hfi, full_del h.full _⟩, fun m => ?_⟩
      refine has_put hfit hfi n false (fun s hs => bitsB_same hri hup (fun y => mem_del hl (by rw [he]; exact hs))) (fun i => ?_) m
      have hnm : bitsB (bl.eraseIdx (loc bl (n / 64))) (n / 64) = 0 := bitsB_not (fun y hy => by
        rw [List.mem_eraseIdx_iff_getElem] at hy
        obtain ⟨k, hk, hki, hke⟩ := hy
        refine hki (uniq_at hup hk hl ?_)
        rw [hke, ← getD_of bl _ hl, he])
      rw [hnm, hb0, hY, Int.toNat_natCast, ← haa, ← hbit, hz]
      rfl
    · have key := take_keep B O bl sz (n / 64) (bitV n) (newK (!hasB bl n)) hat hsz (newK_le _) (by rw [hno]; omega) hones w h.is
      rw [hno, he] at key
      have hfi := fit_set hfit (loc bl (n / 64)) (n / 64, (notN Y (2 ^ a) : Int)) ⟨nat_fit hlt, ht⟩
      have hri : Rises (bl.set (loc bl (n / 64)) (n / 64, (notN Y (2 ^ a) : Int))) := by have := rises_set hup (loc bl (n / 64)) (notN Y (2 ^ a) : Int); rw [he] at this; exact this
      refine key.mono fun e w' ⟨e1, e2, e3⟩ => ⟨e1, e2, _, ⟨e3, hfi, full_set h.full _ _ (show ((notN Y (2 ^ a) : Nat) : Int) ≠ 0 by omega)⟩, fun m => ?_⟩
      refine has_put hfit hfi n false (fun s hs => bitsB_same hri hup (fun y => mem_set hl _ hs he)) (fun i => ?_) m
      rw [bitsB_mem hri (show (n / 64, (notN Y (2 ^ a) : Int)) ∈ _ from List.mem_set hl _), hb0, hY, Int.toNat_natCast, ← haa]
      exact hbit i
end Go.Proofs.YtdpphjedjhjdgaaDoor

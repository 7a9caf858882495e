/- Sets: made of a row of numbers; some of them taken out again. -/
import Derived.Test.YtdpphjedjhjdgaaDoorF2
namespace Go.Proofs.YtdpphjedjhjdgaaDoor
open Go.RowKit Go.Maps

set_option maxHeartbeats 4000000 in
set_option maxRecDepth 100000 in
theorem drop_all (B : Nat) (O : Nat → Prop) (bl : List Blk) (sz : Int) (a : Option Addr) (c : Nat) (l : List Int) (hl48 : l.length ≤ 281474976710656) (hsz : ∀ k, k ≤ l.length → (dropS (hasB bl) (l.take k)).2 ≤ sz) (hsz2 : sz ≤ 1099511627776) (w : World) (h : SetOk w B O bl sz) (hrow : NRow w a l) (hapart : l ≠ [] → ∀ x, a = some x → ¬ O x.block) :
    Calls Tryd.prog 28 #[.pointer (some ⟨B, 0, none⟩), .slice a l.length c] w fun e w' => e = .returned (.int .i64 (dropS (hasB bl) l).2) ∧ Off O w w' ∧
      ∃ bl', SetOk w' B O bl' (sz - (dropS (hasB bl) l).2) ∧ ∀ m, hasB bl' m = (dropS (hasB bl) l).1 m := by
  have Hrow := hide hrow
  have Hap := hide hapart
  have H0 : Hid (∃ bl', SetOk w B O bl' (sz - (dropS (hasB bl) (l.take 0)).2) ∧ ∀ m, hasB bl' m = (dropS (hasB bl) (l.take 0)).1 m) := hide ⟨bl, by
    show SetOk w B O bl (sz - 0)
    rw [Int.sub_zero]; exact h, fun m => rfl⟩
  have Hsz := hide hsz
  clear h hrow hapart hsz
  generalize hasB bl = hs at *
  go_enter Tryd.func28, Tryd.ntmps28
  go_wp2
  go_loopw [12, 5] (fun x s wr => ∃ k : Nat, x = .int .i64 k ∧ k ≤ l.length ∧ s = .int .i64 (dropS hs (l.take k)).2 ∧ Off O w wr ∧ ∃ bl', SetOk wr B O bl' (sz - (dropS hs (l.take k)).2) ∧ ∀ m, hasB bl' m = (dropS hs (l.take k)).1 m) (fun x _ _ => l.length - (intOf x).toNat)
  case atStart => exact ⟨0, rfl, Nat.zero_le _, rfl, off_refl _ _, unhide H0⟩
  case round =>
    obtain ⟨k, rfl, hk, rfl, hoff, bl1, hok, hhas⟩ := hrel
    by_cases hlt : k < l.length
    · have hlt' : (k : Int) < l.length := by omega
      obtain ⟨g, off, rfl, hgl, hcell⟩ : ∃ g off, a = some ⟨g, off, none⟩ ∧ g < w.heap.size ∧ ∀ j, j < l.length → w.cell? ⟨g, off + j, none⟩ = some (.int .i64 (l.getD j 0)) := by
        rcases unhide Hrow with h | h
        · subst h; simp at hlt
        · exact h
      have hgO : ¬ O g := unhide Hap (fun e => by subst e; simp at hlt) _ rfl
      have ck : wr.cell? ⟨g, off + k, none⟩ = some (.int .i64 (l.getD k 0)) := (off_cell hoff (p := ⟨g, off + k, none⟩) hgl hgO).trans (hcell k hlt)
      have hle := dropS_le hs l k hk
      have hsk := unhide Hsz k hk
      have HS := hide (dropS_succ hs l k hlt)
      have HB := hide (blockOf_any (l.getD k 0) wr)
      have HL := hide (fun w' (hb : Below wr.heap.size wr w') => take_any B O bl1 (sz - (dropS hs (l.take k)).2) (l.getD k 0) (by omega) w' (ok_below hok hb))
      rw [hhas] at HL
      have Hhas := hide hhas
      have Hoff := hide hoff
      have hk01 := newK_01 (!(dropS hs (l.take k)).1 (l.getD k 0))
      have hws : IntKind.i64.wrap ((dropS hs (l.take k)).2 + newK (!(dropS hs (l.take k)).1 (l.getD k 0))) = (dropS hs (l.take k)).2 + newK (!(dropS hs (l.take k)).1 (l.getD k 0)) := by rw [IntKind.wrap_i64]; omega
      clear hok hhas hoff hcell H0 hle hk01 hsk
      generalize newK (!(dropS hs (l.take k)).1 (l.getD k 0)) = kk at *
      generalize hcs : (dropS hs (l.take k)).2 = cs at *
      have Hcs := hide hcs
      clear hcs
      generalize l.getD k 0 = n at *
      go_wp2_with (first | (go_at_call 35; refine (unhide HB).mono ?_; rintro e w1 ⟨rfl, hb⟩) | (go_at_call 45; refine (unhide HL w1 hb).mono ?_; rintro e w2 ⟨rfl, ho, bl2, hok2, hhas2⟩; have Ho := hide ho; have Hok2 := hide hok2; have Hhas2 := hide hhas2; clear ho hok2 hhas2))
      go_roundw
      case rel =>
        refine ⟨k + 1, by go_num, by omega, ?_, off_t (unhide Hoff) (off_t (off_below hb) (unhide Ho)), bl2, ?_, fun m => ?_⟩
        · rw [unhide HS]
        · rw [unhide HS]
          have := unhide Hok2
          rw [Int.sub_sub] at this
          exact this
        · rw [unhide Hhas2, unhide HS, unhide Hhas]
      case measure => simp [intOf]; omega
    · obtain rfl : k = l.length := by omega
      have hlt' : ¬ ((l.length : Int) < l.length) := by omega
      rw [List.take_length] at *
      have Hok := hide hok; have Hhas := hide hhas; have Hoff := hide hoff
      clear hok hhas hoff H0
      go_wp2
      go_ret
      exact ⟨rfl, unhide Hoff, bl1, unhide Hok, unhide Hhas⟩

theorem cnt_drop (h : Int → Bool) (n : Int) (hn : 0 ≤ n) : ∀ N : Nat, n < N → (cnt N (fun m => if m = n then false else h m) : Int) = cnt N h - newK (!h n) := by
  intro N
  induction N with
  | zero => intro hN; omega
  | succ N ih =>
    intro hN
    rw [cnt_succ, cnt_succ]
    by_cases e : (N : Int) = n
    · rw [cnt_out h n false N (by omega), if_pos e, e]
      unfold newK
      cases h n <;> simp
    · have := ih (by omega)
      rw [if_neg e]
      omega
theorem cnt_same (N : Nat) (h h' : Int → Bool) (he : ∀ m : Int, h m = h' m) : cnt N h = cnt N h' := by
  rw [show h = h' from funext he]
theorem take_mem (l : List Int) (k : Nat) (hk : k < l.length) (m : Int) : m ∈ l.take (k + 1) ↔ m ∈ l.take k ∨ m = l.getD k 0 := by
  rw [List.take_add_one, List.getElem?_eq_getElem hk, List.mem_append, List.getD_eq_getElem?_getD, List.getElem?_eq_getElem hk]
  simp
theorem addS_mem (h : Int → Bool) (l : List Int) (m : Int) : ∀ k, k ≤ l.length → (addS h (l.take k)).1 m = (decide (m ∈ l.take k) || h m) := by
  intro k
  induction k with
  | zero => intro _; simp [addS]
  | succ k ih =>
    intro hk
    rw [addS_succ h l k (by omega), decide_eq_decide.2 (take_mem l k (by omega) m)]
    show (if m = l.getD k 0 then true else (addS h (l.take k)).1 m) = _
    rw [ih (by omega)]
    by_cases e : m = l.getD k 0
    · rw [if_pos e, decide_eq_true (Or.inr e)]; rfl
    · have hd : decide (m ∈ l.take k ∨ m = l.getD k 0) = decide (m ∈ l.take k) := decide_eq_decide.2 ⟨fun h => h.elim id (fun h => absurd h e), .inl⟩
      rw [if_neg e, hd]
theorem dropS_mem (h : Int → Bool) (l : List Int) (m : Int) : ∀ k, k ≤ l.length → (dropS h (l.take k)).1 m = (!decide (m ∈ l.take k) && h m) := by
  intro k
  induction k with
  | zero => intro _; simp [dropS]
  | succ k ih =>
    intro hk
    rw [dropS_succ h l k (by omega), decide_eq_decide.2 (take_mem l k (by omega) m)]
    show (if m = l.getD k 0 then false else (dropS h (l.take k)).1 m) = _
    rw [ih (by omega)]
    by_cases e : m = l.getD k 0
    · rw [if_pos e, decide_eq_true (Or.inr e)]; rfl
    · have hd : decide (m ∈ l.take k ∨ m = l.getD k 0) = decide (m ∈ l.take k) := decide_eq_decide.2 ⟨fun h => h.elim id (fun h => absurd h e), .inl⟩
      rw [if_neg e, hd]
theorem dropS_cnt (N : Nat) (h : Int → Bool) (hv : ∀ m, h m = true → 0 ≤ m ∧ m < N) (l : List Int) : ∀ k, k ≤ l.length → (dropS h (l.take k)).2 = (cnt N h : Int) - cnt N (dropS h (l.take k)).1 := by
  intro k
  induction k with
  | zero => intro _; show (0 : Int) = _; simp [dropS]
  | succ k ih =>
    intro hk
    have hm := dropS_mem h l (l.getD k 0) k (by omega)
    have := ih (by omega)
    rw [dropS_succ h l k (by omega)]
    show (dropS h (l.take k)).2 + _ = _ - (cnt N (fun m => if m = l.getD k 0 then false else (dropS h (l.take k)).1 m) : Int)
    by_cases hr : 0 ≤ l.getD k 0 ∧ l.getD k 0 < N
    · rw [cnt_drop _ _ hr.1 N hr.2]
      omega
    · have hf : h (l.getD k 0) = false := by
        cases hh : h (l.getD k 0)
        · rfl
        · exact absurd (hv _ hh) hr
      have hd : (dropS h (l.take k)).1 (l.getD k 0) = false := by rw [hm, hf]; simp
      have e : cnt N (fun m => if m = l.getD k 0 then false else (dropS h (l.take k)).1 m) = cnt N (dropS h (l.take k)).1 := cnt_same N _ _ (fun m => by
        by_cases em : m = l.getD k 0
        · rw [if_pos em, em, hd]
        · rw [if_neg em])
      rw [e, hd]
      show _ + newK true = _
      simp only [newK, if_true]
      omega
theorem has_valid {bl : List Blk} (hf : FitB bl) (m : Int) (h : hasB bl m = true) : 0 ≤ m ∧ m < 1048576 := by
  by_cases hv : 0 ≤ m ∧ m < 1048576
  · exact hv
  · exfalso
    have hb0 : bitsB bl (m / 64) = 0 := bitsB_not (fun y hy => by
      have := (hf _ hy).2
      simp only at this
      omega)
    rw [has_bit hf, hb0] at h
    simp at h

set_option maxHeartbeats 4000000 in
set_option maxRecDepth 100000 in
/-- NewSet of numbers. -/
theorem new_nums (N : Nat) (hN : N = 1048576) (a : Option Addr) (c : Nat) (l : List Int) (hl48 : l.length ≤ 281474976710656) (hnum : numsB l = true) (w : World) (hrow : NRow w a l) :
    Calls Tryd.prog 5 #[.slice a l.length c] w fun e w' => e = .returned (.tuple #[.pointer (some ⟨w.heap.size, 0, none⟩), .int .i64 0]) ∧ Below w.heap.size w w' ∧
      ∃ bl O, SetOk w' w.heap.size O bl (cnt N (hasB bl)) ∧ (∀ k, O k → w.heap.size ≤ k) ∧ ∀ m, hasB bl m = decide (m ∈ l) := by
  have hb0 : Below w.heap.size w (w.alloc (.cells #[.slice none 0 0, .int .i64 0] 53)) := (Below.refl _ _).alloc (Nat.le_refl _) _
  have hB := (MapKept.heap_alloc w (.cells #[.slice none 0 0, .int .i64 0] 53)).1
  have hrow1 := nrow_below hrow hb0 (Nat.le_refl _)
  have hv : ∀ k, k < l.length → 0 ≤ l.getD k 0 ∧ l.getD k 0 < N := fun k hk => by
    have := List.all_eq_true.1 hnum (l.getD k 0) (by rw [List.getD_eq_getElem?_getD, List.getElem?_eq_getElem hk]; exact List.getElem_mem _)
    simp only [decide_eq_true_eq] at this
    omega
  have hz : cnt N (hasB []) = 0 := cnt_zero N _ has_nil
  have HA := hide (add_all w.heap.size _ [] 0 a c l hnum hl48 (fun k hk => by
    have h1 := addS_cnt N (hasB []) l hv k hk
    have h2 := cnt_le N (addS (hasB []) (l.take k)).1
    have h3 := addS_le (hasB []) l k hk
    omega) (w.alloc (.cells #[.slice none 0 0, .int .i64 0] 53)) (set_zero hB) hrow1 (fun h0 x hx e => by
      rcases hrow with h | ⟨g, off, h, hg, -⟩
      · exact h0 h
      · rw [h] at hx; cases hx; exact absurd e (by show ¬ g = w.heap.size; omega)))
  have Hc : Hid ((addS (hasB []) l).2 = (cnt N (addS (hasB []) l).1 : Int)) := hide (by
    have h1 := addS_cnt N (hasB []) l hv l.length (Nat.le_refl _)
    rw [List.take_length, hz] at h1
    omega)
  have Hm : Hid (∀ m, (addS (hasB []) l).1 m = decide (m ∈ l)) := hide (fun m => by
    have h1 := addS_mem (hasB []) l m l.length (Nat.le_refl _)
    rw [List.take_length, has_nil, Bool.or_false] at h1
    exact h1)
  have Hb0 := hide hb0
  clear hb0 hB hrow1 hv hz hrow hnum
  generalize hasB [] = hs at *
  go_enter Tryd.func5, Tryd.ntmps5
  go_wp2_with (go_at_call 20; refine (unhide HA).mono ?_; rintro e w1 ⟨rfl, ho, bl, O, hok, hO, hh⟩; have Ho := hide ho; have Hok := hide hok; have HO := hide hO; have Hh := hide hh; clear ho hok hO hh)
  go_ret2
  refine ⟨rfl, (unhide Hb0).trans (off_to (unhide Ho) (fun i hi => by omega) (by simp)), bl, O, ?_, fun k hk => ?_, fun m => ?_⟩
  · have h1 := unhide Hok
    rw [Int.zero_add, unhide Hc, cnt_same N _ _ (fun m => (unhide Hh m).symm)] at h1
    exact h1
  · rcases unhide HO k hk with h | h
    · omega
    · simp at h; omega
  · rw [unhide Hh, unhide Hm]
set_option maxHeartbeats 4000000 in
set_option maxRecDepth 100000 in
theorem new_wrong (a : Option Addr) (c : Nat) (l : List Int) (hl48 : l.length ≤ 281474976710656) (hnum : numsB l = false) (w : World) (hrow : NRow w a l) :
    Calls Tryd.prog 5 #[.slice a l.length c] w fun e w' => e = .returned (.tuple #[.pointer none, .int .i64 1]) ∧ Below w.heap.size w w' := by
  have hb0 : Below w.heap.size w (w.alloc (.cells #[.slice none 0 0, .int .i64 0] 53)) := (Below.refl _ _).alloc (Nat.le_refl _) _
  have HA := hide (add_wrong w.heap.size a c l hnum hl48 _ (nrow_below hrow hb0 (Nat.le_refl _)))
  have Hb0 := hide hb0
  clear hb0 hrow hnum
  go_enter Tryd.func5, Tryd.ntmps5
  go_wp2_with (go_at_call 20; refine (unhide HA).mono ?_; rintro e w1 ⟨rfl, hw⟩; obtain rfl := hw.symm)
  go_ret2
  exact ⟨rfl, unhide Hb0⟩
end Go.Proofs.YtdpphjedjhjdgaaDoor

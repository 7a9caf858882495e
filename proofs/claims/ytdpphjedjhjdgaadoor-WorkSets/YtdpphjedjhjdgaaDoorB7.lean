/- Sets: Join. -/
import Derived.Test.YtdpphjedjhjdgaaDoorT8
import Derived.Test.YtdpphjedjhjdgaaDoorB6
namespace Go.Proofs.YtdpphjedjhjdgaaDoor
open Go.RowKit Go.Maps

/-- How many numbers of a block are not there. -/
def newH (h : Int → Bool) (t : Int) (X : Nat) : Int := (((List.range 64).filter fun i => X.testBit i && !h (64 * t + i)).length : Nat)
theorem newB_has {bl : List Blk} (hf : FitB bl) (t : Int) (X : Nat) (hX : X < 2 ^ 64) : newB bl t X = newH (hasB bl) t X := by
  unfold newB newH pop
  congr 2
  apply List.filter_congr
  intro i hi
  have hi := List.mem_range.1 hi
  rw [notN_bit _ _ _ hX, has_bit hf, show (64 * t + (i : Int)) / 64 = t by omega, show ((64 * t + (i : Int)) % 64).toNat = i by omega]
theorem newH_le (h : Int → Bool) (t : Int) (X : Nat) : 0 ≤ newH h t X ∧ newH h t X ≤ 64 := by
  unfold newH
  have := List.length_filter_le (fun i => X.testBit i && !h (64 * t + (i : Int))) (List.range 64)
  rw [List.length_range] at this
  omega
/-- What is in a set, and how many came to it, behind blocks laid in. -/
def joinS (h : Int → Bool) (cl : List Blk) : (Int → Bool) × Int := cl.foldl (fun p b => (fun m => p.1 m || (decide (m / 64 = b.1) && b.2.toNat.testBit (m % 64).toNat), p.2 + newH p.1 b.1 b.2.toNat)) (h, 0)
theorem joinS_succ (h : Int → Bool) (l : List Blk) (k : Nat) (hk : k < l.length) : joinS h (l.take (k + 1)) = (fun m => (joinS h (l.take k)).1 m || (decide (m / 64 = (l.getD k (0, 0)).1) && (l.getD k (0, 0)).2.toNat.testBit (m % 64).toNat), (joinS h (l.take k)).2 + newH (joinS h (l.take k)).1 (l.getD k (0, 0)).1 (l.getD k (0, 0)).2.toNat) := by
  unfold joinS
  rw [List.take_add_one, List.getElem?_eq_getElem hk, List.foldl_append, List.getD_eq_getElem?_getD, List.getElem?_eq_getElem hk]; rfl
theorem joinS_le (h : Int → Bool) (l : List Blk) (k : Nat) (hk : k ≤ l.length) : 0 ≤ (joinS h (l.take k)).2 ∧ (joinS h (l.take k)).2 ≤ 64 * k := by
  induction k with
  | zero => simp [joinS]
  | succ k ih =>
    rw [joinS_succ h l k (by omega)]
    have := ih (by omega)
    have := newH_le (joinS h (l.take k)).1 (l.getD k (0, 0)).1 (l.getD k (0, 0)).2.toNat
    simp only
    omega

set_option maxHeartbeats 4000000 in
set_option maxRecDepth 100000 in
theorem join_any (B C : Nat) (O P : Nat → Prop) (bl cl : List Blk) (sz n : Int) (hsz : 0 ≤ sz ∧ sz ≤ 1099510579200) (w : World) (h : SetOk w B O bl sz) (hc : SetOk w C P cl n) (hd : ∀ k, P k → ¬ O k) :
    Calls Tryd.prog 14 #[.pointer (some ⟨B, 0, none⟩), .pointer (some ⟨C, 0, none⟩)] w fun e w' => e = .returned (.int .i64 (joinS (hasB bl) cl).2) ∧ Off O w w' ∧
      ∃ bl' O', SetOk w' B O' bl' (sz + (joinS (hasB bl) cl).2) ∧ (∀ k, O' k → O k ∨ w.heap.size ≤ k) ∧ ∀ m, hasB bl' m = (joinS (hasB bl) cl).1 m := by
  obtain ⟨sv, hB, hr, hs⟩ := hc.is.lies
  obtain ⟨va, vc, rfl⟩ := own_form hr
  have hrow := brow_own hr
  have hlen := fit_short hc.is.up hc.fit
  have hfit := hc.fit
  have c0 := cell_block hB 0 _ rfl
  have hltC := lt_of_some hB
  have Hrow := hide hrow; have Hfit := hide hfit; have Hfull := hide hc.full
  have Hnot : Hid (∀ k, (Value.slice va cl.length vc).ownBlock = some k → ¬ O k) := hide (fun k hk => hd k (hs k hk))
  have HOl := hide h.is.lt
  have H0 : Hid (∃ bl' O', SetOk w B O' bl' (sz + (joinS (hasB bl) (cl.take 0)).2) ∧ (∀ k, O' k → O k ∨ w.heap.size ≤ k) ∧ ∀ m, hasB bl' m = (joinS (hasB bl) (cl.take 0)).1 m) := hide ⟨bl, O, by
    show SetOk w B O bl (sz + 0)
    rw [Int.add_zero]; exact h, fun k hk => .inl hk, fun m => rfl⟩
  clear h hc hB hr hs hrow hfit hd
  generalize hasB bl = hs at *
  go_enter Tryd.func14, Tryd.ntmps14
  go_wp2
  go_loopw [19, 5] (fun x s wr => ∃ k : Nat, x = .int .i64 k ∧ k ≤ cl.length ∧ s = .int .i64 (joinS hs (cl.take k)).2 ∧ Off O w wr ∧ ∃ bl' O', SetOk wr B O' bl' (sz + (joinS hs (cl.take k)).2) ∧ (∀ k, O' k → O k ∨ w.heap.size ≤ k) ∧ ∀ m, hasB bl' m = (joinS hs (cl.take k)).1 m) (fun x _ _ => cl.length - (intOf x).toNat)
  case atStart => exact ⟨0, rfl, Nat.zero_le _, rfl, off_refl _ _, unhide H0⟩
  case round =>
    obtain ⟨k, rfl, hk, rfl, hoff, bl1, O1, hok, hO1, hhas⟩ := hrel
    by_cases hlt : k < cl.length
    · have hlt' : (k : Int) < cl.length := by omega
      rcases unhide Hrow with h | ⟨g, rfl, hgl, hcells⟩
      · subst h; simp at hlt
      obtain ⟨d0, d1⟩ := hcells k hlt
      have hgO : ¬ O g := unhide Hnot g rfl
      have e0 := (off_cell hoff (p := ⟨g, k * 2, none⟩) hgl hgO).trans d0
      have e1 := (off_cell hoff (p := ⟨g, k * 2 + 1, none⟩) hgl hgO).trans d1
      have hmem : cl.getD k (0, 0) ∈ cl := by rw [getD_of _ _ hlt]; exact List.getElem_mem _
      obtain ⟨hf1, hf2⟩ := unhide Hfit _ hmem
      have hfu := unhide Hfull _ hmem
      have hle := joinS_le hs cl k hk
      have HS := hide (joinS_succ hs cl k hlt)
      clear d0 d1 hcells hmem
      generalize cl.getD k (0, 0) = b at *
      obtain ⟨t, y⟩ := b
      simp only at e0 e1 hf1 hf2 hfu
      obtain ⟨Y, rfl⟩ := Int.eq_ofNat_of_zero_le hf1.1
      have hY : Y < 2 ^ 64 := by have := hf1.2; omega
      have hY0 : Y ≠ 0 := by omega
      have HL := hide (fun w' (hb : Below wr.heap.size wr w') => lay_blk B O1 bl1 (sz + (joinS hs (cl.take k)).2) t Y hf2 hY hY0 (by omega) w' (ok_below hok hb))
      have heq : hasB bl1 = (joinS hs (cl.take k)).1 := funext hhas
      rw [newB_has hok.fit t Y hY, heq] at HL
      simp only [Int.toNat_natCast] at HS
      have Hoff := hide hoff
      have HO1 := hide hO1
      have hwl := hoff.size
      have hk01 := newH_le (joinS hs (cl.take k)).1 t Y
      have hws : IntKind.i64.wrap ((joinS hs (cl.take k)).2 + newH (joinS hs (cl.take k)).1 t Y) = (joinS hs (cl.take k)).2 + newH (joinS hs (cl.take k)).1 t Y := by rw [IntKind.wrap_i64]; omega
      clear hok hhas hoff H0 hle hk01 heq hY hf1 hf2 hY0 hfu
      generalize newH (joinS hs (cl.take k)).1 t Y = kk at *
      generalize hcs : (joinS hs (cl.take k)).2 = cs at *
      have Hcs := hide hcs
      clear hcs
      have Hb : Hid (Below wr.heap.size wr (wr.alloc (.cells #[.int .i64 t, .int .u64 (Y : Int)] 73))) := hide ((Below.refl _ _).alloc (Nat.le_refl _) _)
      go_wp2_with (go_at_call 34; refine (unhide HL _ (unhide Hb)).mono ?_; rintro e w2 ⟨rfl, ho, bl2, O2, hok2, hO2, hhas2⟩; have Ho := hide ho; have Hok2 := hide hok2; have HO2 := hide hO2; have Hhas2 := hide hhas2; clear ho hok2 hO2 hhas2)
      go_roundw
      case rel =>
        have hsz1 := (unhide Hb).size
        refine ⟨k + 1, by go_num, by omega, ?_, off_t' (unhide Hoff) (off_t (off_below (unhide Hb)) (unhide Ho)) (unhide HO1), bl2, O2, ?_, fun j hj => ?_, fun m => ?_⟩
        · rw [unhide HS]
        · rw [unhide HS]
          have := unhide Hok2
          rw [Int.add_assoc] at this
          exact this
        · rcases unhide HO2 j hj with h | h
          · exact unhide HO1 j h
          · exact .inr (by omega)
        · rw [unhide Hhas2, unhide HS]
      case measure => simp [intOf]; omega
    · obtain rfl : k = cl.length := by omega
      have hlt' : ¬ ((cl.length : Int) < cl.length) := by omega
      rw [List.take_length] at *
      have Hok := hide hok; have HO1 := hide hO1; have Hhas := hide hhas; have Hoff := hide hoff
      clear hok hO1 hhas hoff H0
      go_wp2
      go_ret
      exact ⟨rfl, unhide Hoff, bl1, O1, unhide Hok, unhide HO1, unhide Hhas⟩
end Go.Proofs.YtdpphjedjhjdgaaDoor

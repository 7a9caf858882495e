/- The document's text of a rune: FormatInt at base 16, one. -/
import Derived.Test.YtkbhdojgdgiggaaDoorXD
import Derived.Test.YtkbhdojgdgiggaaDoorT3
namespace Go.Proofs.YtkbhdojgdgiggaaDoor
open Go.RowKit Go.Lib Go.Sort

set_option maxHeartbeats 2000000 in
set_option maxRecDepth 100000 in
theorem fbS (u : Nat) (hu : u < 4294967296) (w : World) (hT : w.cell? ⟨4, 15, none⟩ = some (.int .u8 4)) (h5 : 4 < w.heap.size) :
    Calls Tryd.prog 113 #[.slice none 0 0, .int .u64 u, .int .i64 16, .bool false, .bool false] w fun e w' => ∃ x, e = .returned (.tuple #[x, .string ⟨(hexL u).toArray⟩]) ∧ Below w.heap.size w w' := by
  have HP := hide pow16
  have hb0 : Below w.heap.size w (w.alloc (.cells Tryd.zeroCells144 144)) := (Below.refl _ _).alloc (Nat.le_refl _) _
  have HT := hide (tzs16 (w.alloc (.cells Tryd.zeroCells144 144)) ((hb0.cell (p := ⟨4, 15, none⟩) h5).trans hT))
  have HA : Hid (AC (w.alloc (.cells Tryd.zeroCells144 144)) w.heap.size 65 []) := hide (ac_start w)
  have Hb0 := hide hb0
  clear hb0 hT
  go_enter Tryd.func113, Tryd.ntmps113
  go_wp2_with fail
  refine (unhide HP _).mono ?_
  rintro e w' ⟨rfl, hw⟩
  obtain rfl := hw.symm
  go_wp2_with fail
  refine (unhide HT).mono ?_
  rintro e w' ⟨rfl, hw⟩
  obtain rfl := hw.symm
  go_wp2
  go_loopw [1, 13] (fun x y wr => ∃ (m i : Nat) (suf : List UInt8), x = .int .u64 m ∧ y = .int .i64 i ∧ 57 ≤ i ∧ i ≤ 65 ∧ m < 16 ^ (i - 57) ∧ AC wr w.heap.size i suf ∧ Below w.heap.size w wr ∧ hexL m ++ suf = hexL u) (fun x _ _ => (intOf x).toNat)
  case atStart => exact ⟨u, 65, [], rfl, rfl, by omega, by omega, by simpa using hu, unhide HA, unhide Hb0, by simp⟩
  case round =>
    obtain ⟨m, i, suf, rfl, rfl, hi1, hi2, hm, hac, hbel, heq⟩ := hrel
    have hm32 : m < 4294967296 := Nat.lt_of_lt_of_le hm (by
      have : 16 ^ (i - 57) ≤ 16 ^ 8 := Nat.pow_le_pow_right (by omega) (by omega)
      simpa using this)
    rw [hexL] at heq
    by_cases h16 : m < 16
    · rw [dif_pos h16] at heq
      have h16' : ¬ (16 : Int) ≤ (m : Int) := by omega
      obtain ⟨k, rfl⟩ : ∃ k, i = k + 1 := ⟨i - 1, by omega⟩
      obtain ⟨⟨x0, cx⟩, fx⟩ := ac_cell hac k (by omega)
      have e1 : ((k + 1 : Nat) : Int) - 1 = (k : Int) := by omega
      have hd := dig_at m h16 (by show m < 36; omega)
      have hs := ac_set hac (hexD m)
      rw [← hd] at hs
      have hlen := hs.1
      have hb2 : Below w.heap.size w (wr.setCell ⟨w.heap.size, k, none⟩ (.int .u8 ((digits[m]'(by show m < 36; omega)).toNat : Nat))) := hbel.setCell (p := ⟨w.heap.size, k, none⟩) (Nat.le_refl _) _
      have hconv : (convert 71 9 (.slice (some ⟨w.heap.size, k, none⟩) (65 - k) (65 - k))).run Tryd.prog (wr.setCell ⟨w.heap.size, k, none⟩ (.int .u8 ((digits[m]'(by show m < 36; omega)).toNat : Nat))) = .ok (.string ⟨(hexL u).toArray⟩) (wr.setCell ⟨w.heap.size, k, none⟩ (.int .u8 ((digits[m]'(by show m < 36; omega)).toNat : Nat))) := by
        have e3 : (hexD m :: suf).length = 65 - k := by simp at hlen ⊢; omega
        rw [← heq, ← e3]
        refine run_convert_bytes_back _ 71 9 5 _ _ (hexD m :: suf) Tryd.underlying71 Tryd.underlying5 Tryd.underlying9 ?_
        intro j hj
        exact ac_news hs j _ (by rw [Lib.byteCells, List.getElem?_map, List.getElem?_eq_getElem hj]; rfl)
      have Hb2 := hide hb2; have Hcv := hide hconv
      clear hac hbel heq hs hb2 hconv
      have hk0 : (0 : Int) ≤ (k : Int) := by omega
      have hk65 : (k : Int) < 65 := by omega
      have hm0 : (0 : Int) ≤ (m : Int) := by omega
      have hm36 : (m : Int) < 36 := by omega
      have hk65' : (k : Int) ≤ 65 := by omega
      have hcv := unhide Hcv
      unfold digits at hcv
      go_wp2
      go_ret2
      exact ⟨⟨_, rfl⟩, unhide Hb2⟩
    · rw [dif_neg h16] at heq
      have h16' : (16 : Int) ≤ (m : Int) := by omega
      obtain ⟨k, rfl⟩ : ∃ k, i = k + 1 := ⟨i - 1, by omega⟩
      obtain ⟨⟨x0, cx⟩, fx⟩ := ac_cell hac k (by omega)
      have e1 : ((k + 1 : Nat) : Int) - 1 = (k : Int) := by omega
      have hand := and15 m (by omega)
      have Hac := hide hac; have Hbel := hide hbel; have Heq := hide heq
      clear hac hbel heq
      have hk0 : (0 : Int) ≤ (k : Int) := by omega
      have hk65 : (k : Int) < 65 := by omega
      go_wp2
      go_roundw
      case rel =>
        have hd := dig_at (m % 16) (by omega) (by show m % 16 < 36; omega)
        have hp := pow_step m k (by omega) hm
        refine ⟨m / 16, k, hexD (m % 16) :: suf, by go_num, rfl, hp.1, by omega, hp.2, ?_, (unhide Hbel).setCell (p := ⟨w.heap.size, k, none⟩) (Nat.le_refl _) _, by rw [← unhide Heq, List.append_assoc]; rfl⟩
        have hs := ac_set (unhide Hac) (hexD (m % 16))
        rw [← hd] at hs
        exact hs
      case measure => simp [intOf]; omega
theorem fiS (r : Nat) (hr : r < 4294967296) (w : World) (hT : Tz w) :
    Calls Tryd.prog 92 #[.int .i64 r, .int .i64 16] w fun e w' => e = .returned (.string ⟨(hexL r).toArray⟩) ∧ Below w.heap.size w w' := by
  have H := hide (fbS r hr w hT.1 hT.2)
  have h0 : ¬ (r : Int) < 0 := by omega
  clear hT
  go_enter Tryd.func92, Tryd.ntmps92
  go_wp2_with fail
  refine (unhide H).mono ?_
  rintro e w' ⟨x, rfl, hb⟩
  go_wp2
  go_ret
  exact ⟨rfl, hb⟩
theorem sfiS (r : Nat) (hr : r < 4294967296) (w : World) (hT : Tz w) :
    Calls Tryd.prog 71 #[.int .i64 r, .int .i64 16] w fun e w' => e = .returned (.string ⟨(hexL r).toArray⟩) ∧ Below w.heap.size w w' := by
  have H := hide (fiS r hr w hT)
  clear hT
  go_enter Tryd.func71, Tryd.ntmps71
  go_wp2_with fail
  refine (unhide H).mono ?_
  rintro e w' ⟨rfl, hb⟩
  go_wp2
  go_ret
  exact ⟨rfl, hb⟩
theorem conv_one (w : World) (r : Int) (h0 : 0 ≤ r) (h1 : r < 256) :
    (convert 71 9 (.slice (some ⟨w.heap.size, 0, none⟩) 1 1)).run Tryd.prog (w.alloc (.cells #[.int .u8 r] 5)) = .ok (.string ⟨#[UInt8.ofNat r.toNat]⟩) (w.alloc (.cells #[.int .u8 r] 5)) := by
  refine run_convert_bytes_back _ 71 9 5 _ _ [UInt8.ofNat r.toNat] Tryd.underlying71 Tryd.underlying5 Tryd.underlying9 ?_
  intro j hj
  have : j = 0 := by simpa using hj
  subst this
  have e : ((UInt8.ofNat r.toNat).toNat : Int) = r := by
    show ((r.toNat % 256 : Nat) : Int) = r
    omega
  rw [addr_add, World.cell?_alloc_mark]
  show some (Value.int .u8 r) = some (.int .u8 ((UInt8.ofNat r.toNat).toNat : Int))
  rw [e]
theorem cat_eq (a b : List UInt8) : (⟨a.toArray⟩ ++ ⟨b.toArray⟩ : ByteArray) = ⟨(a ++ b).toArray⟩ := by
  apply ByteArray.ext
  rw [ByteArray.data_append]
  simp
theorem cat_lit (a : Array UInt8) (b : List UInt8) : (⟨a⟩ ++ ⟨b.toArray⟩ : ByteArray) = ⟨(a.toList ++ b).toArray⟩ := cat_eq a.toList b
set_option maxHeartbeats 2000000 in
set_option maxRecDepth 100000 in
theorem one_low (r : Int) (l : List UInt8) (h : (r = 10 ∧ l = [92, 110]) ∨ (r = 9 ∧ l = [92, 116]) ∨ (r = 13 ∧ l = [92, 114])) (w : World) :
    Calls Tryd.prog 55 #[.int .i32 r] w fun e w' => e = .returned (.string ⟨l.toArray⟩) ∧ Below w.heap.size w w' := by
  go_enter Tryd.func55, Tryd.ntmps55
  rcases h with ⟨rfl, rfl⟩ | ⟨rfl, rfl⟩ | ⟨rfl, rfl⟩
  all_goals
    go_wp2
    go_ret
    exact ⟨rfl, Below.refl _ _⟩
set_option maxHeartbeats 2000000 in
set_option maxRecDepth 100000 in
theorem one_mark (r : Int) (hm : markedB r = true) (w : World) :
    Calls Tryd.prog 55 #[.int .i32 r] w fun e w' => e = .returned (.string ⟨[92, UInt8.ofNat r.toNat].toArray⟩) ∧ Below w.heap.size w w' := by
  have hc := marked_cases hm
  have HM := hide (marked_any r)
  rw [hm] at HM
  have a1 : (r == 10) = false := by simp; omega
  have a2 : (r == 9) = false := by simp; omega
  have a3 : (r == 13) = false := by simp; omega
  have b0 : 0 ≤ r := by omega
  have b1 : r < 256 := by omega
  have hcv := conv_one w r b0 b1
  have hcat := cat_lit #[92] [UInt8.ofNat r.toNat]
  clear hc hm
  go_enter Tryd.func55, Tryd.ntmps55
  go_wp2_with fail
  refine (unhide HM _).mono ?_
  rintro e w' ⟨rfl, hw⟩
  obtain rfl := hw.symm
  go_wp2
  go_ret
  exact ⟨rfl, (Below.refl _ _).alloc (Nat.le_refl _) _⟩
set_option maxHeartbeats 2000000 in
set_option maxRecDepth 100000 in
theorem one_plain (r : Int) (hm : markedB r = false) (hp : 32 < r ∧ r < 127) (w : World) :
    Calls Tryd.prog 55 #[.int .i32 r] w fun e w' => e = .returned (.string ⟨[UInt8.ofNat r.toNat].toArray⟩) ∧ Below w.heap.size w w' := by
  have HM := hide (marked_any r)
  rw [hm] at HM
  have HP := hide (plain_any r)
  rw [show decide (32 < r ∧ r < 127) = true by simpa using hp] at HP
  have a1 : (r == 10) = false := by simp; omega
  have a2 : (r == 9) = false := by simp; omega
  have a3 : (r == 13) = false := by simp; omega
  have b0 : 0 ≤ r := by omega
  have b1 : r < 256 := by omega
  have hcv := conv_one w r b0 b1
  clear hm hp
  go_enter Tryd.func55, Tryd.ntmps55
  go_wp2_with fail
  refine (unhide HM _).mono ?_
  rintro e w' ⟨rfl, hw⟩
  obtain rfl := hw.symm
  go_wp2_with fail
  refine (unhide HP _).mono ?_
  rintro e w' ⟨rfl, hw⟩
  obtain rfl := hw.symm
  go_wp2
  go_ret
  exact ⟨rfl, (Below.refl _ _).alloc (Nat.le_refl _) _⟩
set_option maxHeartbeats 2000000 in
set_option maxRecDepth 100000 in
theorem one_hex (r : Nat) (h10 : (r : Int) ≠ 10) (h9 : (r : Int) ≠ 9) (h13 : (r : Int) ≠ 13) (hm : markedB r = false) (hp : ¬ (32 < (r : Int) ∧ (r : Int) < 127)) (hr : r < 16777216) (w : World) (hT : Tz w) :
    Calls Tryd.prog 55 #[.int .i32 r] w fun e w' => e = .returned (.string ⟨([92, 117, 123] ++ (hexL r ++ [125])).toArray⟩) ∧ Below w.heap.size w w' := by
  have HM := hide (marked_any r)
  rw [hm] at HM
  have HP := hide (plain_any r)
  rw [show decide (32 < (r : Int) ∧ (r : Int) < 127) = false by simpa using hp] at HP
  have a1 : ((r : Int) == 10) = false := by simpa using h10
  have a2 : ((r : Int) == 9) = false := by simpa using h9
  have a3 : ((r : Int) == 13) = false := by simpa using h13
  have HF := hide (sfiS r (by omega) w hT)
  have hlen : (hexL r).length ≤ 6 := by rw [← hexF_L 6 r (by simpa using hr) (by omega)]; exact hexF_le 6 r
  have hcat := cat_lit #[92, 117, 123] (hexL r)
  have hcat2 := cat_eq ([92, 117, 123] ++ hexL r) [125]
  rw [List.append_assoc] at hcat2
  clear hm hp hT
  generalize hexL r = X at *
  go_enter Tryd.func55, Tryd.ntmps55
  go_wp2_with fail
  refine (unhide HM _).mono ?_
  rintro e w' ⟨rfl, hw⟩
  obtain rfl := hw.symm
  go_wp2_with fail
  refine (unhide HP _).mono ?_
  rintro e w' ⟨rfl, hw⟩
  obtain rfl := hw.symm
  go_wp2_with fail
  refine (unhide HF).mono ?_
  rintro e w1 ⟨rfl, hb⟩
  go_wp2
  go_ret
  exact ⟨congrArg (fun z => Ending.returned (.string z)) hcat2, hb⟩
theorem one_any (r : Int) (h0 : 0 ≤ r) (hr : r ≤ 1114111) (w : World) (hT : Tz w) :
    Calls Tryd.prog 55 #[.int .i32 r] w fun e w' => e = .returned (.string ⟨(runeT r).toArray⟩) ∧ Below w.heap.size w w' := by
  unfold runeT
  by_cases h1 : r = 10
  · rw [if_pos h1]; exact one_low r _ (.inl ⟨h1, rfl⟩) w
  rw [if_neg h1]
  by_cases h2 : r = 9
  · rw [if_pos h2]; exact one_low r _ (.inr (.inl ⟨h2, rfl⟩)) w
  rw [if_neg h2]
  by_cases h3 : r = 13
  · rw [if_pos h3]; exact one_low r _ (.inr (.inr ⟨h3, rfl⟩)) w
  rw [if_neg h3]
  by_cases h4 : markedB r = true
  · rw [if_pos h4]; exact one_mark r h4 w
  rw [if_neg h4]
  by_cases h5 : 32 < r ∧ r < 127
  · rw [if_pos h5]; exact one_plain r (Bool.eq_false_iff.2 h4) h5 w
  rw [if_neg h5]
  obtain ⟨n, rfl⟩ := Int.eq_ofNat_of_zero_le h0
  rw [Int.toNat_natCast, hexF_L 6 n (by simp; omega) (by omega), List.append_assoc]
  exact one_hex n h1 h2 h3 (Bool.eq_false_iff.2 h4) h5 (by omega) w hT
end Go.Proofs.YtkbhdojgdgiggaaDoor

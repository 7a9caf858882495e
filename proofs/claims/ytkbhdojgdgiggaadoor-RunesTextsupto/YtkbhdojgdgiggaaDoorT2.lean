/- formatBits at base 16. -/
import Derived.Test.YtkbhdojgdgiggaaDoorT1
import Derived.Test.YtkbhdojgdgiggaaDoorV14
import Derived.Sort.Row
namespace Go.Proofs.YtkbhdojgdgiggaaDoor
open Go.RowKit

/-- A number's digits, at base 16. -/
def hexL (n : Nat) : List UInt8 := if _h : n < 16 then [hexD n] else hexL (n / 16) ++ [hexD (n % 16)]
termination_by n
decreasing_by omega
theorem hexF_L (f n : Nat) (h : n < 16 ^ f) (hf : 0 < f) : hexF f n = hexL n := by
  induction f generalizing n with
  | zero => omega
  | succ f ih =>
    rw [hexF, hexL]
    by_cases h16 : n < 16
    · rw [if_pos h16, dif_pos h16]
    · rw [if_neg h16, dif_neg h16]
      have h1 : n / 16 < 16 ^ f := Nat.div_lt_of_lt_mul (by rw [Nat.pow_succ] at h; omega)
      have h2 : 0 < f := by
        rcases Nat.eq_zero_or_pos f with rfl | h0
        · simp at h; omega
        · exact h0
      rw [ih _ h1 h2]

/-- The array of digits under way: from place i on it holds what was written. -/
def AC (w : World) (ab i : Nat) (suf : List UInt8) : Prop := i + suf.length = 65 ∧ ∃ arr, w.heap[ab]? = some (.cells arr 144 (0, 0)) ∧ arr.size = 65 ∧ ∀ j, j < suf.length → arr[i + j]? = some (.int .u8 ((suf.getD j 0).toNat : Nat))
theorem ac_cell {w : World} {ab i : Nat} {suf : List UInt8} (h : AC w ab i suf) (j : Nat) (hj : j < 65) : (∃ x, w.cell? ⟨ab, j, none⟩ = some x) ∧ w.frozen? ⟨ab, j, none⟩ = false := by
  obtain ⟨_, arr, h1, h2, _⟩ := h
  constructor
  · exact ⟨arr[j]'(by omega), by simp [World.cell?, h1, Array.getElem?_eq_getElem (show j < arr.size by omega)]⟩
  · simp [World.frozen?, h1]
theorem ac_set {w : World} {ab i : Nat} {suf : List UInt8} (h : AC w ab (i + 1) suf) (b : UInt8) : AC (w.setCell ⟨ab, i, none⟩ (.int .u8 (b.toNat : Nat))) ab i (b :: suf) := by
  obtain ⟨h0, arr, h1, h2, h3⟩ := h
  refine ⟨by simp; omega, arr.setIfInBounds i (.int .u8 (b.toNat : Nat)), ?_, by simpa using h2, fun j hj => ?_⟩
  · rw [Go.Sort.setCell_eq]
    show (w.heap.modify ab _)[ab]? = _
    rw [Array.getElem?_modify, if_pos rfl, h1]
    rfl
  · cases j with
    | zero => simp [show i < arr.size by omega]
    | succ j =>
      have := h3 j (by simpa using hj)
      rw [Array.getElem?_setIfInBounds, if_neg (by omega), show i + (j + 1) = i + 1 + j by omega, this]
      simp

theorem addr_add (b i j : Nat) : (⟨b, i, none⟩ : Addr).add j = ⟨b, i + j, none⟩ := by
  unfold Addr.add
  split
  · rename_i h; subst h; rfl
  · rfl
theorem ac_news {w : World} {ab i : Nat} {suf : List UInt8} (h : AC w ab i suf) : ∀ j u, (Lib.byteCells suf)[j]? = some u → w.cell? ((⟨ab, i, none⟩ : Addr).add j) = some u := by
  intro j u hu
  obtain ⟨h0, arr, h1, h2, h3⟩ := h
  have hj : j < suf.length := by
    rcases Nat.lt_or_ge j suf.length with h | h
    · exact h
    · rw [List.getElem?_eq_none (by simpa [Lib.byteCells] using h)] at hu; cases hu
  have := h3 j hj
  simp only [Lib.byteCells, List.getElem?_map, List.getElem?_eq_getElem hj, Option.map_some, Option.some.injEq] at hu
  rw [← hu]
  rw [List.getD_eq_getElem?_getD, List.getElem?_eq_getElem hj, Option.getD_some] at this
  rw [addr_add]
  simpa [World.cell?, h1] using this
theorem grown_trans {a w w' : World} {row : Option Nat} (h : a.grownBy w row) (k : w.grownBy w' row) : a.grownBy w' row :=
  ⟨k.os.trans h.os, k.tape.trans h.tape, k.output.trans h.output, Nat.le_trans h.size k.size, fun i hi hr => (k.block i (Nat.lt_of_lt_of_le hi h.size) hr).trans (h.block i hi hr)⟩
theorem below_grown {w w' : World} {B : Nat} (hb : Below B w w') (hB : w.heap.size ≤ B) (row : Option Nat) : w.grownBy w' row := ⟨hb.os, hb.tape, hb.output, hb.size, fun i hi _ => hb.block i (by omega)⟩
theorem and15 (x : Nat) (hx : x < 18446744073709551616) : bits .and .u64 (x : Int) 15 = ((x % 16 : Nat) : Int) := by
  have e : (BitVec.ofInt 64 (x : Int)).toNat = x := by rw [BitVec.ofInt_natCast, BitVec.toNat_ofNat]; exact Nat.mod_eq_of_lt hx
  show IntKind.u64.wrap ((BitVec.ofInt 64 (x : Int) &&& BitVec.ofInt 64 15).toNat : Int) = _
  rw [BitVec.toNat_and, e, show (BitVec.ofInt 64 15).toNat = 2 ^ 4 - 1 by decide, Nat.and_two_pow_sub_one_eq_mod]
  exact IntWalk.u64_in _ (by omega)
def digits : ByteArray := { data := #[48, 49, 50, 51, 52, 53, 54, 55, 56, 57, 97, 98, 99, 100, 101, 102, 103, 104, 105, 106, 107, 108, 109, 110, 111, 112, 113, 114, 115, 116, 117, 118, 119, 120, 121, 122] }
theorem dig_fin : ∀ k : Fin 16, (digits[k.val]'(by have := k.2; show k.val < 36; omega)).toNat = (hexD k.val).toNat := by decide +kernel
theorem dig_at (n : Nat) (h : n < 16) (h2 : n < digits.size) : digits[n].toNat = (hexD n).toNat := dig_fin ⟨n, h⟩
theorem ac_start (w : World) : AC (w.alloc (.cells Tryd.zeroCells144 144)) w.heap.size 65 [] := ⟨rfl, Tryd.zeroCells144, by show (w.heap.push _)[w.heap.size]? = _; simp, rfl, fun j hj => by simp at hj⟩
theorem pow_step (m k : Nat) (h16 : 16 ≤ m) (hm : m < 16 ^ (k + 1 - 57)) : 57 ≤ k ∧ m / 16 < 16 ^ (k - 57) := by
  have h1 : 57 ≤ k := by
    by_cases h : 57 ≤ k
    · exact h
    · rw [show k + 1 - 57 = 0 by omega] at hm
      simp at hm; omega
  refine ⟨h1, Nat.div_lt_of_lt_mul ?_⟩
  rw [show k + 1 - 57 = (k - 57) + 1 by omega, Nat.pow_succ] at hm
  omega

set_option maxHeartbeats 1000000 in
set_option maxRecDepth 100000 in
theorem fb16 (v : Value) (l : List UInt8) (B : Nat) (u : Nat) (hu : u < 4294967296) (w : World) (hT : w.cell? ⟨4, 15, none⟩ = some (.int .u8 4)) (h5 : 4 < w.heap.size) (hl : l.length ≤ 1000100) (hB : B ≤ w.heap.size) (hown : w.ownsRow B 5 1 v l.length (Lib.byteCells l)) :
    Calls Tryd.prog 113 #[v, .int .u64 u, .int .i64 16, .bool false, .bool true] w fun e w' => ∃ v' x, e = .returned (.tuple #[v', x]) ∧ w'.ownsRow B 5 1 v' (l ++ hexL u).length (Lib.byteCells (l ++ hexL u)) ∧ w.grownBy w' v.ownBlock ∧ (v'.ownBlock = v.ownBlock ∨ ∃ g, v'.ownBlock = some g ∧ w.heap.size ≤ g) := by
  obtain ⟨i0, hi, hz0, hz1, hz2⟩ := info_parts hbyte
  have HP := hide pow16
  have hb0 : Below w.heap.size w (w.alloc (.cells Tryd.zeroCells144 144)) := (Below.refl _ _).alloc (Nat.le_refl _) _
  have HT := hide (tzs16 (w.alloc (.cells Tryd.zeroCells144 144)) ((hb0.cell (p := ⟨4, 15, none⟩) h5).trans hT))
  have HA : Hid (AC (w.alloc (.cells Tryd.zeroCells144 144)) w.heap.size 65 []) := hide (ac_start w)
  obtain ⟨va, vc, rfl⟩ := ownsRow_slice hown
  have Hown := hide hown
  have Hb0 := hide hb0
  clear hown hb0 hT
  go_enter Tryd.func113, Tryd.ntmps113
  go_wp2_with fail
  refine (unhide HP _).mono ?_
  rintro e w' ⟨rfl, hw⟩
  obtain rfl := hw.symm
  go_wp2_with fail
  refine (unhide HT).mono ?_
  rintro e w' ⟨rfl, hw⟩
  obtain rfl := hw.symm
  go_wp2
  go_loopw [1, 13] (fun x y wr => ∃ (m i : Nat) (suf : List UInt8), x = .int .u64 m ∧ y = .int .i64 i ∧ 57 ≤ i ∧ i ≤ 65 ∧ m < 16 ^ (i - 57) ∧ AC wr w.heap.size i suf ∧ Below w.heap.size w wr ∧ hexL m ++ suf = hexL u) (fun x _ _ => (intOf x).toNat)
  case atStart => exact ⟨u, 65, [], rfl, rfl, by omega, by omega, by simpa using hu, unhide HA, unhide Hb0, by simp⟩
  case round =>
    obtain ⟨m, i, suf, rfl, rfl, hi1, hi2, hm, hac, hbel, heq⟩ := hrel
    have hm32 : m < 4294967296 := Nat.lt_of_lt_of_le hm (by
      have : 16 ^ (i - 57) ≤ 16 ^ 8 := Nat.pow_le_pow_right (by omega) (by omega)
      simpa using this)
    rw [hexL] at heq
    by_cases h16 : m < 16
    · rw [dif_pos h16] at heq
      have h16' : ¬ (16 : Int) ≤ (m : Int) := by omega
      obtain ⟨k, rfl⟩ : ∃ k, i = k + 1 := ⟨i - 1, by omega⟩
      obtain ⟨⟨x0, cx⟩, fx⟩ := ac_cell hac k (by omega)
      have e1 : ((k + 1 : Nat) : Int) - 1 = (k : Int) := by omega
      have hd := dig_at m h16 (by show m < 36; omega)
      have hs := ac_set hac (hexD m)
      rw [← hd] at hs
      have hlen := hs.1
      have hb2 : Below w.heap.size w (wr.setCell ⟨w.heap.size, k, none⟩ (.int .u8 ((digits[m]'(by show m < 36; omega)).toNat : Nat))) := hbel.setCell (p := ⟨w.heap.size, k, none⟩) (Nat.le_refl _) _
      have hsz2 := hb2.size
      have ho2 := ownsRow_below (unhide Hown) hb2 (Nat.le_refl _)
      have Hs := hide hs; have Hb2 := hide hb2; have Ho2 := hide ho2; have Heq := hide heq
      clear hac hbel heq hs hb2 ho2
      have hk0 : (0 : Int) ≤ (k : Int) := by omega
      have hk65 : (k : Int) < 65 := by omega
      have hm0 : (0 : Int) ≤ (m : Int) := by omega
      have hm36 : (m : Int) < 36 := by omega
      have hk65' : (k : Int) ≤ 65 := by omega
      go_wp2_with (at_builtin; refine wpList_append_own_at _ rfl _ _ 71 rfl B 5 i0 (.int .u8 0) 1 1 Tryd.underlying71 hi hz0 hz1 hz2 rfl (by decide) _ _ _ rfl (unhide Ho2) ⟨w.heap.size, k, none⟩ (65 - k) (65 - k) (Lib.byteCells (hexD m :: suf)) ?c0 ?c1 ?c2 ?c3 ?c4 ?c5 ?c6 ?_)
      case c1 => simp [Lib.byteCells]; simp at hlen; omega
      case c2 => intro j x hx; have := ac_news (unhide Hs) j x hx; rw [addr_add] at this; exact this
      case c3 => intro x hx; simp [Lib.byteCells] at hx; rcases hx with rfl | ⟨_, _, rfl⟩ <;> rfl
      case c4 => unfold maxLen; omega
      case c5 => omega
      case c6 => simp at hsz2 ⊢; omega
      intro v' w2 hown' hgrow _ hblk
      have Hblk := hide hblk
      clear hblk
      have hg2 := grown_trans (below_grown (unhide Hb2) (Nat.le_refl _) _) hgrow
      have hh : w2.ownsRow B 5 1 v' (l ++ hexL u).length (Lib.byteCells (l ++ hexL u)) := by
        rw [← unhide Heq, Lib.byteCells_append, List.length_append]
        have e3 : (([hexD m] : List UInt8) ++ suf).length = 65 - k := by simp at hlen ⊢; omega
        rw [e3]
        exact hown'
      have Hg2 := hide hg2; have Hh := hide hh
      clear hg2 hh hown' hgrow
      go_wp2
      go_ret2
      exact ⟨v', _, rfl, unhide Hh, unhide Hg2, (unhide Hblk).imp id fun h => ⟨_, h, by simpa using hsz2⟩⟩
    · rw [dif_neg h16] at heq
      have h16' : (16 : Int) ≤ (m : Int) := by omega
      obtain ⟨k, rfl⟩ : ∃ k, i = k + 1 := ⟨i - 1, by omega⟩
      obtain ⟨⟨x0, cx⟩, fx⟩ := ac_cell hac k (by omega)
      have e1 : ((k + 1 : Nat) : Int) - 1 = (k : Int) := by omega
      have hand := and15 m (by omega)
      have Hac := hide hac; have Hbel := hide hbel; have Heq := hide heq
      clear hac hbel heq
      have hk0 : (0 : Int) ≤ (k : Int) := by omega
      have hk65 : (k : Int) < 65 := by omega
      go_wp2
      go_roundw
      case rel =>
        have hd := dig_at (m % 16) (by omega) (by show m % 16 < 36; omega)
        have hp := pow_step m k (by omega) hm
        refine ⟨m / 16, k, hexD (m % 16) :: suf, by go_num, rfl, hp.1, by omega, hp.2, ?_, (unhide Hbel).setCell (p := ⟨w.heap.size, k, none⟩) (Nat.le_refl _) _, by rw [← unhide Heq, List.append_assoc]; rfl⟩
        have hs := ac_set (unhide Hac) (hexD (m % 16))
        rw [← hd] at hs
        exact hs
      case measure => simp [intOf]; omega
end Go.Proofs.YtkbhdojgdgiggaaDoor

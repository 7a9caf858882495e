/- does: every call. -/
import Derived.Test.YtdpphjedjhjdgaaDoorDE
import Derived.Test.YtdpphjedjhjdgaaDoorD7
import Derived.Test.YtdpphjedjhjdgaaDoorDF
namespace Go.Proofs.YtdpphjedjhjdgaaDoor
open Go.RowKit Go.Maps

theorem and_one (x : Int) : bits .and .i64 x 1 = 0 ∨ bits .and .i64 x 1 = 1 := by
  show IntKind.i64.wrap ((BitVec.ofInt 64 x &&& BitVec.ofInt 64 1).toNat : Int) = 0 ∨ IntKind.i64.wrap ((BitVec.ofInt 64 x &&& BitVec.ofInt 64 1).toNat : Int) = 1
  have h : (BitVec.ofInt 64 x &&& BitVec.ofInt 64 1).toNat = (BitVec.ofInt 64 x).toNat % 2 := by
    rw [BitVec.toNat_and, show (BitVec.ofInt 64 1).toNat = 1 by decide, Nat.and_one_is_mod]
  rw [h, IntKind.wrap_i64]
  omega
theorem kind_is (kd : Int) : ∃ k : Nat, k < 9 ∧ (wrap64 (kd.tmod 9 + 9)).tmod 9 = k := by
  have h1 := Int.tmod_lt_of_pos kd (show (0 : Int) < 9 by decide)
  have h2 := Int.lt_tmod_of_pos kd (show (0 : Int) < 9 by decide)
  have h3 : wrap64 (kd.tmod 9 + 9) = kd.tmod 9 + 9 := by
    unfold wrap64
    omega
  rw [h3, Int.tmod_eq_emod_of_nonneg (by omega)]
  exact ⟨((kd.tmod 9 + 9) % 9).toNat, by omega, by omega⟩
theorem does_any (w W : World) (Bs Br : Nat) (h : Two w W Bs Br) (kd wh n : Int) (a : Option Addr) (c : Nat) (l : List Int) (hl : l.length ≤ 281474976710656) (hrow : NRow w a l) :
    Calls Tryd.prog 9 #[.pointer (some ⟨Bs, 0, none⟩), .pointer (some ⟨Br, 0, none⟩), .agg #[.int .i64 kd, .int .i64 wh, .int .i64 n, .slice a l.length c]] W fun e W' => e = .returned (.bool true) ∧ Two w W' Bs Br := by
  obtain ⟨B0, B1, O0, O1, bl0, bl1, v0, v1, h⟩ := h
  obtain ⟨k, hk9, hk⟩ := kind_is kd
  rcases and_one wh with hw | hw
  · match k, hk9, hk with
    | 0, _, hk =>
      cases hnum : numsB l
      · exact does_0_0_no w W Bs Br B0 B1 O0 O1 bl0 bl1 v0 v1 h kd wh n hk hw a c l hl hrow hnum
      · exact does_0_0_yes w W Bs Br B0 B1 O0 O1 bl0 bl1 v0 v1 h kd wh n hk hw a c l hl hrow hnum
    | 1, _, hk => exact does_1_0 w W Bs Br B0 B1 O0 O1 bl0 bl1 v0 v1 h kd wh n hk hw a c l hl hrow
    | 2, _, hk => exact does_2_0 w W Bs Br B0 B1 O0 O1 bl0 bl1 v0 v1 h kd wh n hk hw a c l
    | 3, _, hk => exact does_3_0 w W Bs Br B0 B1 O0 O1 bl0 bl1 v0 v1 h kd wh n hk hw a c l
    | 4, _, hk => exact does_4_0 w W Bs Br B0 B1 O0 O1 bl0 bl1 v0 v1 h kd wh n hk hw a c l
    | 5, _, hk => exact does_5_0 w W Bs Br B0 B1 O0 O1 bl0 bl1 v0 v1 h kd wh n hk hw a c l
    | 6, _, hk => exact does_6_0 w W Bs Br B0 B1 O0 O1 bl0 bl1 v0 v1 h kd wh n hk hw a c l
    | 7, _, hk => exact does_7_0 w W Bs Br B0 B1 O0 O1 bl0 bl1 v0 v1 h kd wh n hk hw a c l
    | 8, _, hk => exact does_8_0 w W Bs Br B0 B1 O0 O1 bl0 bl1 v0 v1 h kd wh n hk hw a c l
  · match k, hk9, hk with
    | 0, _, hk =>
      cases hnum : numsB l
      · exact does_0_1_no w W Bs Br B0 B1 O0 O1 bl0 bl1 v0 v1 h kd wh n hk hw a c l hl hrow hnum
      · exact does_0_1_yes w W Bs Br B0 B1 O0 O1 bl0 bl1 v0 v1 h kd wh n hk hw a c l hl hrow hnum
    | 1, _, hk => exact does_1_1 w W Bs Br B0 B1 O0 O1 bl0 bl1 v0 v1 h kd wh n hk hw a c l hl hrow
    | 2, _, hk => exact does_2_1 w W Bs Br B0 B1 O0 O1 bl0 bl1 v0 v1 h kd wh n hk hw a c l
    | 3, _, hk => exact does_3_1 w W Bs Br B0 B1 O0 O1 bl0 bl1 v0 v1 h kd wh n hk hw a c l
    | 4, _, hk => exact does_4_1 w W Bs Br B0 B1 O0 O1 bl0 bl1 v0 v1 h kd wh n hk hw a c l
    | 5, _, hk => exact does_5_1 w W Bs Br B0 B1 O0 O1 bl0 bl1 v0 v1 h kd wh n hk hw a c l
    | 6, _, hk => exact does_6_1 w W Bs Br B0 B1 O0 O1 bl0 bl1 v0 v1 h kd wh n hk hw a c l
    | 7, _, hk => exact does_7_1 w W Bs Br B0 B1 O0 O1 bl0 bl1 v0 v1 h kd wh n hk hw a c l
    | 8, _, hk => exact does_8_1 w W Bs Br B0 B1 O0 O1 bl0 bl1 v0 v1 h kd wh n hk hw a c l
end Go.Proofs.YtdpphjedjhjdgaaDoor

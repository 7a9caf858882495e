/- The readers: readNumber. -/
import Derived.Test.YtkbhdojgdgiggaaDoorT4
import Derived.OwnWalk
namespace Go.Proofs.YtkbhdojgdgiggaaDoor
open Go.RowKit Go.Lib

/-- The number of so many digits from a place on. -/
def numTo (s : ByteArray) (f : Nat) : Nat → Int
  | 0 => 0
  | j + 1 => 16 * numTo s f j + digV (gb s (f + j))
theorem digV_le (c : Int) : digV c < 16 := by unfold digV; split <;> (try split) <;> (try split) <;> omega
theorem numTo_in (s : ByteArray) (f k : Nat) (h : ∀ j, j < k → 0 ≤ digV (gb s (f + j))) (j : Nat) (hj : j ≤ k) : 0 ≤ numTo s f j ∧ numTo s f j < 16 ^ j := by
  induction j with
  | zero => simp [numTo]
  | succ j ih =>
    have := ih (by omega)
    have h2 := h j (by omega)
    have h3 := digV_le (gb s (f + j))
    rw [numTo]
    constructor
    · omega
    · rw [Int.pow_succ]; omega
theorem digit_int (c : Int) (h0 : 0 ≤ c) (h : c < 256) (w : World) :
    Calls Tryd.prog 134 #[.int .u8 c] w fun e w' => e = .returned (.int .i32 (digV c)) ∧ w' = w := by
  obtain ⟨n, rfl⟩ := Int.eq_ofNat_of_zero_le h0
  exact digit_any n (by omega) w
theorem or16 (q d : Int) (h0 : 0 ≤ q) (h1 : q < 1048576) (h2 : 0 ≤ d) (h3 : d < 16) : bits .or .i32 (q * 16) d = 16 * q + d := by
  obtain ⟨m, rfl⟩ := Int.eq_ofNat_of_zero_le h0
  obtain ⟨n, rfl⟩ := Int.eq_ofNat_of_zero_le h2
  have e1 : (BitVec.ofInt 32 ((m : Int) * 16)).toNat = 2 ^ 4 * m := by
    rw [show (m : Int) * 16 = ((2 ^ 4 * m : Nat) : Int) by omega, BitVec.ofInt_natCast, BitVec.toNat_ofNat]; exact Nat.mod_eq_of_lt (by omega)
  have e2 : (BitVec.ofInt 32 (n : Int)).toNat = n := by rw [BitVec.ofInt_natCast, BitVec.toNat_ofNat]; exact Nat.mod_eq_of_lt (by omega)
  show IntKind.i32.wrap ((BitVec.ofInt 32 ((m : Int) * 16) ||| BitVec.ofInt 32 (n : Int)).toNat : Int) = _
  rw [BitVec.toNat_or, e1, e2, ← Nat.two_pow_add_eq_or_of_lt (by omega)]
  rw [IntWalk.i32_in _ (by omega)]
  omega
set_option maxHeartbeats 1000000 in
set_option maxRecDepth 100000 in
theorem readNumber_ok (s : ByteArray) (i k : Nat) (hs : s.size < 4611686018427387904) (h1 : gb s (i + 2) = 123) (hk0 : 0 < k) (hk6 : k ≤ 6) (hd : ∀ j, j < k → 0 ≤ digV (gb s (i + 3 + j))) (he : gb s (i + 3 + k) = 125) (hv : numTo s (i + 3) k ≤ 1114111) (w : World) :
    Calls Tryd.prog 128 #[.string s, .int .i64 i] w fun e w' => e = .returned (.tuple #[.int .i32 (numTo s (i + 3) k), .int .i64 (i + 3 + k + 1 : Nat), .agg #[.int .i64 0, .int .i64 0]]) ∧ Below w.heap.size w w' := by
  have hi : i + 2 < s.size := gb_pos (by rw [h1]; omega)
  have H1 := hide (isByte_any s (i + 2) 123 (by omega))
  rw [h1] at H1
  have e2 : (i : Int) + 3 - 1 = ((i + 2 : Nat) : Int) := by omega
  go_enter Tryd.func128, Tryd.ntmps128
  go_wp2_with fail
  refine (unhide H1 _).mono ?_
  rintro e w' ⟨rfl, hw⟩
  obtain rfl := hw.symm
  go_wp2
  go_loopw [4, 5] (fun x y wr => ∃ j : Nat, x = .int .i32 (numTo s (i + 3) j) ∧ y = .int .i64 (i + 3 + j : Nat) ∧ j ≤ k ∧ wr = w.alloc (.cells #[.int .i64 0, .int .i64 0] 48)) (fun _ y _ => i + 3 + k - (intOf y).toNat)
  case atStart => exact ⟨0, rfl, by go_num, by omega, rfl⟩
  case round =>
    obtain ⟨j, rfl, rfl, hj, rfl⟩ := hrel
    have hr := numTo_in s (i + 3) k hd j hj
    by_cases hjk : j < k
    · have hdj := hd j hjk
      have hnx : numTo s (i + 3) (j + 1) = 16 * numTo s (i + 3) j + digV (gb s (i + 3 + j)) := rfl
      have hlim : numTo s (i + 3) j < 1048576 := Int.lt_of_lt_of_le hr.2 (by
        have : (16 : Int) ^ j ≤ 16 ^ 5 := by
          have := Nat.pow_le_pow_right (n := 16) (by omega) (show j ≤ 5 by omega)
          exact_mod_cast this
        simpa using this)
      have hg : 0 ≤ gb s (i + 3 + j) := by
        by_cases h : 0 ≤ gb s (i + 3 + j)
        · exact h
        · exfalso
          have : digV (gb s (i + 3 + j)) = -1 := by unfold digV; rw [if_neg (by omega), if_neg (by omega), if_neg (by omega)]
          omega
      have hin : i + 3 + j < s.size := gb_pos hg
      have c1 : ((i + 3 + j : Nat) : Int) < s.size := by omega
      have c2 : ((i + 3 + j : Nat) : Int) < (i : Int) + 3 + 6 := by omega
      have c3 := gb_in hin
      have HD := hide (digit_int (gb s (i + 3 + j)) hg (gb_lt _ _))
      have hd16 := digV_le (gb s (i + 3 + j))
      have hor := or16 (numTo s (i + 3) j) (digV (gb s (i + 3 + j))) hr.1 hlim hdj hd16
      have Hnx := hide hnx
      obtain ⟨hr1, hr2⟩ := hr
      clear hnx hr2
      generalize digV (gb s (i + 3 + j)) = d at *
      generalize numTo s (i + 3) j = q at *
      go_wp2_with fail
      refine (unhide HD _).mono ?_
      rintro e w' ⟨rfl, hw⟩
      obtain rfl := hw.symm
      go_wp2_with fail
      refine (unhide HD _).mono ?_
      rintro e w' ⟨rfl, hw⟩
      obtain rfl := hw.symm
      go_wp2
      refine ⟨⟨j + 1, ?_, by go_num, by omega, trivial⟩, ?_⟩
      · rw [unhide Hnx]
      · simp [intOf]; omega
    · have hjk' : j = k := by omega
      subst hjk'
      have hin : i + 3 + j < s.size := gb_pos (by rw [he]; omega)
      have c1 : ((i + 3 + j : Nat) : Int) < s.size := by omega
      have HI := hide (isByte_any s (i + 3 + j) 125 (by omega))
      rw [he] at HI
      have cne : ((i + 3 + j : Nat) : Int) ≠ (i : Int) + 3 := by omega
      have cne' : (((i + 3 + j : Nat) : Int) == (i : Int) + 3) = false := by simpa using cne
      have hv' : ¬ (1114111 : Int) < numTo s (i + 3) j := by omega
      have Hbel : Hid (Below w.heap.size w (w.alloc (.cells #[.int .i64 0, .int .i64 0] 48))) := hide ((Below.refl _ _).alloc (Nat.le_refl _) _)
      generalize hq : numTo s (i + 3) j = q at *
      by_cases hj6 : j < 6
      · have c2 : ((i + 3 + j : Nat) : Int) < (i : Int) + 3 + 6 := by omega
        have c3 := gb_in hin
        rw [he] at c3
        have HD := hide (digit_int 125 (by omega) (by omega))
        go_wp2_with fail
        refine (unhide HD _).mono ?_
        rintro e w' ⟨rfl, hw⟩
        obtain rfl := hw.symm
        go_wp2_with fail
        refine (unhide HI _).mono ?_
        rintro e w' ⟨rfl, hw⟩
        obtain rfl := hw.symm
        go_wp2
        refine bodyPost_ret (v := .tuple #[.int .i32 q, .int .i64 (i + 3 + j + 1 : Nat), .agg #[.int .i64 0, .int .i64 0]]) (by simp [results, Tryd.results128, go_sem]) rfl ⟨by rw [hq], unhide Hbel⟩
      · have c2 : ¬ ((i + 3 + j : Nat) : Int) < (i : Int) + 3 + 6 := by omega
        go_wp2_with fail
        refine (unhide HI _).mono ?_
        rintro e w' ⟨rfl, hw⟩
        obtain rfl := hw.symm
        go_wp2
        refine bodyPost_ret (v := .tuple #[.int .i32 q, .int .i64 (i + 3 + j + 1 : Nat), .agg #[.int .i64 0, .int .i64 0]]) (by simp [results, Tryd.results128, go_sem]) rfl ⟨by rw [hq], unhide Hbel⟩
end Go.Proofs.YtkbhdojgdgiggaaDoor

/- slices.Sort at rune: pdqsortOrdered whole, Sort. -/
import Derived.Test.YtkbhdojgdgiggabDoorQA
namespace Go.Proofs.YtkbhdojgdgiggabDoor
open Go.RowKit Go.Sort

theorem pdq_any (N : Nat) : ∀ (b cap n a c lim : Nat) (d : Array Int), c - a ≤ N → a ≤ c → c ≤ n → n ≤ 281474976710656 → lim ≤ 64 → Low a c d → ∀ w, RW w b cap n d → Calls Tryd.prog 50 #[.slice (some ⟨b, 0, none⟩) n cap, .int .i64 a, .int .i64 c, .int .i64 lim] w fun e w' => (∃ v, e = .returned v) ∧ ∃ R, RW w' b cap n R ∧ PermIn a c d R ∧ SortedIn ltInt a c R ∧ OfB b w w' := by
  induction N with
  | zero => exact fun b cap n a c lim d h1 h2 h3 h4 h5 h6 w h => pdq_step 0 (fun _ _ _ _ _ _ _ hh => absurd hh (Nat.not_lt_zero _)) b cap n a c lim d h1 h2 h3 h4 h5 h6 w h
  | succ N ih => exact fun b cap n a c lim d h1 h2 h3 h4 h5 h6 w h => pdq_step (N + 1) (fun b cap n a c lim d hh => ih b cap n a c lim d (by omega)) b cap n a c lim d h1 h2 h3 h4 h5 h6 w h

theorem len_same (L : Nat) (hL : L < 4611686018427387904) (w : World) : Calls Tryd.prog 51 #[.int .u64 L] w fun e w' => e = .returned (.int .i64 (bitsLen L : Nat)) ∧ w' = w := by
  have h := Any.bits_Len (SlLaysF0.n15.bits (P := Tryd.prog) (ρ := Tryd.sortR_ren) { Tryd.sortR with }) (L : Int) w (by omega) (by omega)
  rwa [Int.toNat_natCast, bitLen_eq _ (by omega)] at h

set_option maxRecDepth 100000 in
set_option maxHeartbeats 2000000 in
theorem sortR_any (b cap n : Nat) (d : Array Int) (hn : n ≤ 281474976710656) (w : World) (h : RW w b cap n d) :
    Calls Tryd.prog 35 #[.slice (some ⟨b, 0, none⟩) n cap] w fun e w' => (∃ v, e = .returned v) ∧ ∃ R, RW w' b cap n R ∧ R.toList.Perm d.toList ∧ R.toList.Pairwise (· ≤ ·) ∧ OfB b w w' := by
  have hk : bitsLen n ≤ 64 := (bitsLen_le_iff n 64).2 (by omega)
  have HL := hide (len_same n (by omega))
  have HP := hide (pdq_any n b cap n 0 n (bitsLen n) d (by omega) (by omega) (by omega) hn hk (.inl rfl) w h)
  have hw : IntKind.u64.wrap (n : Int) = (n : Int) := IntWalk.u64_in _ (by omega)
  have Hd := hide h.1
  clear h
  generalize bitsLen n = k at *
  go_enter Tryd.func35, Tryd.ntmps35
  go_wp2_with fail
  refine (unhide HL _).mono ?_
  rintro e w' ⟨rfl, hw⟩
  obtain rfl := hw.symm
  go_wp2_with fail
  refine (unhide HP).mono ?_
  rintro e w2 ⟨⟨v, rfl⟩, R, hrw, hpm, hso, hof⟩
  go_wp2
  go_end0
  have hd := unhide Hd
  have hR := hrw.1
  refine ⟨⟨_, rfl⟩, R, hrw, ?_, ?_, hof⟩
  · have := hpm.2.2
    rw [Array.extract_eq_self_of_le (by omega), Array.extract_eq_self_of_le (by omega)] at this
    exact this
  · rw [List.pairwise_iff_getElem]
    intro i j hi hj hij
    have := hso i j (Nat.zero_le _) hij (by simpa [hR] using hj)
    simp only [ltInt, decide_eq_false_iff_not, Int.not_lt] at this
    simp only [Array.length_toList] at hi hj
    simpa [hi, hj] using this
end Go.Proofs.YtkbhdojgdgiggabDoor

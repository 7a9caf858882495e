/- What a text of a set says, in plain words: the runes and ranges that are read. (and what it leads to) -/
import Derived.Test.YtkbhdojgdgiggaaDoorT5
import Derived.Test.YtkbhdojgdgiggaaDoorM4
import Derived.Sort.Row
import Derived.OwnWalk
/- What a text of a set says, in plain words: the runes and ranges that are read. -/
namespace Go.Proofs.YtkbhdojgdgiggaaDoor
open Go.RowKit Go.Lib

/-- What reading a rune tells: the rune, where it ends, and the fault with its place. -/
structure Rd where
  r : Int
  n : Nat
  why : Int
  pos : Nat
def Rd.val (x : Rd) : Value := .tuple #[.int .i32 x.r, .int .i64 x.n, .agg #[.int .i64 x.why, .int .i64 x.pos]]
def badRd (i : Nat) : Rd := ⟨0, 0, 5, i⟩
/-- How many digits, at most so many, lie from a place on. -/
def digs (s : ByteArray) : Nat → Nat → Nat
  | 0, _ => 0
  | k + 1, f => if 0 ≤ digV (gb s f) then digs s k (f + 1) + 1 else 0
theorem digs_spec (s : ByteArray) (k f : Nat) : digs s k f ≤ k ∧ (∀ j, j < digs s k f → 0 ≤ digV (gb s (f + j))) ∧ (digs s k f = k ∨ digV (gb s (f + digs s k f)) < 0) := by
  induction k generalizing f with
  | zero => exact ⟨Nat.le_refl _, fun j hj => by simp [digs] at hj, .inl rfl⟩
  | succ k ih =>
    rw [digs]
    by_cases h : 0 ≤ digV (gb s f)
    · rw [if_pos h]
      obtain ⟨a, b, c⟩ := ih (f + 1)
      refine ⟨by omega, fun j hj => ?_, ?_⟩
      · cases j with
        | zero => exact h
        | succ j =>
          have := b j (by omega)
          rwa [show f + 1 + j = f + (j + 1) by omega] at this
      · rcases c with c | c
        · left; omega
        · right; rwa [show f + 1 + digs s k (f + 1) = f + (digs s k (f + 1) + 1) by omega] at c
    · rw [if_neg h]
      exact ⟨by omega, fun j hj => by omega, .inr (by simpa using h)⟩
def numM (s : ByteArray) (i : Nat) : Rd :=
  if gb s (i + 2) ≠ 123 then badRd (i + 2)
  else if digs s 6 (i + 3) = 0 ∨ gb s (i + 3 + digs s 6 (i + 3)) ≠ 125 then badRd (i + 3 + digs s 6 (i + 3))
  else if 1114111 < numTo s (i + 3) (digs s 6 (i + 3)) then ⟨0, 0, 11, i⟩
  else ⟨numTo s (i + 3) (digs s 6 (i + 3)), i + 3 + digs s 6 (i + 3) + 1, 0, 0⟩
def escM (s : ByteArray) (i : Nat) : Rd :=
  if gb s (i + 1) = 110 then ⟨10, i + 2, 0, 0⟩ else if gb s (i + 1) = 116 then ⟨9, i + 2, 0, 0⟩ else if gb s (i + 1) = 114 then ⟨13, i + 2, 0, 0⟩
  else if markedB (gb s (i + 1)) then ⟨gb s (i + 1), i + 2, 0, 0⟩ else if gb s (i + 1) = 117 then numM s i else badRd (i + 1)
/-- A rune that may stand as it is. -/
def loneB (r : Int) : Bool := !(decide (r ≤ 32) || r == 127 || r == 91 || r == 93 || r == 45 || r == 34)
def runM (s : ByteArray) (i : Nat) : Rd :=
  if gb s i = 92 then escM s i
  else if (nextT s i).2.2 && loneB (nextT s i).1 then ⟨(nextT s i).1, i + (nextT s i).2.1.toNat, 0, 0⟩ else badRd i
/-- What reading a range tells. -/
structure Rg where
  lo : Int
  hi : Int
  n : Nat
  why : Int
  pos : Nat
def Rg.val (x : Rg) : Value := .tuple #[.agg #[.int .i32 x.lo, .int .i32 x.hi], .int .i64 x.n, .agg #[.int .i64 x.why, .int .i64 x.pos]]
def rngM (s : ByteArray) (i : Nat) : Rg :=
  if (runM s i).why ≠ 0 then ⟨0, 0, 0, (runM s i).why, (runM s i).pos⟩
  else if gb s (runM s i).n = 45 then
    if (runM s ((runM s i).n + 1)).why ≠ 0 then ⟨0, 0, 0, (runM s ((runM s i).n + 1)).why, (runM s ((runM s i).n + 1)).pos⟩
    else if (runM s ((runM s i).n + 1)).r < (runM s i).r then ⟨0, 0, 0, 1, i⟩
    else ⟨(runM s i).r, (runM s ((runM s i).n + 1)).r, (runM s ((runM s i).n + 1)).n, 0, 0⟩
  else ⟨(runM s i).r, (runM s i).r, (runM s i).n, 0, 0⟩
/-- A fault's box. -/
def FX (c : Nat) (a b : Int) (W : World) : Prop := W.heap[c]? = some (.cells #[.int .i64 a, .int .i64 b] 48 (0, 0))
theorem FX.cell0 {c : Nat} {a b : Int} {W : World} (h : FX c a b W) : W.cell? ⟨c, 0, none⟩ = some (.int .i64 a) := by simp [World.cell?, show W.heap[c]? = _ from h]
theorem FX.cell1 {c : Nat} {a b : Int} {W : World} (h : FX c a b W) : W.cell? ⟨c, 1, none⟩ = some (.int .i64 b) := by simp [World.cell?, show W.heap[c]? = _ from h]
theorem FX.fz {c : Nat} {a b : Int} {W : World} (h : FX c a b W) (j : Nat) : W.frozen? ⟨c, j, none⟩ = false := by simp [World.frozen?, show W.heap[c]? = _ from h]
theorem FX.lt {c : Nat} {a b : Int} {W : World} (h : FX c a b W) : c < W.heap.size := (Array.getElem?_eq_some_iff.1 h).1
theorem FX.start (w : World) (a b : Int) : FX w.heap.size a b (w.alloc (.cells #[.int .i64 a, .int .i64 b] 48)) := by
  show (w.heap.push _)[w.heap.size]? = _
  simp
theorem FX.below {c B : Nat} {a b : Int} {W W' : World} (h : FX c a b W) (hb : Below B W W') (hc : c < B) : FX c a b W' := (hb.block c hc).trans h
theorem FX.alloc {c : Nat} {a b : Int} {W : World} (h : FX c a b W) (o : Obj) : FX c a b (W.alloc o) := by
  have hlt := h.lt
  show (W.heap.push o)[c]? = _
  rw [Array.getElem?_push_lt hlt, ← Array.getElem?_eq_getElem hlt]
  exact h
theorem FX.set0 {c : Nat} {a b : Int} {W : World} (h : FX c a b W) (x : Int) : FX c x b (W.setCell ⟨c, 0, none⟩ (.int .i64 x)) := by
  rw [Go.Sort.setCell_eq]
  show (W.heap.modify c _)[c]? = _
  rw [Array.getElem?_modify, if_pos rfl, show W.heap[c]? = _ from h]
  rfl
theorem FX.set1 {c : Nat} {a b : Int} {W : World} (h : FX c a b W) (x : Int) : FX c a x (W.setCell ⟨c, 1, none⟩ (.int .i64 x)) := by
  rw [Go.Sort.setCell_eq]
  show (W.heap.modify c _)[c]? = _
  rw [Array.getElem?_modify, if_pos rfl, show W.heap[c]? = _ from h]
  rfl
theorem noForm_eq (i : Int) (w : World) :
    Calls Tryd.prog 73 #[.int .i64 i] w fun e w' => e = .returned (.agg #[.int .i64 5, .int .i64 i]) ∧ w' = w.alloc (.cells #[.int .i64 5, .int .i64 i] 48) := by
  go_enter Tryd.func73, Tryd.ntmps73
  go_wp2
  refine bodyPost_ret (v := .agg #[.int .i64 5, .int .i64 i]) (by simp [results, Tryd.results73, go_sem]) rfl ⟨rfl, ?_⟩
  rfl
end Go.Proofs.YtkbhdojgdgiggaaDoor

/- The readers at any text: readNumber, readEscape. -/
namespace Go.Proofs.YtkbhdojgdgiggaaDoor
open Go.RowKit Go.Lib

theorem below_two (w : World) (a b : Obj) : Below w.heap.size w ((w.alloc a).alloc b) := ((Below.refl _ _).alloc (Nat.le_refl _) _).alloc (by simp) _
set_option maxHeartbeats 1000000 in
set_option maxRecDepth 100000 in
theorem readNumber_any (s : ByteArray) (i : Nat) (hs : s.size < 4611686018427387904) (hi : i < s.size) (w : World) :
    Calls Tryd.prog 128 #[.string s, .int .i64 i] w fun e w' => e = .returned (numM s i).val ∧ Below w.heap.size w w' := by
  have H1 := hide (isByte_any s (i + 2) 123 (by omega))
  have e2 : (i : Int) + 3 - 1 = ((i + 2 : Nat) : Int) := by omega
  by_cases h1 : gb s (i + 2) = 123
  · rw [h1] at H1
    obtain ⟨K, hK⟩ : ∃ K, digs s 6 (i + 3) = K := ⟨_, rfl⟩
    have hsp := digs_spec s 6 (i + 3)
    have hM : numM s i = if K = 0 ∨ gb s (i + 3 + K) ≠ 125 then badRd (i + 3 + K) else if 1114111 < numTo s (i + 3) K then ⟨0, 0, 11, i⟩ else ⟨numTo s (i + 3) K, i + 3 + K + 1, 0, 0⟩ := by
      unfold numM; rw [if_neg (by simpa using h1), hK]
    rw [hK] at hsp
    obtain ⟨hk6, hd, hend⟩ := hsp
    have Hd := hide hd; have Hend := hide hend
    generalize numM s i = R at *
    have HR := hide hM
    clear hM hK hd hend
    go_enter Tryd.func128, Tryd.ntmps128
    go_wp2_with fail
    refine (unhide H1 _).mono ?_
    rintro e w' ⟨rfl, hw⟩
    obtain rfl := hw.symm
    go_wp2
    go_loopw [4, 5] (fun x y wr => ∃ j : Nat, x = .int .i32 (numTo s (i + 3) j) ∧ y = .int .i64 (i + 3 + j : Nat) ∧ j ≤ K ∧ wr = w.alloc (.cells #[.int .i64 0, .int .i64 0] 48)) (fun _ y _ => i + 3 + K - (intOf y).toNat)
    case atStart => exact ⟨0, rfl, by go_num, by omega, rfl⟩
    case round =>
      obtain ⟨j, rfl, rfl, hj, rfl⟩ := hrel
      have hr := numTo_in s (i + 3) K (unhide Hd) j hj
      by_cases hjk : j < K
      · have hdj := unhide Hd j hjk
        have hnx : numTo s (i + 3) (j + 1) = 16 * numTo s (i + 3) j + digV (gb s (i + 3 + j)) := rfl
        have hlim : numTo s (i + 3) j < 1048576 := Int.lt_of_lt_of_le hr.2 (by
          have : (16 : Int) ^ j ≤ 16 ^ 5 := by
            have := Nat.pow_le_pow_right (n := 16) (by omega) (show j ≤ 5 by omega)
            exact_mod_cast this
          simpa using this)
        have hg : 0 ≤ gb s (i + 3 + j) := by
          by_cases h : 0 ≤ gb s (i + 3 + j)
          · exact h
          · exfalso
            have : digV (gb s (i + 3 + j)) = -1 := by unfold digV; rw [if_neg (by omega), if_neg (by omega), if_neg (by omega)]
            omega
        have hin : i + 3 + j < s.size := gb_pos hg
        have c1 : ((i + 3 + j : Nat) : Int) < s.size := by omega
        have c2 : ((i + 3 + j : Nat) : Int) < (i : Int) + 3 + 6 := by omega
        have c3 := gb_in hin
        have HD := hide (digit_int (gb s (i + 3 + j)) hg (gb_lt _ _))
        have hd16 := digV_le (gb s (i + 3 + j))
        have hor := or16 (numTo s (i + 3) j) (digV (gb s (i + 3 + j))) hr.1 hlim hdj hd16
        have Hnx := hide hnx
        obtain ⟨hr1, hr2⟩ := hr
        clear hnx hr2
        generalize digV (gb s (i + 3 + j)) = d at *
        generalize numTo s (i + 3) j = q at *
        go_wp2_with fail
        refine (unhide HD _).mono ?_
        rintro e w' ⟨rfl, hw⟩
        obtain rfl := hw.symm
        go_wp2_with fail
        refine (unhide HD _).mono ?_
        rintro e w' ⟨rfl, hw⟩
        obtain rfl := hw.symm
        go_wp2
        refine ⟨⟨j + 1, ?_, by go_num, by omega, trivial⟩, ?_⟩
        · rw [unhide Hnx]
        · simp [intOf]; omega
      · have hjk' : j = K := by omega
        subst hjk'
        have hr6 : numTo s (i + 3) j < 16777216 := Int.lt_of_lt_of_le hr.2 (by
          have : (16 : Int) ^ j ≤ 16 ^ 6 := by
            have := Nat.pow_le_pow_right (n := 16) (by omega) hk6
            exact_mod_cast this
          simpa using this)
        have HI := hide (isByte_any s (i + 3 + j) 125 (by omega))
        have HN := hide (noForm_eq ((i + 3 + j : Nat) : Int))
        have hend := unhide Hend
        have Hb1 : Hid (Below w.heap.size w (w.alloc (.cells #[.int .i64 0, .int .i64 0] 48))) := hide ((Below.refl _ _).alloc (Nat.le_refl _) _)
        have HN0 := hide (noForm_eq ((i : Int) + 3))
        generalize numTo s (i + 3) j = q at *
        by_cases c1 : ((i + 3 + j : Nat) : Int) < s.size
        · have hin : i + 3 + j < s.size := by omega
          have c3 := gb_in hin
          have HD := hide (digit_int (gb s (i + 3 + j)) (by rw [← c3]; omega) (gb_lt _ _))
          generalize gb s (i + 3 + j) = g at *
          by_cases hj6 : j < 6
          · have c2 : ((i + 3 + j : Nat) : Int) < (i : Int) + 3 + 6 := by omega
            have hneg : ¬ 0 ≤ digV g := by rcases hend with h | h <;> omega
            generalize digV g = d at *
            by_cases hz : j = 0
            · subst hz
              go_wp2_with fail
              refine (unhide HD _).mono ?_
              rintro e w' ⟨rfl, hw⟩
              obtain rfl := hw.symm
              go_wp2_with fail
              refine (unhide HN0 _).mono ?_
              rintro e w' ⟨rfl, hw⟩
              obtain rfl := hw.symm
              go_wp2
              refine bodyPost_ret (v := (badRd (i + 3 + 0)).val) (by simp [results, Tryd.results128, go_sem, Rd.val, badRd]) rfl ⟨by rw [unhide HR, if_pos (by simp)], ?_⟩
              exact below_two _ _ _
            · have cne : (((i + 3 + j : Nat) : Int) == (i : Int) + 3) = false := by simp; omega
              have cne2 : ((i + 3 + j : Nat) : Int) ≠ (i : Int) + 3 := by omega
              have Hz := hide hz
              by_cases h125 : g = 125
              · have hb : (g == 125) = true := by simpa using h125
                have H125 := hide h125
                clear h125
                rw [hb] at HI
                have hc1 : Hid (¬ (j = 0 ∨ g ≠ 125)) := hide (by simp [unhide Hz, unhide H125])
                by_cases hv : (1114111 : Int) < q
                · have HE := hide (by rw [unhide HR, if_neg (unhide hc1), if_pos hv] : R = ⟨0, 0, 11, i⟩)
                  go_wp2_with fail
                  refine (unhide HD _).mono ?_
                  rintro e w' ⟨rfl, hw⟩
                  obtain rfl := hw.symm
                  go_wp2_with fail
                  refine (unhide HI _).mono ?_
                  rintro e w' ⟨rfl, hw⟩
                  obtain rfl := hw.symm
                  go_wp2
                  refine bodyPost_ret (v := Rd.val ⟨0, 0, 11, i⟩) (by simp [results, Tryd.results128, go_sem, Rd.val]) rfl ⟨by rw [unhide HE], ?_⟩
                  exact (Below.refl _ _).alloc (Nat.le_refl _) _
                · have HE := hide (by rw [unhide HR, if_neg (unhide hc1), if_neg hv] : R = ⟨q, i + 3 + j + 1, 0, 0⟩)
                  go_wp2_with fail
                  refine (unhide HD _).mono ?_
                  rintro e w' ⟨rfl, hw⟩
                  obtain rfl := hw.symm
                  go_wp2_with fail
                  refine (unhide HI _).mono ?_
                  rintro e w' ⟨rfl, hw⟩
                  obtain rfl := hw.symm
                  go_wp2
                  refine bodyPost_ret (v := Rd.val ⟨q, i + 3 + j + 1, 0, 0⟩) (by simp [results, Tryd.results128, go_sem, Rd.val]) rfl ⟨by rw [unhide HE], ?_⟩
                  exact unhide Hb1
              · have hb : (g == 125) = false := by simpa using h125
                have H125 := hide h125
                clear h125
                rw [hb] at HI
                go_wp2_with fail
                refine (unhide HD _).mono ?_
                rintro e w' ⟨rfl, hw⟩
                obtain rfl := hw.symm
                go_wp2_with fail
                refine (unhide HI _).mono ?_
                rintro e w' ⟨rfl, hw⟩
                obtain rfl := hw.symm
                go_wp2_with fail
                refine (unhide HN _).mono ?_
                rintro e w' ⟨rfl, hw⟩
                obtain rfl := hw.symm
                go_wp2
                refine bodyPost_ret (v := (badRd (i + 3 + j)).val) (by simp [results, Tryd.results128, go_sem, Rd.val, badRd]) rfl ⟨by rw [unhide HR, if_pos (.inr (unhide H125))], ?_⟩
                exact below_two _ _ _
          · have c2 : ¬ ((i + 3 + j : Nat) : Int) < (i : Int) + 3 + 6 := by omega
            by_cases hz : j = 0
            · exfalso; omega
            · have cne : (((i + 3 + j : Nat) : Int) == (i : Int) + 3) = false := by simp; omega
              have cne2 : ((i + 3 + j : Nat) : Int) ≠ (i : Int) + 3 := by omega
              have Hz := hide hz
              by_cases h125 : g = 125
              · have hb : (g == 125) = true := by simpa using h125
                have H125 := hide h125
                clear h125
                rw [hb] at HI
                have hc1 : Hid (¬ (j = 0 ∨ g ≠ 125)) := hide (by simp [unhide Hz, unhide H125])
                by_cases hv : (1114111 : Int) < q
                · have HE := hide (by rw [unhide HR, if_neg (unhide hc1), if_pos hv] : R = ⟨0, 0, 11, i⟩)
                  go_wp2_with fail
                  refine (unhide HI _).mono ?_
                  rintro e w' ⟨rfl, hw⟩
                  obtain rfl := hw.symm
                  go_wp2
                  refine bodyPost_ret (v := Rd.val ⟨0, 0, 11, i⟩) (by simp [results, Tryd.results128, go_sem, Rd.val]) rfl ⟨by rw [unhide HE], ?_⟩
                  exact (Below.refl _ _).alloc (Nat.le_refl _) _
                · have HE := hide (by rw [unhide HR, if_neg (unhide hc1), if_neg hv] : R = ⟨q, i + 3 + j + 1, 0, 0⟩)
                  go_wp2_with fail
                  refine (unhide HI _).mono ?_
                  rintro e w' ⟨rfl, hw⟩
                  obtain rfl := hw.symm
                  go_wp2
                  refine bodyPost_ret (v := Rd.val ⟨q, i + 3 + j + 1, 0, 0⟩) (by simp [results, Tryd.results128, go_sem, Rd.val]) rfl ⟨by rw [unhide HE], ?_⟩
                  exact unhide Hb1
              · have hb : (g == 125) = false := by simpa using h125
                have H125 := hide h125
                clear h125
                rw [hb] at HI
                go_wp2_with fail
                refine (unhide HI _).mono ?_
                rintro e w' ⟨rfl, hw⟩
                obtain rfl := hw.symm
                go_wp2_with fail
                refine (unhide HN _).mono ?_
                rintro e w' ⟨rfl, hw⟩
                obtain rfl := hw.symm
                go_wp2
                refine bodyPost_ret (v := (badRd (i + 3 + j)).val) (by simp [results, Tryd.results128, go_sem, Rd.val, badRd]) rfl ⟨by rw [unhide HR, if_pos (.inr (unhide H125))], ?_⟩
                exact below_two _ _ _
        · have hg := gb_out (s := s) (i := i + 3 + j) (by omega)
          generalize gb s (i + 3 + j) = g at *
          by_cases hz : j = 0
          · subst hz
            go_wp2_with fail
            refine (unhide HN0 _).mono ?_
            rintro e w' ⟨rfl, hw⟩
            obtain rfl := hw.symm
            go_wp2
            refine bodyPost_ret (v := (badRd (i + 3 + 0)).val) (by simp [results, Tryd.results128, go_sem, Rd.val, badRd]) rfl ⟨by rw [unhide HR, if_pos (by simp)], ?_⟩
            exact below_two _ _ _
          · have cne : (((i + 3 + j : Nat) : Int) == (i : Int) + 3) = false := by simp; omega
            have cne2 : ((i + 3 + j : Nat) : Int) ≠ (i : Int) + 3 := by omega
            have Hz := hide hz
            have h125 : g ≠ 125 := by omega
            have hb : (g == 125) = false := by simpa using h125
            have H125 := hide h125
            clear h125
            rw [hb] at HI
            go_wp2_with fail
            refine (unhide HI _).mono ?_
            rintro e w' ⟨rfl, hw⟩
            obtain rfl := hw.symm
            go_wp2_with fail
            refine (unhide HN _).mono ?_
            rintro e w' ⟨rfl, hw⟩
            obtain rfl := hw.symm
            go_wp2
            refine bodyPost_ret (v := (badRd (i + 3 + j)).val) (by simp [results, Tryd.results128, go_sem, Rd.val, badRd]) rfl ⟨by rw [unhide HR, if_pos (.inr (unhide H125))], ?_⟩
            exact below_two _ _ _
  · have hM : numM s i = badRd (i + 2) := by unfold numM; rw [if_pos h1]
    rw [hM, show (gb s (i + 2) == 123) = false by simpa using h1] at *
    have HN := hide (noForm_eq ((i + 2 : Nat) : Int))
    go_enter Tryd.func128, Tryd.ntmps128
    go_wp2_with fail
    refine (unhide H1 _).mono ?_
    rintro e w' ⟨rfl, hw⟩
    obtain rfl := hw.symm
    go_wp2_with fail
    refine (unhide HN _).mono ?_
    rintro e w' ⟨rfl, hw⟩
    obtain rfl := hw.symm
    go_wp2
    refine bodyPost_ret (v := (badRd (i + 2)).val) (by simp [results, Tryd.results128, go_sem, Rd.val, badRd]) rfl ⟨rfl, ?_⟩
    exact below_two _ _ _
end Go.Proofs.YtkbhdojgdgiggaaDoor

/- The readers at any text: readEscape. -/
namespace Go.Proofs.YtkbhdojgdgiggaaDoor
open Go.RowKit Go.Lib

theorem belowLe {B B' : Nat} {w w' : World} (h : Below B w w') (hb : B' ≤ B) : Below B' w w' := ⟨h.os, h.tape, h.output, h.size, fun k hk => h.block k (by omega)⟩
theorem marked_cases {r : Int} (h : markedB r = true) : r = 91 ∨ r = 93 ∨ r = 45 ∨ r = 94 ∨ r = 92 ∨ r = 34 := by simpa [markedB] using h
theorem not_marked {r : Int} (h : markedB r = false) : r ≠ 91 ∧ r ≠ 93 ∧ r ≠ 45 ∧ r ≠ 94 ∧ r ≠ 92 ∧ r ≠ 34 := by simpa [markedB] using h
theorem below_fault {w w1 : World} {c : Nat} (hb : Below w.heap.size w w1) (hc : w.heap.size ≤ c) (x y : Value) : Below w.heap.size w ((w1.setCell ⟨c, 0, none⟩ x).setCell ⟨c, 1, none⟩ y) :=
  (hb.setCell (p := ⟨c, 0, none⟩) hc _).setCell (p := ⟨c, 1, none⟩) hc _
set_option maxHeartbeats 2000000 in
set_option maxRecDepth 100000 in
theorem escape_one (s : ByteArray) (i : Nat) (c r : Int) (hs : s.size < 4611686018427387904) (hc : gb s (i + 1) = c)
    (h : (c = 110 ∧ r = 10) ∨ (c = 116 ∧ r = 9) ∨ (c = 114 ∧ r = 13) ∨ (c = 91 ∧ r = 91) ∨ (c = 93 ∧ r = 93) ∨ (c = 45 ∧ r = 45) ∨ (c = 94 ∧ r = 94) ∨ (c = 92 ∧ r = 92) ∨ (c = 34 ∧ r = 34)) (w : World) :
    Calls Tryd.prog 114 #[.string s, .int .i64 i] w fun e w' => e = .returned (Rd.val ⟨r, i + 2, 0, 0⟩) ∧ Below w.heap.size w w' := by
  have hin : i + 1 < s.size := gb_pos (by rw [hc]; omega)
  have c0 : (((i : Int) + 1) == (s.size : Int)) = false := by simp; omega
  have c1 : ((i + 1 : Nat) : Int) < s.size := by omega
  have c3 := gb_in hin
  have Hbel : Hid (Below w.heap.size w (w.alloc (.cells #[.int .i64 0, .int .i64 0] 48))) := hide ((Below.refl _ _).alloc (Nat.le_refl _) _)
  rw [hc] at c3
  go_enter Tryd.func114, Tryd.ntmps114
  rcases h with ⟨rfl, rfl⟩ | ⟨rfl, rfl⟩ | ⟨rfl, rfl⟩ | ⟨rfl, rfl⟩ | ⟨rfl, rfl⟩ | ⟨rfl, rfl⟩ | ⟨rfl, rfl⟩ | ⟨rfl, rfl⟩ | ⟨rfl, rfl⟩
  all_goals
    go_wp2
    refine bodyPost_ret (v := Rd.val ⟨_, i + 2, 0, 0⟩) (by simp [results, Tryd.results114, go_sem, Rd.val]) rfl ⟨rfl, unhide Hbel⟩
set_option maxHeartbeats 2000000 in
set_option maxRecDepth 100000 in
theorem escape_num (s : ByteArray) (i : Nat) (hs : s.size < 4611686018427387904) (hc : gb s (i + 1) = 117) (w : World) :
    Calls Tryd.prog 114 #[.string s, .int .i64 i] w fun e w' => e = .returned (numM s i).val ∧ Below w.heap.size w w' := by
  have hin : i + 1 < s.size := gb_pos (by rw [hc]; omega)
  have c0 : (((i : Int) + 1) == (s.size : Int)) = false := by simp; omega
  have c1 : ((i + 1 : Nat) : Int) < s.size := by omega
  have c3 := gb_in hin
  rw [hc] at c3
  have HH := hide (readNumber_any s i hs (by omega))
  generalize numM s i = R at *
  obtain ⟨r, n, why, pos⟩ := R
  have Hbel : Hid (Below w.heap.size w (w.alloc (.cells #[.int .i64 0, .int .i64 0] 48))) := hide ((Below.refl _ _).alloc (Nat.le_refl _) _)
  go_enter Tryd.func114, Tryd.ntmps114
  go_wp2_with fail
  refine (unhide HH _).mono ?_
  rintro e w1 ⟨rfl, hb⟩
  have hfb := (FX.start w 0 0).below hb (by simp)
  have f0 := hfb.cell0; have f1 := hfb.cell1; have z0 := hfb.fz 0; have z1 := hfb.fz 1
  have g1 := hfb.set0 why; have y0 := g1.fz 1; have y1 := g1.cell1
  have g2 := g1.set1 pos; have x0 := g2.cell0; have x1 := g2.cell1
  have Hb2 := hide (below_fault ((unhide Hbel).trans (belowLe hb (by simp))) (Nat.le_refl _) (.int .i64 why) (.int .i64 pos))
  clear hb hfb g1 g2
  unfold Rd.val
  go_wp2
  refine bodyPost_ret (v := Rd.val ⟨r, n, why, pos⟩) (by simp [results, Tryd.results114, go_sem, Rd.val, x0, x1]) rfl ⟨rfl, unhide Hb2⟩
set_option maxHeartbeats 2000000 in
set_option maxRecDepth 100000 in
theorem escape_bad (s : ByteArray) (i : Nat) (hs : s.size < 4611686018427387904) (hi : i < s.size) (c : Int) (hc : gb s (i + 1) = c) (a1 : c ≠ 110) (a2 : c ≠ 116) (a3 : c ≠ 114) (a4 : markedB c = false) (a5 : c ≠ 117) (w : World) :
    Calls Tryd.prog 114 #[.string s, .int .i64 i] w fun e w' => e = .returned (badRd (i + 1)).val ∧ Below w.heap.size w w' := by
  have HN := hide (noForm_eq ((i : Int) + 1))
  obtain ⟨b1, b2, b3, b4, b5, b6⟩ := not_marked a4
  clear a4
  go_enter Tryd.func114, Tryd.ntmps114
  by_cases hin : i + 1 < s.size
  · have c0 : (((i : Int) + 1) == (s.size : Int)) = false := by simp; omega
    have c1 : ((i + 1 : Nat) : Int) < s.size := by omega
    have c3 := gb_in hin
    rw [hc] at c3
    go_wp2_with fail
    refine (unhide HN _).mono ?_
    rintro e w' ⟨rfl, hw⟩
    obtain rfl := hw.symm
    go_wp2
    refine bodyPost_ret (v := (badRd (i + 1)).val) (by simp [results, Tryd.results114, go_sem, Rd.val, badRd]) rfl ⟨rfl, ?_⟩
    exact below_two _ _ _
  · have c0 : (((i : Int) + 1) == (s.size : Int)) = true := by simp; omega
    go_wp2_with fail
    refine (unhide HN _).mono ?_
    rintro e w' ⟨rfl, hw⟩
    obtain rfl := hw.symm
    go_wp2
    refine bodyPost_ret (v := (badRd (i + 1)).val) (by simp [results, Tryd.results114, go_sem, Rd.val, badRd]) rfl ⟨rfl, ?_⟩
    exact below_two _ _ _
theorem escape_any (s : ByteArray) (i : Nat) (hs : s.size < 4611686018427387904) (hi : i < s.size) (w : World) :
    Calls Tryd.prog 114 #[.string s, .int .i64 i] w fun e w' => e = .returned (escM s i).val ∧ Below w.heap.size w w' := by
  unfold escM
  by_cases h1 : gb s (i + 1) = 110
  · rw [if_pos h1]; exact escape_one s i 110 10 hs h1 (.inl ⟨rfl, rfl⟩) w
  rw [if_neg h1]
  by_cases h2 : gb s (i + 1) = 116
  · rw [if_pos h2]; exact escape_one s i 116 9 hs h2 (.inr (.inl ⟨rfl, rfl⟩)) w
  rw [if_neg h2]
  by_cases h3 : gb s (i + 1) = 114
  · rw [if_pos h3]; exact escape_one s i 114 13 hs h3 (.inr (.inr (.inl ⟨rfl, rfl⟩))) w
  rw [if_neg h3]
  by_cases h4 : markedB (gb s (i + 1)) = true
  · rw [if_pos h4]
    have hm := marked_cases h4
    exact escape_one s i _ _ hs rfl (.inr (.inr (.inr (hm.imp (fun h => ⟨h, h⟩) (Or.imp (fun h => ⟨h, h⟩) (Or.imp (fun h => ⟨h, h⟩) (Or.imp (fun h => ⟨h, h⟩) (Or.imp (fun h => ⟨h, h⟩) (fun h => ⟨h, h⟩))))))))) w
  rw [if_neg h4]
  by_cases h5 : gb s (i + 1) = 117
  · rw [if_pos h5]; exact escape_num s i hs h5 w
  rw [if_neg h5]
  exact escape_bad s i hs hi _ rfl h1 h2 h3 (Bool.eq_false_iff.2 h4) h5 w
end Go.Proofs.YtkbhdojgdgiggaaDoor

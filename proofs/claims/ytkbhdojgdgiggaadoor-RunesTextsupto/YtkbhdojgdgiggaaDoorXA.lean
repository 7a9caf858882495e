/- The readers at any text: readSet. -/
import Derived.Test.YtkbhdojgdgiggaaDoorY2
import Derived.Test.YtkbhdojgdgiggaaDoorV16
import Derived.Test.YtkbhdojgdgiggaaDoorV19
import Derived.Test.YtkbhdojgdgiggaaDoorV14
import Derived.Test.YtkbhdojgdgiggaaDoorM8
namespace Go.Proofs.YtkbhdojgdgiggaaDoor
open Go.RowKit Go.Lib Go.Sort

/-- What reading ranges up to a closing bracket tells. -/
structure Rs where
  l : List Rng
  n : Nat
  why : Int
  pos : Nat
def rdsF (s : ByteArray) : Nat → Nat → List Rng → Rs
  | 0, i, acc => ⟨acc, i, 0, 0⟩
  | f + 1, i, acc => if gb s i = 93 then ⟨acc, i, 0, 0⟩ else if gb s i = 32 then rdsF s f (i + 1) acc
    else if (rngM s i).why ≠ 0 then ⟨[], 0, (rngM s i).why, (rngM s i).pos⟩ else rdsF s f (rngM s i).n (acc ++ [((rngM s i).lo, (rngM s i).hi)])
theorem FX.grown {c : Nat} {a b : Int} {W W' : World} (h : FX c a b W) {row : Option Nat} (hg : W.grownBy W' row) (hne : some c ≠ row) : FX c a b W' := (hg.block c h.lt hne).trans h
theorem mergedL_isR (l : List Rng) (hR : ∀ x ∈ l, isR x = true) : ∀ x ∈ mergedL l, isR x = true := by
  have key : ∀ (m : List Rng) (lo : Int), 0 ≤ lo → Up lo m → ∀ x ∈ m, isR x = true := by
    intro m
    induction m with
    | nil => intro lo _ _ x hx; cases hx
    | cons y m ih =>
      intro lo h0 h x hx
      obtain ⟨h1, h2, h3, h4⟩ := h
      rcases List.mem_cons.1 hx with rfl | hx
      · simp [isR]; omega
      · exact ih _ (by omega) h4 x hx
  exact key _ 0 (by omega) (mergedL_inv l hR).1
/-- The set that was meant. -/
def setL (neg : Bool) (l : List Rng) : List Rng := if neg then restL (mergedL l) else mergedL l
set_option maxHeartbeats 2000000 in
set_option maxRecDepth 100000 in
theorem readSet_false (s : ByteArray) (i : Nat) (hs : s.size ≤ 1048576) (h0 : gb s i = 91) (h1 : (gb s (i + 1) == 94) = false) (R : Rs) (hR : rdsF s (s.size + 1) (i + 1) [] = R) (w : World) (hU : UT w) :
    Calls Tryd.prog 56 #[.string s, .int .i64 i] w fun q w' => ∃ v, q = .returned (.tuple #[v, .int .i64 (if R.why = 0 then R.n + 1 else 0 : Nat), .agg #[.int .i64 R.why, .int .i64 R.pos]]) ∧ w'.ownsRow w.heap.size 55 2 v (if R.why = 0 then setL false R.l else []).length (flat (if R.why = 0 then setL false R.l else [])) ∧ Below w.heap.size w w' := by
  obtain ⟨i0, hi0, hz0, hz1, hz2⟩ := info_parts hrange
  have HI := hide (fun i b (hb : 0 ≤ b) => isByte_any s i b hb)
  have HG := hide (fun j (hj : j ≤ s.size) w hU => readRange_any s j (by omega) hj w hU)
  have H0 := hide h0; have H1 := hide h1; have HR := hide hR; have HU := hide (hU.alloc (.cells #[.int .i64 0, .int .i64 0] 48))
  have hU2 := hU.2
  have hi : i < s.size := gb_pos (by rw [h0]; omega)
  clear h0 h1 hR hU
  go_enter Tryd.func56, Tryd.ntmps56
  go_wp2_with fail
  refine (unhide HI i 91 (by omega) _).mono ?_
  rintro q w' ⟨rfl, hw⟩
  obtain rfl := hw.symm
  rw [unhide H0]
  go_wp2_with fail
  refine (unhide HI (i + 1) 94 (by omega) _).mono ?_
  rintro q w' ⟨rfl, hw⟩
  obtain rfl := hw.symm
  rw [unhide H1]
  go_wp2
  go_loopw [1, 8] (fun x u wr => ∃ (j f : Nat) (acc : List Rng), x = .int .i64 j ∧ wr.ownsRow (w.heap.size + 1) 55 2 u acc.length (flat acc) ∧ Hid (rdsF s f j acc = R) ∧ s.size + 1 ≤ j + f ∧ j ≤ s.size ∧ acc.length ≤ j ∧ Hid (∀ x ∈ acc, isR x = true) ∧ FX w.heap.size 0 0 wr ∧ Below w.heap.size w wr) (fun x _ _ => s.size + 1 - (intOf x).toNat)
  case atStart => exact ⟨i + 1, s.size + 1, [], by go_num, ⟨rfl, .inl ⟨rfl, rfl⟩⟩, unhide HR, by omega, by omega, by simp, (fun x hx => by cases hx), FX.start w 0 0, (Below.refl _ _).alloc (Nat.le_refl _) _⟩
  case round =>
    obtain ⟨j, f, acc, rfl, hown, hrd, hf, hj, hacc, hall, hfb, hbel⟩ := hrel
    obtain ⟨f, rfl⟩ : ∃ g, f = g + 1 := ⟨f - 1, by omega⟩
    have hrd' := unhide hrd
    rw [rdsF] at hrd'
    have hsz := hfb.lt
    obtain ⟨va, vcap, rfl⟩ := ownsRow_slice hown
    have Hown := hide hown; have Hfb := hide hfb; have Hbel := hide hbel; have Hrd := hide hrd'
    clear hown hfb hbel hrd hrd'
    by_cases h93 : gb s j = 93
    · have hRe : R = ⟨acc, j, 0, 0⟩ := by have := unhide Hrd; rw [if_pos h93] at this; exact this.symm
      clear Hrd
      subst hRe
      have HM := hide (merged_any va vcap acc (by omega) (unhide hall) wr (rowAt_own (unhide Hown)))
      have hml := mergedL_length acc
      have HMR := hide (mergedL_isR acc (unhide hall))
      go_wp2_with fail
      refine (unhide HI j 93 (by omega) _).mono ?_
      rintro q w' ⟨rfl, hw⟩
      obtain rfl := hw.symm
      rw [h93]
      go_wp2_with fail
      refine (unhide HM).mono ?_
      rintro q w1 ⟨v, rfl, hown1, hb1⟩
      have hfb := (unhide Hfb).below hb1 hsz
      have HB1 := hide ((unhide Hbel).trans (belowLe hb1 (unhide Hbel).size))
      obtain ⟨va1, vc1, rfl⟩ := ownsRow_slice hown1
      have f0 := hfb.cell0; have f1 := hfb.cell1; have z0 := hfb.fz 0; have z1 := hfb.fz 1; have q0 := hfb.same0; have q1 := hfb.same1
      have Hown1 := hide (ownsRow_le hown1 (unhide Hbel).size)
      clear hown1 hb1 hfb HM
      go_wp2
      refine bodyPost_ret (v := .tuple #[.slice va1 (mergedL acc).length vc1, .int .i64 (j + 1 : Nat), .agg #[.int .i64 0, .int .i64 0]]) (by simp [results, Tryd.results56, go_sem, f0, f1]) rfl ⟨_, rfl, unhide Hown1, unhide HB1⟩
    · by_cases h32 : gb s j = 32
      · have hjl : j < s.size := gb_pos (by rw [h32]; omega)
        have Hrd2 : Hid (rdsF s f (j + 1) acc = R) := by have := unhide Hrd; rw [if_neg h93, if_pos h32] at this; exact hide this
        clear Hrd
        go_wp2_with fail
        refine (unhide HI j 93 (by omega) _).mono ?_
        rintro q w' ⟨rfl, hw⟩
        obtain rfl := hw.symm
        rw [show (gb s j == 93) = false by simpa using h93]
        go_wp2_with fail
        refine (unhide HI j 32 (by omega) _).mono ?_
        rintro q w' ⟨rfl, hw⟩
        obtain rfl := hw.symm
        rw [show (gb s j == 32) = true by simpa using h32]
        go_wp2
        go_roundw
        case rel => exact ⟨j + 1, f, acc, by go_num, unhide Hown, Hrd2, by omega, by omega, by omega, hall, unhide Hfb, unhide Hbel⟩
        case measure => simp [intOf]; omega
      · have Hc := hide (unhide HG j hj)
        have hok := rngM_ok s j
        have HUw : UT wr := (unhide HU).below (B := w.heap.size + 1) ⟨(unhide Hbel).os, (unhide Hbel).tape, (unhide Hbel).output, by have := hsz; simp; omega, fun k hk => by
          by_cases hkw : k < w.heap.size
          · rw [(unhide Hbel).block k hkw]; exact (((Below.refl w.heap.size w).alloc (Nat.le_refl _) (.cells #[.int .i64 0, .int .i64 0] 48)).block k hkw).symm
          · have : k = w.heap.size := by omega
            subst this
            exact (show wr.heap[w.heap.size]? = _ from unhide Hfb).trans (show (w.alloc (.cells #[.int .i64 0, .int .i64 0] 48)).heap[w.heap.size]? = _ from FX.start w 0 0).symm⟩ (by omega)
        have hrd3 := unhide Hrd
        rw [if_neg h93, if_neg h32] at hrd3
        clear Hrd
        generalize rngM s j = A at *
        obtain ⟨x, y, n, why, pos⟩ := A
        simp only at hrd3 hok
        by_cases hwhy : why ≠ 0
        · rw [if_pos hwhy] at hrd3
          subst hrd3
          have hne : (why == 0) = false := by simpa using hwhy
          go_wp2_with fail
          refine (unhide HI j 93 (by omega) _).mono ?_
          rintro q w' ⟨rfl, hw⟩
          obtain rfl := hw.symm
          rw [show (gb s j == 93) = false by simpa using h93]
          go_wp2_with fail
          refine (unhide HI j 32 (by omega) _).mono ?_
          rintro q w' ⟨rfl, hw⟩
          obtain rfl := hw.symm
          rw [show (gb s j == 32) = false by simpa using h32]
          go_wp2_with fail
          refine (unhide Hc _ HUw).mono ?_
          rintro q w1 ⟨rfl, hb1⟩
          have hfb := ((unhide Hfb).below hb1 hsz)
          have hB1 := (unhide Hbel).trans (belowLe hb1 (unhide Hbel).size)
          have hin : FX (w1.heap.size + 1) why pos ((w1.alloc (.cells #[.int .i32 x, .int .i32 y] 55)).alloc (.cells #[.int .i64 why, .int .i64 pos] 48)) := by
            have := FX.start (w1.alloc (.cells #[.int .i32 x, .int .i32 y] 55)) why pos
            simpa using this
          have Hin := hide hin
          have Hout := hide ((hfb.alloc (.cells #[.int .i32 x, .int .i32 y] 55)).alloc (.cells #[.int .i64 why, .int .i64 pos] 48))
          have HB := hide ((hB1.alloc hB1.size (.cells #[.int .i32 x, .int .i32 y] 55)).alloc (by have := hB1.size; simp; omega) (.cells #[.int .i64 why, .int .i64 pos] 48))
          clear hb1 hfb hB1 hin
          unfold Rg.val
          go_wp2
          generalize (w1.alloc (.cells #[.int .i32 x, .int .i32 y] 55)).alloc (.cells #[.int .i64 why, .int .i64 pos] 48) = W at *
          have a0 := (unhide Hin).cell0; have a1 := (unhide Hin).cell1
          have f0 := (unhide Hout).cell0; have f1 := (unhide Hout).cell1; have z0 := (unhide Hout).fz 0; have z1 := (unhide Hout).fz 1
          have g1 := (unhide Hout).set0 why; have y0 := g1.fz 1; have y1 := g1.cell1
          have g2 := g1.set1 (pos : Int); have x0 := g2.cell0; have x1 := g2.cell1
          clear g1 g2
          go_region
          go_wp2
          refine bodyPost_ret (v := .tuple #[.slice none 0 0, .int .i64 0, .agg #[.int .i64 why, .int .i64 pos]]) (by simp [results, Tryd.results56, go_sem, x0, x1]) rfl ⟨.slice none 0 0, by simp, ⟨rfl, .inl ⟨rfl, rfl⟩⟩, ?_⟩
          exact (below_fault (unhide HB) (Nat.le_refl _) _ _).drew
        · rw [if_neg hwhy] at hrd3
          have hw0 : why = 0 := by simpa using hwhy
          subst hw0
          obtain ⟨hlt, hns, hxr, rfl⟩ := hok rfl
          have Hrd := hide hrd3
          clear hrd3 hok hwhy
          go_wp2_with fail
          refine (unhide HI j 93 (by omega) _).mono ?_
          rintro q w' ⟨rfl, hw⟩
          obtain rfl := hw.symm
          rw [show (gb s j == 93) = false by simpa using h93]
          go_wp2_with fail
          refine (unhide HI j 32 (by omega) _).mono ?_
          rintro q w' ⟨rfl, hw⟩
          obtain rfl := hw.symm
          rw [show (gb s j == 32) = false by simpa using h32]
          go_wp2_with fail
          refine (unhide Hc _ HUw).mono ?_
          rintro q w1 ⟨rfl, hb1⟩
          have hfb := (unhide Hfb).below hb1 hsz
          have hsz1 := hfb.lt
          have hB1 := (unhide Hbel).trans (belowLe hb1 (unhide Hbel).size)
          have hown1 := ownsRow_below (unhide Hown) hb1 (Nat.le_refl _)
          have Hfb1 := hide hfb; have HB1 := hide hB1; have Hown1 := hide (fun o1 o2 o3 => ((hown1.alloc o1).alloc o2).alloc o3)
          have Hlt1 := hide hown1.lt
          clear hfb hB1 hown1 hb1
          unfold Rg.val
          go_wp2_with (at_builtin; refine wpList_append_own _ rfl _ _ 22 rfl (w.heap.size + 1) 55 i0 (.agg #[.int .i32 0, .int .i32 0]) 2 8 Tryd.underlying22 hi0 hz0 hz1 hz2 rfl (by decide) _ _ _ rfl (unhide Hown1 _ _ _) ⟨w1.heap.size + 2, 0, none⟩ 1 1 [.int .i32 x, .int .i32 y] rfl rfl ?k1 ?k2 ?k3 ?k4 ?k5 ?_)
          case k1 => exact cell_new2 _ _ (by simp) _ _ _
          case k2 => intro u hu; simp at hu; rcases hu with rfl | rfl <;> rfl
          case k3 => unfold maxLen; omega
          case k4 => omega
          case k5 => simp; omega
          intro v' w3 hown' hgrow _
          have Hf3 := hide (((((unhide Hfb1).alloc _).alloc _).alloc _).grown hgrow (fun h => by have := (unhide Hlt1 w.heap.size h.symm).1; omega))
          have Hb3 := hide (((((unhide HB1).alloc (by omega) _).alloc (by simp; omega) _).alloc (by simp; omega) _).grown hgrow (by simp; omega) (fun x hx => by have := (unhide Hlt1 x hx).1; omega))
          have Hown3 := hide hown'
          clear hgrow hown'
          go_wp2
          go_roundw
          case rel =>
            refine ⟨n, f, acc ++ [(x, y)], rfl, ?_, Hrd, by omega, hns, by simp; omega, ?_, unhide Hf3, unhide Hb3⟩
            · have := unhide Hown3
              simpa [flat_append, flat, encR] using this
            · intro z hz
              rcases List.mem_append.1 hz with hz | hz
              · exact unhide hall z hz
              · simp at hz; rw [hz]; exact hxr
          case measure => simp [intOf]; omega
set_option maxHeartbeats 2000000 in
set_option maxRecDepth 100000 in
theorem readSet_true (s : ByteArray) (i : Nat) (hs : s.size ≤ 1048576) (h0 : gb s i = 91) (h1 : (gb s (i + 1) == 94) = true) (R : Rs) (hR : rdsF s (s.size + 1) (i + 2) [] = R) (w : World) (hU : UT w) :
    Calls Tryd.prog 56 #[.string s, .int .i64 i] w fun q w' => ∃ v, q = .returned (.tuple #[v, .int .i64 (if R.why = 0 then R.n + 1 else 0 : Nat), .agg #[.int .i64 R.why, .int .i64 R.pos]]) ∧ w'.ownsRow w.heap.size 55 2 v (if R.why = 0 then setL true R.l else []).length (flat (if R.why = 0 then setL true R.l else [])) ∧ Below w.heap.size w w' := by
  obtain ⟨i0, hi0, hz0, hz1, hz2⟩ := info_parts hrange
  have HI := hide (fun i b (hb : 0 ≤ b) => isByte_any s i b hb)
  have HG := hide (fun j (hj : j ≤ s.size) w hU => readRange_any s j (by omega) hj w hU)
  have H0 := hide h0; have H1 := hide h1; have HR := hide hR; have HU := hide (hU.alloc (.cells #[.int .i64 0, .int .i64 0] 48))
  have hU2 := hU.2
  have hi : i < s.size := gb_pos (by rw [h0]; omega)
  have hi2 : i + 1 < s.size := gb_pos (by have : gb s (i + 1) = 94 := by simpa using h1
                                          rw [this]; omega)
  clear h0 h1 hR hU
  go_enter Tryd.func56, Tryd.ntmps56
  go_wp2_with fail
  refine (unhide HI i 91 (by omega) _).mono ?_
  rintro q w' ⟨rfl, hw⟩
  obtain rfl := hw.symm
  rw [unhide H0]
  go_wp2_with fail
  refine (unhide HI (i + 1) 94 (by omega) _).mono ?_
  rintro q w' ⟨rfl, hw⟩
  obtain rfl := hw.symm
  rw [unhide H1]
  go_wp2
  go_loopw [1, 8] (fun x u wr => ∃ (j f : Nat) (acc : List Rng), x = .int .i64 j ∧ wr.ownsRow (w.heap.size + 1) 55 2 u acc.length (flat acc) ∧ Hid (rdsF s f j acc = R) ∧ s.size + 1 ≤ j + f ∧ j ≤ s.size ∧ acc.length ≤ j ∧ Hid (∀ x ∈ acc, isR x = true) ∧ FX w.heap.size 0 0 wr ∧ Below w.heap.size w wr) (fun x _ _ => s.size + 1 - (intOf x).toNat)
  case atStart => exact ⟨i + 2, s.size + 1, [], by go_num, ⟨rfl, .inl ⟨rfl, rfl⟩⟩, unhide HR, by omega, by omega, by simp, (fun x hx => by cases hx), FX.start w 0 0, (Below.refl _ _).alloc (Nat.le_refl _) _⟩
  case round =>
    obtain ⟨j, f, acc, rfl, hown, hrd, hf, hj, hacc, hall, hfb, hbel⟩ := hrel
    obtain ⟨f, rfl⟩ : ∃ g, f = g + 1 := ⟨f - 1, by omega⟩
    have hrd' := unhide hrd
    rw [rdsF] at hrd'
    have hsz := hfb.lt
    obtain ⟨va, vcap, rfl⟩ := ownsRow_slice hown
    have Hown := hide hown; have Hfb := hide hfb; have Hbel := hide hbel; have Hrd := hide hrd'
    clear hown hfb hbel hrd hrd'
    by_cases h93 : gb s j = 93
    · have hRe : R = ⟨acc, j, 0, 0⟩ := by have := unhide Hrd; rw [if_pos h93] at this; exact this.symm
      clear Hrd
      subst hRe
      have HM := hide (merged_any va vcap acc (by omega) (unhide hall) wr (rowAt_own (unhide Hown)))
      have hml := mergedL_length acc
      have HMR := hide (mergedL_isR acc (unhide hall))
      go_wp2_with fail
      refine (unhide HI j 93 (by omega) _).mono ?_
      rintro q w' ⟨rfl, hw⟩
      obtain rfl := hw.symm
      rw [h93]
      go_wp2_with fail
      refine (unhide HM).mono ?_
      rintro q w1 ⟨v, rfl, hown1, hb1⟩
      have hfb := (unhide Hfb).below hb1 hsz
      have HB1 := hide ((unhide Hbel).trans (belowLe hb1 (unhide Hbel).size))
      obtain ⟨va1, vc1, rfl⟩ := ownsRow_slice hown1
      have HT := hide (rest_any va1 vc1 (mergedL acc) (by omega) (unhide HMR) w1 (rowAt_own hown1))
      have Hfb1 := hide hfb
      have hw1 := (unhide HB1).size
      have hlt1 := hfb.lt
      clear hown1 hb1 hfb HM
      go_wp2_with fail
      refine (unhide HT).mono ?_
      rintro q w2 ⟨v2, rfl, hown2, hb2⟩
      have hfb := (unhide Hfb1).below hb2 hlt1
      have f0 := hfb.cell0; have f1 := hfb.cell1; have z0 := hfb.fz 0; have z1 := hfb.fz 1; have q0 := hfb.same0; have q1 := hfb.same1
      have Hown1 := hide (ownsRow_le hown2 hw1)
      have HB2 := hide ((unhide HB1).trans (belowLe hb2 hw1))
      obtain ⟨va2, vc2, rfl⟩ := ownsRow_slice hown2
      clear hown2 hb2 hfb HT
      go_wp2
      refine bodyPost_ret (v := .tuple #[.slice va2 (restL (mergedL acc)).length vc2, .int .i64 (j + 1 : Nat), .agg #[.int .i64 0, .int .i64 0]]) (by simp [results, Tryd.results56, go_sem, f0, f1]) rfl ⟨_, rfl, unhide Hown1, unhide HB2⟩
    · by_cases h32 : gb s j = 32
      · have hjl : j < s.size := gb_pos (by rw [h32]; omega)
        have Hrd2 : Hid (rdsF s f (j + 1) acc = R) := by have := unhide Hrd; rw [if_neg h93, if_pos h32] at this; exact hide this
        clear Hrd
        go_wp2_with fail
        refine (unhide HI j 93 (by omega) _).mono ?_
        rintro q w' ⟨rfl, hw⟩
        obtain rfl := hw.symm
        rw [show (gb s j == 93) = false by simpa using h93]
        go_wp2_with fail
        refine (unhide HI j 32 (by omega) _).mono ?_
        rintro q w' ⟨rfl, hw⟩
        obtain rfl := hw.symm
        rw [show (gb s j == 32) = true by simpa using h32]
        go_wp2
        go_roundw
        case rel => exact ⟨j + 1, f, acc, by go_num, unhide Hown, Hrd2, by omega, by omega, by omega, hall, unhide Hfb, unhide Hbel⟩
        case measure => simp [intOf]; omega
      · have Hc := hide (unhide HG j hj)
        have hok := rngM_ok s j
        have HUw : UT wr := (unhide HU).below (B := w.heap.size + 1) ⟨(unhide Hbel).os, (unhide Hbel).tape, (unhide Hbel).output, by have := hsz; simp; omega, fun k hk => by
          by_cases hkw : k < w.heap.size
          · rw [(unhide Hbel).block k hkw]; exact (((Below.refl w.heap.size w).alloc (Nat.le_refl _) (.cells #[.int .i64 0, .int .i64 0] 48)).block k hkw).symm
          · have : k = w.heap.size := by omega
            subst this
            exact (show wr.heap[w.heap.size]? = _ from unhide Hfb).trans (show (w.alloc (.cells #[.int .i64 0, .int .i64 0] 48)).heap[w.heap.size]? = _ from FX.start w 0 0).symm⟩ (by omega)
        have hrd3 := unhide Hrd
        rw [if_neg h93, if_neg h32] at hrd3
        clear Hrd
        generalize rngM s j = A at *
        obtain ⟨x, y, n, why, pos⟩ := A
        simp only at hrd3 hok
        by_cases hwhy : why ≠ 0
        · rw [if_pos hwhy] at hrd3
          subst hrd3
          have hne : (why == 0) = false := by simpa using hwhy
          go_wp2_with fail
          refine (unhide HI j 93 (by omega) _).mono ?_
          rintro q w' ⟨rfl, hw⟩
          obtain rfl := hw.symm
          rw [show (gb s j == 93) = false by simpa using h93]
          go_wp2_with fail
          refine (unhide HI j 32 (by omega) _).mono ?_
          rintro q w' ⟨rfl, hw⟩
          obtain rfl := hw.symm
          rw [show (gb s j == 32) = false by simpa using h32]
          go_wp2_with fail
          refine (unhide Hc _ HUw).mono ?_
          rintro q w1 ⟨rfl, hb1⟩
          have hfb := ((unhide Hfb).below hb1 hsz)
          have hB1 := (unhide Hbel).trans (belowLe hb1 (unhide Hbel).size)
          have hin : FX (w1.heap.size + 1) why pos ((w1.alloc (.cells #[.int .i32 x, .int .i32 y] 55)).alloc (.cells #[.int .i64 why, .int .i64 pos] 48)) := by
            have := FX.start (w1.alloc (.cells #[.int .i32 x, .int .i32 y] 55)) why pos
            simpa using this
          have Hin := hide hin
          have Hout := hide ((hfb.alloc (.cells #[.int .i32 x, .int .i32 y] 55)).alloc (.cells #[.int .i64 why, .int .i64 pos] 48))
          have HB := hide ((hB1.alloc hB1.size (.cells #[.int .i32 x, .int .i32 y] 55)).alloc (by have := hB1.size; simp; omega) (.cells #[.int .i64 why, .int .i64 pos] 48))
          clear hb1 hfb hB1 hin
          unfold Rg.val
          go_wp2
          generalize (w1.alloc (.cells #[.int .i32 x, .int .i32 y] 55)).alloc (.cells #[.int .i64 why, .int .i64 pos] 48) = W at *
          have a0 := (unhide Hin).cell0; have a1 := (unhide Hin).cell1
          have f0 := (unhide Hout).cell0; have f1 := (unhide Hout).cell1; have z0 := (unhide Hout).fz 0; have z1 := (unhide Hout).fz 1
          have g1 := (unhide Hout).set0 why; have y0 := g1.fz 1; have y1 := g1.cell1
          have g2 := g1.set1 (pos : Int); have x0 := g2.cell0; have x1 := g2.cell1
          clear g1 g2
          go_region
          go_wp2
          refine bodyPost_ret (v := .tuple #[.slice none 0 0, .int .i64 0, .agg #[.int .i64 why, .int .i64 pos]]) (by simp [results, Tryd.results56, go_sem, x0, x1]) rfl ⟨.slice none 0 0, by simp, ⟨rfl, .inl ⟨rfl, rfl⟩⟩, ?_⟩
          exact (below_fault (unhide HB) (Nat.le_refl _) _ _).drew
        · rw [if_neg hwhy] at hrd3
          have hw0 : why = 0 := by simpa using hwhy
          subst hw0
          obtain ⟨hlt, hns, hxr, rfl⟩ := hok rfl
          have Hrd := hide hrd3
          clear hrd3 hok hwhy
          go_wp2_with fail
          refine (unhide HI j 93 (by omega) _).mono ?_
          rintro q w' ⟨rfl, hw⟩
          obtain rfl := hw.symm
          rw [show (gb s j == 93) = false by simpa using h93]
          go_wp2_with fail
          refine (unhide HI j 32 (by omega) _).mono ?_
          rintro q w' ⟨rfl, hw⟩
          obtain rfl := hw.symm
          rw [show (gb s j == 32) = false by simpa using h32]
          go_wp2_with fail
          refine (unhide Hc _ HUw).mono ?_
          rintro q w1 ⟨rfl, hb1⟩
          have hfb := (unhide Hfb).below hb1 hsz
          have hsz1 := hfb.lt
          have hB1 := (unhide Hbel).trans (belowLe hb1 (unhide Hbel).size)
          have hown1 := ownsRow_below (unhide Hown) hb1 (Nat.le_refl _)
          have Hfb1 := hide hfb; have HB1 := hide hB1; have Hown1 := hide (fun o1 o2 o3 => ((hown1.alloc o1).alloc o2).alloc o3)
          have Hlt1 := hide hown1.lt
          clear hfb hB1 hown1 hb1
          unfold Rg.val
          go_wp2_with (at_builtin; refine wpList_append_own _ rfl _ _ 22 rfl (w.heap.size + 1) 55 i0 (.agg #[.int .i32 0, .int .i32 0]) 2 8 Tryd.underlying22 hi0 hz0 hz1 hz2 rfl (by decide) _ _ _ rfl (unhide Hown1 _ _ _) ⟨w1.heap.size + 2, 0, none⟩ 1 1 [.int .i32 x, .int .i32 y] rfl rfl ?k1 ?k2 ?k3 ?k4 ?k5 ?_)
          case k1 => exact cell_new2 _ _ (by simp) _ _ _
          case k2 => intro u hu; simp at hu; rcases hu with rfl | rfl <;> rfl
          case k3 => unfold maxLen; omega
          case k4 => omega
          case k5 => simp; omega
          intro v' w3 hown' hgrow _
          have Hf3 := hide (((((unhide Hfb1).alloc _).alloc _).alloc _).grown hgrow (fun h => by have := (unhide Hlt1 w.heap.size h.symm).1; omega))
          have Hb3 := hide (((((unhide HB1).alloc (by omega) _).alloc (by simp; omega) _).alloc (by simp; omega) _).grown hgrow (by simp; omega) (fun x hx => by have := (unhide Hlt1 x hx).1; omega))
          have Hown3 := hide hown'
          clear hgrow hown'
          go_wp2
          go_roundw
          case rel =>
            refine ⟨n, f, acc ++ [(x, y)], rfl, ?_, Hrd, by omega, hns, by simp; omega, ?_, unhide Hf3, unhide Hb3⟩
            · have := unhide Hown3
              simpa [flat_append, flat, encR] using this
            · intro z hz
              rcases List.mem_append.1 hz with hz | hz
              · exact unhide hall z hz
              · simp at hz; rw [hz]; exact hxr
          case measure => simp [intOf]; omega
end Go.Proofs.YtkbhdojgdgiggaaDoor

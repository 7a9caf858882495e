/- Same of an expression and its like. (and what it leads to) -/
import Derived.Test.YtkimhfajfbcdmaaGreatDoorJW
import Derived.Test.YtkimhfajfbcdmaaGreatDoorJZ
import Derived.Test.YtkimhfajfbcdmaaGreatDoorQX
import Derived.Test.YtkimhfajfbcdmaaGreatDoorQH
import Derived.Test.YtkimhfajfbcdmaaGreatDoorQS
import Derived.Test.YtkimhfajfbcdmaaGreatDoorRows
import Derived.ProofKit
import Derived.OpenShut
import Derived.ChangeOld
import Derived.Deep.SlicePairs
import Derived.Deep.Slices
import Derived.SizedLaws
/- Same of an expression and its like. -/
namespace Go.Proofs.YtkimhfajfbcdmaaGreatDoor
open Go.RowKit Go.Maps

def setLen : Rx → Nat
  | .mk _ s _ => s.length
def kidLen : Rx → Nat
  | .mk _ _ ks => ks.length
set_option maxHeartbeats 1000000 in
set_option maxRecDepth 100000 in
theorem refSame_self (Q Q' : Nat → Prop) (t : Rx) (hp : partsT t < 1000000000000) (W : World) (v0 v1 v2 u0 u1 u2 : Value) (hX : RxAt Q W t v0 v1 v2) (hY : RxAt Q' W t u0 u1 u2) :
    Calls Tryz.prog 20 #[.agg #[v0, v1, v2], .agg #[u0, u1, u2]] W fun e w' => e = .returned (.bool true) ∧ Below W.heap.size W w' := by
  obtain ⟨kk, s1, n1, c1, s2, n2, c2, rfl, rfl, rfl⟩ := rxAt_formQ hX
  obtain ⟨ll, r1, m1, d1, r2, m2, d2, rfl, rfl, rfl⟩ := rxAt_formQ hY
  have hbB : Below W.heap.size W ((W.alloc (.cells #[.int .i64 kk, .slice s1 n1 c1, .slice s2 n2 c2] 26)).alloc (.cells #[.int .i64 ll, .slice r1 m1 d1, .slice r2 m2 d2] 26)) := ((Below.refl _ _).alloc (Nat.le_refl _) _).alloc (by simp) _
  have HO := hide (fun W' (hb : Below W.heap.size W W') => orderT_self Q Q' (partsT t) hp t (Nat.le_refl _) W' _ _ _ _ _ _ (rxAt_kept (Q := Q) (Q' := Q) hb.size (fun q _ hl => hb.block q hl) (fun _ h _ => h) _ _ _ _ hX) (rxAt_kept (Q := Q') (Q' := Q') hb.size (fun q _ hl => hb.block q hl) (fun _ h _ => h) _ _ _ _ hY))
  have HbB := hide hbB
  clear hX hY hp hbB
  go_enter Tryz.func20, Tryz.ntmps20
  go_wp2_with fail
  refine (unhide HO _ (by first | exact unhide HbB | exact Below.refl _ _)).mono ?_
  rintro e1 w1 ⟨rfl, hb1⟩
  have HW1 : Hid (Below W.heap.size W w1) := hide (by first | exact hb1 | exact (unhide HbB).trans (hb1.mono (unhide HbB).size))
  clear hb1 HO
  go_wp2
  go_ret
  exact ⟨rfl, unhide HW1⟩
set_option maxHeartbeats 1000000 in
set_option maxRecDepth 100000 in
theorem same_self (Q Q' : Nat → Prop) (E : Int) (t : Rx) (hp : partsT t < 1000000000000) (W : World) (v0 v1 v2 u0 u1 u2 : Value) (hX : RxAt Q W t v0 v1 v2) (hY : RxAt Q' W t u0 u1 u2) :
    Calls Tryz.prog 8 #[.agg #[v0, v1, v2], .int .i64 E, .agg #[u0, u1, u2], .int .i64 E] W fun e w' => e = .returned (.bool true) ∧ Below W.heap.size W w' := by
  obtain ⟨kk, s1, n1, c1, s2, n2, c2, rfl, rfl, rfl, hn1, hn2⟩ : ∃ (k : Int) (s1 : Option Addr) (n1 c1 : Nat) (s2 : Option Addr) (n2 c2 : Nat), v0 = .int .i64 k ∧ v1 = .slice s1 n1 c1 ∧ v2 = .slice s2 n2 c2 ∧ n1 = setLen t ∧ n2 = kidLen t := by
    cases t; unfold RxAt at hX; obtain ⟨rfl, ⟨sa, sc, rfl, -⟩, ka, kc, vs, rfl, -⟩ := hX; exact ⟨_, _, _, _, _, _, _, rfl, rfl, rfl, rfl, rfl⟩
  obtain ⟨ll, r1, m1, d1, r2, m2, d2, rfl, rfl, rfl, hm1, hm2⟩ : ∃ (k : Int) (s1 : Option Addr) (n1 c1 : Nat) (s2 : Option Addr) (n2 c2 : Nat), u0 = .int .i64 k ∧ u1 = .slice s1 n1 c1 ∧ u2 = .slice s2 n2 c2 ∧ n1 = setLen t ∧ n2 = kidLen t := by
    cases t; unfold RxAt at hY; obtain ⟨rfl, ⟨sa, sc, rfl, -⟩, ka, kc, vs, rfl, -⟩ := hY; exact ⟨_, _, _, _, _, _, _, rfl, rfl, rfl, rfl, rfl⟩
  obtain rfl : m1 = n1 := hm1.trans hn1.symm
  obtain rfl : m2 = n2 := hm2.trans hn2.symm
  clear hn1 hn2 hm1 hm2
  have hbB : Below W.heap.size W ((W.alloc (.cells #[.int .i64 kk, .slice s1 m1 c1, .slice s2 m2 c2] 26)).alloc (.cells #[.int .i64 ll, .slice r1 m1 d1, .slice r2 m2 d2] 26)) := ((Below.refl _ _).alloc (Nat.le_refl _) _).alloc (by simp) _
  have hbx : ((W.alloc (.cells #[.int .i64 kk, .slice s1 m1 c1, .slice s2 m2 c2] 26)).alloc (.cells #[.int .i64 ll, .slice r1 m1 d1, .slice r2 m2 d2] 26)).heap[W.heap.size]? = some (.cells #[.int .i64 kk, .slice s1 m1 c1, .slice s2 m2 c2] 26 (0, 0)) := (Below.heap_alloc _ _ _ (by simp)).trans (heap_new W _)
  have hby : ((W.alloc (.cells #[.int .i64 kk, .slice s1 m1 c1, .slice s2 m2 c2] 26)).alloc (.cells #[.int .i64 ll, .slice r1 m1 d1, .slice r2 m2 d2] 26)).heap[W.heap.size + 1]? = some (.cells #[.int .i64 ll, .slice r1 m1 d1, .slice r2 m2 d2] 26 (0, 0)) := by
    have := heap_new (W.alloc (.cells #[.int .i64 kk, .slice s1 m1 c1, .slice s2 m2 c2] 26)) (.cells #[.int .i64 ll, .slice r1 m1 d1, .slice r2 m2 d2] 26)
    rwa [show (W.alloc (.cells #[.int .i64 kk, .slice s1 m1 c1, .slice s2 m2 c2] 26)).heap.size = W.heap.size + 1 by simp] at this
  have hs0 : ((W.alloc (.cells #[.int .i64 kk, .slice s1 m1 c1, .slice s2 m2 c2] 26)).alloc (.cells #[.int .i64 ll, .slice r1 m1 d1, .slice r2 m2 d2] 26)).heap.size = W.heap.size + 2 := by simp
  have HS := hide (refSame_self Q Q' t hp _ _ _ _ _ _ _ (rxAt_kept (Q := Q) (Q' := Q) hbB.size (fun q _ hl => hbB.block q hl) (fun _ h _ => h) _ _ _ _ hX) (rxAt_kept (Q := Q') (Q' := Q') hbB.size (fun q _ hl => hbB.block q hl) (fun _ h _ => h) _ _ _ _ hY))
  have HbB := hide hbB; have Hs0 := hide hs0; have Hbx := hide hbx; have Hby := hide hby
  clear hX hY hp hbB hs0 hbx hby
  have hE : (E == E) = true := by simp
  go_enter Tryz.func8, Tryz.ntmps8
  go_wp2_with fail
  refine (unhide HS).mono ?_
  rintro e1 w1 ⟨rfl, hb1⟩
  rw [unhide Hs0] at hb1
  have hbx1 := (hb1.block W.heap.size (by omega)).trans (unhide Hbx)
  have hby1 := (hb1.block (W.heap.size + 1) (by omega)).trans (unhide Hby)
  have b1 := cell_block hbx1 1 _ rfl
  have b2 := cell_block hbx1 2 _ rfl
  have y1 := cell_block hby1 1 _ rfl
  have y2 := cell_block hby1 2 _ rfl
  have HW1 := hide ((unhide HbB).trans (hb1.mono (by omega)))
  clear hb1 hbx1 hby1 HS
  go_wp2
  go_ret
  exact ⟨by simp, unhide HW1⟩
end Go.Proofs.YtkimhfajfbcdmaaGreatDoor

/- RegexWords walked. -/
namespace Go.Proofs.YtkimhfajfbcdmaaGreatDoor
open Go.RowKit Go.Maps

theorem wordE_doc {row : List Int} (hl : row.length ≤ 1048576) : wordE row = docE row := by
  by_cases h : row.all isC = true
  · rw [(word_is h hl).2.1, docE, if_pos h]
  · rw [wordE, if_neg h, docE, if_neg h]
theorem wordT_doc {row : List Int} (hl : row.length ≤ 1048576) (h : docE row = 0) : wordT row = docT row := by
  by_cases h2 : row.all isC = true
  · refine (word_is h2 hl).2.2 ?_
    rw [docE, if_pos h2] at h
    by_cases h3 : 2047 < row.length
    · rw [if_pos h3] at h; cases h
    · omega
  · rw [docE, if_neg h2] at h; cases h
/-- What is told: an expression, or nothing. -/
def toldT (E : Int) (T : Rx) : Rx := if E = 0 then T else .mk 0 [] []
theorem told_at {Q : Nat → Prop} {w : World} {E : Int} {T : Rx} {v0 v1 v2 : Value} (h : if E = 0 then RxAt Q w T v0 v1 v2 else (v0 = .int .i64 0 ∧ v1 = .slice none 0 0 ∧ v2 = .slice none 0 0)) : RxAt Q w (toldT E T) v0 v1 v2 := by
  unfold toldT
  split at h
  · rename_i he; rw [if_pos he]; exact h
  · rename_i he
    rw [if_neg he]
    obtain ⟨rfl, rfl, rfl⟩ := h
    unfold RxAt
    exact ⟨rfl, ⟨none, 0, rfl, .inl rfl, .inl rfl⟩, none, 0, [], rfl, rfl, .inl rfl⟩
/-- A box with an expression. -/
structure Bx (W : World) (b : Nat) (t : Rx) (v0 v1 v2 : Value) : Prop where
  blk : W.heap[b]? = some (.cells #[v0, v1, v2] 26 (0, 0))
  at_ : RxAt (fun _ => True) W t v0 v1 v2
theorem rxAt_true {Q : Nat → Prop} {W : World} {t : Rx} {v0 v1 v2 : Value} (h : RxAt Q W t v0 v1 v2) : RxAt (fun _ => True) W t v0 v1 v2 := rxAt_kept (Nat.le_refl _) (fun _ _ _ => rfl) (fun _ _ _ => trivial) _ _ _ _ h
theorem bx_new {W : World} {t : Rx} {v0 v1 v2 : Value} (h : RxAt (fun _ => True) W t v0 v1 v2) : Bx (W.alloc (.cells #[v0, v1, v2] 26)) W.heap.size t v0 v1 v2 :=
  ⟨heap_new W _, by
    have hb : Below W.heap.size W (W.alloc (.cells #[v0, v1, v2] 26)) := (Below.refl _ _).alloc (Nat.le_refl _) _
    exact rxAt_kept hb.size (fun k _ hl => hb.block k hl) (fun _ _ _ => trivial) _ _ _ _ h⟩
theorem bx_below {W W' : World} {b : Nat} {t : Rx} {v0 v1 v2 : Value} (h : Bx W b t v0 v1 v2) (hb : Below W.heap.size W W') : Bx W' b t v0 v1 v2 :=
  ⟨(hb.block b (lt_of_some h.blk)).trans h.blk, rxAt_kept hb.size (fun k _ hl => hb.block k hl) (fun _ _ _ => trivial) _ _ _ _ h.at_⟩
theorem told_parts {E : Int} {T : Rx} (h : partsT T < 1000000000000) : partsT (toldT E T) < 1000000000000 := by
  unfold toldT; split
  · exact h
  · decide
theorem setT_lt {s : List Rg} (hs : s.length ≤ 1048576) : partsT (setT s) < 1000000000000 := by
  by_cases h : s = []
  · subst h; decide
  · rw [setT, if_neg h]; simp [partsT, partsTs]; omega
theorem irow_below {w w' : World} {a : Option Addr} {l : List Int} (h : IRow w a l) (hb : Below w.heap.size w w') : IRow w' a l := by
  rcases h with h | ⟨g, off, rfl, hg, hc⟩
  · exact .inl h
  · exact .inr ⟨g, off, rfl, Nat.lt_of_lt_of_le hg hb.size, fun j hj => (hb.cell (p := ⟨g, off + j, none⟩) hg).trans (hc j hj)⟩
set_option maxHeartbeats 2000000 in
set_option maxRecDepth 100000 in
theorem regexWords_walk (W : World) (a b : Option Addr) (ca cb : Nat) (s : List Rg) (row : List Int) (hs : s.length ≤ 1048576) (hr : row.length ≤ 1048576) (hrs : RowAt W a s) (ha : ∀ y, a = some y → y.block < W.heap.size) (hrr : IRow W b row) (hb : ∀ y, b = some y → y.block < W.heap.size) :
    Calls Tryz.prog 3 #[.slice a s.length ca, .slice b row.length cb] W fun e w' => e = .returned (.bool true) ∧ Below W.heap.size W w' := by
  have HC1 := hide (regexSet_any W a ca s (by omega) hrs ha)
  have HC2 := hide (fun W' (hB : Below W.heap.size W W') => refSet_any W' a ca s (by omega) (rowAt_below hrs (Nat.le_refl _) hB) W'.heap.size (.inr (fun y hy => Nat.lt_of_lt_of_le (ha y hy) hB.size)) (Nat.le_refl _))
  have HC3 := hide (fun W' (hB : Below W.heap.size W W') => regexWord_any W' b cb row hr (irow_below hrr hB) (fun y hy => Nat.lt_of_lt_of_le (hb y hy) hB.size) (fun h => (word_is h hr).1))
  have HC4 := hide (fun W' (hB : Below W.heap.size W W') => refWord_any W' b cb row hr (irow_below hrr hB))
  have HE := hide (wordE_doc hr)
  have HT := hide (fun h => wordT_doc hr h)
  have HP1 := hide (told_parts (E := checkV s) (setT_lt hs))
  have HP2 := hide (told_parts (E := docE row) (T := docT row) (by have := (lim_doc row).2; omega))
  clear hrs ha hrr hb
  go_enter Tryz.func3, Tryz.ntmps3
  go_wp2_with fail
  refine (unhide HC1).mono ?_
  rintro e1 w1 ⟨v0, v1, v2, rfl, hb1, hX1⟩
  have hx1 := rxAt_true (told_at hX1)
  clear hX1
  generalize checkV s = E1 at *
  obtain ⟨k1, a1, n1, c1, d1, m1, f1, rfl, rfl, rfl⟩ := rxAt_formQ hx1
  have hx1' := bx_new hx1
  have hb1' : Below W.heap.size W (w1.alloc (.cells #[.int .i64 k1, .slice a1 n1 c1, .slice d1 m1 f1] 26)) := hb1.alloc hb1.size _
  have HX1 := hide hx1'; have HB1 := hide hb1'
  have HC2' := hide (unhide HC2 _ hb1')
  clear hx1 hb1 hx1' hb1' HC1 HC2
  go_wp2_with fail
  generalize w1.heap.size = x1 at *
  generalize w1.alloc (.cells #[.int .i64 k1, .slice a1 n1 c1, .slice d1 m1 f1] 26) = W1 at *
  refine (unhide HC2').mono ?_
  rintro e2 w2 ⟨v0, v1, v2, rfl, hb2, hX2⟩
  have hx2 := rxAt_true (told_at hX2)
  clear hX2
  obtain ⟨k2, a2, n2, c2, d2, m2, f2, rfl, rfl, rfl⟩ := rxAt_formQ hx2
  have hx2' := bx_new hx2
  have hbW2 : Below W1.heap.size W1 (w2.alloc (.cells #[.int .i64 k2, .slice a2 n2 c2, .slice d2 m2 f2] 26)) := hb2.alloc hb2.size _
  have hb2' : Below W.heap.size W (w2.alloc (.cells #[.int .i64 k2, .slice a2 n2 c2, .slice d2 m2 f2] 26)) := (unhide HB1).trans (hbW2.mono (unhide HB1).size)
  have HX1' := hide (bx_below (unhide HX1) hbW2)
  have HX2 := hide hx2'; have HB2 := hide hb2'
  have HC3' := hide (unhide HC3 _ hb2')
  clear hx2 hb2 hx2' hb2' HC2' HC3 HX1 HB1 hbW2
  go_wp2_with fail
  generalize w2.heap.size = x2 at *
  generalize w2.alloc (.cells #[.int .i64 k2, .slice a2 n2 c2, .slice d2 m2 f2] 26) = W2 at *
  refine (unhide HC3').mono ?_
  rintro e3 w3 ⟨v0, v1, v2, rfl, hb3, hX3⟩
  rw [unhide HE] at hX3 ⊢
  have hx3 := rxAt_true (told_at hX3)
  clear hX3
  have htt : toldT (docE row) (wordT row) = toldT (docE row) (docT row) := by
    unfold toldT
    by_cases h : docE row = 0
    · rw [if_pos h, if_pos h, unhide HT h]
    · rw [if_neg h, if_neg h]
  rw [htt] at hx3
  clear htt HE HT
  obtain ⟨k3, a3, n3, c3, d3, m3, f3, rfl, rfl, rfl⟩ := rxAt_formQ hx3
  have hx3' := bx_new hx3
  have hbW3 : Below W2.heap.size W2 (w3.alloc (.cells #[.int .i64 k3, .slice a3 n3 c3, .slice d3 m3 f3] 26)) := hb3.alloc hb3.size _
  have hb3' : Below W.heap.size W (w3.alloc (.cells #[.int .i64 k3, .slice a3 n3 c3, .slice d3 m3 f3] 26)) := (unhide HB2).trans (hbW3.mono (unhide HB2).size)
  have HX1 := hide (bx_below (unhide HX1') hbW3)
  have HX2' := hide (bx_below (unhide HX2) hbW3)
  have HX3 := hide hx3'; have HB3 := hide hb3'
  have HC4' := hide (unhide HC4 _ hb3')
  clear hx3 hb3 hx3' hb3' HC3' HC4 HX1' HX2 HB2 hbW3
  generalize docE row = E2 at *
  go_wp2_with fail
  generalize w3.heap.size = x3 at *
  generalize w3.alloc (.cells #[.int .i64 k3, .slice a3 n3 c3, .slice d3 m3 f3] 26) = W3 at *
  refine (unhide HC4').mono ?_
  rintro e4 w4 ⟨v0, v1, v2, rfl, hb4, hX4⟩
  have hx4 := rxAt_true (told_at hX4)
  clear hX4
  obtain ⟨k4, a4, n4, c4, d4, m4, f4, rfl, rfl, rfl⟩ := rxAt_formQ hx4
  have hx4' := bx_new hx4
  have hbW4 : Below W3.heap.size W3 (w4.alloc (.cells #[.int .i64 k4, .slice a4 n4 c4, .slice d4 m4 f4] 26)) := hb4.alloc hb4.size _
  have hb4' : Below W.heap.size W (w4.alloc (.cells #[.int .i64 k4, .slice a4 n4 c4, .slice d4 m4 f4] 26)) := (unhide HB3).trans (hbW4.mono (unhide HB3).size)
  have hX1 := bx_below (unhide HX1) hbW4
  have hX2 := bx_below (unhide HX2') hbW4
  have hX3 := bx_below (unhide HX3) hbW4
  have HS1 := hide (same_self _ _ E1 _ (unhide HP1) _ _ _ _ _ _ _ hX1.at_ hX2.at_)
  have p10 := cell_block hX1.blk 0 _ rfl
  have p11 := cell_block hX1.blk 1 _ rfl
  have p12 := cell_block hX1.blk 2 _ rfl
  have p20 := cell_block hX2.blk 0 _ rfl
  have p21 := cell_block hX2.blk 1 _ rfl
  have p22 := cell_block hX2.blk 2 _ rfl
  have HX3' := hide hX3; have HX4 := hide hx4'; have HB4 := hide hb4'
  clear hx4 hb4 hx4' hb4' HC4' HX1 HX2' HX3 HB3 hbW4 hX1 hX2 hX3 HP1
  go_wp2_with fail
  generalize w4.heap.size = x4 at *
  generalize w4.alloc (.cells #[.int .i64 k4, .slice a4 n4 c4, .slice d4 m4 f4] 26) = W4 at *
  refine (unhide HS1).mono ?_
  rintro e5 w5 ⟨rfl, hb5⟩
  have hX3 := bx_below (unhide HX3') hb5
  have hX4 := bx_below (unhide HX4) hb5
  have HS2 := hide (same_self _ _ E2 _ (unhide HP2) _ _ _ _ _ _ _ hX3.at_ hX4.at_)
  have p30 := cell_block hX3.blk 0 _ rfl
  have p31 := cell_block hX3.blk 1 _ rfl
  have p32 := cell_block hX3.blk 2 _ rfl
  have p40 := cell_block hX4.blk 0 _ rfl
  have p41 := cell_block hX4.blk 1 _ rfl
  have p42 := cell_block hX4.blk 2 _ rfl
  have HB5 := hide ((unhide HB4).trans (hb5.mono (unhide HB4).size))
  clear hb5 HX3' HX4 HB4 hX3 hX4 HP2 HS1 p10 p11 p12 p20 p21 p22
  go_wp2_with fail
  refine (unhide HS2).mono ?_
  rintro e6 w6 ⟨rfl, hb6⟩
  have HB6 := hide ((unhide HB5).trans (hb6.mono (unhide HB5).size))
  clear hb6 HS2 HB5 p30 p31 p32 p40 p41 p42
  go_wp2_with fail
  refine (awake_any w6).mono ?_
  rintro e7 w7 ⟨rfl, hb7⟩
  have HB7 := hide ((unhide HB6).trans (hb7.mono (unhide HB6).size))
  clear hb7 HB6
  go_wp2
  go_ret
  exact ⟨rfl, unhide HB7⟩
end Go.Proofs.YtkimhfajfbcdmaaGreatDoor

/- A row of ranges and a row of runes that came in, opened; their bulk bounds them. -/
namespace Go.Proofs.YtkimhfajfbcdmaaGreatDoor
open Go.ChangeShapes Go.WideShapes Go.ChangeAt Go.RowKit

theorem bulk_one {H : Type} (d : DataW H) : 1 ≤ Rows.uptoBulk d := by
  cases d with
  | lit l => cases l <;> simp [Rows.uptoBulk]
  | nil => simp [Rows.uptoBulk]
  | ptr d => simp [Rows.uptoBulk]
  | slice elems spare => simp [Rows.uptoBulk]
  | agg parts => simp [Rows.uptoBulk]
  | iface t d => simp [Rows.uptoBulk]
  | map entries => simp [Rows.uptoBulk]
  | held h => simp [Rows.uptoBulk]
theorem bulk_length {H : Type} (l : List (DataW H)) : l.length ≤ Rows.uptoBulkAll l := by
  induction l with
  | nil => simp
  | cons x r ih => have := bulk_one x; simp only [Rows.uptoBulkAll, List.length_cons]; omega
/-- What a slice stands on lies in memory. -/
theorem okWide_block {P : Program} {W : World} {r : Reach} {base : Nat} {t e : TypeId} {a : Addr} {n c : Nat} (ht : P.underlying t = some (.slice e)) (h : Value.okWide P W r base t (.slice (some a) n c)) : a.block < W.heap.size := by
  simp only [Value.okWide, ht, Cell.okWide, Cell.ok] at h
  obtain ⟨-, -, -, -, row, cells, hs, -⟩ := h
  unfold World.shape? at hs
  split at hs
  · rename_i c e f hh
    exact (Array.getElem?_eq_some_iff.1 hh).1
  · cases hs
set_option maxRecDepth 100000 in
theorem open_ranges {H : Type} {enc : TypeId × Value → H} {W : World} {base : Nat} {v : Value} {d : DataW H} {p : List MemPlace} (hval : Value.okWide Tryz.prog W .any base 22 v)
    (h : DataW.Trod enc Tryz.prog W 0 (fun _ => true) true 22 v d p) :
    ∃ a cap l, v = .slice a (List.length l) cap ∧ RowAt W a l ∧ l.length + 1 ≤ Rows.uptoBulk d ∧ ∀ y, a = some y → y.block < W.heap.size := by
  have hval' := hval
  obtain ⟨a1, len1, cap1, rfl⟩ := okWide_slice Tryz.underlying22 hval
  obtain ⟨fuel, hf⟩ := h
  rcases Go.Deep.open_slice_pairs Tryz.underlying22 Tryz.underlying45 (by kernel_rfl) rfl rfl (by kernel_rfl) (by kernel_rfl) hf with ⟨hcs, _⟩ | ⟨a, len, cap, m, n, V0, V1, D0, D1, P0, P1, hcs, _, hl, hm, hmm, hx, hc⟩
  · simp [Value.cells] at hcs
    obtain ⟨rfl, rfl, rfl⟩ := hcs
    exact ⟨none, 0, [], rfl, .inl rfl, by have := bulk_one d; simpa using this, fun y h => by cases h⟩
  · simp [Value.cells] at hcs
    obtain ⟨rfl, rfl, rfl⟩ := hcs
    have hmc : m = cap1 := by simpa using hmm
    subst hmc
    have hblk := okWide_block Tryz.underlying22 hval'
    have hlen : ((List.range len1).map fun i => (intOf (V0 i), intOf (V1 i))).length = len1 := by simp
    have hv : ∀ i, i < len1 → W.cell? (a.add (i * 2)) = some (.int .i32 (intOf (V0 i))) ∧ W.cell? (a.add (i * 2 + 1)) = some (.int .i32 (intOf (V1 i))) := fun i hi => by
      obtain ⟨c0, c1, t0, t1⟩ := hc i (by omega)
      obtain ⟨z0, e0, _, _⟩ := DataW.trod_int Tryz.underlying21 t0
      obtain ⟨z1, e1, _, _⟩ := DataW.trod_int Tryz.underlying21 t1
      simp only [List.cons.injEq, and_true] at e0 e1
      rw [c0, c1, e0, e1]
      exact ⟨rfl, rfl⟩
    refine ⟨some a, m, (List.range len1).map fun i => (intOf (V0 i), intOf (V1 i)), by rw [hlen], ?_, ?_, fun y h => by cases h; exact hblk⟩
    · by_cases h0 : len1 = 0
      · subst h0; exact .inl rfl
      · obtain ⟨b, off, spot⟩ := a
        have hspot : spot = none := by simpa [Addr.add] using World.cell?_spot (hv 0 (by omega)).1
        subst hspot
        refine .inr ⟨b, off, rfl, hblk, fun j hj => ?_⟩
        rw [hlen] at hj
        have hj2 := hv j hj
        rw [add_plain, add_plain] at hj2
        have e : ((List.range len1).map fun i => (intOf (V0 i), intOf (V1 i))).getD j (0, 0) = (intOf (V0 j), intOf (V1 j)) := by
          simp [List.getD_eq_getElem?_getD, List.getElem?_range hj]
        rw [e]
        exact ⟨hj2.1, by rw [Nat.add_assoc]; exact hj2.2⟩
    · rw [hlen]
      have hd : d = _ := congrArg Prod.fst hx
      have hb := bulk_length ((List.range len1).map fun i => DataW.agg [D0 i, D1 i])
      rw [hd]
      simp only [Rows.uptoBulk, List.length_map, List.length_range] at hb ⊢
      omega
set_option maxRecDepth 100000 in
theorem open_runes {H : Type} {enc : TypeId × Value → H} {W : World} {base : Nat} {v : Value} {d : DataW H} {p : List MemPlace} (hval : Value.okWide Tryz.prog W .any base 23 v)
    (h : DataW.Trod enc Tryz.prog W 0 (fun _ => true) true 23 v d p) :
    ∃ a cap l, v = .slice a (List.length l) cap ∧ IRow W a l ∧ l.length + 1 ≤ Rows.uptoBulk d ∧ ∀ y, a = some y → y.block < W.heap.size := by
  have hval' := hval
  obtain ⟨a1, len1, cap1, rfl⟩ := okWide_slice Tryz.underlying23 hval
  obtain ⟨fuel, hf⟩ := h
  rcases Go.Deep.open_slice1 Tryz.underlying23 (by kernel_rfl) hf with ⟨hcs, _⟩ | ⟨a, len, cap, m, n, V, D, Pl, hcs, _, hl, hm, hmm, hx, hc⟩
  · simp [Value.cells] at hcs
    obtain ⟨rfl, rfl, rfl⟩ := hcs
    exact ⟨none, 0, [], rfl, .inl rfl, by have := bulk_one d; simpa using this, fun y h => by cases h⟩
  · simp [Value.cells] at hcs
    obtain ⟨rfl, rfl, rfl⟩ := hcs
    have hmc : m = cap1 := by simpa using hmm
    subst hmc
    have hblk := okWide_block Tryz.underlying23 hval'
    have hlen : ((List.range len1).map fun i => intOf (V i)).length = len1 := by simp
    have hv : ∀ i, i < len1 → W.cell? (a.add i) = some (.int .i32 (intOf (V i))) := fun i hi => by
      obtain ⟨c0, t0⟩ := hc i (by omega)
      obtain ⟨z0, e0, _, _⟩ := DataW.trod_int Tryz.underlying21 t0
      simp only [List.cons.injEq, and_true] at e0
      rw [c0, e0]
      rfl
    refine ⟨some a, m, (List.range len1).map fun i => intOf (V i), by rw [hlen], ?_, ?_, fun y h => by cases h; exact hblk⟩
    · by_cases h0 : len1 = 0
      · subst h0; exact .inl rfl
      · obtain ⟨b, off, spot⟩ := a
        have hspot : spot = none := by simpa [Addr.add] using World.cell?_spot (hv 0 (by omega))
        subst hspot
        refine .inr ⟨b, off, rfl, hblk, fun j hj => ?_⟩
        rw [hlen] at hj
        have hj2 := hv j hj
        rw [add_plain] at hj2
        have e : ((List.range len1).map fun i => intOf (V i)).getD j 0 = intOf (V j) := by
          simp [List.getD_eq_getElem?_getD, List.getElem?_range hj]
        rw [e]
        exact hj2
    · rw [hlen]
      have hd : d = _ := congrArg Prod.fst hx
      have hb := bulk_length ((List.range len1).map D)
      rw [hd]
      simp only [Rows.uptoBulk, List.length_map, List.length_range] at hb ⊢
      omega
end Go.Proofs.YtkimhfajfbcdmaaGreatDoor

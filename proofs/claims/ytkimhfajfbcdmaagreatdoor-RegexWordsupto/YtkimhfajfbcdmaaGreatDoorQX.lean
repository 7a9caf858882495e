/- Pools: derive at awake's runes. (and what it leads to) -/
import Derived.Test.YtkimhfajfbcdmaaGreatDoorQW
/- Pools: derive at awake's runes. -/
namespace Go.Proofs.YtkimhfajfbcdmaaGreatDoor
open Go.RowKit Go.Maps

theorem drc_eq {B pb mb sb : Nat} {M M' M'' : Stp} {L L' L'' : List Ab} {x d d' : Nat} {c : Int} (h : DrC B pb mb sb M M' L L' x c d) (em : M' = M'') (e : L' = L'') (ed : d = d') : DrC B pb mb sb M M'' L L'' x c d' := by subst em; subst e; subst ed; exact h
section
variable {B pb mb sb : Nat}
theorem dE1 : DrC B pb mb sb [] [(3, 97, 0)] C5 C5 3 97 0 := drc_eq (derive_2 (by decide) (by decide) (by kernel_rfl) (by kernel_rfl) (by kernel_rfl) false (by kernel_rfl)) rfl rfl rfl
theorem dE2 : DrC B pb mb sb [] [(3, 97, 0), (4, 97, 2)] C5 C5 4 97 2 := drc_eq (derive_6 (by decide) (by decide) (by kernel_rfl) (by kernel_rfl) (by kernel_rfl) (by kernel_rfl) dE1 (by decide) (by decide) 2 (by kernel_rfl) (by decide)) rfl (by kernel_rfl) rfl
theorem dE3 : DrC B pb mb sb [(3, 97, 0), (4, 97, 2)] [(3, 97, 0), (4, 97, 2), (5, 97, 1)] C5 C5 5 97 1 := drc_eq (derive_2 (by decide) (by decide) (by kernel_rfl) (by kernel_rfl) (by kernel_rfl) true (by kernel_rfl)) rfl rfl rfl
theorem dE4 : DrC B pb mb sb [(3, 97, 0), (4, 97, 2)] [(3, 97, 0), (4, 97, 2), (5, 97, 1), (6, 97, 6)] C5 C5 6 97 6 := drc_eq (derive_7 (by decide) (by decide) (by decide) (by kernel_rfl) (by kernel_rfl) (by kernel_rfl) (by kernel_rfl) dE3 (by decide) (by decide) 6 (by kernel_rfl) (by decide) (by decide)) rfl (by kernel_rfl) rfl
theorem splE : splA C5 5 [2, 6] = [2, 6] := by
  unfold splA
  rw [show flatA C5 5 [2, 6] = [2, 6] by kernel_rfl, List.mergeSort_of_pairwise (by decide)]
  kernel_rfl
theorem restE : restA C5 5 [2, 6] = [6] := by unfold restA; rw [splE]; kernel_rfl
theorem sortE : sortA cmpI [6] = [6] := by
  unfold sortA Go.Sort.insertionSort
  rw [Go.Sort.insOuter, if_neg (by decide)]
theorem chE : chX C5 5 cmpI [2, 6] = 6 ∧ chL C5 5 cmpI [2, 6] = C5 := by
  unfold chX chL
  rw [splE, restE, sortE]
  exact ⟨by kernel_rfl, by kernel_rfl⟩
theorem cmpE (x y : Int) (W : World) : Calls Tryz.prog 37 #[.int .i64 x, .int .i64 y] W fun e w' => e = .returned (.int .i64 (cmpI x y)) ∧ ∃ q, w' = W.drewN q :=
  (cmpI_any x y W).mono (by rintro e w ⟨rfl, rfl⟩; exact ⟨rfl, 0, rfl⟩)
theorem dE5 : DrC B pb mb sb [] [(3, 97, 0), (4, 97, 2), (5, 97, 1), (6, 97, 6), (7, 97, 6)] C5 C5 7 97 6 := drc_eq (derive_5 (ys := [4, 6]) (xs := [2, 6]) (L1 := C5) (M1 := [(3, 97, 0), (4, 97, 2), (5, 97, 1), (6, 97, 6)]) (by decide) (by decide) (by kernel_rfl) (by kernel_rfl) (by kernel_rfl) (by kernel_rfl) (by decide) (by decide) ⟨_, _, 2, [6], 4, rfl, dE2, ⟨_, _, 6, [], 6, rfl, dE4, ⟨rfl, rfl, rfl⟩, rfl⟩, rfl⟩ (by decide) (by decide) (by decide) (by show ((splA C5 5 [2, 6]).filter (isSet C5)).length < 2; rw [splE]; decide +kernel) (by show (restA C5 5 [2, 6]).length ≤ 12; rw [restE]; decide) cmpI (fun _ W _ a _ b _ => cmpE a b W) (dd := 6) chE.1 (by decide)) rfl chE.2 rfl
theorem ms2 (a b : Int) (h : ¬ a ≤ b) : List.mergeSort [a, b] (fun x y => decide (x ≤ y)) = [b, a] := by
  rw [List.mergeSort]
  simp [h]
theorem dE6 : DrC B pb mb sb [(3, 97, 0), (4, 97, 2), (5, 97, 1), (6, 97, 6), (7, 97, 6)] [(3, 97, 0), (4, 97, 2), (5, 97, 1), (6, 97, 6), (7, 97, 6), (5, 98, 1)] C5 C5 5 98 1 := drc_eq (derive_2 (by decide) (by decide) (by kernel_rfl) (by kernel_rfl) (by kernel_rfl) true (by kernel_rfl)) rfl rfl rfl
theorem dE7 : DrC B pb mb sb [(3, 97, 0), (4, 97, 2), (5, 97, 1), (6, 97, 6), (7, 97, 6)] [(3, 97, 0), (4, 97, 2), (5, 97, 1), (6, 97, 6), (7, 97, 6), (5, 98, 1), (6, 98, 6)] C5 C5 6 98 6 := drc_eq (derive_7 (by decide) (by decide) (by decide) (by kernel_rfl) (by kernel_rfl) (by kernel_rfl) (by kernel_rfl) dE6 (by decide) (by decide) 6 (by kernel_rfl) (by decide) (by decide)) rfl (by kernel_rfl) rfl
def D1 : List Ab := C5 ++ [⟨6, [], [1], 2, 2, false⟩]
def D2 : List Ab := D1 ++ [⟨5, [], [6, 8], 6, 3, false⟩]
theorem dF1 : DrC B pb mb sb [] [(3, 98, 1)] C5 C5 3 98 1 := drc_eq (derive_2 (by decide) (by decide) (by kernel_rfl) (by kernel_rfl) (by kernel_rfl) true (by kernel_rfl)) rfl rfl rfl
theorem dF2 : DrC B pb mb sb [] [(3, 98, 1), (4, 98, 8)] C5 D1 4 98 8 := drc_eq (derive_6 (by decide) (by decide) (by kernel_rfl) (by kernel_rfl) (by kernel_rfl) (by kernel_rfl) dF1 (by decide) (by decide) 8 (by kernel_rfl) (by decide)) rfl (by kernel_rfl) rfl
theorem dF3 : DrC B pb mb sb [(3, 98, 1), (4, 98, 8)] [(3, 98, 1), (4, 98, 8), (5, 98, 1)] D1 D1 5 98 1 := drc_eq (derive_2 (by decide) (by decide) (by kernel_rfl) (by kernel_rfl) (by kernel_rfl) true (by kernel_rfl)) rfl rfl rfl
theorem dF4 : DrC B pb mb sb [(3, 98, 1), (4, 98, 8)] [(3, 98, 1), (4, 98, 8), (5, 98, 1), (6, 98, 6)] D1 D1 6 98 6 := drc_eq (derive_7 (by decide) (by decide) (by decide) (by kernel_rfl) (by kernel_rfl) (by kernel_rfl) (by kernel_rfl) dF3 (by decide) (by decide) 6 (by kernel_rfl) (by decide) (by decide)) rfl (by kernel_rfl) rfl
theorem splF : splA D1 5 [8, 6] = [6, 8] := by
  unfold splA
  rw [show flatA D1 5 [8, 6] = [8, 6] by kernel_rfl, ms2 8 6 (by decide)]
  kernel_rfl
theorem restF : restA D1 5 [8, 6] = [6, 8] := by unfold restA; rw [splF]; kernel_rfl
theorem sortF : sortA cmpI [6, 8] = [6, 8] := by
  unfold sortA Go.Sort.insertionSort
  rw [Go.Sort.insOuter, if_pos (by decide), Go.Sort.insOuter, if_neg (by decide)]
  kernel_rfl
theorem chF : chX D1 5 cmpI [8, 6] = 9 ∧ chL D1 5 cmpI [8, 6] = D2 := by
  unfold chX chL
  rw [splF, restF, sortF]
  exact ⟨by kernel_rfl, by kernel_rfl⟩
theorem dF5 : DrC B pb mb sb [] [(3, 98, 1), (4, 98, 8), (5, 98, 1), (6, 98, 6), (7, 98, 9)] C5 D2 7 98 9 := drc_eq (derive_5 (ys := [4, 6]) (xs := [8, 6]) (L1 := D1) (M1 := [(3, 98, 1), (4, 98, 8), (5, 98, 1), (6, 98, 6)]) (by decide) (by decide) (by kernel_rfl) (by kernel_rfl) (by kernel_rfl) (by kernel_rfl) (by decide) (by decide) ⟨_, _, 8, [6], 4, rfl, dF2, ⟨_, _, 6, [], 6, rfl, dF4, ⟨rfl, rfl, rfl⟩, rfl⟩, rfl⟩ (by decide) (by decide) (by decide) (by show ((splA D1 5 [8, 6]).filter (isSet D1)).length < 2; rw [splF]; decide +kernel) (by show (restA D1 5 [8, 6]).length ≤ 12; rw [restF]; decide) cmpI (fun _ W _ a _ b _ => cmpE a b W) (dd := 9) chF.1 (by decide)) rfl chF.2 rfl
theorem dH1 : DrC B pb mb sb [] [(3, 100, 0)] C5 C5 3 100 0 := drc_eq (derive_2 (by decide) (by decide) (by kernel_rfl) (by kernel_rfl) (by kernel_rfl) false (by kernel_rfl)) rfl rfl rfl
theorem dH2 : DrC B pb mb sb [] [(3, 100, 0), (4, 100, 2)] C5 C5 4 100 2 := drc_eq (derive_6 (by decide) (by decide) (by kernel_rfl) (by kernel_rfl) (by kernel_rfl) (by kernel_rfl) dH1 (by decide) (by decide) 2 (by kernel_rfl) (by decide)) rfl (by kernel_rfl) rfl
theorem dH3 : DrC B pb mb sb [(3, 100, 0), (4, 100, 2)] [(3, 100, 0), (4, 100, 2), (5, 100, 0)] C5 C5 5 100 0 := drc_eq (derive_2 (by decide) (by decide) (by kernel_rfl) (by kernel_rfl) (by kernel_rfl) false (by kernel_rfl)) rfl rfl rfl
theorem dH4 : DrC B pb mb sb [(3, 100, 0), (4, 100, 2)] [(3, 100, 0), (4, 100, 2), (5, 100, 0), (6, 100, 0)] C5 C5 6 100 0 := drc_eq (derive_7 (by decide) (by decide) (by decide) (by kernel_rfl) (by kernel_rfl) (by kernel_rfl) (by kernel_rfl) dH3 (by decide) (by decide) 0 (by kernel_rfl) (by decide) (by decide)) rfl (by kernel_rfl) rfl
theorem splH : splA C5 5 [2, 0] = [0, 2] := by
  unfold splA
  rw [show flatA C5 5 [2, 0] = [2, 0] by kernel_rfl, ms2 2 0 (by decide)]
  kernel_rfl
theorem restH : restA C5 5 [2, 0] = [0] := by unfold restA; rw [splH]; kernel_rfl
theorem chH : chX C5 5 cmpI [2, 0] = 0 ∧ chL C5 5 cmpI [2, 0] = C5 := by
  unfold chX chL
  rw [splH]
  exact ⟨by kernel_rfl, by kernel_rfl⟩
theorem dH5 : DrC B pb mb sb [] [(3, 100, 0), (4, 100, 2), (5, 100, 0), (6, 100, 0), (7, 100, 0)] C5 C5 7 100 0 := drc_eq (derive_5 (ys := [4, 6]) (xs := [2, 0]) (L1 := C5) (M1 := [(3, 100, 0), (4, 100, 2), (5, 100, 0), (6, 100, 0)]) (by decide) (by decide) (by kernel_rfl) (by kernel_rfl) (by kernel_rfl) (by kernel_rfl) (by decide) (by decide) ⟨_, _, 2, [0], 4, rfl, dH2, ⟨_, _, 0, [], 6, rfl, dH4, ⟨rfl, rfl, rfl⟩, rfl⟩, rfl⟩ (by decide) (by decide) (by decide) (by show ((splA C5 5 [2, 0]).filter (isSet C5)).length < 2; rw [splH]; decide +kernel) (by show (restA C5 5 [2, 0]).length ≤ 12; rw [restH]; decide) cmpI (fun _ W _ a _ b _ => cmpE a b W) (dd := 0) chH.1 (by decide)) rfl chH.2 rfl
end
end Go.Proofs.YtkimhfajfbcdmaaGreatDoor

/- Match of awake's tree. -/
namespace Go.Proofs.YtkimhfajfbcdmaaGreatDoor
open Go.RowKit Go.Maps

/-- derive along a row of runes. -/
def DrRow (B pb mb sb : Nat) (L' : List Ab) (x' : Nat) : List Int → Stp → List Ab → Nat → Prop
  | [], _, L, x => L' = L ∧ x' = x
  | c :: cs, M, L, x => ∃ M1 L1 x1, DrC B pb mb sb M M1 L L1 x c x1 ∧ DrRow B pb mb sb L' x' cs M1 L1 x1
/-- A row of runes lies there. -/
def CRow (w : World) (a : Option Addr) (l : List Int) : Prop := l = [] ∨ ∃ g off, a = some ⟨g, off, none⟩ ∧ g < w.heap.size ∧ ∀ j, j < l.length → w.cell? ⟨g, off + j, none⟩ = some (.int .i32 (l.getD j 0))
theorem below_fr {B mb sb b : Nat} {w w' : World} (h : Fr B mb sb w w') (hb : b ≤ B) (hw : b ≤ w.heap.size) : Below b w w' := ⟨h.os, h.tape, h.output, h.size, fun k hk => h.block k (by omega) (.inl (by omega))⟩
set_option maxHeartbeats 1000000 in
set_option maxRecDepth 100000 in
theorem match_awk (W : World) (v0 v1 v2 : Value) (hX : RxAt (fun q => q < W.heap.size) W tAwk v0 v1 v2) (a : Option Addr) (cap : Nat) (cs : List Int) (hcs : cs.length < 1000) (hru : ∀ c ∈ cs, 0 ≤ c ∧ c ≤ 1000) (hrow : CRow W a cs) (L' : List Ab) (x' : Nat) (hx' : x' < L'.length) (b : Bool) (hb : (L'.getD x' ab0).nul = b)
    (hD : ∀ B pb mb sb, DrRow B pb mb sb L' x' cs [] C5 7) :
    Calls Tryz.prog 23 #[.agg #[v0, v1, v2], .slice a cs.length cap] W fun e w' => e = .returned (.bool b) ∧ Below W.heap.size W w' := by
  obtain ⟨kk, s1, n1, c1, s2, n2, c2, rfl, rfl, rfl⟩ := rxAt_formQ hX
  have HX := hide hX; have Hrow := hide hrow; have HD := hide hD; have Hru := hide hru
  have hb0 : Below W.heap.size W (W.alloc (.cells #[.int .i64 kk, .slice s1 n1 c1, .slice s2 n2 c2] 26)) := (Below.refl _ _).alloc (Nat.le_refl _) _
  have hbox : (W.alloc (.cells #[.int .i64 kk, .slice s1 n1 c1, .slice s2 n2 c2] 26)).heap[W.heap.size]? = some (.cells #[.int .i64 kk, .slice s1 n1 c1, .slice s2 n2 c2] 26 (0, 0)) := heap_new W _
  have hs0 : (W.alloc (.cells #[.int .i64 kk, .slice s1 n1 c1, .slice s2 n2 c2] 26)).heap.size = W.heap.size + 1 := by simp
  have Hb0 := hide hb0; have Hbox := hide hbox; have Hs0 := hide hs0
  clear hX hrow hD hru hb0 hbox hs0
  go_enter Tryz.func23, Tryz.ntmps23
  go_wp2_with fail
  refine (newPool_any _).mono ?_
  rintro e1 w1 ⟨pb, mb, sb, rfl, hpool, hb1⟩
  rw [unhide Hs0] at hpool hb1
  have hbx1 := (hb1.block W.heap.size (by omega)).trans (unhide Hbox)
  have x0 := cell_block hbx1 0 _ rfl
  have x1 := cell_block hbx1 1 _ rfl
  have x2 := cell_block hbx1 2 _ rfl
  have hsz1 : W.heap.size + 1 ≤ w1.heap.size := by have := hb1.size; rw [unhide Hs0] at this; exact this
  have hbW1 : Below W.heap.size W w1 := (unhide Hb0).trans (hb1.mono (by omega))
  have hbr : Below w1.heap.size w1 (w1.alloc (.cells #[.int .i64 kk, .slice s1 n1 c1, .slice s2 n2 c2] 26)) := (Below.refl _ _).alloc (Nat.le_refl _) _
  have hbW2 : Below W.heap.size W (w1.alloc (.cells #[.int .i64 kk, .slice s1 n1 c1, .slice s2 n2 c2] 26)) := hbW1.trans (hbr.mono (by omega))
  have HT := hide (take1 (av := fun _ => False) (w1.alloc (.cells #[.int .i64 kk, .slice s1 n1 c1, .slice s2 n2 c2] 26)) w1.heap.size 1 _ _ _ (fun k hk => hk.elim) (Nat.le_trans hsz1 hbr.size) (pool_below hpool hbr) (rxAt_kept (Q := fun q => q < W.heap.size) (Q' := fun q => q < W.heap.size + 1) hbW2.size (fun q hq _ => hbW2.block q hq) (fun _ h _ => by show _ < _; have h : _ < W.heap.size := h; omega) _ _ _ _ (unhide HX)) (heap_new w1 _))
  have HbW2 := hide hbW2
  clear hpool hb1 hbx1 hbr hbW2 hbW1
  go_wp2_with fail
  refine (unhide HT).mono ?_
  rintro e3 w5 ⟨a5, d5, rfl, hown, hp5, hf5⟩
  clear HT x0 x1 x2
  have hsz5 : W.heap.size + 1 ≤ w5.heap.size := by have := hf5.size; simp at this; omega
  have hbW5 : Below W.heap.size W w5 := (unhide HbW2).trans (below_fr hf5 (by omega) (unhide HbW2).size)
  obtain ⟨q0, q2, hpb⟩ := pool_pb hp5
  have p4 := cell_block hpb 4 _ rfl
  have f4 := frozen_block hpb 4
  obtain ⟨hp6, hf6⟩ := pool_order hp5 cmpC
  obtain ⟨gl, rfl⟩ : ∃ gl, a5 = some ⟨gl, 0, none⟩ := by
    rcases hown.2 with ⟨-, h⟩ | ⟨gl, cc, cur, h, -⟩
    · simp at h
    · cases h; exact ⟨_, rfl⟩
  have k0 := own_cell (own_fr hown hf6) rfl 0 (by simp [intV])
  have k0' : (w5.setCell ⟨pb, 4, none⟩ cmpC).cell? ⟨gl, 0, none⟩ = some (.int .i64 7) := k0
  have Hp6 := hide hp6; have Hb6 := hide (hbW5.trans (below_fr hf6 (by omega) (by omega)))
  have Hs6 : Hid (W.heap.size + 1 ≤ (w5.setCell ⟨pb, 4, none⟩ cmpC).heap.size) := hide (Nat.le_trans hsz5 hf6.size)
  clear hp5 hf5 hp6 hf6 hpb hown hbW5 k0 HbW2 HX
  have hcm : cmpC = .func (.func 37) #[] #[] := rfl
  rw [hcm] at k0'
  have HP0 : Hid (Pool (fun _ => False) (w5.setCell ⟨pb, 4, none⟩ (.func (.func 37) #[] #[])) (W.heap.size + 1) pb mb sb C5 cmpC 0 0 (.map [])) := Hp6
  have HB0 : Hid (Below W.heap.size W (w5.setCell ⟨pb, 4, none⟩ (.func (.func 37) #[] #[]))) := Hb6
  have HS0 : Hid (W.heap.size + 1 ≤ (w5.setCell ⟨pb, 4, none⟩ (.func (.func 37) #[] #[])).heap.size) := Hs6
  clear Hp6 Hb6 Hs6 hcm
  go_wp2_with fail
  go_loopw [8, 29] (fun xv iv wr => ∃ (i : Nat) (M : Stp) (L : List Ab) (x : Nat), xv = .int .i64 x ∧ iv = .int .i64 i ∧ i ≤ cs.length ∧ Pool (fun _ => False) wr (W.heap.size + 1) pb mb sb L cmpC 0 M.length (stM M) ∧ Below W.heap.size W wr ∧ W.heap.size + 1 ≤ wr.heap.size ∧ DrRow (W.heap.size + 1) pb mb sb L' x' (cs.drop i) M L x) (fun _ iv _ => cs.length - (intOf iv).toNat)
  case atStart => exact ⟨0, [], C5, 7, rfl, rfl, Nat.zero_le _, unhide HP0, unhide HB0, unhide HS0, unhide HD _ _ _ _⟩
  case round =>
    obtain ⟨i, M, L, x, rfl, rfl, hin, hp, hbel, hsz, hrest⟩ := hrel
    clear HP0 HB0 HS0 k0' p4 f4
    by_cases hlt : i < cs.length
    · have hlt' : (i : Int) < cs.length := by omega
      rcases unhide Hrow with h | ⟨gr, off, rfl, hg, hc⟩
      · rw [h] at hlt; simp at hlt
      have e0 := (hbel.cell (p := ⟨gr, off + i, none⟩) hg).trans (hc i hlt)
      rw [List.getD_eq_getElem?_getD, List.getElem?_eq_getElem hlt, Option.getD_some] at e0
      rw [List.drop_eq_getElem_cons hlt] at hrest
      obtain ⟨M1, L1, x1, hdr, hrest'⟩ := hrest
      have hcr := unhide Hru _ (List.getElem_mem hlt)
      generalize cs[i] = cc at *
      have hru2 : (decide (0 ≤ cc) && decide (cc ≤ 1114111)) = true := by simp; omega
      have Hru2 := hide hru2
      have HDr := hide (hdr (fun _ => False) wr (fun q hq => hq.elim) hsz hp)
      have Hrest := hide hrest'; have Hbel := hide hbel
      clear hrest' hdr hbel hp hc hru2
      go_wp2_with fail
      refine (isRune_any _ _).mono ?_
      rintro e8 w8 ⟨rfl, rfl⟩
      rw [unhide Hru2]
      go_wp2_with fail
      refine (unhide HDr).mono ?_
      rintro e9 w9 ⟨rfl, hp9, hf9⟩
      have Hp9 := hide hp9; have Hb9 := hide ((unhide Hbel).trans (below_fr hf9 (by omega) (by omega))); have Hs9 := hide (Nat.le_trans hsz hf9.size)
      clear hp9 hf9 HDr Hbel e0
      go_wp2
      go_roundw
      case rel => exact ⟨i + 1, M1, L1, x1, rfl, by go_num, by omega, unhide Hp9, unhide Hb9, unhide Hs9, unhide Hrest⟩
      case measure => simp [intOf]; omega
    · obtain rfl : i = cs.length := by omega
      rw [List.drop_length] at hrest
      obtain ⟨rfl, rfl⟩ := hrest
      obtain ⟨g, nc, p0, hn⟩ := pool_node hp
      obtain ⟨d, hd, hN⟩ := hn x' hx'
      have r5 := hN.c5
      rw [← hd] at hb
      have hxi : (x' : Int) < L'.length := by omega
      have hdn : d.nul = b := hb
      rw [hdn] at r5
      have Hbel := hide hbel
      clear hN hn hd hb hdn hp hbel
      go_wp2
      go_ret
      exact ⟨rfl, unhide Hbel⟩
end Go.Proofs.YtkimhfajfbcdmaaGreatDoor

/- awake. -/
namespace Go.Proofs.YtkimhfajfbcdmaaGreatDoor
open Go.RowKit Go.Maps

theorem crow_one {w : World} {k : Nat} {x : Int} (h : w.heap[k]? = some (.cells #[.int .i32 x] 21 (0, 0))) : CRow w (some ⟨k, 0, none⟩) [x] := .inr ⟨k, 0, rfl, lt_of_some h, fun j hj => by
  obtain rfl : j = 0 := by simp at hj; omega
  exact cell_block h 0 _ rfl⟩
theorem crow_two {w : World} {k : Nat} {x y : Int} (h : w.heap[k]? = some (.cells #[.int .i32 x, .int .i32 y] 21 (0, 0))) : CRow w (some ⟨k, 0, none⟩) [x, y] := .inr ⟨k, 0, rfl, lt_of_some h, fun j hj => by
  have : j = 0 ∨ j = 1 := by simp at hj; omega
  rcases this with rfl | rfl
  · exact cell_block h 0 _ rfl
  · exact cell_block h 1 _ rfl⟩
theorem match_ab (W : World) (v0 v1 v2 : Value) (hX : RxAt (fun q => q < W.heap.size) W tAwk v0 v1 v2) (k : Nat) (h : W.heap[k]? = some (.cells #[.int .i32 97, .int .i32 98] 21 (0, 0))) :
    Calls Tryz.prog 23 #[.agg #[v0, v1, v2], .slice (some ⟨k, 0, none⟩) 2 2] W fun e w' => e = .returned (.bool true) ∧ Below W.heap.size W w' :=
  match_awk W v0 v1 v2 hX _ 2 [97, 98] (by decide) (by decide) (crow_two h) C5 6 (by decide) true (by kernel_rfl) (fun _ _ _ _ => ⟨_, _, _, dE5, _, _, _, dE7, rfl, rfl⟩)
theorem match_b (W : World) (v0 v1 v2 : Value) (hX : RxAt (fun q => q < W.heap.size) W tAwk v0 v1 v2) (k : Nat) (h : W.heap[k]? = some (.cells #[.int .i32 98] 21 (0, 0))) :
    Calls Tryz.prog 23 #[.agg #[v0, v1, v2], .slice (some ⟨k, 0, none⟩) 1 1] W fun e w' => e = .returned (.bool false) ∧ Below W.heap.size W w' :=
  match_awk W v0 v1 v2 hX _ 1 [98] (by decide) (by decide) (crow_one h) D2 9 (by decide) false (by kernel_rfl) (fun _ _ _ _ => ⟨_, _, _, dF5, rfl, rfl⟩)
theorem match_d (W : World) (v0 v1 v2 : Value) (hX : RxAt (fun q => q < W.heap.size) W tAwk v0 v1 v2) (k : Nat) (h : W.heap[k]? = some (.cells #[.int .i32 100] 21 (0, 0))) :
    Calls Tryz.prog 23 #[.agg #[v0, v1, v2], .slice (some ⟨k, 0, none⟩) 1 1] W fun e w' => e = .returned (.bool false) ∧ Below W.heap.size W w' :=
  match_awk W v0 v1 v2 hX _ 1 [100] (by decide) (by decide) (crow_one h) C5 0 (by decide) false (by kernel_rfl) (fun _ _ _ _ => ⟨_, _, _, dH5, rfl, rfl⟩)
set_option maxHeartbeats 1000000 in
set_option maxRecDepth 100000 in
theorem awake_any (W : World) : Calls Tryz.prog 9 #[] W fun e w' => e = .returned (.bool true) ∧ Below W.heap.size W w' := by
  go_enter Tryz.func9, Tryz.ntmps9
  go_wp2_with fail
  refine (parse_awk W).mono ?_
  rintro e1 w1 ⟨v0, v1, v2, rfl, hX, hb1⟩
  rw [tAwk_is] at hX
  obtain ⟨kk, s1, n1, c1, s2, n2, c2, rfl, rfl, rfl⟩ := rxAt_formQ hX
  have hbB : Below w1.heap.size w1 ((w1.alloc (.cells #[.int .i64 kk, .slice s1 n1 c1, .slice s2 n2 c2] 26)).alloc (.cells #[.int .i64 0, .int .i64 0] 49)) := ((Below.refl _ _).alloc (Nat.le_refl _) _).alloc (by simp) _
  have hbx : ((w1.alloc (.cells #[.int .i64 kk, .slice s1 n1 c1, .slice s2 n2 c2] 26)).alloc (.cells #[.int .i64 0, .int .i64 0] 49)).heap[w1.heap.size]? = some (.cells #[.int .i64 kk, .slice s1 n1 c1, .slice s2 n2 c2] 26 (0, 0)) := (Below.heap_alloc _ _ _ (by simp)).trans (heap_new w1 _)
  have hsB : ((w1.alloc (.cells #[.int .i64 kk, .slice s1 n1 c1, .slice s2 n2 c2] 26)).alloc (.cells #[.int .i64 0, .int .i64 0] 49)).heap.size = w1.heap.size + 2 := by simp
  have HA := hide (fun W' (hb : Below (w1.heap.size + 2) ((w1.alloc (.cells #[.int .i64 kk, .slice s1 n1 c1, .slice s2 n2 c2] 26)).alloc (.cells #[.int .i64 0, .int .i64 0] 49)) W') => show (W'.cell? ⟨w1.heap.size, 0, none⟩ = some (.int .i64 kk) ∧ W'.cell? ⟨w1.heap.size, 1, none⟩ = some (.slice s1 n1 c1) ∧ W'.cell? ⟨w1.heap.size, 2, none⟩ = some (.slice s2 n2 c2)) ∧ (∀ W'', Below W'.heap.size W' W'' → RxAt (fun q => q < W''.heap.size) W'' tAwk (.int .i64 kk) (.slice s1 n1 c1) (.slice s2 n2 c2)) ∧ w1.heap.size + 2 ≤ W'.heap.size ∧ Below W.heap.size W W' from by
    have hbx' := (hb.block w1.heap.size (by omega)).trans hbx
    have hs' : w1.heap.size + 2 ≤ W'.heap.size := by have := hb.size; omega
    have h1 : Below w1.heap.size w1 W' := hbB.trans (hb.mono (by omega))
    refine ⟨⟨cell_block hbx' 0 _ rfl, cell_block hbx' 1 _ rfl, cell_block hbx' 2 _ rfl⟩, fun W'' hb2 => ?_, hs', hb1.trans (h1.mono hb1.size)⟩
    have h2 : Below w1.heap.size w1 W'' := h1.trans (hb2.mono (by omega))
    exact rxAt_kept (Q := fun k => W.heap.size ≤ k) (Q' := fun q => q < W''.heap.size) h2.size (fun q _ hl => h2.block q hl) (fun q _ hl => Nat.lt_of_lt_of_le hl h2.size) _ _ _ _ hX)
  have HsB := hide hsB
  clear hX hb1 hbB hbx hsB
  go_wp2_with fail
  refine (right_awk _ _ _ _ ((unhide HA _ (Below.refl _ _)).2.1 _ (Below.refl _ _))).mono ?_
  rintro e2 w2 ⟨rfl, hb2⟩
  rw [unhide HsB] at hb2
  obtain ⟨⟨x0, x1, x2⟩, hX2, hs2, hW2⟩ := unhide HA w2 hb2
  have hR2 : Below w2.heap.size w2 (w2.alloc (.cells #[.int .i32 97, .int .i32 98] 21)) := (Below.refl _ _).alloc (Nat.le_refl _) _
  have HM2 := hide (match_ab _ _ _ _ (hX2 _ hR2) w2.heap.size (heap_new w2 _))
  have Hc2 := hide (hb2.trans (hR2.mono (by omega)))
  clear hX2 hW2 hb2 hR2
  go_wp2_with fail
  refine (unhide HM2).mono ?_
  rintro e3 w3 ⟨rfl, hb3⟩
  have hb3' := (unhide Hc2).trans (hb3.mono (by simp; omega))
  clear hb3 x0 x1 x2 HM2 Hc2
  obtain ⟨⟨x0, x1, x2⟩, hX3, hs3, hW3⟩ := unhide HA w3 hb3'
  have hR3 : Below w3.heap.size w3 (w3.alloc (.cells #[.int .i32 98] 21)) := (Below.refl _ _).alloc (Nat.le_refl _) _
  have HM3 := hide (match_b _ _ _ _ (hX3 _ hR3) w3.heap.size (heap_new w3 _))
  have Hc3 := hide (hb3'.trans (hR3.mono (by omega)))
  clear hX3 hW3 hb3' hR3
  go_wp2_with fail
  refine (unhide HM3).mono ?_
  rintro e4 w4 ⟨rfl, hb4⟩
  have hb4' := (unhide Hc3).trans (hb4.mono (by simp; omega))
  clear hb4 x0 x1 x2 HM3 Hc3
  obtain ⟨⟨x0, x1, x2⟩, hX4, hs4, hW4⟩ := unhide HA w4 hb4'
  have hR4 : Below w4.heap.size w4 (w4.alloc (.cells #[.int .i32 100] 21)) := (Below.refl _ _).alloc (Nat.le_refl _) _
  have HM4 := hide (match_d _ _ _ _ (hX4 _ hR4) w4.heap.size (heap_new w4 _))
  have Hc4 := hide (hb4'.trans (hR4.mono (by omega)))
  clear hX4 hW4 hb4' hR4
  go_wp2_with fail
  refine (unhide HM4).mono ?_
  rintro e5 w5 ⟨rfl, hb5⟩
  have hb5' := (unhide Hc4).trans (hb5.mono (by simp; omega))
  obtain ⟨-, -, -, hW5⟩ := unhide HA w5 hb5'
  have HW5 := hide hW5
  clear hb5 hb5' hW5 x0 x1 x2 HM4 Hc4
  go_wp2
  go_ret
  exact ⟨rfl, unhide HW5⟩
end Go.Proofs.YtkimhfajfbcdmaaGreatDoor

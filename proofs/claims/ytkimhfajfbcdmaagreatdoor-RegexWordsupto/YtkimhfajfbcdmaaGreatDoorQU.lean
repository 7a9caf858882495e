/- Match of awake's tree. (and what it leads to) -/
import Derived.Test.YtkimhfajfbcdmaaGreatDoorQT
/- Match of awake's tree. -/
namespace Go.Proofs.YtkimhfajfbcdmaaGreatDoor
open Go.RowKit Go.Maps

/-- derive along a row of runes. -/
def DrRow (B pb mb sb : Nat) (L' : List Ab) (x' : Nat) : List Int → Stp → List Ab → Nat → Prop
  | [], _, L, x => L' = L ∧ x' = x
  | c :: cs, M, L, x => ∃ M1 L1 x1, DrC B pb mb sb M M1 L L1 x c x1 ∧ DrRow B pb mb sb L' x' cs M1 L1 x1
/-- A row of runes lies there. -/
def CRow (w : World) (a : Option Addr) (l : List Int) : Prop := l = [] ∨ ∃ g off, a = some ⟨g, off, none⟩ ∧ g < w.heap.size ∧ ∀ j, j < l.length → w.cell? ⟨g, off + j, none⟩ = some (.int .i32 (l.getD j 0))
theorem below_fr {B mb sb b : Nat} {w w' : World} (h : Fr B mb sb w w') (hb : b ≤ B) (hw : b ≤ w.heap.size) : Below b w w' := ⟨h.os, h.tape, h.output, h.size, fun k hk => h.block k (by omega) (.inl (by omega))⟩
set_option maxHeartbeats 1000000 in
set_option maxRecDepth 100000 in
theorem match_awk (W : World) (v0 v1 v2 : Value) (hX : RxAt (fun q => q < W.heap.size) W tAwk v0 v1 v2) (a : Option Addr) (cap : Nat) (cs : List Int) (hcs : cs.length < 1000) (hru : ∀ c ∈ cs, 0 ≤ c ∧ c ≤ 1000) (hrow : CRow W a cs) (L' : List Ab) (x' : Nat) (hx' : x' < L'.length) (b : Bool) (hb : (L'.getD x' ab0).nul = b)
    (hD : ∀ B pb mb sb, DrRow B pb mb sb L' x' cs [] C5 7) :
    Calls Tryz.prog 23 #[.agg #[v0, v1, v2], .slice a cs.length cap] W fun e w' => e = .returned (.bool b) ∧ Below W.heap.size W w' := by
  obtain ⟨kk, s1, n1, c1, s2, n2, c2, rfl, rfl, rfl⟩ := rxAt_formQ hX
  have HX := hide hX; have Hrow := hide hrow; have HD := hide hD; have Hru := hide hru
  have hb0 : Below W.heap.size W (W.alloc (.cells #[.int .i64 kk, .slice s1 n1 c1, .slice s2 n2 c2] 26)) := (Below.refl _ _).alloc (Nat.le_refl _) _
  have hbox : (W.alloc (.cells #[.int .i64 kk, .slice s1 n1 c1, .slice s2 n2 c2] 26)).heap[W.heap.size]? = some (.cells #[.int .i64 kk, .slice s1 n1 c1, .slice s2 n2 c2] 26 (0, 0)) := heap_new W _
  have hs0 : (W.alloc (.cells #[.int .i64 kk, .slice s1 n1 c1, .slice s2 n2 c2] 26)).heap.size = W.heap.size + 1 := by simp
  have Hb0 := hide hb0; have Hbox := hide hbox; have Hs0 := hide hs0
  clear hX hrow hD hru hb0 hbox hs0
  go_enter Tryz.func23, Tryz.ntmps23
  go_wp2_with fail
  refine (newPool_any _).mono ?_
  rintro e1 w1 ⟨pb, mb, sb, rfl, hpool, hb1⟩
  rw [unhide Hs0] at hpool hb1
  have hbx1 := (hb1.block W.heap.size (by omega)).trans (unhide Hbox)
  have x0 := cell_block hbx1 0 _ rfl
  have x1 := cell_block hbx1 1 _ rfl
  have x2 := cell_block hbx1 2 _ rfl
  have hsz1 : W.heap.size + 1 ≤ w1.heap.size := by have := hb1.size; rw [unhide Hs0] at this; exact this
  have hbW1 : Below W.heap.size W w1 := (unhide Hb0).trans (hb1.mono (by omega))
  have hbr : Below w1.heap.size w1 (w1.alloc (.cells #[.int .i64 kk, .slice s1 n1 c1, .slice s2 n2 c2] 26)) := (Below.refl _ _).alloc (Nat.le_refl _) _
  have hbW2 : Below W.heap.size W (w1.alloc (.cells #[.int .i64 kk, .slice s1 n1 c1, .slice s2 n2 c2] 26)) := hbW1.trans (hbr.mono (by omega))
  have HT := hide (take1 (av := fun _ => False) (w1.alloc (.cells #[.int .i64 kk, .slice s1 n1 c1, .slice s2 n2 c2] 26)) w1.heap.size 1 _ _ _ (fun k hk => hk.elim) (Nat.le_trans hsz1 hbr.size) (pool_below hpool hbr) (rxAt_kept (Q := fun q => q < W.heap.size) (Q' := fun q => q < W.heap.size + 1) hbW2.size (fun q hq _ => hbW2.block q hq) (fun _ h _ => by show _ < _; have h : _ < W.heap.size := h; omega) _ _ _ _ (unhide HX)) (heap_new w1 _))
  have HbW2 := hide hbW2
  clear hpool hb1 hbx1 hbr hbW2 hbW1
  go_wp2_with fail
  refine (unhide HT).mono ?_
  rintro e3 w5 ⟨a5, d5, rfl, hown, hp5, hf5⟩
  clear HT x0 x1 x2
  have hsz5 : W.heap.size + 1 ≤ w5.heap.size := by have := hf5.size; simp at this; omega
  have hbW5 : Below W.heap.size W w5 := (unhide HbW2).trans (below_fr hf5 (by omega) (unhide HbW2).size)
  obtain ⟨q0, q2, hpb⟩ := pool_pb hp5
  have p4 := cell_block hpb 4 _ rfl
  have f4 := frozen_block hpb 4
  obtain ⟨hp6, hf6⟩ := pool_order hp5 cmpC
  obtain ⟨gl, rfl⟩ : ∃ gl, a5 = some ⟨gl, 0, none⟩ := by
    rcases hown.2 with ⟨-, h⟩ | ⟨gl, cc, cur, h, -⟩
    · simp at h
    · cases h; exact ⟨_, rfl⟩
  have k0 := own_cell (own_fr hown hf6) rfl 0 (by simp [intV])
  have k0' : (w5.setCell ⟨pb, 4, none⟩ cmpC).cell? ⟨gl, 0, none⟩ = some (.int .i64 7) := k0
  have Hp6 := hide hp6; have Hb6 := hide (hbW5.trans (below_fr hf6 (by omega) (by omega)))
  have Hs6 : Hid (W.heap.size + 1 ≤ (w5.setCell ⟨pb, 4, none⟩ cmpC).heap.size) := hide (Nat.le_trans hsz5 hf6.size)
  clear hp5 hf5 hp6 hf6 hpb hown hbW5 k0 HbW2 HX
  have hcm : cmpC = .func (.func 37) #[] #[] := rfl
  rw [hcm] at k0'
  have HP0 : Hid (Pool (fun _ => False) (w5.setCell ⟨pb, 4, none⟩ (.func (.func 37) #[] #[])) (W.heap.size + 1) pb mb sb C5 cmpC 0 0 (.map [])) := Hp6
  have HB0 : Hid (Below W.heap.size W (w5.setCell ⟨pb, 4, none⟩ (.func (.func 37) #[] #[]))) := Hb6
  have HS0 : Hid (W.heap.size + 1 ≤ (w5.setCell ⟨pb, 4, none⟩ (.func (.func 37) #[] #[])).heap.size) := Hs6
  clear Hp6 Hb6 Hs6 hcm
  go_wp2_with fail
  go_loopw [8, 29] (fun xv iv wr => ∃ (i : Nat) (M : Stp) (L : List Ab) (x : Nat), xv = .int .i64 x ∧ iv = .int .i64 i ∧ i ≤ cs.length ∧ Pool (fun _ => False) wr (W.heap.size + 1) pb mb sb L cmpC 0 M.length (stM M) ∧ Below W.heap.size W wr ∧ W.heap.size + 1 ≤ wr.heap.size ∧ DrRow (W.heap.size + 1) pb mb sb L' x' (cs.drop i) M L x) (fun _ iv _ => cs.length - (intOf iv).toNat)
  case atStart => exact ⟨0, [], C5, 7, rfl, rfl, Nat.zero_le _, unhide HP0, unhide HB0, unhide HS0, unhide HD _ _ _ _⟩
  case round =>
    obtain ⟨i, M, L, x, rfl, rfl, hin, hp, hbel, hsz, hrest⟩ := hrel
    clear HP0 HB0 HS0 k0' p4 f4
    by_cases hlt : i < cs.length
    · have hlt' : (i : Int) < cs.length := by omega
      rcases unhide Hrow with h | ⟨gr, off, rfl, hg, hc⟩
      · rw [h] at hlt; simp at hlt
      have e0 := (hbel.cell (p := ⟨gr, off + i, none⟩) hg).trans (hc i hlt)
      rw [List.getD_eq_getElem?_getD, List.getElem?_eq_getElem hlt, Option.getD_some] at e0
      rw [List.drop_eq_getElem_cons hlt] at hrest
      obtain ⟨M1, L1, x1, hdr, hrest'⟩ := hrest
      have hcr := unhide Hru _ (List.getElem_mem hlt)
      generalize cs[i] = cc at *
      have hru2 : (decide (0 ≤ cc) && decide (cc ≤ 1114111)) = true := by simp; omega
      have Hru2 := hide hru2
      have HDr := hide (hdr (fun _ => False) wr (fun q hq => hq.elim) hsz hp)
      have Hrest := hide hrest'; have Hbel := hide hbel
      clear hrest' hdr hbel hp hc hru2
      go_wp2_with fail
      refine (isRune_any _ _).mono ?_
      rintro e8 w8 ⟨rfl, rfl⟩
      rw [unhide Hru2]
      go_wp2_with fail
      refine (unhide HDr).mono ?_
      rintro e9 w9 ⟨rfl, hp9, hf9⟩
      have Hp9 := hide hp9; have Hb9 := hide ((unhide Hbel).trans (below_fr hf9 (by omega) (by omega))); have Hs9 := hide (Nat.le_trans hsz hf9.size)
      clear hp9 hf9 HDr Hbel e0
      go_wp2
      go_roundw
      case rel => exact ⟨i + 1, M1, L1, x1, rfl, by go_num, by omega, unhide Hp9, unhide Hb9, unhide Hs9, unhide Hrest⟩
      case measure => simp [intOf]; omega
    · obtain rfl : i = cs.length := by omega
      rw [List.drop_length] at hrest
      obtain ⟨rfl, rfl⟩ := hrest
      obtain ⟨g, nc, p0, hn⟩ := pool_node hp
      obtain ⟨d, hd, hN⟩ := hn x' hx'
      have r5 := hN.c5
      rw [← hd] at hb
      have hxi : (x' : Int) < L'.length := by omega
      have hdn : d.nul = b := hb
      rw [hdn] at r5
      have Hbel := hide hbel
      clear hN hn hd hb hdn hp hbel
      go_wp2
      go_ret
      exact ⟨rfl, unhide Hbel⟩
end Go.Proofs.YtkimhfajfbcdmaaGreatDoor

/- awake. -/
namespace Go.Proofs.YtkimhfajfbcdmaaGreatDoor
open Go.RowKit Go.Maps

theorem crow_one {w : World} {k : Nat} {x : Int} (h : w.heap[k]? = some (.cells #[.int .i32 x] 21 (0, 0))) : CRow w (some ⟨k, 0, none⟩) [x] := .inr ⟨k, 0, rfl, lt_of_some h, fun j hj => by
  obtain rfl : j = 0 := by simp at hj; omega
  exact cell_block h 0 _ rfl⟩
theorem crow_two {w : World} {k : Nat} {x y : Int} (h : w.heap[k]? = some (.cells #[.int .i32 x, .int .i32 y] 21 (0, 0))) : CRow w (some ⟨k, 0, none⟩) [x, y] := .inr ⟨k, 0, rfl, lt_of_some h, fun j hj => by
  have : j = 0 ∨ j = 1 := by simp at hj; omega
  rcases this with rfl | rfl
  · exact cell_block h 0 _ rfl
  · exact cell_block h 1 _ rfl⟩
theorem match_ab (W : World) (v0 v1 v2 : Value) (hX : RxAt (fun q => q < W.heap.size) W tAwk v0 v1 v2) (k : Nat) (h : W.heap[k]? = some (.cells #[.int .i32 97, .int .i32 98] 21 (0, 0))) :
    Calls Tryz.prog 23 #[.agg #[v0, v1, v2], .slice (some ⟨k, 0, none⟩) 2 2] W fun e w' => e = .returned (.bool true) ∧ Below W.heap.size W w' :=
  match_awk W v0 v1 v2 hX _ 2 [97, 98] (by decide) (by decide) (crow_two h) C5 6 (by decide) true (by kernel_rfl) (fun _ _ _ _ => ⟨_, _, _, dE5, _, _, _, dE7, rfl, rfl⟩)
theorem match_b (W : World) (v0 v1 v2 : Value) (hX : RxAt (fun q => q < W.heap.size) W tAwk v0 v1 v2) (k : Nat) (h : W.heap[k]? = some (.cells #[.int .i32 98] 21 (0, 0))) :
    Calls Tryz.prog 23 #[.agg #[v0, v1, v2], .slice (some ⟨k, 0, none⟩) 1 1] W fun e w' => e = .returned (.bool false) ∧ Below W.heap.size W w' :=
  match_awk W v0 v1 v2 hX _ 1 [98] (by decide) (by decide) (crow_one h) D2 9 (by decide) false (by kernel_rfl) (fun _ _ _ _ => ⟨_, _, _, dF5, rfl, rfl⟩)
theorem match_d (W : World) (v0 v1 v2 : Value) (hX : RxAt (fun q => q < W.heap.size) W tAwk v0 v1 v2) (k : Nat) (h : W.heap[k]? = some (.cells #[.int .i32 100] 21 (0, 0))) :
    Calls Tryz.prog 23 #[.agg #[v0, v1, v2], .slice (some ⟨k, 0, none⟩) 1 1] W fun e w' => e = .returned (.bool false) ∧ Below W.heap.size W w' :=
  match_awk W v0 v1 v2 hX _ 1 [100] (by decide) (by decide) (crow_one h) C5 0 (by decide) false (by kernel_rfl) (fun _ _ _ _ => ⟨_, _, _, dH5, rfl, rfl⟩)
set_option maxHeartbeats 1000000 in
set_option maxRecDepth 100000 in
theorem awake_any (W : World) : Calls Tryz.prog 9 #[] W fun e w' => e = .returned (.bool true) ∧ Below W.heap.size W w' := by
  go_enter Tryz.func9, Tryz.ntmps9
  go_wp2_with fail
  refine (parse_awk W).mono ?_
  rintro e1 w1 ⟨v0, v1, v2, rfl, hX, hb1⟩
  rw [tAwk_is] at hX
  obtain ⟨kk, s1, n1, c1, s2, n2, c2, rfl, rfl, rfl⟩ := rxAt_formQ hX
  have hbB : Below w1.heap.size w1 ((w1.alloc (.cells #[.int .i64 kk, .slice s1 n1 c1, .slice s2 n2 c2] 26)).alloc (.cells #[.int .i64 0, .int .i64 0] 49)) := ((Below.refl _ _).alloc (Nat.le_refl _) _).alloc (by simp) _
  have hbx : ((w1.alloc (.cells #[.int .i64 kk, .slice s1 n1 c1, .slice s2 n2 c2] 26)).alloc (.cells #[.int .i64 0, .int .i64 0] 49)).heap[w1.heap.size]? = some (.cells #[.int .i64 kk, .slice s1 n1 c1, .slice s2 n2 c2] 26 (0, 0)) := (Below.heap_alloc _ _ _ (by simp)).trans (heap_new w1 _)
  have hsB : ((w1.alloc (.cells #[.int .i64 kk, .slice s1 n1 c1, .slice s2 n2 c2] 26)).alloc (.cells #[.int .i64 0, .int .i64 0] 49)).heap.size = w1.heap.size + 2 := by simp
  have HA := hide (fun W' (hb : Below (w1.heap.size + 2) ((w1.alloc (.cells #[.int .i64 kk, .slice s1 n1 c1, .slice s2 n2 c2] 26)).alloc (.cells #[.int .i64 0, .int .i64 0] 49)) W') => show (W'.cell? ⟨w1.heap.size, 0, none⟩ = some (.int .i64 kk) ∧ W'.cell? ⟨w1.heap.size, 1, none⟩ = some (.slice s1 n1 c1) ∧ W'.cell? ⟨w1.heap.size, 2, none⟩ = some (.slice s2 n2 c2)) ∧ (∀ W'', Below W'.heap.size W' W'' → RxAt (fun q => q < W''.heap.size) W'' tAwk (.int .i64 kk) (.slice s1 n1 c1) (.slice s2 n2 c2)) ∧ w1.heap.size + 2 ≤ W'.heap.size ∧ Below W.heap.size W W' from by
    have hbx' := (hb.block w1.heap.size (by omega)).trans hbx
    have hs' : w1.heap.size + 2 ≤ W'.heap.size := by have := hb.size; omega
    have h1 : Below w1.heap.size w1 W' := hbB.trans (hb.mono (by omega))
    refine ⟨⟨cell_block hbx' 0 _ rfl, cell_block hbx' 1 _ rfl, cell_block hbx' 2 _ rfl⟩, fun W'' hb2 => ?_, hs', hb1.trans (h1.mono hb1.size)⟩
    have h2 : Below w1.heap.size w1 W'' := h1.trans (hb2.mono (by omega))
    exact rxAt_kept (Q := fun k => W.heap.size ≤ k) (Q' := fun q => q < W''.heap.size) h2.size (fun q _ hl => h2.block q hl) (fun q _ hl => Nat.lt_of_lt_of_le hl h2.size) _ _ _ _ hX)
  have HsB := hide hsB
  clear hX hb1 hbB hbx hsB
  go_wp2_with fail
  refine (right_awk _ _ _ _ ((unhide HA _ (Below.refl _ _)).2.1 _ (Below.refl _ _))).mono ?_
  rintro e2 w2 ⟨rfl, hb2⟩
  rw [unhide HsB] at hb2
  obtain ⟨⟨x0, x1, x2⟩, hX2, hs2, hW2⟩ := unhide HA w2 hb2
  have hR2 : Below w2.heap.size w2 (w2.alloc (.cells #[.int .i32 97, .int .i32 98] 21)) := (Below.refl _ _).alloc (Nat.le_refl _) _
  have HM2 := hide (match_ab _ _ _ _ (hX2 _ hR2) w2.heap.size (heap_new w2 _))
  have Hc2 := hide (hb2.trans (hR2.mono (by omega)))
  clear hX2 hW2 hb2 hR2
  go_wp2_with fail
  refine (unhide HM2).mono ?_
  rintro e3 w3 ⟨rfl, hb3⟩
  have hb3' := (unhide Hc2).trans (hb3.mono (by simp; omega))
  clear hb3 x0 x1 x2 HM2 Hc2
  obtain ⟨⟨x0, x1, x2⟩, hX3, hs3, hW3⟩ := unhide HA w3 hb3'
  have hR3 : Below w3.heap.size w3 (w3.alloc (.cells #[.int .i32 98] 21)) := (Below.refl _ _).alloc (Nat.le_refl _) _
  have HM3 := hide (match_b _ _ _ _ (hX3 _ hR3) w3.heap.size (heap_new w3 _))
  have Hc3 := hide (hb3'.trans (hR3.mono (by omega)))
  clear hX3 hW3 hb3' hR3
  go_wp2_with fail
  refine (unhide HM3).mono ?_
  rintro e4 w4 ⟨rfl, hb4⟩
  have hb4' := (unhide Hc3).trans (hb4.mono (by simp; omega))
  clear hb4 x0 x1 x2 HM3 Hc3
  obtain ⟨⟨x0, x1, x2⟩, hX4, hs4, hW4⟩ := unhide HA w4 hb4'
  have hR4 : Below w4.heap.size w4 (w4.alloc (.cells #[.int .i32 100] 21)) := (Below.refl _ _).alloc (Nat.le_refl _) _
  have HM4 := hide (match_d _ _ _ _ (hX4 _ hR4) w4.heap.size (heap_new w4 _))
  have Hc4 := hide (hb4'.trans (hR4.mono (by omega)))
  clear hX4 hW4 hb4' hR4
  go_wp2_with fail
  refine (unhide HM4).mono ?_
  rintro e5 w5 ⟨rfl, hb5⟩
  have hb5' := (unhide Hc4).trans (hb5.mono (by simp; omega))
  obtain ⟨-, -, -, hW5⟩ := unhide HA w5 hb5'
  have HW5 := hide hW5
  clear hb5 hb5' hW5 x0 x1 x2 HM4 Hc4
  go_wp2
  go_ret
  exact ⟨rfl, unhide HW5⟩
end Go.Proofs.YtkimhfajfbcdmaaGreatDoor

/- regex.Set. -/
namespace Go.Proofs.YtkimhfajfbcdmaaGreatDoor
open Go.RowKit Go.Maps

/-- The expression of a set. -/
def setT (s : List Rg) : Rx := if s = [] then .mk 0 [] [] else .mk 2 s []
theorem setN_new {s : List Rg} (h : s ≠ []) : keyS 2 s [] ∉ keysA base3 := by
  have hl : 0 < s.length := List.length_pos_iff.2 h
  intro hm
  have hm' : keyS 2 s [] = keyS 0 [] [] ∨ keyS 2 s [] = keyS 1 [] [] ∨ keyS 2 s [] = keyS 6 [] [0] := by
    simpa [keysA, base3] using hm
  have h1 := keyS_len 2 s []
  have h2 := keyS_len 0 [] []
  have h3 := keyS_len 1 [] []
  have h4 := keyS_len 6 [] [0]
  simp only [List.length_nil, List.length_cons] at h1 h2 h3 h4
  rcases hm' with h | h | h <;> rw [h] at h1 <;> omega
theorem setL_base {s : List Rg} (h : s ≠ []) : setL base3 s = base3 ++ [⟨2, s, [], min (1 + s.length) 4097, min 1 65, nulA base3 2 []⟩] := by
  simp only [setL, h, if_false, putL, setN_new h]
  rfl
theorem setX_base {s : List Rg} (h : s ≠ []) : setX base3 s = 3 := by
  simp only [setX, h, if_false, putX]
  rw [List.idxOf_eq_length (setN_new h)]
  rfl
theorem setT_base (s : List Rg) : treeA (setL base3 s) (setX base3 s) = setT s := by
  by_cases h : s = []
  · subst h; rfl
  · rw [setL_base h, setX_base h, setT, if_neg h]; rfl
theorem setE_base {s : List Rg} (hs : s.length ≤ 2048) : heldE (setL base3 s) 0 (setX base3 s) = 0 ∧ heldX (setL base3 s) (setX base3 s) = setX base3 s ∧ setX base3 s < (setL base3 s).length ∧ 3 ≤ (setL base3 s).length ∧ (setL base3 s).length ≤ 4 := by
  by_cases h : s = []
  · subst h; exact ⟨by kernel_rfl, by kernel_rfl, by decide, by decide, by decide⟩
  · rw [setL_base h, setX_base h]
    have h1 : ¬ (4096 : Int) < min (1 + (s.length : Int)) 4097 := by omega
    refine ⟨?_, ?_, by simp [base3], by simp [base3], by simp [base3]⟩
    · show (if (4096 : Int) < min (1 + (s.length : Int)) 4097 then _ else if (64 : Int) < min 1 65 then _ else _) = _
      rw [if_neg h1]; rfl
    · show (if (4096 : Int) < min (1 + (s.length : Int)) 4097 then _ else if (64 : Int) < min 1 65 then _ else _) = _
      rw [if_neg h1]; rfl
set_option maxHeartbeats 1000000 in
set_option maxRecDepth 100000 in
theorem regexSet_any (W : World) (a : Option Addr) (cap : Nat) (s : List Rg) (hl : s.length ≤ 281474976710656) (hrow : RowAt W a s) (ha : ∀ y, a = some y → y.block < W.heap.size) :
    Calls Tryz.prog 4 #[.slice a s.length cap] W fun e w' => ∃ v0 v1 v2, e = .returned (.tuple #[.agg #[v0, v1, v2], .int .i64 (checkV s)]) ∧ Below W.heap.size W w' ∧
      (if checkV s = 0 then RxAt (fun k => W.heap.size ≤ k) w' (setT s) v0 v1 v2 else (v0 = .int .i64 0 ∧ v1 = .slice none 0 0 ∧ v2 = .slice none 0 0)) := by
  have hb0 : Below W.heap.size W (W.alloc (.cells #[.int .i64 0, .slice none 0 0, .slice none 0 0] 26)) := (Below.refl _ _).alloc (Nat.le_refl _) _
  have hbx : (W.alloc (.cells #[.int .i64 0, .slice none 0 0, .slice none 0 0] 26)).heap[W.heap.size]? = some (.cells #[.int .i64 0, .slice none 0 0, .slice none 0 0] 26 (0, 0)) := heap_new W _
  have hs0 : (W.alloc (.cells #[.int .i64 0, .slice none 0 0, .slice none 0 0] 26)).heap.size = W.heap.size + 1 := by simp
  have HC := hide (check_any a cap s hl _ (rowAt_below hrow (Nat.le_refl _) hb0))
  have Hrow := hide hrow; have Ha := hide ha; have Hb0 := hide hb0; have Hbx := hide hbx; have Hs0 := hide hs0
  by_cases hc : checkV s = 0
  · obtain ⟨-, hs⟩ := checkV_zero hc
    obtain ⟨q1, q2, q3, q4, q5⟩ := setE_base hs
    have HE := hide q1; have HX := hide q2
    clear hrow ha q1 q2 hb0 hbx hs0
    rw [hc] at HC
    simp only [hc, if_true]
    go_enter Tryz.func4, Tryz.ntmps4
    go_wp2_with fail
    refine (unhide HC).mono ?_
    rintro e1 w1 ⟨rfl, hb1⟩
    rw [unhide Hs0] at hb1
    have Hb1 := hide ((unhide Hb0).trans (hb1.mono (by omega)))
    have Hbx1 := hide ((hb1.block W.heap.size (by omega)).trans (unhide Hbx))
    have hs1 : W.heap.size + 1 ≤ w1.heap.size := by have := hb1.size; rw [unhide Hs0] at this; exact this
    clear hb1 HC
    go_wp2_with fail
    refine (newPool_any w1).mono ?_
    rintro e2 w2 ⟨pb, mb, sb, rfl, hp2, hb2⟩
    have hbW := (unhide Hb1).trans (hb2.mono (unhide Hb1).size)
    have HS := hide (set_any w2 w1.heap.size pb mb sb base3 (cmpV pb) 0 0 (.map []) hp2 hb2.size a cap s (by omega) (show RowAt w2 a s from rowAt_below (unhide Hrow) (Nat.le_refl _) hbW) (fun y hy => ⟨Nat.lt_of_lt_of_le (unhide Ha y hy) hbW.size, .inl (by have := unhide Ha y hy; omega), fun h => h⟩) (by decide))
    have HbW := hide hbW
    have Hbx2 := hide ((hb2.block W.heap.size (by omega)).trans (unhide Hbx1))
    have hs2 := hb2.size
    clear hp2 hb2 hbW Hbx1
    go_wp2_with fail
    refine (unhide HS).mono ?_
    rintro e3 w3 ⟨rfl, hp3, hf3⟩
    have hs3 := hf3.size
    have hbW3 := (unhide HbW).trans (below_fr (b := W.heap.size) hf3 (by omega) (by omega))
    have Hbx3 := hide ((hf3.block W.heap.size (by omega) (.inl (by omega))).trans (unhide Hbx2))
    have HA := hide (answer_any w3 w1.heap.size pb mb sb _ _ 0 0 _ hp3 (by omega) (by omega) _ q3 (fun k hk => hk.elim))
    have HbW3 := hide hbW3
    clear hp3 hf3 HS hbW3 Hbx2
    go_wp2_with fail
    refine (unhide HA).mono ?_
    rintro e4 w4 ⟨v0, v1, v2, rfl, hb4, hX4⟩
    rw [unhide HE] at hX4
    rw [unhide HE]
    rw [if_pos rfl, unhide HX, setT_base] at hX4
    obtain ⟨k9, sa9, n9, sc9, ka9, m9, kc9, rfl, rfl, rfl⟩ := rxAt_formQ hX4
    have hbx4 := (hb4.block W.heap.size (by omega)).trans (unhide Hbx3)
    have b0 := cell_block hbx4 0 _ rfl
    have b1 := cell_block hbx4 1 _ rfl
    have b2 := cell_block hbx4 2 _ rfl
    have f0 := frozen_block hbx4 0
    have f1 := frozen_block hbx4 1
    have f2 := frozen_block hbx4 2
    have HX4 := hide hX4; have Hbx4 := hide hbx4
    have Hb4 := hide ((unhide HbW3).trans (hb4.mono (by omega)))
    have hs4 := hb4.size
    clear hX4 hb4 HA hbx4 Hbx3
    go_wp2
    have hg3 := block_set (i := 2) (block_set (i := 1) (block_set (i := 0) (unhide Hbx4) (.int .i64 k9)) (.slice sa9 n9 sc9)) (.slice ka9 m9 kc9)
    have t0 := cell_block hg3 0 (.int .i64 k9) rfl
    have t1 := cell_block hg3 1 (.slice sa9 n9 sc9) rfl
    have t2 := cell_block hg3 2 (.slice ka9 m9 kc9) rfl
    refine bodyPost_ret (v := .tuple #[.agg #[.int .i64 k9, .slice sa9 n9 sc9, .slice ka9 m9 kc9], .int .i64 0]) (by simp [results, Tryz.results4, go_sem, t0, t1, t2]) rfl ?_
    refine ⟨_, _, _, rfl, ((((unhide Hb4).setCell (p := ⟨W.heap.size, 0, none⟩) (Nat.le_refl _) _).setCell (p := ⟨W.heap.size, 1, none⟩) (Nat.le_refl _) _).setCell (p := ⟨W.heap.size, 2, none⟩) (Nat.le_refl _) _), ?_⟩
    exact rxAt_set3 (unhide HX4) (by omega) (by omega)
  · simp only [hc, if_false]
    clear hrow ha hb0 hbx hs0
    go_enter Tryz.func4, Tryz.ntmps4
    go_wp2_with fail
    refine (unhide HC).mono ?_
    rintro e1 w1 ⟨rfl, hb1⟩
    rw [unhide Hs0] at hb1
    have Hb1 := hide ((unhide Hb0).trans (hb1.mono (by omega)))
    have hbx1 := (hb1.block W.heap.size (by omega)).trans (unhide Hbx)
    have b0 := cell_block hbx1 0 _ rfl
    have b1 := cell_block hbx1 1 _ rfl
    have b2 := cell_block hbx1 2 _ rfl
    have f0 := frozen_block hbx1 0
    have f1 := frozen_block hbx1 1
    have f2 := frozen_block hbx1 2
    have Hbx1 := hide hbx1
    clear hb1 HC hbx1
    go_wp2
    have hg3 := block_set (i := 2) (block_set (i := 1) (block_set (i := 0) (unhide Hbx1) (.int .i64 0)) (.slice none 0 0)) (.slice none 0 0)
    have t0 := cell_block hg3 0 (.int .i64 0) rfl
    have t1 := cell_block hg3 1 (.slice none 0 0) rfl
    have t2 := cell_block hg3 2 (.slice none 0 0) rfl
    refine bodyPost_ret (v := .tuple #[.agg #[.int .i64 0, .slice none 0 0, .slice none 0 0], .int .i64 (checkV s)]) (by simp [results, Tryz.results4, go_sem, t0, t1, t2]) rfl ?_
    exact ⟨_, _, _, rfl, ((((unhide Hb1).setCell (p := ⟨W.heap.size, 0, none⟩) (Nat.le_refl _) _).setCell (p := ⟨W.heap.size, 1, none⟩) (Nat.le_refl _) _).setCell (p := ⟨W.heap.size, 2, none⟩) (Nat.le_refl _) _), rfl, rfl, rfl⟩
end Go.Proofs.YtkimhfajfbcdmaaGreatDoor

/- regex.Word. -/
namespace Go.Proofs.YtkimhfajfbcdmaaGreatDoor
open Go.RowKit Go.Maps

def isC (c : Int) : Bool := decide (0 ≤ c) && decide (c ≤ 1114111)
/-- Word's fault; its expression. -/
def wordE (row : List Int) : Int := if row.all isC = true then heldE (wordA base3 row).1 0 (wordA base3 row).2.toNat else 1
def wordT (row : List Int) : Rx := treeA (wordA base3 row).1 (heldX (wordA base3 row).1 (wordA base3 row).2.toNat)
theorem all_getD {row : List Int} (h : ∀ j, j < row.length → isC (row.getD j 0) = true) : row.all isC = true := by
  rw [List.all_eq_true]
  intro x hx
  obtain ⟨n, hn, rfl⟩ := List.getElem_of_mem hx
  have := h n hn
  rwa [List.getD_eq_getElem?_getD, List.getElem?_eq_getElem hn] at this
theorem not_all {row : List Int} {j : Nat} (hj : j < row.length) (h : isC (row.getD j 0) = false) : wordE row = 1 := by
  have : ¬ row.all isC = true := by
    intro hc
    rw [List.getD_eq_getElem?_getD, List.getElem?_eq_getElem hj] at h
    have := List.all_eq_true.1 hc _ (List.getElem_mem hj)
    simp only [Option.getD_some] at h
    rw [h] at this; cases this
  rw [wordE, if_neg this]
/-- What comes back: an expression, or nothing and a fault. -/
def TreePost (W : World) (E : Int) (T : Rx) (e : Ending) (w' : World) : Prop := ∃ v0 v1 v2, e = .returned (.tuple #[.agg #[v0, v1, v2], .int .i64 E]) ∧ Below W.heap.size W w' ∧
      (if E = 0 then RxAt (fun k => W.heap.size ≤ k) w' T v0 v1 v2 else (v0 = .int .i64 0 ∧ v1 = .slice none 0 0 ∧ v2 = .slice none 0 0))
set_option maxHeartbeats 1000000 in
set_option maxRecDepth 100000 in
theorem regexWord_any (W : World) (a : Option Addr) (cap : Nat) (row : List Int) (hl : row.length ≤ 1048576) (hrow : IRow W a row) (ha : ∀ y, a = some y → y.block < W.heap.size)
    (hw : row.all isC = true → ∃ xn : Nat, (wordA base3 row).2 = xn ∧ xn < (wordA base3 row).1.length ∧ 2 ≤ (wordA base3 row).1.length ∧ (wordA base3 row).1.length ≤ 1500000000000) :
    Calls Tryz.prog 6 #[.slice a row.length cap] W (TreePost W (wordE row) (wordT row)) := by
  have hb0 : Below W.heap.size W (W.alloc (.cells #[.int .i64 0, .slice none 0 0, .slice none 0 0] 26)) := (Below.refl _ _).alloc (Nat.le_refl _) _
  have hbx : (W.alloc (.cells #[.int .i64 0, .slice none 0 0, .slice none 0 0] 26)).heap[W.heap.size]? = some (.cells #[.int .i64 0, .slice none 0 0, .slice none 0 0] 26 (0, 0)) := heap_new W _
  have hs0 : (W.alloc (.cells #[.int .i64 0, .slice none 0 0, .slice none 0 0] 26)).heap.size = W.heap.size + 1 := by simp
  have Hrow := hide hrow; have Hb0 := hide hb0; have Hbx := hide hbx; have Hw := hide hw; have Ha := hide ha; have Hs0 := hide hs0
  clear hrow hb0 hbx hw ha hs0
  go_enter Tryz.func6, Tryz.ntmps6
  go_wp2_with fail
  generalize W.alloc (.cells #[.int .i64 0, .slice none 0 0, .slice none 0 0] 26) = W0 at *
  go_loopw [9] (fun iv wr => ∃ i : Nat, iv = .int .i64 i ∧ i ≤ row.length ∧ wr = W0 ∧ ∀ j, j < i → isC (row.getD j 0) = true) (fun iv _ => row.length - (intOf iv).toNat)
  case atStart => exact ⟨0, rfl, Nat.zero_le _, rfl, fun j hj => absurd hj (Nat.not_lt_zero _)⟩
  case round =>
    obtain ⟨i, rfl, hin, rfl, hall⟩ := hrel
    by_cases hlt : i < row.length
    · have hlt' : (i : Int) < row.length := by omega
      rcases unhide Hrow with h | ⟨gr, off, rfl, hg, hc⟩
      · rw [h] at hlt; simp at hlt
      have e0 := ((unhide Hb0).cell (p := ⟨gr, off + i, none⟩) hg).trans (hc i hlt)
      have Hnot := hide (not_all hlt)
      have Hnext := hide (fun (h : isC (row.getD i 0) = true) j (hj : j < i + 1) => show isC (row.getD j 0) = true from if e : j = i then by rw [e]; exact h else hall j (by omega))
      clear hall hc
      generalize row.getD i 0 = cc at *
      go_wp2_with fail
      refine (isRune_any _ _).mono ?_
      rintro e8 w8 ⟨rfl, rfl⟩
      cases hcc : (decide (0 ≤ cc) && decide (cc ≤ 1114111))
      · have hE := unhide Hnot hcc
        have b0 := cell_block (unhide Hbx) 0 _ rfl
        have b1 := cell_block (unhide Hbx) 1 _ rfl
        have b2 := cell_block (unhide Hbx) 2 _ rfl
        have f0 := frozen_block (unhide Hbx) 0
        have f1 := frozen_block (unhide Hbx) 1
        have f2 := frozen_block (unhide Hbx) 2
        have HE := hide hE
        clear Hnot Hnext hcc hE
        go_wp2
        have hg3 := block_set (i := 2) (block_set (i := 1) (block_set (i := 0) (unhide Hbx) (.int .i64 0)) (.slice none 0 0)) (.slice none 0 0)
        have t0 := cell_block hg3 0 (.int .i64 0) rfl
        have t1 := cell_block hg3 1 (.slice none 0 0) rfl
        have t2 := cell_block hg3 2 (.slice none 0 0) rfl
        rw [unhide HE]
        refine bodyPost_ret (v := .tuple #[.agg #[.int .i64 0, .slice none 0 0, .slice none 0 0], .int .i64 1]) (by simp [results, Tryz.results6, go_sem, t0, t1, t2]) rfl ?_
        exact ⟨_, _, _, rfl, ((((unhide Hb0).setCell (p := ⟨W.heap.size, 0, none⟩) (Nat.le_refl _) _).setCell (p := ⟨W.heap.size, 1, none⟩) (Nat.le_refl _) _).setCell (p := ⟨W.heap.size, 2, none⟩) (Nat.le_refl _) _), rfl, rfl, rfl⟩
      · have Hn := hide (unhide Hnext hcc)
        clear Hnot Hnext hcc e0
        go_wp2
        go_roundw
        case rel => exact ⟨i + 1, by go_num, by omega, trivial, unhide Hn⟩
        case measure => simp [intOf]; omega
    · obtain rfl : i = row.length := by omega
      have hok := all_getD hall
      obtain ⟨xn, hxn, hxl, h2, hL⟩ := unhide Hw hok
      have hE : wordE row = heldE (wordA base3 row).1 0 xn := by rw [wordE, if_pos hok, hxn]; rfl
      have hT : wordT row = treeA (wordA base3 row).1 (heldX (wordA base3 row).1 xn) := by rw [wordT, hxn]; rfl
      have HE := hide hE; have HT := hide hT; have Hxn := hide hxn
      clear hall hok hE hT hxn
      go_wp2_with fail
      refine (newPool_any wr).mono ?_
      rintro e2 w2 ⟨pb, mb, sb, rfl, hp2, hb2⟩
      rw [unhide Hs0] at hp2 hb2
      have hs2 := hb2.size
      have hbW := (unhide Hb0).trans (hb2.mono (by omega))
      have hs2' : W.heap.size + 1 ≤ w2.heap.size := by rw [unhide Hs0] at hs2; exact hs2
      have hir : IRow w2 a row := by
        rcases unhide Hrow with h | ⟨gr, off, rfl, hg, hc⟩
        · exact .inl h
        · exact .inr ⟨gr, off, rfl, by omega, fun j hj => (hbW.cell (p := ⟨gr, off + j, none⟩) hg).trans (hc j hj)⟩
      have HS := hide (word_any w2 (W.heap.size + 1) pb mb sb base3 (cmpV pb) 0 0 (.map []) hp2 (by decide) a cap row hl (by
        have h3 : base3.length = 3 := rfl
        rw [h3]
        exact Nat.lt_of_le_of_lt (Nat.mul_le_mul (Nat.add_le_add_left hl 3) (Nat.add_le_add_right hl 1)) (by decide)) hir (fun y hy => .inl (by have := unhide Ha y hy; omega)) (fun k hk => hk.elim))
      rw [unhide Hxn] at HS
      have Hbx2 := hide ((hb2.block W.heap.size (by omega)).trans (unhide Hbx))
      have HbW := hide hbW
      clear hp2 hb2 hbW hir hs2
      go_wp2_with fail
      refine (unhide HS).mono ?_
      rintro e3 w3 ⟨rfl, hp3, hf3⟩
      have hs3 := hf3.size
      have HbW3 := hide ((unhide HbW).trans (below_fr (b := W.heap.size) hf3 (by omega) (by omega)))
      have Hbx3 := hide ((hf3.block W.heap.size (by omega) (.inl (by omega))).trans (unhide Hbx2))
      have HA := hide (answer_any w3 (W.heap.size + 1) pb mb sb _ _ 0 0 _ hp3 h2 hL xn hxl (fun k hk => hk.elim))
      clear hp3 hf3 HS Hbx2 HbW
      go_wp2_with fail
      refine (unhide HA).mono ?_
      rintro e4 w4 ⟨v0, v1, v2, rfl, hb4, hX4⟩
      rw [← unhide HE, ← unhide HT] at hX4
      rw [← unhide HE]
      have hf : ∃ (k9 : Int) (sa9 : Option Addr) (n9 sc9 : Nat) (ka9 : Option Addr) (m9 kc9 : Nat), v0 = .int .i64 k9 ∧ v1 = .slice sa9 n9 sc9 ∧ v2 = .slice ka9 m9 kc9 := by
        by_cases h : wordE row = 0
        · rw [if_pos h] at hX4; exact rxAt_formQ hX4
        · rw [if_neg h] at hX4; obtain ⟨rfl, rfl, rfl⟩ := hX4; exact ⟨_, _, _, _, _, _, _, rfl, rfl, rfl⟩
      obtain ⟨k9, sa9, n9, sc9, ka9, m9, kc9, rfl, rfl, rfl⟩ := hf
      have hbx4 := (hb4.block W.heap.size (by omega)).trans (unhide Hbx3)
      have b0 := cell_block hbx4 0 _ rfl
      have b1 := cell_block hbx4 1 _ rfl
      have b2 := cell_block hbx4 2 _ rfl
      have f0 := frozen_block hbx4 0
      have f1 := frozen_block hbx4 1
      have f2 := frozen_block hbx4 2
      have HX4 := hide hX4; have Hbx4 := hide hbx4
      have Hb4 := hide ((unhide HbW3).trans (hb4.mono (by omega)))
      clear hX4 hb4 HA hbx4 Hbx3 HE HT Hxn
      go_wp2
      have hg3 := block_set (i := 2) (block_set (i := 1) (block_set (i := 0) (unhide Hbx4) (.int .i64 k9)) (.slice sa9 n9 sc9)) (.slice ka9 m9 kc9)
      have t0 := cell_block hg3 0 (.int .i64 k9) rfl
      have t1 := cell_block hg3 1 (.slice sa9 n9 sc9) rfl
      have t2 := cell_block hg3 2 (.slice ka9 m9 kc9) rfl
      refine bodyPost_ret (v := .tuple #[.agg #[.int .i64 k9, .slice sa9 n9 sc9, .slice ka9 m9 kc9], .int .i64 (wordE row)]) (by simp [results, Tryz.results6, go_sem, t0, t1, t2]) rfl ?_
      refine ⟨_, _, _, rfl, ((((unhide Hb4).setCell (p := ⟨W.heap.size, 0, none⟩) (Nat.le_refl _) _).setCell (p := ⟨W.heap.size, 1, none⟩) (Nat.le_refl _) _).setCell (p := ⟨W.heap.size, 2, none⟩) (Nat.le_refl _) _), ?_⟩
      have hX4 := unhide HX4
      by_cases h : wordE row = 0
      · rw [if_pos h] at hX4 ⊢; exact rxAt_set3 hX4 (by omega) (by omega)
      · rw [if_neg h] at hX4 ⊢; exact hX4
end Go.Proofs.YtkimhfajfbcdmaaGreatDoor

/- Equal of rows of numbers; isRune. (and what it leads to) -/
import Derived.Test.YtkimhfajfbcdmaaGreatDoorQE
import Derived.Test.YtkimhfajfbcdmaaGreatDoorQR
import Derived.Test.YtkimhfajfbcdmaaGreatDoorGS
/- Equal of rows of numbers; isRune. -/
namespace Go.Proofs.YtkimhfajfbcdmaaGreatDoor
open Go.RowKit Go.Maps

theorem eq_take_succ {x y : List Int} {k : Nat} (hx : k < x.length) (hy : k < y.length) : x.take (k + 1) = y.take (k + 1) ↔ x.take k = y.take k ∧ x.getD k 0 = y.getD k 0 := by
  have hX : x.take (k + 1) = x.take k ++ [x.getD k 0] := by rw [List.take_add_one, List.getElem?_eq_getElem hx, List.getD_eq_getElem?_getD, List.getElem?_eq_getElem hx]; rfl
  have hY : y.take (k + 1) = y.take k ++ [y.getD k 0] := by rw [List.take_add_one, List.getElem?_eq_getElem hy, List.getD_eq_getElem?_getD, List.getElem?_eq_getElem hy]; rfl
  rw [hX, hY]
  constructor
  · intro h
    have := List.append_inj h (by simp; omega)
    exact ⟨this.1, by simpa using this.2⟩
  · rintro ⟨h1, h2⟩
    rw [h1, h2]
set_option maxHeartbeats 1000000 in
set_option maxRecDepth 100000 in
theorem equalI_any (a b : Option Addr) (c d : Nat) (x y : List Int) (hx : x.length ≤ 281474976710656) (hy : y.length ≤ 281474976710656) (w : World) (hxr : NRow w a x) (hyr : NRow w b y) :
    Calls Tryz.prog 79 #[.slice a x.length c, .slice b y.length d] w fun e w' => e = .returned (.bool (decide (x = y))) ∧ Below w.heap.size w w' := by
  by_cases hl : x.length = y.length
  · have hlb : ((x.length : Int) != y.length) = false := by simp [hl]
    have Hxr := hide hxr; have Hyr := hide hyr
    clear hxr hyr
    go_enter Tryz.func79, Tryz.ntmps79
    go_wp2
    go_loopw [13] (fun iv wr => ∃ i : Nat, iv = .int .i64 i ∧ i ≤ x.length ∧ x.take i = y.take i ∧ Below w.heap.size w wr) (fun iv _ => x.length - (intOf iv).toNat)
    case atStart => exact ⟨0, rfl, Nat.zero_le _, by simp, Below.refl _ _⟩
    case round =>
      obtain ⟨i, rfl, hi, hft, hb⟩ := hrel
      by_cases hlt : i < x.length
      · have hlt' : (i : Int) < x.length := by omega
        have hlt2 : (i : Int) < y.length := by omega
        rcases unhide Hxr with h | ⟨g, off, rfl, hgl, hc⟩
        · rw [h] at hlt; simp at hlt
        rcases unhide Hyr with h | ⟨g2, off2, rfl, hgl2, hc2⟩
        · rw [h, List.length_nil] at hl; omega
        have c0 := (World.cell?_of_block (a := ⟨g, off + i, none⟩) (hb.block g hgl)).trans (hc i hlt)
        have c1 := (World.cell?_of_block (a := ⟨g2, off2 + i, none⟩) (hb.block g2 hgl2)).trans (hc2 i (by omega))
        have hst := eq_take_succ (x := x) (y := y) (k := i) hlt (by omega)
        have Hb := hide hb
        clear hc hc2 hb
        by_cases he : x.getD i 0 = y.getD i 0
        · have Hft := hide (hst.2 ⟨hft, he⟩)
          have heb : (x.getD i 0 != y.getD i 0) = false := by simpa using he
          clear hst hft he
          generalize x.getD i 0 = p at *
          generalize y.getD i 0 = q at *
          go_wp2_with fail
          go_region
          all_goals
            go_wp2
            go_roundw
            case rel => exact ⟨i + 1, by go_num, by omega, unhide Hft, (unhide Hb).drew⟩
            case measure => simp [intOf]; omega
        · have heb : (x.getD i 0 != y.getD i 0) = true := by simpa using he
          have Hne : Hid (decide (x = y) = false) := hide (by rw [decide_eq_false_iff_not]; rintro rfl; exact he rfl)
          clear hst hft he
          generalize x.getD i 0 = p at *
          generalize y.getD i 0 = q at *
          go_wp2_with fail
          go_region
          all_goals
            go_wp2
            go_ret
            exact ⟨by rw [unhide Hne]; rfl, (unhide Hb).drew⟩
      · obtain rfl : i = x.length := by omega
        have hlt' : ¬ ((x.length : Int) < x.length) := by omega
        have Hne : Hid (decide (x = y) = true) := hide (by rw [decide_eq_true_eq]; rw [List.take_length] at hft; rw [hl, List.take_length] at hft; exact hft)
        have Hb := hide hb
        clear hft hb
        go_wp2
        go_ret
        exact ⟨by rw [unhide Hne]; rfl, unhide Hb⟩
  · have hlb : ((x.length : Int) != y.length) = true := by simp; omega
    have Hne : Hid (decide (x = y) = false) := hide (by rw [decide_eq_false_iff_not]; rintro rfl; exact hl rfl)
    clear hxr hyr hl
    go_enter Tryz.func79, Tryz.ntmps79
    go_wp2
    go_ret
    exact ⟨by rw [unhide Hne]; rfl, Below.refl _ _⟩
set_option maxRecDepth 100000 in
theorem isRune_any (c : Int) (w : World) : Calls Tryz.prog 17 #[.int .i32 c] w fun e w' => e = .returned (.bool (decide (0 ≤ c) && decide (c ≤ 1114111))) ∧ w' = w := by
  by_cases h0 : 0 ≤ c
  · have h0d : decide (0 ≤ c) = true := decide_eq_true h0
    rw [h0d, Bool.true_and]
    go_enter Tryz.func17, Tryz.ntmps17
    go_wp2
    go_ret
    exact ⟨rfl, rfl⟩
  · have h0d : decide (0 ≤ c) = false := decide_eq_false h0
    rw [h0d, Bool.false_and]
    go_enter Tryz.func17, Tryz.ntmps17
    go_wp2
    go_ret
    exact ⟨rfl, rfl⟩
end Go.Proofs.YtkimhfajfbcdmaaGreatDoor

/- Pools: madeOf. -/
namespace Go.Proofs.YtkimhfajfbcdmaaGreatDoor
open Go.RowKit Go.Maps

set_option maxRecDepth 100000 in
theorem madeOf_0 (pb : Nat) (sa ka : Option Addr) (sn sc kn kc : Nat) (w : World) :
    Calls Tryz.prog 78 #[.pointer (some ⟨pb, 0, none⟩), .int .i64 0, .slice sa sn sc, .slice ka kn kc] w fun e w' => e = .returned (.int .i64 0) ∧ w' = w := by
  go_enter Tryz.func78, Tryz.ntmps78
  go_wp2
  go_ret
  exact ⟨rfl, rfl⟩

set_option maxRecDepth 100000 in
theorem madeOf_1 (pb : Nat) (sa ka : Option Addr) (sn sc kn kc : Nat) (w : World) :
    Calls Tryz.prog 78 #[.pointer (some ⟨pb, 0, none⟩), .int .i64 1, .slice sa sn sc, .slice ka kn kc] w fun e w' => e = .returned (.int .i64 1) ∧ w' = w := by
  go_enter Tryz.func78, Tryz.ntmps78
  go_wp2
  go_ret
  exact ⟨rfl, rfl⟩

set_option maxRecDepth 100000 in
theorem madeOf_2 (pb : Nat) (sa ka : Option Addr) (sn sc kn kc : Nat) (w : World) (post : Int → World → Prop) (h : Calls Tryz.prog 13 #[.pointer (some ⟨pb, 0, none⟩), .slice sa sn sc] w fun e w' => ∃ x, e = .returned (.int .i64 x) ∧ post x w') :
    Calls Tryz.prog 78 #[.pointer (some ⟨pb, 0, none⟩), .int .i64 2, .slice sa sn sc, .slice ka kn kc] w fun e w' => ∃ x, e = .returned (.int .i64 x) ∧ post x w' := by
  have H := hide h
  clear h
  go_enter Tryz.func78, Tryz.ntmps78
  go_wp2_with fail
  refine (unhide H).mono ?_
  rintro e1 w1 ⟨x, rfl, hp⟩
  have Hp := hide hp
  clear hp
  go_wp2
  go_ret
  exact ⟨x, rfl, unhide Hp⟩

set_option maxRecDepth 100000 in
theorem madeOf_3 (pb : Nat) (sa ka : Option Addr) (sn sc kn kc : Nat) (w : World) (post : Int → World → Prop) (h : Calls Tryz.prog 31 #[.pointer (some ⟨pb, 0, none⟩), .slice ka kn kc] w fun e w' => ∃ x, e = .returned (.int .i64 x) ∧ post x w') :
    Calls Tryz.prog 78 #[.pointer (some ⟨pb, 0, none⟩), .int .i64 3, .slice sa sn sc, .slice ka kn kc] w fun e w' => ∃ x, e = .returned (.int .i64 x) ∧ post x w' := by
  have H := hide h
  clear h
  go_enter Tryz.func78, Tryz.ntmps78
  go_wp2_with fail
  refine (unhide H).mono ?_
  rintro e1 w1 ⟨x, rfl, hp⟩
  have Hp := hide hp
  clear hp
  go_wp2
  go_ret
  exact ⟨x, rfl, unhide Hp⟩

set_option maxRecDepth 100000 in
theorem madeOf_4 (pb : Nat) (sa ka : Option Addr) (sn sc kn kc : Nat) (w : World) (post : Int → World → Prop) (h : Calls Tryz.prog 60 #[.pointer (some ⟨pb, 0, none⟩), .slice ka kn kc] w fun e w' => ∃ x, e = .returned (.int .i64 x) ∧ post x w') :
    Calls Tryz.prog 78 #[.pointer (some ⟨pb, 0, none⟩), .int .i64 4, .slice sa sn sc, .slice ka kn kc] w fun e w' => ∃ x, e = .returned (.int .i64 x) ∧ post x w' := by
  have H := hide h
  clear h
  go_enter Tryz.func78, Tryz.ntmps78
  go_wp2_with fail
  refine (unhide H).mono ?_
  rintro e1 w1 ⟨x, rfl, hp⟩
  have Hp := hide hp
  clear hp
  go_wp2
  go_ret
  exact ⟨x, rfl, unhide Hp⟩

set_option maxRecDepth 100000 in
theorem madeOf_5 (pb : Nat) (sa ka : Option Addr) (sn sc kn kc : Nat) (w : World) (post : Int → World → Prop) (h : Calls Tryz.prog 62 #[.pointer (some ⟨pb, 0, none⟩), .slice ka kn kc] w fun e w' => ∃ x, e = .returned (.int .i64 x) ∧ post x w') :
    Calls Tryz.prog 78 #[.pointer (some ⟨pb, 0, none⟩), .int .i64 5, .slice sa sn sc, .slice ka kn kc] w fun e w' => ∃ x, e = .returned (.int .i64 x) ∧ post x w' := by
  have H := hide h
  clear h
  go_enter Tryz.func78, Tryz.ntmps78
  go_wp2_with fail
  refine (unhide H).mono ?_
  rintro e1 w1 ⟨x, rfl, hp⟩
  have Hp := hide hp
  clear hp
  go_wp2
  go_ret
  exact ⟨x, rfl, unhide Hp⟩

set_option maxRecDepth 100000 in
theorem madeOf_6 (pb : Nat) (sa : Option Addr) (g off : Nat) (sn sc kn kc : Nat) (hkn : 0 < kn) (y : Int) (w : World) (hc : w.cell? ⟨g, off, none⟩ = some (.int .i64 y)) (post : Int → World → Prop) (h : Calls Tryz.prog 63 #[.pointer (some ⟨pb, 0, none⟩), .int .i64 y] w fun e w' => ∃ x, e = .returned (.int .i64 x) ∧ post x w') :
    Calls Tryz.prog 78 #[.pointer (some ⟨pb, 0, none⟩), .int .i64 6, .slice sa sn sc, .slice (some ⟨g, off, none⟩) kn kc] w fun e w' => ∃ x, e = .returned (.int .i64 x) ∧ post x w' := by
  have H := hide h
  have hki : (0 : Int) < kn := by omega
  clear h
  go_enter Tryz.func78, Tryz.ntmps78
  go_wp2_with fail
  refine (unhide H).mono ?_
  rintro e1 w1 ⟨x, rfl, hp⟩
  have Hp := hide hp
  clear hp
  go_wp2
  go_ret
  exact ⟨x, rfl, unhide Hp⟩

set_option maxRecDepth 100000 in
theorem madeOf_7 (pb : Nat) (sa : Option Addr) (g off : Nat) (sn sc kn kc : Nat) (hkn : 0 < kn) (y : Int) (w : World) (hc : w.cell? ⟨g, off, none⟩ = some (.int .i64 y)) (post : Int → World → Prop) (h : Calls Tryz.prog 89 #[.pointer (some ⟨pb, 0, none⟩), .int .i64 y] w fun e w' => ∃ x, e = .returned (.int .i64 x) ∧ post x w') :
    Calls Tryz.prog 78 #[.pointer (some ⟨pb, 0, none⟩), .int .i64 7, .slice sa sn sc, .slice (some ⟨g, off, none⟩) kn kc] w fun e w' => ∃ x, e = .returned (.int .i64 x) ∧ post x w' := by
  have H := hide h
  have hki : (0 : Int) < kn := by omega
  clear h
  go_enter Tryz.func78, Tryz.ntmps78
  go_wp2_with fail
  refine (unhide H).mono ?_
  rintro e1 w1 ⟨x, rfl, hp⟩
  have Hp := hide hp
  clear hp
  go_wp2
  go_ret
  exact ⟨x, rfl, unhide Hp⟩
end Go.Proofs.YtkimhfajfbcdmaaGreatDoor

/- Pools: load, what is under way. -/
namespace Go.Proofs.YtkimhfajfbcdmaaGreatDoor
open Go.RowKit Go.Maps

/-- An expression that lies below the pool is loaded, and is right: the pool's nodes turn from L to L', its number is x. -/
def LdC (B pb mb sb sn : Nat) (DS : DataW Unit) (t : Rx) (L L' : List Ab) (x : Nat) : Prop :=
  ∀ (av : Nat → Prop) W v0 v1 v2, (∀ k, av k → B ≤ k ∧ k < W.heap.size) → B ≤ W.heap.size → Pool av W B pb mb sb L (cmpV pb) 0 sn DS → RxAt (fun q => q < B) W t v0 v1 v2 →
    Calls Tryz.prog 57 #[.pointer (some ⟨pb, 0, none⟩), .agg #[v0, v1, v2]] W fun e1 w1 => e1 = .returned (.tuple #[.int .i64 x, .bool true]) ∧ Pool av w1 B pb mb sb L' (cmpV pb) 0 sn DS ∧ Fr B mb sb W w1
/-- A row of them, one after another. -/
def LdKs (B pb mb sb sn : Nat) (DS : DataW Unit) : List Rx → List Ab → List Ab → List Nat → Prop
  | [], L, L', xs => L' = L ∧ xs = []
  | t :: ts, L, L', xs => ∃ L1 x xr, LdC B pb mb sb sn DS t L L1 x ∧ LdKs B pb mb sb sn DS ts L1 L' xr ∧ xs = x :: xr
theorem ldKs_len {B pb mb sb sn : Nat} {DS : DataW Unit} : ∀ (ts : List Rx) (L L' : List Ab) (xs : List Nat), LdKs B pb mb sb sn DS ts L L' xs → xs.length = ts.length
  | [], _, _, xs, h => by rw [h.2]; rfl
  | _ :: ts, L, L', xs, h => by
    obtain ⟨L1, x, xr, -, h2, rfl⟩ := h
    simp [ldKs_len ts L1 L' xr h2]
/-- The kids' numbers, as far as i. -/
def kRow (xs : List Nat) (n i : Nat) : List Int := (List.range n).map fun j => if j < i then ((xs.getD j 0 : Nat) : Int) else 0
theorem kRow_len (xs : List Nat) (n i : Nat) : (kRow xs n i).length = n := by simp [kRow]
theorem kRow_all (xs : List Nat) : kRow xs xs.length xs.length = xs.map (fun n : Nat => (n : Int)) := by
  refine List.ext_getElem? fun i => ?_
  unfold kRow
  by_cases hi : i < xs.length
  · rw [List.getElem?_map, List.getElem?_range hi, List.getElem?_map, List.getElem?_eq_getElem hi]
    simp [hi]
  · rw [List.getElem?_eq_none (by simpa using hi), List.getElem?_eq_none (by simpa using hi)]
theorem kRow_set (xs : List Nat) (n i x : Nat) (hi : i < n) (hx : xs.getD i 0 = x) : (intV (kRow xs n i)).set i (.int .i64 (x : Int)) = intV (kRow xs n (i + 1)) := by
  unfold intV
  rw [← List.map_set]
  congr 1
  refine List.ext_getElem? fun j => ?_
  rw [List.getElem?_set]
  unfold kRow
  by_cases hj : j < n
  · rw [List.getElem?_map, List.getElem?_map, List.getElem?_range hj]
    simp only [Option.map_some, List.length_map, List.length_range]
    by_cases he : i = j
    · subst he
      rw [if_pos rfl, if_pos hi, if_pos (Nat.lt_succ_self _), hx]
    · rw [if_neg he]
      congr 1
      by_cases h1 : j < i
      · simp [h1, show j < i + 1 by omega]
      · simp [h1, show ¬ j < i + 1 by omega]
  · rw [List.getElem?_eq_none (by simpa using hj), List.getElem?_eq_none (by simpa using hj)]
    simp only [List.length_map, List.length_range]
    split
    · omega
    · rfl
/-- Under way: i kids are loaded. -/
structure LSt (av : Nat → Prop) (W : World) (B pb mb sb sn : Nat) (DS : DataW Unit) (xs : List Nat) (n i : Nat) (Li : List Ab) (R : Array Value) (wr : World) : Prop where
  pool : Pool (fun q => av q ∨ q = W.heap.size + 1) wr B pb mb sb Li (cmpV pb) 0 sn DS
  own : wr.ownsRow (W.heap.size + 1) 3 1 (.slice (some ⟨W.heap.size + 1, 0, none⟩) n n) n (intV (kRow xs n i))
  fr : Fr B mb sb W wr
  box : wr.heap[W.heap.size]? = some (.cells R 26 (0, 0))
theorem lst_fr {av : Nat → Prop} {W : World} {B pb mb sb sn : Nat} {DS : DataW Unit} {xs : List Nat} {n i : Nat} {Li L' : List Ab} {R : Array Value} {wr W2 : World} (h : LSt av W B pb mb sb sn DS xs n i Li R wr) (hf : Fr B mb sb wr W2) (hp : Pool (fun q => av q ∨ q = W.heap.size + 1) W2 B pb mb sb L' (cmpV pb) 0 sn DS) : LSt av W B pb mb sb sn DS xs n i L' R W2 :=
  ⟨hp, own_fr h.own hf, fr_t h.fr hf, (hf.block _ (lt_of_some h.box) (.inr (.inl ⟨_, 26, _, h.box, by decide, by decide, by decide⟩))).trans h.box⟩
theorem lst_step {av : Nat → Prop} {W : World} {B pb mb sb sn : Nat} {DS : DataW Unit} {xs : List Nat} {n i x : Nat} {Li : List Ab} {R : Array Value} {wr : World} (hi : i < n) (hx : xs.getD i 0 = x) (h : LSt av W B pb mb sb sn DS xs n i Li R wr) :
    (∃ u, wr.cell? ⟨W.heap.size + 1, i, none⟩ = some u) ∧ wr.frozen? ⟨W.heap.size + 1, i, none⟩ = false ∧ LSt av W B pb mb sb sn DS xs n (i + 1) Li R (wr.setCell ⟨W.heap.size + 1, i, none⟩ (.int .i64 (x : Int))) := by
  have hl : i < (intV (kRow xs n i)).length := by rw [intV_length, kRow_len]; exact hi
  obtain ⟨cs, hcs⟩ := own_block3 h.own
  obtain ⟨s1, s2⟩ := h.own.stored i (.int .i64 (x : Int))
  rw [kRow_set xs n i x hi hx] at s1
  refine ⟨⟨_, own_cell h.own rfl i hl⟩, frozen_block hcs i, pool_row h.pool hcs (.inr rfl) _, s1, ?_, ?_⟩
  · exact ⟨h.fr.os, h.fr.tape, h.fr.output, by simpa using h.fr.size, fun j hj hs => (Below.heap_setCell wr ⟨W.heap.size + 1, i, none⟩ _ j (fun e => by simp only at e; omega)).trans (h.fr.block j hj hs)⟩
  · exact (Below.heap_setCell wr ⟨W.heap.size + 1, i, none⟩ _ _ (by show W.heap.size ≠ W.heap.size + 1; omega)).trans h.box
theorem lst_below {av : Nat → Prop} {W : World} {B pb mb sb sn : Nat} {DS : DataW Unit} {xs : List Nat} {n i : Nat} {Li : List Ab} {R : Array Value} {wr W2 : World} (h : LSt av W B pb mb sb sn DS xs n i Li R wr) (hb : Below wr.heap.size wr W2) : LSt av W B pb mb sb sn DS xs n i Li R W2 := lst_fr h (fr_below hb) (pool_below h.pool hb)
theorem lst_zero {av : Nat → Prop} {W : World} {B pb mb sb sn : Nat} {DS : DataW Unit} (xs : List Nat) {n : Nat} {L : List Ab} (R : Array Value) (hn : n ≤ 4096) (hP : Pool av W B pb mb sb L (cmpV pb) 0 sn DS) : LSt av W B pb mb sb sn DS xs n 0 L R ((W.alloc (.cells R 26)).alloc (.cells (madeCells (Value.int .i64 0).cells n) 3)) := by
  have hb0 : Below W.heap.size W ((W.alloc (.cells R 26)).alloc (.cells (madeCells (Value.int .i64 0).cells n) 3)) := ((Below.refl _ _).alloc (Nat.le_refl _) _).alloc (by simp) _
  have hs : (W.alloc (.cells R 26)).heap.size = W.heap.size + 1 := by simp
  refine ⟨pool_below (pool_av0 hP (fun k hk ha => by rcases ha with ha | ha; exact ha; omega)) hb0, ?_, fr_below hb0, (Below.heap_alloc _ _ _ (by simp)).trans (heap_new W _)⟩
  have h1 := World.ownsRow_lit (e := 3) (size := 1) (base := W.heap.size + 1) (W.alloc (.cells R 26)) (madeCells (Value.int .i64 0).cells n) n (by simp) (by unfold maxLen; omega) (by rw [size_madeCells, Nat.mul_one])
  have h3 : (madeCells (Value.int .i64 0).cells n).toList = intV (kRow xs n 0) := by
    rw [show (Value.int .i64 0).cells = #[.int .i64 0] from rfl, toList_madeCells_one]
    unfold intV kRow
    rw [List.map_map]
    refine List.ext_getElem? fun i => ?_
    by_cases hi : i < n
    · rw [List.getElem?_map, List.getElem?_range hi, List.getElem?_replicate, if_pos hi]
      simp
    · rw [List.getElem?_eq_none (by simpa using hi), List.getElem?_eq_none (by simpa using hi)]
  rw [h3, hs] at h1
  exact h1
end Go.Proofs.YtkimhfajfbcdmaaGreatDoor

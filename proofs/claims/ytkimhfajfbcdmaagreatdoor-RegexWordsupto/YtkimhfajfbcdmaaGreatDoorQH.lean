/- Pools: a row of runes. (and what it leads to) -/
import Derived.Test.YtkimhfajfbcdmaaGreatDoorGI
import Derived.Shelf.Slices.CompactI
import Derived.Shelf.Slices.Equal
import Derived.Test.YtkimhfajfbcdmaaGreatDoorRows
import Derived.Test.YtkimhfajfbcdmaaGreatDoorQE
import Derived.Shelf.Sort.Plain
import Derived.Shelf.Slices.In.SortNone
/- Pools: a row of runes. -/
namespace Go.Proofs.YtkimhfajfbcdmaaGreatDoor
open Go.RowKit Go.Maps

variable {av : Nat → Prop}

/-- A row of runes lies there. -/
def IRow (w : World) (a : Option Addr) (l : List Int) : Prop := l = [] ∨ ∃ g off, a = some ⟨g, off, none⟩ ∧ g < w.heap.size ∧ ∀ j, j < l.length → w.cell? ⟨g, off + j, none⟩ = some (.int .i32 (l.getD j 0))
/-- A row of one's own is written. -/
theorem pool_row {w : World} {B pb mb sb b i : Nat} {L : List Ab} {ov : Value} {e : Int} {sn : Nat} {DS : DataW Unit} {cs : Array Value} {f : Nat × Nat} (h : Pool av w B pb mb sb L ov e sn DS) (hb : w.heap[b]? = some (.cells cs 3 f)) (ha : av b) (v : Value) : Pool av (w.setCell ⟨b, i, none⟩ v) B pb mb sb L ov e sn DS := by
  refine pool_offA (O := fun k => k = b) h (off_set (O := fun k => k = b) (off_refl _ w) (p := ⟨b, i, none⟩) (.inl rfl) v) ?_ ?_ ?_ (fun k _ e => .inl (e ▸ ha))
  · rintro k cs t f hk ht rfl
    rw [hb] at hk
    simp only [Option.some.injEq, Obj.cells.injEq] at hk
    rcases ht with rfl | rfl | rfl <;> exact absurd hk.2.1 (by decide)
  · obtain ⟨l, g, nc, kv, kl, D, hl⟩ := h.lies
    exact map_not hb hl.map
  · exact map_not hb h.steps
/-- The sets of the runes, one by one: the pool, and their numbers. -/
def wordS (L : List Ab) : List Int → List Ab × List Int
  | [] => (L, [])
  | c :: cs => ((wordS (setL L [(c, c)]) cs).1, (setX L [(c, c)] : Int) :: (wordS (setL L [(c, c)]) cs).2)
def wordL (L : List Ab) (row : List Int) (k : Nat) : List Ab := (row.take k).foldl (fun L c => setL L [(c, c)]) L
def wordX (L : List Ab) (row : List Int) (k : Nat) : Int := (setX (wordL L row k) [(row.getD k 0, row.getD k 0)] : Int)
/-- The numbers so far, and noughts. -/
def wordRow (L : List Ab) (row : List Int) (k : Nat) : List Int := (List.range row.length).map fun i => if i < k then wordX L row i else 0
theorem wordL_succ (L : List Ab) (row : List Int) (k : Nat) (hk : k < row.length) : wordL L row (k + 1) = setL (wordL L row k) [(row.getD k 0, row.getD k 0)] := by
  unfold wordL
  rw [List.take_add_one, List.getElem?_eq_getElem hk, List.foldl_append, List.getD_eq_getElem?_getD, List.getElem?_eq_getElem hk]
  rfl
theorem setL_len (L : List Ab) (s : List Rg) : L.length ≤ (setL L s).length ∧ (setL L s).length ≤ L.length + 1 := by
  unfold setL
  split
  · omega
  · exact ⟨(putL_prefix L 2 s []).length_le, putL_len _ _ _ _⟩
theorem setX_lt (L : List Ab) (s : List Rg) (hL : 0 < L.length) : setX L s < (setL L s).length := by
  unfold setX setL
  split
  · exact hL
  · exact putX_lt _ _ _ _
theorem wordL_len (L : List Ab) (row : List Int) : ∀ k, k ≤ row.length → L.length ≤ (wordL L row k).length ∧ (wordL L row k).length ≤ L.length + k := by
  intro k
  induction k with
  | zero => intro _; simp [wordL]
  | succ k ih =>
    intro hk
    have h1 := ih (by omega)
    rw [wordL_succ L row k (by omega)]
    have h2 := setL_len (wordL L row k) [(row.getD k 0, row.getD k 0)]
    omega
theorem wordL_mono (L : List Ab) (row : List Int) : ∀ j k, k + j ≤ row.length → (wordL L row k).length ≤ (wordL L row (k + j)).length := by
  intro j
  induction j with
  | zero => intro k _; exact Nat.le_refl _
  | succ j ih =>
    intro k hk
    have h1 := ih k (by omega)
    rw [← Nat.add_assoc, wordL_succ L row (k + j) (by omega)]
    have h2 := setL_len (wordL L row (k + j)) [(row.getD (k + j) 0, row.getD (k + j) 0)]
    omega
theorem wordRow_len (L : List Ab) (row : List Int) (k : Nat) : (wordRow L row k).length = row.length := by simp [wordRow]
theorem wordRow_set (L : List Ab) (row : List Int) (k : Nat) (hk : k < row.length) : (intV (wordRow L row k)).set k (.int .i64 (wordX L row k)) = intV (wordRow L row (k + 1)) := by
  unfold intV
  rw [← List.map_set]
  congr 1
  refine List.ext_getElem? fun i => ?_
  rw [List.getElem?_set]
  unfold wordRow
  by_cases hi : i < row.length
  · rw [List.getElem?_map, List.getElem?_map, List.getElem?_range hi]
    simp only [Option.map_some, List.length_map, List.length_range]
    by_cases he : k = i
    · subst he
      simp [hi]
    · rw [if_neg he]
      congr 1
      by_cases h1 : i < k
      · simp [h1, show i < k + 1 by omega]
      · simp [h1, show ¬ i < k + 1 by omega]
  · rw [List.getElem?_eq_none (by simpa using hi), List.getElem?_eq_none (by simpa using hi)]
    simp only [List.length_map, List.length_range]
    split
    · omega
    · rfl
theorem wordRow_mem {L : List Ab} {row : List Int} (hL : 0 < L.length) : ∀ v ∈ wordRow L row row.length, 0 ≤ v ∧ v.toNat < (wordL L row row.length).length := by
  intro v hv
  unfold wordRow at hv
  obtain ⟨i, hi, rfl⟩ := List.mem_map.1 hv
  have hi2 : i < row.length := by simpa using hi
  rw [if_pos hi2]
  unfold wordX
  have h1 := wordL_len L row i (by omega)
  have h2 := setX_lt (wordL L row i) [(row.getD i 0, row.getD i 0)] (by omega)
  rw [← wordL_succ L row i hi2] at h2
  have h3 := wordL_mono L row (row.length - (i + 1)) (i + 1) (by omega)
  rw [show i + 1 + (row.length - (i + 1)) = row.length by omega] at h3
  omega
theorem own_fr {w w' : World} {B mb sb base n : Nat} {v : Value} {xs : List Value} (h : w.ownsRow base 3 1 v n xs) (hf : Fr B mb sb w w') : w'.ownsRow base 3 1 v n xs := by
  refine ⟨h.1, ?_⟩
  rcases h.2 with h0 | ⟨g, cap, cur, hv, hg, hh, rest⟩
  · exact .inl h0
  · exact .inr ⟨g, cap, cur, hv, hg, (hf.block g (lt_of_some hh) (.inr (.inl ⟨_, _, _, hh, by decide, by decide, by decide⟩))).trans hh, rest⟩
theorem own_block3 {w : World} {base n g cap : Nat} {xs : List Value} (h : w.ownsRow base 3 1 (.slice (some ⟨g, 0, none⟩) n cap) n xs) : ∃ cs, w.heap[g]? = some (.cells cs 3 (0, 0)) := by
  rcases h.2 with ⟨h0, _⟩ | ⟨g', cap', cur, hv, hg, hh, rest⟩
  · cases h0
  · simp only [Value.slice.injEq, Option.some.injEq, Addr.mk.injEq] at hv
    exact ⟨cur, by rw [hv.1.1]; exact hh⟩
/-- Under way: so many sets are made. -/
structure WSt (av : Nat → Prop) (w : World) (B pb mb sb : Nat) (L : List Ab) (ov : Value) (e : Int) (sn : Nat) (DS : DataW Unit) (row : List Int) (k : Nat) (W : World) : Prop where
  pool : Pool (fun k => av k ∨ k = w.heap.size) W B pb mb sb (wordL L row k) ov e sn DS
  own : W.ownsRow w.heap.size 3 1 (.slice (some ⟨w.heap.size, 0, none⟩) row.length row.length) row.length (intV (wordRow L row k))
  fr : Fr B mb sb w W
theorem wst_step {w : World} {B pb mb sb : Nat} {L : List Ab} {ov : Value} {e : Int} {sn : Nat} {DS : DataW Unit} {row : List Int} {k : Nat} {W W2 : World} (hk : k < row.length) (h : WSt av w B pb mb sb L ov e sn DS row k W) (hf : Fr B mb sb W W2) (hp : Pool (fun k => av k ∨ k = w.heap.size) W2 B pb mb sb (setL (wordL L row k) [(row.getD k 0, row.getD k 0)]) ov e sn DS) :
    (∃ u, W2.cell? ⟨w.heap.size, k, none⟩ = some u) ∧ W2.frozen? ⟨w.heap.size, k, none⟩ = false ∧ WSt av w B pb mb sb L ov e sn DS row (k + 1) (W2.setCell ⟨w.heap.size, k, none⟩ (.int .i64 (wordX L row k))) := by
  have ho := own_fr h.own hf
  have hl : k < (intV (wordRow L row k)).length := by rw [intV_length, wordRow_len]; exact hk
  obtain ⟨cs, hcs⟩ := own_block3 ho
  obtain ⟨s1, s2⟩ := ho.stored k (.int .i64 (wordX L row k))
  rw [wordRow_set L row k hk] at s1
  have hfr := fr_t h.fr hf
  refine ⟨⟨_, own_cell ho rfl k hl⟩, frozen_block hcs k, ?_, s1, ?_⟩
  · rw [wordL_succ L row k hk]
    exact pool_row hp hcs (.inr rfl) _
  · exact ⟨hfr.os, hfr.tape, hfr.output, by simpa using hfr.size, fun j hj hs => (Below.heap_setCell W2 ⟨w.heap.size, k, none⟩ _ j (fun e => by simp only at e; omega)).trans (hfr.block j hj hs)⟩
def wordA (L : List Ab) (row : List Int) : List Ab × Int := catA (wordL L row row.length) (wordRow L row row.length)
set_option maxHeartbeats 4000000 in
set_option maxRecDepth 100000 in
theorem word_any (w : World) (B pb mb sb : Nat) (L : List Ab) (ov : Value) (e : Int) (sn : Nat) (DS : DataW Unit) (hP : Pool av w B pb mb sb L ov e sn DS) (h2 : 2 ≤ L.length) (a : Option Addr) (c : Nat) (row : List Int) (hl : row.length ≤ 1048576) (hcap : (L.length + row.length) * (row.length + 1) < 1500000000000) (hrr : IRow w a row) (hrh : ∀ x, a = some x → Stay B mb sb w x.block) (hav : ∀ k, av k → k < w.heap.size) :
    Calls Tryz.prog 18 #[.pointer (some ⟨pb, 0, none⟩), .slice a row.length c] w fun e' w' => e' = .returned (.int .i64 (wordA L row).2) ∧ Pool av w' B pb mb sb (wordA L row).1 ov e sn DS ∧ Fr B mb sb w w' := by
  obtain ⟨i0, hi, hz0, hz1, hz2⟩ := info_parts hint
  have hmk := run_makeSlice (P := Tryz.prog) w 63 3 i0 _ Tryz.underlying63 hi hz0 .i64 .i64 (row.length : Int) (row.length : Int) (by omega) (Int.le_refl _) (by rw [hz1]; simp; omega) (by rw [hz2]; simp; omega) (by omega)
  rw [Int.toNat_natCast, hz1, Nat.mul_one] at hmk
  have hlts := pool_mb_lt hP
  have hb0 : Below w.heap.size w (w.alloc (.cells (madeCells (Value.int .i64 0).cells row.length) 3)) := (Below.refl _ _).alloc (Nat.le_refl _) _
  have hW0 : WSt av w B pb mb sb L ov e sn DS row 0 (w.alloc (.cells (madeCells (Value.int .i64 0).cells row.length) 3)) := by
    refine ⟨pool_below (pool_av0 hP (fun k hk ha => by rcases ha with ha | ha; exact ha; omega)) hb0, ?_, fr_below hb0⟩
    have h1 := World.ownsRow_lit (e := 3) (size := 1) (base := w.heap.size) w (madeCells (Value.int .i64 0).cells row.length) row.length (Nat.le_refl _) (by unfold maxLen; omega) (by rw [size_madeCells, Nat.mul_one])
    have h3 : (madeCells (Value.int .i64 0).cells row.length).toList = intV (wordRow L row 0) := by
      rw [show (Value.int .i64 0).cells = #[.int .i64 0] from rfl, toList_madeCells_one]
      unfold intV wordRow
      rw [List.map_map]
      refine List.ext_getElem? fun i => ?_
      by_cases hi : i < row.length
      · rw [List.getElem?_map, List.getElem?_range hi, List.getElem?_replicate, if_pos hi]
        simp
      · rw [List.getElem?_eq_none (by simpa using hi), List.getElem?_eq_none (by simpa using hi)]
    rw [h3] at h1
    exact h1
  have hb : Hid (∀ W, Fr B mb sb w W → IRow W a row) := hide (fun W hf => by
    rcases hrr with h | ⟨g, off, rfl, hlt, hcs⟩
    · exact .inl h
    · have hb := hf.block g hlt (hrh _ rfl)
      exact .inr ⟨g, off, rfl, Nat.lt_of_lt_of_le hlt hf.size, fun j hj => (World.cell?_of_block (a := ⟨g, off + j, none⟩) hb).trans (hcs j hj)⟩)
  have HW0 := hide hW0
  clear hW0 hb0 hP hrr hrh
  go_enter Tryz.func18, Tryz.ntmps18
  go_wp2
  go_loopw [13] (fun iv wr => ∃ k : Nat, iv = .int .i64 k ∧ k ≤ row.length ∧ WSt av w B pb mb sb L ov e sn DS row k wr) (fun iv _ => row.length - (intOf iv).toNat)
  case atStart => exact ⟨0, rfl, Nat.zero_le _, unhide HW0⟩
  case round =>
    obtain ⟨k, rfl, hk, hst⟩ := hrel
    clear HW0 hmk
    have hwl := wordL_len L row k hk
    have hmul : row.length * 1 ≤ (L.length + row.length) * (row.length + 1) := Nat.mul_le_mul (by omega) (by omega)
    have hmul2 : (L.length + row.length) * 1 ≤ (L.length + row.length) * (row.length + 1) := Nat.mul_le_mul (Nat.le_refl _) (by omega)
    have hsz := hst.fr.size
    by_cases hlt : k < row.length
    · have hlt' : (k : Int) < row.length := by omega
      rcases unhide hb wr hst.fr with h | ⟨g, off, rfl, hgl, hcs⟩
      · rw [h] at hlt; simp at hlt
      have c0 := hcs k hlt
      have hkl : w.heap.size < wr.heap.size := by
        obtain ⟨cs, h⟩ := own_block3 hst.own
        exact lt_of_some h
      have hbr : Below wr.heap.size wr (wr.alloc (.cells #[.int .i32 (row.getD k 0), .int .i32 (row.getD k 0)] 45)) := (Below.refl _ _).alloc (Nat.le_refl _) _
      have hnb : (wr.alloc (.cells #[.int .i32 (row.getD k 0), .int .i32 (row.getD k 0)] 45)).heap[wr.heap.size]? = some (.cells #[.int .i32 (row.getD k 0), .int .i32 (row.getD k 0)] 45 (0, 0)) := (MapKept.heap_alloc wr _).1
      have HS := hide (set_any _ B pb mb sb (wordL L row k) ov e sn DS (pool_below hst.pool hbr) (by have := hbr.size; omega) (some ⟨wr.heap.size, 0, none⟩) 1 [(row.getD k 0, row.getD k 0)] (by simp) (.inr ⟨wr.heap.size, 0, rfl, lt_of_some hnb, fun j hj => by
          obtain rfl : j = 0 := by simp at hj; omega
          exact ⟨cell_block hnb 0 _ rfl, cell_block hnb 1 _ rfl⟩⟩) (fun y hy => by
          cases hy
          exact ⟨lt_of_some hnb, .inr ⟨_, 45, _, hnb, .inr rfl⟩, fun ha => by
            rcases ha with ha | ha
            · have := hav _ ha; simp only at this; omega
            · simp only at ha; omega⟩) (by omega))
      have HST := hide (fun W2 hf hp => wst_step (W2 := W2) hlt hst (fr_t (fr_below hbr) hf) hp)
      have hwx : (setX (wordL L row k) [(row.getD k 0, row.getD k 0)] : Int) = wordX L row k := rfl
      rw [hwx] at HS
      have hst' := hst.own.1
      clear hcs hst hbr hnb hwx
      generalize row.getD k 0 = y at *
      generalize wordX L row k = xx at *
      go_wp2_with fail
      refine (unhide HS).mono ?_
      rintro e2 W2 ⟨rfl, hp2, hf2⟩
      obtain ⟨⟨u, d0⟩, f0, hst2⟩ := unhide HST W2 hf2 hp2
      have Hst2 := hide hst2
      clear hst2 hp2 hf2 HS HST
      go_wp2
      go_roundw
      case rel => exact ⟨k + 1, by go_num, by omega, unhide Hst2⟩
      case measure => simp [intOf]; omega
    · obtain rfl : k = row.length := by omega
      have hlt' : ¬ ((row.length : Int) < row.length) := by omega
      have hL2 := wordRow_len L row row.length
      have hcap2 : (wordL L row row.length).length * (row.length + 1) < 1500000000000 := Nat.lt_of_le_of_lt (Nat.mul_le_mul_right _ hwl.2) hcap
      have HC := hide (cat_any wr B pb mb sb (wordL L row row.length) ov e sn DS hst.pool (by omega) (some ⟨w.heap.size, 0, none⟩) row.length (wordRow L row row.length) (by omega) (by rw [hL2]; exact hcap2) (wordRow_mem (by omega)) (nrow_own hst.own hL2.symm) (held_own hst.own (fun _ _ h => h)) (fun j hj => by
        rcases hj with hj | hj
        · have := hav _ hj; omega
        · obtain ⟨cs, h⟩ := own_block3 hst.own
          have := lt_of_some h
          omega))
      rw [hL2] at HC
      have Hfr := hide hst.fr
      clear hst
      go_wp2_with fail
      refine (unhide HC).mono ?_
      rintro e2 W2 ⟨rfl, hp2, hf2⟩
      have Hp2 := hide (pool_av0 hp2 (av' := av) (fun _ _ ha => .inl ha)); have Hf2 := hide (fr_t (unhide Hfr) hf2)
      clear hp2 hf2
      go_wp2
      go_ret
      exact ⟨rfl, unhide Hp2, unhide Hf2⟩
end Go.Proofs.YtkimhfajfbcdmaaGreatDoor

/- The library's Compact and Equal at []int at this program: their bodies are the ones that the library's contracts speak of. -/
namespace Go.Proofs
open Go.Shelf
def Tryz.laysNm220_ren : Go.Shelf.Ren := ⟨fun | 20 => 100 | n => n, fun | 22 => 63 | 3 => 3 | 4 => 4 | 0 => 0 | n => n, fun | n => n⟩
theorem Tryz.laysNm220 : Go.Proofs.Lays2.n20 Tryz.prog Tryz.laysNm220_ren := {
  mixed := by kernel_rfl
  f20 := Tryz.func100.trans (congrArg some (by kernel_rfl))
  t0 := Tryz.underlying0
  a0 := Tryz.isAgg0
  z0 := Tryz.sizeOf0
  v0 := Tryz.zeroValue0
  t3 := Tryz.underlying3
  a3 := Tryz.isAgg3
  z3 := Tryz.sizeOf3
  v3 := Tryz.zeroValue3
  t4 := Tryz.underlying4
  a4 := Tryz.isAgg4
  z4 := Tryz.sizeOf4
  v4 := Tryz.zeroValue4
  t22 := Tryz.underlying63
  a22 := Tryz.isAgg63
  z22 := Tryz.sizeOf63
  v22 := Tryz.zeroValue63
  i3 := by kernel_rfl }
def Tryz.lays111_ren : Go.Shelf.Ren := ⟨fun | 111 => 79 | n => n, fun | 28 => 63 | 3 => 3 | 4 => 4 | 0 => 0 | n => n, fun | n => n⟩
theorem Tryz.lays111 : Go.Proofs.Lays.n111 Tryz.prog Tryz.lays111_ren := {
  mixed := by kernel_rfl
  f111 := Tryz.func79.trans (congrArg some (by kernel_rfl))
  t0 := Tryz.underlying0
  a0 := Tryz.isAgg0
  z0 := Tryz.sizeOf0
  v0 := Tryz.zeroValue0
  t3 := Tryz.underlying3
  a3 := Tryz.isAgg3
  z3 := Tryz.sizeOf3
  v3 := Tryz.zeroValue3
  t4 := Tryz.underlying4
  a4 := Tryz.isAgg4
  z4 := Tryz.sizeOf4
  v4 := Tryz.zeroValue4
  t28 := Tryz.underlying63
  a28 := Tryz.isAgg63
  z28 := Tryz.sizeOf63
  v28 := Tryz.zeroValue63 }
end Go.Proofs

/- Compact and Equal of rows of numbers. -/
namespace Go.Proofs.YtkimhfajfbcdmaaGreatDoor
open Go.RowKit Go.Sort

theorem holds_own {W : World} {B b cap : Nat} {xs : List Int} (h : W.ownsRow B 3 1 (.slice (some ⟨b, 0, none⟩) xs.length cap) xs.length (intV xs)) : Holds (Value.int .i64) W b 0 xs.toArray := fun j hj => by
  have hj' : j < xs.length := by simpa using hj
  rw [Nat.zero_add]
  refine ⟨?_, ?_⟩
  · rw [own_cell h rfl j (by rw [intV_length]; exact hj')]
    unfold intV
    simp [List.getD_eq_getElem?_getD, hj']
  · rcases h.2 with ⟨h1, _⟩ | ⟨g, cap', cur, h1, _, h3, _⟩
    · cases h1
    · simp only [Value.slice.injEq, Option.some.injEq, Addr.mk.injEq] at h1
      obtain ⟨⟨rfl, -⟩, -⟩ := h1
      exact frozen_block h3 j
theorem put_offI (W : World) (q b off : Nat) (d : Array Int) : Off (fun k => k = b) W (putRow (Value.int .i64) (Sort.ahead W q) b off d) :=
  ⟨rfl, rfl, rfl, by rw [size_putRow]; exact Nat.le_refl _, fun k _ hn => by
    show (W.heap.modify b _)[k]? = _
    rw [Array.getElem?_modify, if_neg (by omega)]⟩
theorem own_put {W : World} {B b cap : Nat} {xs : List Int} (h : W.ownsRow B 3 1 (.slice (some ⟨b, 0, none⟩) xs.length cap) xs.length (intV xs)) (q : Nat) (l m : List Int) (hl : (l ++ m).length = xs.length) :
    (putRow (Value.int .i64) (Sort.ahead W q) b 0 (l ++ m).toArray).ownsRow B 3 1 (.slice (some ⟨b, 0, none⟩) l.length cap) l.length (intV l) := by
  have hH := holds_own h
  rcases h.2 with ⟨h1, _⟩ | ⟨g, cap', cur, h1, hB, h3, hn, hm, hs, _⟩
  · cases h1
  simp only [Value.slice.injEq, Option.some.injEq, Addr.mk.injEq] at h1
  obtain ⟨⟨rfl, -⟩, -, rfl⟩ := h1
  have hl' : l.length + m.length = xs.length := by simpa using hl
  refine ⟨by rw [intV_length]; omega, .inr ⟨b, cap, putCells (Value.int .i64) 0 (l ++ m).toArray cur, rfl, hB, ?_, by omega, hm, by simpa [putCells] using hs, ?_⟩⟩
  · show (W.heap.modify b _)[b]? = _
    rw [Array.getElem?_modify, if_pos rfl, h3]
    rfl
  · refine List.ext_getElem? fun j => ?_
    by_cases hj : j < l.length
    · rw [List.getElem?_take_of_lt (by omega), Array.getElem?_toList]
      unfold putCells intV
      rw [Array.getElem?_mapIdx, Array.getElem?_eq_getElem (by omega), List.getElem?_map, List.getElem?_eq_getElem hj]
      simp only [Option.map_some]
      rw [if_pos ⟨Nat.zero_le _, by simp; omega⟩]
      simp [List.getElem?_append_left hj, hj]
    · rw [List.getElem?_eq_none (by simp; omega), List.getElem?_eq_none (by rw [intV_length]; omega)]

theorem compact_le (l : List Int) : (Lib.compact l).length ≤ l.length := by
  unfold Lib.compact Lib.compactUpTo
  rw [List.length_map]
  exact Nat.le_trans (List.length_filter_le _ _) (by simp)
theorem compactI_any (B : Nat) (a : Option Addr) (c : Nat) (xs : List Int) (hn : xs.length ≤ 281474976710656) (w : World) (h : w.ownsRow B 3 1 (.slice a xs.length c) xs.length (intV xs)) :
    Calls Tryz.prog 100 #[.slice a xs.length c] w fun e w' => e = .returned (.slice a (Lib.compact xs).length c) ∧ w'.ownsRow B 3 1 (.slice a (Lib.compact xs).length c) (Lib.compact xs).length (intV (Lib.compact xs)) ∧ Below B w w' := by
  by_cases h0 : xs.length = 0
  · obtain rfl : xs = [] := List.length_eq_zero_iff.1 h0
    have hc := Any.slices_Compact_int_empty Tryz.laysNm220 a c w
    refine hc.mono ?_
    rintro e w' ⟨rfl, rfl⟩
    exact ⟨rfl, h, Below.refl _ _⟩
  · obtain ⟨g, c', hv, hg, hlt, hle, hmx⟩ := own_pos h (by omega)
    simp only [Value.slice.injEq] at hv
    obtain ⟨rfl, -, rfl⟩ := hv
    have hc := Any.slices_Compact_int Tryz.laysNm220 g 0 c xs w (holds_own h) (by omega) hle
    refine hc.mono ?_
    rintro e w' ⟨rfl, q, rfl⟩
    have hcl := compact_le xs
    exact ⟨rfl, own_put h q (Lib.compact xs) _ (by simp; omega), off_to (off_mono (put_offI w q g 0 _) (O' := fun k => k = g) (fun i hi => .inl hi)) (fun i hi => by omega) (by omega)⟩
end Go.Proofs.YtkimhfajfbcdmaaGreatDoor

/- The library's Sort at []int at this program: its bodies are the ones that the library's contract speaks of. -/
namespace Go.Proofs
open Go.Shelf
def Tryz.lays189_ren : Go.Shelf.Ren := ⟨fun | 189 => 99 | 125 => 104 | 257 => 109 | 128 => 122 | 129 => 123 | 294 => 129 | 295 => 130 | 296 => 131 | 297 => 132 | 298 => 133 | 299 => 134 | 216 => 135 | 300 => 136 | 301 => 137 | 328 => 150 | 329 => 141 | 330 => 142 | 331 => 151 | 332 => 152 | 215 => 58 | 343 => 159 | n => n, fun | 28 => 63 | 3 => 3 | 46 => 126 | 0 => 0 | 51 => 111 | 53 => 153 | 4 => 4 | 183 => 146 | 182 => 145 | 131 => 86 | 5 => 5 | 9 => 9 | 218 => 164 | 222 => 168 | 228 => 175 | 229 => 108 | n => n, fun | n => n⟩
theorem Tryz.lays189 : Go.Proofs.Lays.n189 Tryz.prog Tryz.lays189_ren := {
  mixed := by kernel_rfl
  f125 := Tryz.func104.trans (congrArg some (by kernel_rfl))
  f128 := Tryz.func122.trans (congrArg some (by kernel_rfl))
  f129 := Tryz.func123.trans (congrArg some (by kernel_rfl))
  f189 := Tryz.func99.trans (congrArg some (by kernel_rfl))
  f215 := Tryz.func58.trans (congrArg some (by kernel_rfl))
  f216 := Tryz.func135.trans (congrArg some (by kernel_rfl))
  f257 := Tryz.func109.trans (congrArg some (by kernel_rfl))
  f294 := Tryz.func129.trans (congrArg some (by kernel_rfl))
  f295 := Tryz.func130.trans (congrArg some (by kernel_rfl))
  f296 := Tryz.func131.trans (congrArg some (by kernel_rfl))
  f297 := Tryz.func132.trans (congrArg some (by kernel_rfl))
  f298 := Tryz.func133.trans (congrArg some (by kernel_rfl))
  f299 := Tryz.func134.trans (congrArg some (by kernel_rfl))
  f300 := Tryz.func136.trans (congrArg some (by kernel_rfl))
  f301 := Tryz.func137.trans (congrArg some (by kernel_rfl))
  f328 := Tryz.func150.trans (congrArg some (by kernel_rfl))
  f329 := Tryz.func141.trans (congrArg some (by kernel_rfl))
  f330 := Tryz.func142.trans (congrArg some (by kernel_rfl))
  f331 := Tryz.func151.trans (congrArg some (by kernel_rfl))
  f332 := Tryz.func152.trans (congrArg some (by kernel_rfl))
  f343 := Tryz.func159.trans (congrArg some (by kernel_rfl))
  t0 := Tryz.underlying0
  a0 := Tryz.isAgg0
  z0 := Tryz.sizeOf0
  v0 := Tryz.zeroValue0
  t3 := Tryz.underlying3
  a3 := Tryz.isAgg3
  z3 := Tryz.sizeOf3
  v3 := Tryz.zeroValue3
  t4 := Tryz.underlying4
  a4 := Tryz.isAgg4
  z4 := Tryz.sizeOf4
  v4 := Tryz.zeroValue4
  t5 := Tryz.underlying5
  a5 := Tryz.isAgg5
  z5 := Tryz.sizeOf5
  v5 := Tryz.zeroValue5
  t9 := Tryz.underlying9
  a9 := Tryz.isAgg9
  z9 := Tryz.sizeOf9
  v9 := Tryz.zeroValue9
  t28 := Tryz.underlying63
  a28 := Tryz.isAgg63
  z28 := Tryz.sizeOf63
  v28 := Tryz.zeroValue63
  t46 := Tryz.underlying126
  a46 := Tryz.isAgg126
  z46 := Tryz.sizeOf126
  v46 := Tryz.zeroValue126
  t51 := Tryz.underlying111
  a51 := Tryz.isAgg111
  z51 := Tryz.sizeOf111
  v51 := Tryz.zeroValue111
  t53 := Tryz.underlying153
  a53 := Tryz.isAgg153
  z53 := Tryz.sizeOf153
  v53 := Tryz.zeroValue153
  t131 := Tryz.underlying86
  a131 := Tryz.isAgg86
  z131 := Tryz.sizeOf86
  v131 := Tryz.zeroValue86
  t182 := Tryz.underlying145
  a182 := Tryz.isAgg145
  z182 := Tryz.sizeOf145
  v182 := Tryz.zeroValue145
  t183 := Tryz.underlying146
  a183 := Tryz.isAgg146
  z183 := Tryz.sizeOf146
  v183 := Tryz.zeroValue146
  t218 := Tryz.underlying164
  a218 := Tryz.isAgg164
  z218 := Tryz.sizeOf164
  v218 := Tryz.zeroValue164
  t222 := Tryz.underlying168
  a222 := Tryz.isAgg168
  z222 := Tryz.sizeOf168
  v222 := Tryz.zeroValue168
  t228 := Tryz.underlying175
  a228 := Tryz.isAgg175
  z228 := Tryz.sizeOf175
  v228 := Tryz.zeroValue175
  t229 := Tryz.underlying108
  a229 := Tryz.isAgg108
  z229 := Tryz.sizeOf108
  v229 := Tryz.zeroValue108 }
end Go.Proofs

/- Sort of rows of numbers. -/
namespace Go.Proofs.YtkimhfajfbcdmaaGreatDoor
open Go.RowKit Go.Sort

theorem own_grow {W : World} {B n : Nat} {e : TypeId} {size : Nat} {v : Value} {xs : List Value} (h : W.ownsRow B e size v n xs) (os : Array Obj) : (grow W os).ownsRow B e size v n xs :=
  own_off (O := fun _ => False) h ⟨rfl, rfl, rfl, by rw [size_grow]; omega, fun _ hk _ => heap_grow_old W os hk⟩ (fun _ _ h => h)
theorem sortI_any (B : Nat) (a : Option Addr) (c : Nat) (xs : List Int) (hn : xs.length ≤ 281474976710656) (w : World) (h : w.ownsRow B 3 1 (.slice a xs.length c) xs.length (intV xs)) :
    Calls Tryz.prog 99 #[.slice a xs.length c] w fun e w' => e = .returned (.tuple #[]) ∧ w'.ownsRow B 3 1 (.slice a xs.length c) xs.length (intV (xs.mergeSort fun x y => decide (x ≤ y))) ∧ Below B w w' := by
  by_cases h0 : xs.length = 0
  · obtain rfl : xs = [] := List.length_eq_zero_iff.1 h0
    have hc := Any.slices_Sort_int_none Tryz.lays189 a c w
    refine hc.mono ?_
    rintro e w' ⟨rfl, rfl⟩
    exact ⟨rfl, by simpa using h, Below.refl _ _⟩
  · obtain ⟨g, c', hv, hg, hlt, hle, hmx⟩ := own_pos h (by omega)
    simp only [Value.slice.injEq] at hv
    obtain ⟨rfl, -, rfl⟩ := hv
    have hc := Any.slices_Sort_int Tryz.lays189 g 0 c xs w (holds_own h) hlt (by omega)
    refine hc.mono ?_
    rintro e w' ⟨rfl, q, os, rfl⟩
    have h1 := own_put h q (xs.mergeSort fun x y => decide (x ≤ y)) [] (by simp)
    rw [List.append_nil, List.length_mergeSort] at h1
    have hoff := put_offI w q g 0 (xs.mergeSort fun x y => decide (x ≤ y)).toArray
    refine ⟨rfl, own_grow h1 os, ?_⟩
    refine ⟨rfl, rfl, rfl, by rw [size_grow]; exact Nat.le_trans hoff.size (Nat.le_add_right _ _), fun k hk => ?_⟩
    rw [heap_grow_old _ os (by have := hoff.size; omega)]
    exact hoff.block k (by omega) (by omega)
end Go.Proofs.YtkimhfajfbcdmaaGreatDoor

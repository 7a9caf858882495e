/- runes: readRune and readRange where plain bytes stand. (and what it leads to) -/
import Derived.Test.YtkimhfajfbcdmaaGreatDoorQA
import Derived.Deep.RegionHeld3
/- runes: readRune and readRange where plain bytes stand. -/
namespace Go.Proofs.YtkimhfajfbcdmaaGreatDoor
open Go.RowKit Go.Maps

theorem heap_new (w : World) (o : Obj) : (w.alloc o).heap[w.heap.size]? = some o := heap_alloc_new w o
theorem set_self {w : World} {g i : Nat} {cs : Array Value} {t : TypeId} {v : Value} (h : w.heap[g]? = some (.cells cs t (0, 0))) (hi : cs[i]? = some v) : w.setCell ⟨g, i, none⟩ v = w := by
  unfold World.setCell
  have e : w.heap.modify g (fun | .cells c elem frozen => .cells (if (none : Option Nat).isSome then c else c.setIfInBounds i v) elem frozen | o => o) = w.heap := by
    apply Array.ext_getElem?
    intro k
    rw [Array.getElem?_modify]
    by_cases hk : g = k
    · subst hk
      rw [if_pos rfl, h]
      simp only [Option.map_some, Option.isSome_none, Bool.false_eq_true, if_false, Option.some.injEq, Obj.cells.injEq, and_true]
      apply Array.ext_getElem?
      intro j
      rw [Array.getElem?_setIfInBounds]
      by_cases hj : i = j
      · subst hj
        rw [if_pos rfl, hi]
        have : i < cs.size := (Array.getElem?_eq_some_iff.1 hi).1
        rw [if_pos this]
      · rw [if_neg hj]
    · rw [if_neg hk]
  exact congrArg (fun x => { w with heap := x }) e
theorem ne_empty (t : ByteArray) (h : 0 < t.size) : t.toList.isEmpty = false := by
  rw [ByteArray.toList_eq, List.isEmpty_eq_false_iff]
  intro e
  have h2 : t.data.toList.length = t.size := rfl
  rw [e] at h2
  simp at h2
  omega
set_option maxHeartbeats 1000000 in
set_option maxRecDepth 100000 in
theorem decode_plain (t : ByteArray) (c : Nat) (h0 : 0 < t.size) (hc : (t[0]'h0).toNat = c) (h128 : c < 128) (w : World) :
    Calls Tryz.prog 188 #[.string t] w fun e w' => e = .returned (.tuple #[.int .i32 c, .int .i64 1]) ∧ w = w' := by
  have hne := ne_empty t h0
  have h0' : (0 : Int) < t.size := by omega
  have i0 : ∀ w, (Instr.index 9 (.string t) (.int .i64 0)).run Tryz.prog w = .ok (.int .u8 (c : Int)) w := fun w => by
    rw [run_index_string w 9 t .i64 0 Tryz.underlying9, dif_pos (by omega)]
    simp [hc]
  have hc' : (c : Int) < 128 := by omega
  go_enter Tryz.func188, Tryz.ntmps188
  go_wp2
  refine bodyPost_ret (v := .tuple #[.int .i32 c, .int .i64 1]) (by simp [results, Tryz.results188, go_sem]) rfl ⟨rfl, rfl⟩
/-- Where one of some bytes is c. -/
def signB (signs : ByteArray) (c : Nat) : Bool := decide (0 ≤ Lib.indexByte signs.data.toList (UInt8.ofNat c))
set_option maxHeartbeats 1000000 in
set_option maxRecDepth 100000 in
theorem indexRune_plain (signs : ByteArray) (c : Nat) (h128 : c < 128) (w : World) :
    Calls Tryz.prog 194 #[.string signs, .int .i32 c] w fun e w' => e = .returned (.int .i64 (Lib.indexByte signs.data.toList (UInt8.ofNat c))) ∧ w = w' := by
  have hc' : (c : Int) < 128 := by omega
  have hc0 : (0 : Int) ≤ c := by omega
  have HI := hide (fun (W : World) => Any.strings_IndexByte Tryz.lays137 signs (c : Int) W)
  go_enter Tryz.func194, Tryz.ntmps194
  go_wp2_with fail
  refine (unhide HI _).mono ?_
  rintro e w1 ⟨rfl, rfl⟩
  go_wp2
  go_ret
  exact ⟨rfl, rfl⟩
set_option maxHeartbeats 1000000 in
set_option maxRecDepth 100000 in
theorem containsRune_plain (signs : ByteArray) (c : Nat) (h128 : c < 128) (w : World) :
    Calls Tryz.prog 189 #[.string signs, .int .i32 c] w fun e w' => e = .returned (.bool (signB signs c)) ∧ w = w' := by
  have HI := hide (indexRune_plain signs c h128)
  have HX : Hid (signB signs c = decide (0 ≤ Lib.indexByte signs.data.toList (UInt8.ofNat c))) := hide rfl
  go_enter Tryz.func189, Tryz.ntmps189
  go_wp2_with fail
  refine (unhide HI _).mono ?_
  rintro e w1 ⟨rfl, rfl⟩
  go_wp2
  go_ret
  exact ⟨by rw [unhide HX]; rfl, rfl⟩
/-- A rune of one byte that stands for itself in a set's text. -/
def plainB (c : Nat) : Bool := decide (32 < c) && decide (c < 127) && decide (c ≠ 92) && !signB ⟨#[91, 93, 45, 34]⟩ c
set_option maxHeartbeats 2000000 in
set_option maxRecDepth 100000 in
theorem readRune_plain (s : ByteArray) (p c : Nat) (hs : s.size ≤ 281474976710656) (hp : p < s.size) (hc : (s.data.getD p 0).toNat = c) (hpl : plainB c = true) (w : World) :
    Calls Tryz.prog 182 #[.string s, .int .i64 p] w fun e w' => e = .returned (.tuple #[.int .i32 c, .int .i64 ((p + 1 : Nat) : Int), .agg #[.int .i64 0, .int .i64 0]]) ∧ Below w.heap.size w w' := by
  simp only [plainB, Bool.and_eq_true, decide_eq_true_eq, Bool.not_eq_true', ne_eq] at hpl
  obtain ⟨⟨⟨h32, h127⟩, h92⟩, hsg⟩ := hpl
  have HB := hide (fun W => isByte_any s p 92 W)
  rw [show byteB s p 92 = false by unfold byteB; rw [hc, decide_eq_false h92, Bool.and_false]] at HB
  have hx : 0 < (s.extract p s.size).size := by simp; omega
  have HD := hide (decode_plain (s.extract p s.size) c hx (by rw [← hc, getD_get s p hp]; simp [ByteArray.getElem_extract]) (by omega))
  have HC := hide (containsRune_plain ⟨#[91, 93, 45, 34]⟩ c (by omega))
  rw [hsg] at HC
  have hp' : (p : Int) ≤ s.size := by omega
  have h65 : ((c : Int) == 65533) = false := by rw [beq_eq_false_iff_ne]; omega
  have h127' : ((c : Int) == 127) = false := by rw [beq_eq_false_iff_ne]; omega
  have h32' : ¬ (c : Int) ≤ 32 := by omega
  clear hc hsg h92 hx
  go_enter Tryz.func182, Tryz.ntmps182
  go_wp2_with fail
  refine (unhide HB _).mono ?_
  rintro e w1 ⟨rfl, hw⟩
  rw [← hw]
  clear hw w1
  go_wp2_with fail
  refine (unhide HD _).mono ?_
  rintro e w1 ⟨rfl, hw⟩
  rw [← hw]
  clear hw w1
  go_wp2_with fail
  refine (unhide HC _).mono ?_
  rintro e w1 ⟨rfl, hw⟩
  rw [← hw]
  clear hw w1
  have hF := heap_new w (.cells #[.int .i64 0, .int .i64 0] 49)
  have c0 := cell_block hF 0 _ rfl
  have c1 := cell_block hF 1 _ rfl
  have f0 := frozen_block hF 0
  have f1 := frozen_block hF 1
  have HBl := hide ((Below.refl w.heap.size w).alloc (Nat.le_refl _) (.cells #[.int .i64 0, .int .i64 0] 49))
  clear hF
  go_wp2
  refine bodyPost_ret (v := .tuple #[.int .i32 c, .int .i64 ((p + 1 : Nat) : Int), .agg #[.int .i64 0, .int .i64 0]]) (by simp [results, Tryz.results182, go_sem, c0, c1]) rfl ⟨rfl, ?_⟩
  exact unhide HBl
set_option maxHeartbeats 2000000 in
set_option maxRecDepth 100000 in
theorem readRange_plain (s : ByteArray) (p c1 c2 : Nat) (hs : s.size ≤ 281474976710656) (hp : p + 2 < s.size) (h1 : (s.data.getD p 0).toNat = c1) (hd : (s.data.getD (p + 1) 0).toNat = 45) (h2 : (s.data.getD (p + 2) 0).toNat = c2) (hp1 : plainB c1 = true) (hp2 : plainB c2 = true) (hle : c1 ≤ c2) (w : World) :
    Calls Tryz.prog 177 #[.string s, .int .i64 p] w fun e w' => e = .returned (.tuple #[.agg #[.int .i32 c1, .int .i32 c2], .int .i64 ((p + 3 : Nat) : Int), .agg #[.int .i64 0, .int .i64 0]]) ∧ Below w.heap.size w w' := by
  have HB := hide (fun W => isByte_any s (p + 1) 45 W)
  rw [show byteB s (p + 1) 45 = true by unfold byteB; rw [hd, decide_eq_true (by omega : p + 1 < s.size)]; rfl] at HB
  have HR1 := hide (fun W => readRune_plain s p c1 hs (by omega) h1 hp1 W)
  have HR2 := hide (fun W => readRune_plain s (p + 2) c2 hs hp h2 hp2 W)
  have hle' : ¬ (c2 : Int) < (c1 : Int) := by omega
  have qn := neq49_0
  have g49 := guard49
  clear h1 hd h2 hp1 hp2
  go_enter Tryz.func177, Tryz.ntmps177
  go_wp2_with fail
  refine (unhide HR1 _).mono ?_
  rintro e w1 ⟨rfl, hb1⟩
  have hs0 : (w.alloc (.cells #[.int .i32 0, .int .i32 0] 45)).heap.size = w.heap.size + 1 := by simp
  have hF0 := heap_new (w.alloc (.cells #[.int .i32 0, .int .i32 0] 45)) (.cells #[.int .i64 0, .int .i64 0] 49)
  rw [hs0] at hF0
  have hF := (hb1.block (w.heap.size + 1) (by simp)).trans hF0
  have hX := (hb1.block w.heap.size (by simp; omega)).trans ((Below.heap_alloc _ _ _ (by simp)).trans (heap_new w (.cells #[.int .i32 0, .int .i32 0] 45)))
  have hB1 : Below w.heap.size w w1 := (((Below.refl w.heap.size w).alloc (Nat.le_refl _) (.cells #[.int .i32 0, .int .i32 0] 45)).alloc (by simp) (.cells #[.int .i64 0, .int .i64 0] 49)).trans (hb1.mono (by simp; omega))
  have d0 := cell_block hF 0 _ rfl
  have d1 := cell_block hF 1 _ rfl
  have f0 := frozen_block hF 0
  have f1 := frozen_block hF 1
  have s0 := set_self (v := .int .i64 0) hF (i := 0) rfl
  have s1 := set_self (v := .int .i64 0) hF (i := 1) rfl
  have HF := hide hF; have HX := hide hX; have HB1 := hide hB1
  clear hs0 hF0 hF hX hB1 hb1 HR1
  go_wp2_with fail
  refine (unhide HB _).mono ?_
  rintro e w2 ⟨rfl, hw⟩
  rw [← hw]
  clear hw w2
  go_wp2_with fail
  refine (unhide HR2 _).mono ?_
  rintro e w2 ⟨rfl, hb2⟩
  have hF := (hb2.block (w.heap.size + 1) (lt_of_some (unhide HF))).trans (unhide HF)
  have hX := (hb2.block w.heap.size (lt_of_some (unhide HX))).trans (unhide HX)
  have HB2 := hide ((unhide HB1).trans (hb2.mono (unhide HB1).size))
  clear d0 d1 f0 f1 s0 s1 hb2 HF HX HB1 HB HR2
  have d0 := cell_block hF 0 _ rfl
  have d1 := cell_block hF 1 _ rfl
  have f0 := frozen_block hF 0
  have f1 := frozen_block hF 1
  have s0 := set_self (v := .int .i64 0) hF (i := 0) rfl
  have s1 := set_self (v := .int .i64 0) hF (i := 1) rfl
  have x0 := cell_block hX 0 _ rfl
  have x1 := cell_block hX 1 _ rfl
  have y0 := frozen_block hX 0
  have y1 := frozen_block hX 1
  clear hF hX
  go_wp2
  refine bodyPost_ret (v := .tuple #[.agg #[.int .i32 c1, .int .i32 c2], .int .i64 ((p + 3 : Nat) : Int), .agg #[.int .i64 0, .int .i64 0]]) (by simp [results, Tryz.results177, go_sem, d0, d1, x0, x1]; omega) rfl ⟨rfl, ?_⟩
  exact ((((unhide HB2).setCell (p := ⟨w.heap.size, 0, none⟩) (Nat.le_refl _) _).setCell (p := ⟨w.heap.size, 1, none⟩) (Nat.le_refl _) _).setCell (p := ⟨w.heap.size + 1, 0, none⟩) (Nat.le_succ _) _).setCell (p := ⟨w.heap.size + 1, 1, none⟩) (Nat.le_succ _) _
end Go.Proofs.YtkimhfajfbcdmaaGreatDoor

/- Pools: the key of a node. -/
namespace Go.Proofs.YtkimhfajfbcdmaaGreatDoor
open Go.RowKit Go.Maps

/-- Ranges. -/
abbrev Rg := Int × Int
/-- A row of ranges lies there; a row of numbers. -/
def RRow (w : World) (a : Option Addr) (l : List Rg) : Prop := l = [] ∨ ∃ g off, a = some ⟨g, off, none⟩ ∧ g < w.heap.size ∧ ∀ j, j < l.length → w.cell? ⟨g, off + j * 2, none⟩ = some (.int .i32 (l.getD j (0, 0)).1) ∧ w.cell? ⟨g, off + j * 2 + 1, none⟩ = some (.int .i32 (l.getD j (0, 0)).2)
def NRow (w : World) (a : Option Addr) (l : List Int) : Prop := l = [] ∨ ∃ g off, a = some ⟨g, off, none⟩ ∧ g < w.heap.size ∧ ∀ j, j < l.length → w.cell? ⟨g, off + j, none⟩ = some (.int .i64 (l.getD j 0))
def wU (x : Int) : Int := IntKind.u32.wrap x
/-- What no other node has. -/
def keyR (l : List Rg) : List Int := l.flatMap fun x => le4 (wU x.1) ++ le4 (wU x.2)
def keyK (l : List Int) : List Int := l.flatMap fun x => le4 (wU x)
def keyN (kind : Int) (set : List Rg) (kids : List Int) : List Int := [kind % 256] ++ keyR set ++ keyK kids
theorem keyR_len (l : List Rg) : (keyR l).length = 8 * l.length := by
  induction l with
  | nil => rfl
  | cons b l ih =>
    simp only [keyR, List.flatMap_cons, List.length_append, List.length_cons] at ih ⊢
    rw [ih]; simp [le4]; omega
theorem keyK_len (l : List Int) : (keyK l).length = 4 * l.length := by
  induction l with
  | nil => rfl
  | cons b l ih =>
    simp only [keyK, List.flatMap_cons, List.length_append, List.length_cons] at ih ⊢
    rw [ih]; simp [le4]; omega
theorem keyR_succ (l : List Rg) (k : Nat) (hk : k < l.length) : keyR (l.take (k + 1)) = keyR (l.take k) ++ (le4 (wU (l.getD k (0, 0)).1) ++ le4 (wU (l.getD k (0, 0)).2)) := by
  unfold keyR
  rw [List.take_add_one, List.getElem?_eq_getElem hk, List.flatMap_append, List.getD_eq_getElem?_getD, List.getElem?_eq_getElem hk]
  simp
theorem keyK_succ (l : List Int) (k : Nat) (hk : k < l.length) : keyK (l.take (k + 1)) = keyK (l.take k) ++ le4 (wU (l.getD k 0)) := by
  unfold keyK
  rw [List.take_add_one, List.getElem?_eq_getElem hk, List.flatMap_append, List.getD_eq_getElem?_getD, List.getElem?_eq_getElem hk]
  simp

/-- A row of bytes under way: what it is, and what has stayed. -/
structure KSt (B : Nat) (O : Nat → Prop) (w W : World) (g cap n : Nat) (L : List Int) : Prop where
  own : W.ownsRow B 5 1 (.slice (some ⟨g, 0, none⟩) n cap) n (byteV L)
  off : Off O w W
  gv : O g ∨ w.heap.size ≤ g
  base : B ≤ W.heap.size
  len : n = L.length
theorem kst_off {B : Nat} {O : Nat → Prop} {w W W' : World} {g cap n : Nat} {L : List Int} (h : KSt B O w W g cap n L) (hb : Below W.heap.size W W') : KSt B O w W' g cap n L :=
  ⟨own_off (O := fun _ => False) h.own (off_below hb) (fun _ _ h => h), off_t h.off (off_below hb), h.gv, Nat.le_trans h.base hb.size, h.len⟩
theorem kst_num {B : Nat} {O : Nat → Prop} {w W : World} {g cap n : Nat} {L : List Int} (h : KSt B O w W g cap n L) (hL : L.length ≤ 1073741824) (x : Int) :
    Calls Tryz.prog 68 #[.slice (some ⟨g, 0, none⟩) n cap, .int .u32 x] W fun e W' => ∃ g' cap', e = .returned (.slice (some ⟨g', 0, none⟩) (n + 4) cap') ∧ KSt B O w W' g' cap' (n + 4) (L ++ le4 x) ∧ ∀ (b : Nat) (cs : Array Value) (t : TypeId), t ≠ 5 → W.heap[b]? = some (.cells cs t (0, 0)) → W'.heap[b]? = some (.cells cs t (0, 0)) := by
  have hlen := h.len
  subst hlen
  refine (appNum_any B _ L hL x W h.base h.own).mono ?_
  rintro e W' ⟨g', cap', rfl, hown, ho, hg⟩
  have hO : ∀ k, (Value.slice (some ⟨g, 0, none⟩) L.length cap).ownBlock = some k → O k ∨ w.heap.size ≤ k := fun k hk => by
    simp only [Value.ownBlock, Option.some.injEq] at hk
    subst hk
    exact h.gv
  refine ⟨g', cap', rfl, ⟨hown, off_t' h.off ho hO, ?_, Nat.le_trans h.base ho.size, by simp [le4]⟩, fun b cs t ht hb => (ho.block b (lt_of_some hb) (fun e => row_not hb h.own (fun e => ht e.symm) e)).trans hb⟩
  rcases hg with hg | hg
  · exact hO g' hg
  · exact .inr (Nat.le_trans h.off.size hg)

set_option maxHeartbeats 4000000 in
set_option maxRecDepth 100000 in
theorem appKey_any (B : Nat) (v : Value) (w : World) (hB : B ≤ w.heap.size) (h : w.ownsRow B 5 1 v 0 []) (nb : Nat) (kind : Int) (sa ka : Option Addr) (sc kc : Nat) (set : List Rg) (kids : List Int) (u3 u4 u5 : Value) (hs : set.length ≤ 4096) (hk : kids.length ≤ 4096) (hn : w.heap[nb]? = some (.cells #[.int .i64 kind, .slice sa set.length sc, .slice ka kids.length kc, u3, u4, u5] 65 (0, 0))) (hsr : RRow w sa set) (hkr : NRow w ka kids) (hns : ∀ x, sa = some x → v.ownBlock ≠ some x.block) (hnk : ∀ x, ka = some x → v.ownBlock ≠ some x.block) :
    Calls Tryz.prog 42 #[.pointer (some ⟨nb, 0, none⟩), v] w fun e w' => ∃ g cap, e = .returned (.slice (some ⟨g, 0, none⟩) (1 + 8 * set.length + 4 * kids.length) cap) ∧ KSt B (fun k => v.ownBlock = some k) w w' g cap (1 + 8 * set.length + 4 * kids.length) (keyN kind set kids) := by
  obtain ⟨i0, hi, hz0, hz1, hz2⟩ := info_parts hbyte
  obtain ⟨va, vc, rfl⟩ := own_form h
  have hnn := row_not hn h (by decide)
  have c0 := cell_block hn 0 _ rfl
  have lN := lt_of_some hn
  have H := hide h; have Hn := hide hn; have Hsr := hide hsr; have Hkr := hide hkr; have Hns := hide hns; have Hnk := hide hnk; have Hnn := hide hnn
  clear h hn hsr hkr hns hnk hnn
  go_enter Tryz.func42, Tryz.ntmps42
  go_wp2_with (at_builtin; refine wpList_append_lies _ rfl _ _ 58 rfl B 5 i0 (.int .u8 0) 1 1 Tryz.underlying58 hi hz0 hz1 hz2 rfl (by decide) _ _ _ rfl ((unhide H).alloc _) ⟨w.heap.size, 0, none⟩ 1 1 (byteV [kind % 256]) rfl rfl ?n1 (byteV_one _) (by decide) (by decide) (by decide) (by simp; omega) (w.heap.size + 1) (by simp) ?_)
  case n1 =>
    have h := World.news_of_block (MapKept.heap_alloc w (.cells #[.int .u8 (kind % 256)] 5)).1
    simpa [byteV] using h
  intro g2 cap2 W2 hown2 hg2 hgv2 hgl2
  have ho2 : Off (fun k => (Value.slice va 0 vc).ownBlock = some k) w W2 := off_grown (off_alloc (off_refl _ _) _) hg2 (fun k hk => .inl hk)
  have hn2 : W2.heap[nb]? = _ := (ho2.block nb lN (fun e => (unhide Hnn) e)).trans (unhide Hn)
  have d1 := cell_block hn2 1 _ rfl
  have hk2 : KSt B (fun k => (Value.slice va 0 vc).ownBlock = some k) w W2 g2 cap2 1 ([kind % 256] ++ keyR (set.take 0)) := ⟨by simpa [keyR] using hown2, ho2, hgv2.imp id (fun h => by omega), Nat.le_trans hB ho2.size, rfl⟩
  have Hk2 := hide hk2; have Hn2 := hide hn2
  clear hown2 hg2 hgv2 ho2 hn2 H hgl2 hk2
  go_wp2
  go_loopw [22, 1] (fun x v1 wr => ∃ k g cap : Nat, x = .int .i64 k ∧ k ≤ set.length ∧ v1 = .slice (some ⟨g, 0, none⟩) (1 + 8 * k) cap ∧ KSt B (fun k => (Value.slice va 0 vc).ownBlock = some k) w wr g cap (1 + 8 * k) ([kind % 256] ++ keyR (set.take k))) (fun x _ _ => set.length - (intOf x).toNat)
  case atStart => exact ⟨0, g2, cap2, rfl, Nat.zero_le _, rfl, unhide Hk2⟩
  case round =>
    obtain ⟨k, g, cap, rfl, hkl, rfl, hst⟩ := hrel
    clear Hk2
    by_cases hlt : k < set.length
    · have hlt' : (k : Int) < set.length := by omega
      rcases unhide Hsr with h | ⟨gs, off, rfl, hgl, hc⟩
      · subst h; simp at hlt
      obtain ⟨d0, d1'⟩ := hc k hlt
      have hne : ¬ (Value.slice va 0 vc).ownBlock = some gs := unhide Hns _ rfl
      have e0 := (off_cell hst.off (p := ⟨gs, off + k * 2, none⟩) hgl hne).trans d0
      have e1 := (off_cell hst.off (p := ⟨gs, off + k * 2 + 1, none⟩) hgl hne).trans d1'
      have HS := hide (keyR_succ set k hlt)
      have hkr := keyR_len (set.take k)
      rw [List.length_take, Nat.min_eq_left (by omega)] at hkr
      clear d0 d1' hc
      generalize set.getD k (0, 0) = b at *
      obtain ⟨lo, hi'⟩ := b
      simp only at e0 e1 HS
      have hst1 : KSt B (fun k => (Value.slice va 0 vc).ownBlock = some k) w (wr.alloc (.cells #[.int .i32 lo, .int .i32 hi'] 45)).drew g cap (1 + 8 * k) ([kind % 256] ++ keyR (set.take k)) := kst_off hst (((Below.refl _ _).alloc (Nat.le_refl _) _).drew)
      have hx : (wr.alloc (.cells #[.int .i32 lo, .int .i32 hi'] 45)).drew.heap[wr.heap.size]? = some (.cells #[.int .i32 lo, .int .i32 hi'] 45 (0, 0)) := (MapKept.heap_alloc wr _).1
      have z0 := cell_block hx 0 _ rfl
      have z1 := cell_block hx 1 _ rfl
      have H1 := hide (kst_num hst1 (by simp; omega) (wU lo))
      have H2 := hide (fun W9 g9 cap9 (h9 : KSt B (fun k => (Value.slice va 0 vc).ownBlock = some k) w W9 g9 cap9 (1 + 8 * k + 4) (([kind % 256] ++ keyR (set.take k)) ++ le4 (wU lo))) => kst_num h9 (by simp [le4]; omega) (wU hi'))
      have Hx := hide hx
      clear hst hst1 hx
      generalize hul : wU lo = ul at *
      generalize huh : wU hi' = uh at *
      have hcl : IntKind.u32.wrap lo = ul := hul
      have hch : IntKind.u32.wrap hi' = uh := huh
      go_wp2
      go_region_held3 (fun w' : World => w'.cell? ⟨wr.heap.size, 0, none⟩ = some (.int .i32 lo) ∧ w'.cell? ⟨wr.heap.size, 1, none⟩ = some (.int .i32 hi'))
        (first | exact ⟨z0, z1⟩ | go_keep)
        ((first | (go_at_call 68; refine (unhide H1).mono ?_; rintro e W9 ⟨g9, cap9, rfl, hk9, hp9⟩; have hx9 := hp9 _ _ _ (by decide) (unhide Hx); have z0 := cell_block hx9 0 _ rfl; have z1 := cell_block hx9 1 _ rfl; have H3 := hide (unhide H2 W9 g9 cap9 hk9); have Hx := hide hx9; clear H1 hk9 hp9 hx9) | (go_at_call 68; refine (unhide H3).mono ?_; rintro e W9 ⟨g9, cap9, rfl, hk9, hp9⟩; have hx9 := hp9 _ _ _ (by decide) (unhide Hx); have z0 := cell_block hx9 0 _ rfl; have z1 := cell_block hx9 1 _ rfl; have Hk9 := hide hk9; clear H3 hk9 hp9 hx9)))
      all_goals
        go_wp2
        go_roundw
        case rel =>
          refine ⟨k + 1, g9, cap9, by go_num, by omega, by rw [show 1 + 8 * (k + 1) = 1 + 8 * k + 4 + 4 by omega], ?_⟩
          have h9 := unhide Hk9
          rw [show 1 + 8 * (k + 1) = 1 + 8 * k + 4 + 4 by omega, unhide HS, ← List.append_assoc, ← List.append_assoc]
          exact h9
        case measure => simp [intOf]; omega
    · obtain rfl : k = set.length := by omega
      have hlt' : ¬ ((set.length : Int) < set.length) := by omega
      rw [List.take_length] at hst
      have hn3 : wr.heap[nb]? = _ := (hst.off.block nb lN (fun e => (unhide Hnn) e)).trans (unhide Hn)
      have d2 := cell_block hn3 2 _ rfl
      have hkrl := keyR_len set
      have Hst := hide hst
      clear hst hn3 c0 d1
      generalize hKR : keyR set = KR at *
      go_wp2
      go_loopw [41, 1] (fun x v1 wr => ∃ k g cap : Nat, x = .int .i64 k ∧ k ≤ kids.length ∧ v1 = .slice (some ⟨g, 0, none⟩) (1 + 8 * set.length + 4 * k) cap ∧ KSt B (fun k => (Value.slice va 0 vc).ownBlock = some k) w wr g cap (1 + 8 * set.length + 4 * k) ([kind % 256] ++ KR ++ keyK (kids.take k))) (fun x _ _ => kids.length - (intOf x).toNat)
      case atStart => exact ⟨0, g, cap, rfl, Nat.zero_le _, rfl, by simpa [keyK] using unhide Hst⟩
      case round =>
        obtain ⟨k, g3, cap3, rfl, hkl3, rfl, hst⟩ := hrel
        clear Hst
        by_cases hlt : k < kids.length
        · have hlt2 : (k : Int) < kids.length := by omega
          rcases unhide Hkr with h | ⟨gs, off, rfl, hgl, hc⟩
          · subst h; simp at hlt
          have d0 := hc k hlt
          have hne : ¬ (Value.slice va 0 vc).ownBlock = some gs := unhide Hnk _ rfl
          have e0 := (off_cell hst.off (p := ⟨gs, off + k, none⟩) hgl hne).trans d0
          have HS := hide (keyK_succ kids k hlt)
          have hkk := keyK_len (kids.take k)
          rw [List.length_take, Nat.min_eq_left (by omega)] at hkk
          clear d0 hc
          generalize kids.getD k 0 = y at *
          have H1 := hide (kst_num hst (by simp; omega) (wU y))
          clear hst
          generalize huy : wU y = uy at *
          have hcy : IntKind.u32.wrap y = uy := huy
          go_wp2_with fail
          refine (unhide H1).mono ?_
          rintro e W9 ⟨g9, cap9, rfl, hk9, -⟩
          have Hk9 := hide hk9
          clear hk9 H1
          go_wp2
          go_roundw
          case rel =>
            refine ⟨k + 1, g9, cap9, by go_num, by omega, by rw [show 1 + 8 * set.length + 4 * (k + 1) = 1 + 8 * set.length + 4 * k + 4 by omega], ?_⟩
            have h9 := unhide Hk9
            rw [show 1 + 8 * set.length + 4 * (k + 1) = 1 + 8 * set.length + 4 * k + 4 by omega, unhide HS, ← List.append_assoc]
            exact h9
          case measure => simp [intOf]; omega
        · obtain rfl : k = kids.length := by omega
          have hlt2 : ¬ ((kids.length : Int) < kids.length) := by omega
          rw [List.take_length] at hst
          have Hst := hide hst
          clear hst
          go_wp2
          go_ret
          refine ⟨g3, cap3, rfl, ?_⟩
          unfold keyN
          rw [hKR]
          exact unhide Hst
end Go.Proofs.YtkimhfajfbcdmaaGreatDoor

/- runes: readRune and readRange where plain bytes stand. -/
import Derived.Test.YtkimhfajfbcdmaaGreatDoorI1
import Derived.Test.YtkimhfajfbcdmaaGreatDoorG1
namespace Go.Proofs.YtkimhfajfbcdmaaGreatDoor
open Go.RowKit Go.Maps

theorem heap_new (w : World) (o : Obj) : (w.alloc o).heap[w.heap.size]? = some o := heap_alloc_new w o
theorem set_self {w : World} {g i : Nat} {cs : Array Value} {t : TypeId} {v : Value} (h : w.heap[g]? = some (.cells cs t (0, 0))) (hi : cs[i]? = some v) : w.setCell ⟨g, i, none⟩ v = w := by
  unfold World.setCell
  have e : w.heap.modify g (fun | .cells c elem frozen => .cells (if (none : Option Nat).isSome then c else c.setIfInBounds i v) elem frozen | o => o) = w.heap := by
    apply Array.ext_getElem?
    intro k
    rw [Array.getElem?_modify]
    by_cases hk : g = k
    · subst hk
      rw [if_pos rfl, h]
      simp only [Option.map_some, Option.isSome_none, Bool.false_eq_true, if_false, Option.some.injEq, Obj.cells.injEq, and_true]
      apply Array.ext_getElem?
      intro j
      rw [Array.getElem?_setIfInBounds]
      by_cases hj : i = j
      · subst hj
        rw [if_pos rfl, hi]
        have : i < cs.size := (Array.getElem?_eq_some_iff.1 hi).1
        rw [if_pos this]
      · rw [if_neg hj]
    · rw [if_neg hk]
  exact congrArg (fun x => { w with heap := x }) e
theorem ne_empty (t : ByteArray) (h : 0 < t.size) : t.toList.isEmpty = false := by
  rw [ByteArray.toList_eq, List.isEmpty_eq_false_iff]
  intro e
  have h2 : t.data.toList.length = t.size := rfl
  rw [e] at h2
  simp at h2
  omega
set_option maxHeartbeats 1000000 in
set_option maxRecDepth 100000 in
theorem decode_plain (t : ByteArray) (c : Nat) (h0 : 0 < t.size) (hc : (t[0]'h0).toNat = c) (h128 : c < 128) (w : World) :
    Calls Tryz.prog 188 #[.string t] w fun e w' => e = .returned (.tuple #[.int .i32 c, .int .i64 1]) ∧ w = w' := by
  have hne := ne_empty t h0
  have h0' : (0 : Int) < t.size := by omega
  have i0 : ∀ w, (Instr.index 9 (.string t) (.int .i64 0)).run Tryz.prog w = .ok (.int .u8 (c : Int)) w := fun w => by
    rw [run_index_string w 9 t .i64 0 Tryz.underlying9, dif_pos (by omega)]
    simp [hc]
  have hc' : (c : Int) < 128 := by omega
  go_enter Tryz.func188, Tryz.ntmps188
  go_wp2
  refine bodyPost_ret (v := .tuple #[.int .i32 c, .int .i64 1]) (by simp [results, Tryz.results188, go_sem]) rfl ⟨rfl, rfl⟩
/-- Where one of some bytes is c. -/
def signB (signs : ByteArray) (c : Nat) : Bool := decide (0 ≤ Lib.indexByte signs.data.toList (UInt8.ofNat c))
set_option maxHeartbeats 1000000 in
set_option maxRecDepth 100000 in
theorem indexRune_plain (signs : ByteArray) (c : Nat) (h128 : c < 128) (w : World) :
    Calls Tryz.prog 194 #[.string signs, .int .i32 c] w fun e w' => e = .returned (.int .i64 (Lib.indexByte signs.data.toList (UInt8.ofNat c))) ∧ w = w' := by
  have hc' : (c : Int) < 128 := by omega
  have hc0 : (0 : Int) ≤ c := by omega
  have HI := hide (fun (W : World) => Any.strings_IndexByte Tryz.lays137 signs (c : Int) W)
  go_enter Tryz.func194, Tryz.ntmps194
  go_wp2_with fail
  refine (unhide HI _).mono ?_
  rintro e w1 ⟨rfl, rfl⟩
  go_wp2
  go_ret
  exact ⟨rfl, rfl⟩
set_option maxHeartbeats 1000000 in
set_option maxRecDepth 100000 in
theorem containsRune_plain (signs : ByteArray) (c : Nat) (h128 : c < 128) (w : World) :
    Calls Tryz.prog 189 #[.string signs, .int .i32 c] w fun e w' => e = .returned (.bool (signB signs c)) ∧ w = w' := by
  have HI := hide (indexRune_plain signs c h128)
  have HX : Hid (signB signs c = decide (0 ≤ Lib.indexByte signs.data.toList (UInt8.ofNat c))) := hide rfl
  go_enter Tryz.func189, Tryz.ntmps189
  go_wp2_with fail
  refine (unhide HI _).mono ?_
  rintro e w1 ⟨rfl, rfl⟩
  go_wp2
  go_ret
  exact ⟨by rw [unhide HX]; rfl, rfl⟩
/-- A rune of one byte that stands for itself in a set's text. -/
def plainB (c : Nat) : Bool := decide (32 < c) && decide (c < 127) && decide (c ≠ 92) && !signB ⟨#[91, 93, 45, 34]⟩ c
set_option maxHeartbeats 2000000 in
set_option maxRecDepth 100000 in
theorem readRune_plain (s : ByteArray) (p c : Nat) (hs : s.size ≤ 281474976710656) (hp : p < s.size) (hc : (s.data.getD p 0).toNat = c) (hpl : plainB c = true) (w : World) :
    Calls Tryz.prog 182 #[.string s, .int .i64 p] w fun e w' => e = .returned (.tuple #[.int .i32 c, .int .i64 ((p + 1 : Nat) : Int), .agg #[.int .i64 0, .int .i64 0]]) ∧ Below w.heap.size w w' := by
  simp only [plainB, Bool.and_eq_true, decide_eq_true_eq, Bool.not_eq_true', ne_eq] at hpl
  obtain ⟨⟨⟨h32, h127⟩, h92⟩, hsg⟩ := hpl
  have HB := hide (fun W => isByte_any s p 92 W)
  rw [show byteB s p 92 = false by unfold byteB; rw [hc, decide_eq_false h92, Bool.and_false]] at HB
  have hx : 0 < (s.extract p s.size).size := by simp; omega
  have HD := hide (decode_plain (s.extract p s.size) c hx (by rw [← hc, getD_get s p hp]; simp [ByteArray.getElem_extract]) (by omega))
  have HC := hide (containsRune_plain ⟨#[91, 93, 45, 34]⟩ c (by omega))
  rw [hsg] at HC
  have hp' : (p : Int) ≤ s.size := by omega
  have h65 : ((c : Int) == 65533) = false := by rw [beq_eq_false_iff_ne]; omega
  have h127' : ((c : Int) == 127) = false := by rw [beq_eq_false_iff_ne]; omega
  have h32' : ¬ (c : Int) ≤ 32 := by omega
  clear hc hsg h92 hx
  go_enter Tryz.func182, Tryz.ntmps182
  go_wp2_with fail
  refine (unhide HB _).mono ?_
  rintro e w1 ⟨rfl, hw⟩
  rw [← hw]
  clear hw w1
  go_wp2_with fail
  refine (unhide HD _).mono ?_
  rintro e w1 ⟨rfl, hw⟩
  rw [← hw]
  clear hw w1
  go_wp2_with fail
  refine (unhide HC _).mono ?_
  rintro e w1 ⟨rfl, hw⟩
  rw [← hw]
  clear hw w1
  have hF := heap_new w (.cells #[.int .i64 0, .int .i64 0] 49)
  have c0 := cell_block hF 0 _ rfl
  have c1 := cell_block hF 1 _ rfl
  have f0 := frozen_block hF 0
  have f1 := frozen_block hF 1
  have HBl := hide ((Below.refl w.heap.size w).alloc (Nat.le_refl _) (.cells #[.int .i64 0, .int .i64 0] 49))
  clear hF
  go_wp2
  refine bodyPost_ret (v := .tuple #[.int .i32 c, .int .i64 ((p + 1 : Nat) : Int), .agg #[.int .i64 0, .int .i64 0]]) (by simp [results, Tryz.results182, go_sem, c0, c1]) rfl ⟨rfl, ?_⟩
  exact unhide HBl
set_option maxHeartbeats 2000000 in
set_option maxRecDepth 100000 in
theorem readRange_plain (s : ByteArray) (p c1 c2 : Nat) (hs : s.size ≤ 281474976710656) (hp : p + 2 < s.size) (h1 : (s.data.getD p 0).toNat = c1) (hd : (s.data.getD (p + 1) 0).toNat = 45) (h2 : (s.data.getD (p + 2) 0).toNat = c2) (hp1 : plainB c1 = true) (hp2 : plainB c2 = true) (hle : c1 ≤ c2) (w : World) :
    Calls Tryz.prog 177 #[.string s, .int .i64 p] w fun e w' => e = .returned (.tuple #[.agg #[.int .i32 c1, .int .i32 c2], .int .i64 ((p + 3 : Nat) : Int), .agg #[.int .i64 0, .int .i64 0]]) ∧ Below w.heap.size w w' := by
  have HB := hide (fun W => isByte_any s (p + 1) 45 W)
  rw [show byteB s (p + 1) 45 = true by unfold byteB; rw [hd, decide_eq_true (by omega : p + 1 < s.size)]; rfl] at HB
  have HR1 := hide (fun W => readRune_plain s p c1 hs (by omega) h1 hp1 W)
  have HR2 := hide (fun W => readRune_plain s (p + 2) c2 hs hp h2 hp2 W)
  have hle' : ¬ (c2 : Int) < (c1 : Int) := by omega
  have qn := neq49_0
  have g49 := guard49
  clear h1 hd h2 hp1 hp2
  go_enter Tryz.func177, Tryz.ntmps177
  go_wp2_with fail
  refine (unhide HR1 _).mono ?_
  rintro e w1 ⟨rfl, hb1⟩
  have hs0 : (w.alloc (.cells #[.int .i32 0, .int .i32 0] 45)).heap.size = w.heap.size + 1 := by simp
  have hF0 := heap_new (w.alloc (.cells #[.int .i32 0, .int .i32 0] 45)) (.cells #[.int .i64 0, .int .i64 0] 49)
  rw [hs0] at hF0
  have hF := (hb1.block (w.heap.size + 1) (by simp)).trans hF0
  have hX := (hb1.block w.heap.size (by simp; omega)).trans ((Below.heap_alloc _ _ _ (by simp)).trans (heap_new w (.cells #[.int .i32 0, .int .i32 0] 45)))
  have hB1 : Below w.heap.size w w1 := (((Below.refl w.heap.size w).alloc (Nat.le_refl _) (.cells #[.int .i32 0, .int .i32 0] 45)).alloc (by simp) (.cells #[.int .i64 0, .int .i64 0] 49)).trans (hb1.mono (by simp; omega))
  have d0 := cell_block hF 0 _ rfl
  have d1 := cell_block hF 1 _ rfl
  have f0 := frozen_block hF 0
  have f1 := frozen_block hF 1
  have s0 := set_self (v := .int .i64 0) hF (i := 0) rfl
  have s1 := set_self (v := .int .i64 0) hF (i := 1) rfl
  have HF := hide hF; have HX := hide hX; have HB1 := hide hB1
  clear hs0 hF0 hF hX hB1 hb1 HR1
  go_wp2_with fail
  refine (unhide HB _).mono ?_
  rintro e w2 ⟨rfl, hw⟩
  rw [← hw]
  clear hw w2
  go_wp2_with fail
  refine (unhide HR2 _).mono ?_
  rintro e w2 ⟨rfl, hb2⟩
  have hF := (hb2.block (w.heap.size + 1) (lt_of_some (unhide HF))).trans (unhide HF)
  have hX := (hb2.block w.heap.size (lt_of_some (unhide HX))).trans (unhide HX)
  have HB2 := hide ((unhide HB1).trans (hb2.mono (unhide HB1).size))
  clear d0 d1 f0 f1 s0 s1 hb2 HF HX HB1 HB HR2
  have d0 := cell_block hF 0 _ rfl
  have d1 := cell_block hF 1 _ rfl
  have f0 := frozen_block hF 0
  have f1 := frozen_block hF 1
  have s0 := set_self (v := .int .i64 0) hF (i := 0) rfl
  have s1 := set_self (v := .int .i64 0) hF (i := 1) rfl
  have x0 := cell_block hX 0 _ rfl
  have x1 := cell_block hX 1 _ rfl
  have y0 := frozen_block hX 0
  have y1 := frozen_block hX 1
  clear hF hX
  go_wp2
  refine bodyPost_ret (v := .tuple #[.agg #[.int .i32 c1, .int .i32 c2], .int .i64 ((p + 3 : Nat) : Int), .agg #[.int .i64 0, .int .i64 0]]) (by simp [results, Tryz.results177, go_sem, d0, d1, x0, x1]; omega) rfl ⟨rfl, ?_⟩
  exact ((((unhide HB2).setCell (p := ⟨w.heap.size, 0, none⟩) (Nat.le_refl _) _).setCell (p := ⟨w.heap.size, 1, none⟩) (Nat.le_refl _) _).setCell (p := ⟨w.heap.size + 1, 0, none⟩) (Nat.le_succ _) _).setCell (p := ⟨w.heap.size + 1, 1, none⟩) (Nat.le_succ _) _
end Go.Proofs.YtkimhfajfbcdmaaGreatDoor

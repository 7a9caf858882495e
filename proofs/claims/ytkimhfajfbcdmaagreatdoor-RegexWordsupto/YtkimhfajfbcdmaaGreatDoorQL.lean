/- The reader: sees. (and what it leads to) -/
import Derived.Test.YtkimhfajfbcdmaaGreatDoorGC
import Derived.Test.YtkimhfajfbcdmaaGreatDoorS7
import Derived.Shelf.Small.Strs
import Derived.Deep.QuietTactic
import Derived.BigQuiet
/- The reader: sees. -/
namespace Go.Proofs.YtkimhfajfbcdmaaGreatDoor
open Go.RowKit Go.Maps

/-- A reader of a text. -/
def RdAt (w : World) (rb : Nat) (txt : ByteArray) (at' nx op : Int) (pv : Value) : Prop := w.heap[rb]? = some (.cells #[.string txt, .int .i64 at', .int .i64 nx, .int .i64 op, pv] 77 (0, 0))
def seesB (txt : ByteArray) (nx : Nat) (signs : ByteArray) : Bool := decide (nx < txt.size) && decide (0 ≤ Lib.indexByte signs.data.toList (txt.data.getD nx 0))
set_option maxHeartbeats 1000000 in
set_option maxRecDepth 100000 in
theorem sees_any (w : World) (rb : Nat) (txt : ByteArray) (at' : Int) (nx : Nat) (op : Int) (pv : Value) (hR : RdAt w rb txt at' nx op pv) (signs : ByteArray) :
    Calls Tryz.prog 85 #[.pointer (some ⟨rb, 0, none⟩), .string signs] w fun e w' => e = .returned (.bool (seesB txt nx signs)) ∧ ∃ q, w' = w.drewN q := by
  have c0 := cell_block hR 0 _ rfl
  have c2 := cell_block hR 2 _ rfl
  have HI := hide (fun (c : Int) (W : World) => Any.strings_IndexByte Tryz.lays137 signs c W)
  clear hR
  by_cases hlt : nx < txt.size
  · have hlt' : (nx : Int) < txt.size := by omega
    have hld : decide ((nx : Int) < txt.size) = true := decide_eq_true hlt'
    have HX : Hid (seesB txt nx signs = decide (0 ≤ Lib.indexByte signs.data.toList txt[nx])) := hide (by
      unfold seesB
      rw [decide_eq_true hlt, Bool.true_and]
      have h2 : nx < txt.data.size := hlt
      rw [show txt.data.getD nx 0 = txt[nx] by simp only [Array.getD]; rw [dif_pos h2]; rfl])
    go_enter Tryz.func85, Tryz.ntmps85
    go_wp2
    go_quiet ((go_at_call 97; exact Calls.quiet_of_same (unhide HI _ _)))
    go_wp2
    go_ret
    exact ⟨by rw [unhide HX]; rfl, _, rfl⟩
  · have hlt' : ¬ (nx : Int) < txt.size := by omega
    have hld : decide ((nx : Int) < txt.size) = false := decide_eq_false hlt'
    go_enter Tryz.func85, Tryz.ntmps85
    have HX : Hid (seesB txt nx signs = false) := hide (by unfold seesB; rw [decide_eq_false hlt, Bool.false_and])
    have hln : decide (nx < txt.size) = false := decide_eq_false hlt
    go_wp2
    go_quiet (fail)
    go_wp2
    go_ret
    exact ⟨by rw [unhide HX]; rfl, _, rfl⟩
set_option maxRecDepth 100000 in
theorem leave_any (w : World) (rb : Nat) (txt : ByteArray) (at' nx : Int) (op : Nat) (hop : op ≤ 64) (pv : Value) (hR : RdAt w rb txt at' nx (op + 1) pv) :
    Calls Tryz.prog 107 #[.pointer (some ⟨rb, 0, none⟩)] w fun e w' => (∃ v, e = .returned v) ∧ w' = w.setCell ⟨rb, 3, none⟩ (.int .i64 op) := by
  have c3 := cell_block hR 3 _ rfl
  have f3 := frozen_block hR 3
  clear hR
  go_enter Tryz.func107, Tryz.ntmps107
  go_wp2
  go_end0
  exact ⟨⟨_, rfl⟩, by simp⟩
end Go.Proofs.YtkimhfajfbcdmaaGreatDoor

/- The reader: move. -/
namespace Go.Proofs.YtkimhfajfbcdmaaGreatDoor
open Go.RowKit Go.Maps

def blankT : ByteArray := ⟨#[32, 9, 10, 13]⟩
def skipF (txt : ByteArray) : Nat → Nat → Nat
  | 0, k => k
  | n + 1, k => if seesB txt k blankT then skipF txt n (k + 1) else k
def skipN (txt : ByteArray) (k : Nat) : Nat := skipF txt (txt.size - k) k
theorem skipN_step (txt : ByteArray) (k : Nat) (h : seesB txt k blankT = true) : skipN txt k = skipN txt (k + 1) := by
  have hk : k < txt.size := by unfold seesB at h; simp at h; exact h.1
  unfold skipN
  obtain ⟨n, hn⟩ : ∃ n, txt.size - k = n + 1 := ⟨txt.size - k - 1, by omega⟩
  rw [hn, show txt.size - (k + 1) = n by omega]
  simp only [skipF]
  rw [if_pos h]
theorem skipN_end (txt : ByteArray) (k : Nat) (h : seesB txt k blankT = false) : skipN txt k = k := by
  unfold skipN
  cases txt.size - k with
  | zero => rfl
  | succ n => simp [skipF, h]
def nextOf (rb : Nat) (w : World) : Nat := match w.cell? ⟨rb, 2, none⟩ with
  | some (.int _ n) => n.toNat
  | _ => 0
theorem rd_next {w : World} {rb : Nat} {txt : ByteArray} {at' nx op : Int} {pv : Value} (h : RdAt w rb txt at' nx op pv) : nextOf rb w = nx.toNat := by
  unfold nextOf
  rw [cell_block h 2 _ rfl]
  rfl
theorem rd_set2 {w : World} {rb : Nat} {txt : ByteArray} {at' nx op : Int} {pv : Value} (h : RdAt w rb txt at' nx op pv) (n : Int) : RdAt (w.setCell ⟨rb, 2, none⟩ (.int .i64 n)) rb txt at' n op pv ∧ Off (fun k => k = rb) w (w.setCell ⟨rb, 2, none⟩ (.int .i64 n)) :=
  ⟨block_set (i := 2) h _, off_set (O := fun k => k = rb) (off_refl _ w) (p := ⟨rb, 2, none⟩) (.inl rfl) _⟩
theorem rd_set1 {w : World} {rb : Nat} {txt : ByteArray} {at' nx op : Int} {pv : Value} (h : RdAt w rb txt at' nx op pv) (n : Int) : RdAt (w.setCell ⟨rb, 1, none⟩ (.int .i64 n)) rb txt n nx op pv ∧ Off (fun k => k = rb) w (w.setCell ⟨rb, 1, none⟩ (.int .i64 n)) :=
  ⟨block_set (i := 1) h _, off_set (O := fun k => k = rb) (off_refl _ w) (p := ⟨rb, 1, none⟩) (.inl rfl) _⟩
theorem rd_drew {w : World} {rb : Nat} {txt : ByteArray} {at' nx op : Int} {pv : Value} (q : Nat) (h : RdAt w rb txt at' nx op pv) : RdAt (w.drewN q) rb txt at' nx op pv := h
theorem off_drewN {O : Nat → Prop} {a w : World} (q : Nat) (h : Off O a w) : Off O a (w.drewN q) := ⟨h.os, h.tape, h.output, h.size, h.block⟩
set_option maxHeartbeats 1000000 in
set_option maxRecDepth 100000 in
theorem move_any (w : World) (rb : Nat) (txt : ByteArray) (htx : txt.size ≤ 281474976710656) (at' nx op : Int) (pv : Value) (hR : RdAt w rb txt at' nx op pv) (en : Nat) (hen : en ≤ txt.size) :
    Calls Tryz.prog 86 #[.pointer (some ⟨rb, 0, none⟩), .int .i64 en] w fun e w' => (∃ v, e = .returned v) ∧ RdAt w' rb txt en (skipN txt en) op pv ∧ Off (fun k => k = rb) w w' := by
  have c0 := cell_block hR 0 _ rfl
  have c1 := cell_block hR 1 _ rfl
  have c2 := cell_block hR 2 _ rfl
  have f1 := frozen_block hR 1
  have f2 := frozen_block hR 2
  have h1 := rd_set1 hR en
  have h2 := rd_set2 h1.1 en
  have H0 := hide (And.intro h2.1 (off_t h1.2 h2.2))
  have HI := hide (fun (c : Int) (W : World) => Any.strings_IndexByte Tryz.lays137 ⟨#[32, 9, 10, 13]⟩ c W)
  clear hR h1 h2
  go_enter Tryz.func86, Tryz.ntmps86
  go_wp2_with fail
  go_loopw [] (fun wr => ∃ k : Nat, k ≤ txt.size ∧ RdAt wr rb txt en k op pv ∧ skipN txt k = skipN txt en ∧ Off (fun k => k = rb) w wr) (fun wr => txt.size - nextOf rb wr)
  case atStart => exact ⟨en, hen, (unhide H0).1, rfl, (unhide H0).2⟩
  case round =>
    obtain ⟨k, hk, hR, hsk, hoff⟩ := hrel
    have d0 := cell_block hR 0 _ rfl
    have d2 := cell_block hR 2 _ rfl
    have g2 := frozen_block hR 2
    have HR := hide hR; have Hoff := hide hoff
    clear hR hoff
    by_cases hlt : k < txt.size
    · have hlt' : (k : Int) < txt.size := by omega
      have hsb : seesB txt k blankT = decide (0 ≤ Lib.indexByte [32, 9, 10, 13] txt[k]) := by
        unfold seesB
        rw [decide_eq_true hlt, Bool.true_and]
        have h2 : k < txt.data.size := hlt
        rw [show txt.data.getD k 0 = txt[k] by simp only [Array.getD]; rw [dif_pos h2]; rfl]
        rfl
      by_cases hz : 0 ≤ Lib.indexByte [32, 9, 10, 13] txt[k]
      · have hzd : decide (0 ≤ Lib.indexByte [32, 9, 10, 13] txt[k]) = true := decide_eq_true hz
        rw [hzd] at hsb
        have Hst := hide ((skipN_step txt k hsb).symm.trans hsk)
        clear hsb hsk
        go_wp2
        go_quiet ((go_at_call 97; exact Calls.quiet_of_same (unhide HI _ _)))
        go_wp2_with fail
        have hs := rd_set2 (rd_drew nq (unhide HR)) ((k : Int) + 1)
        exact ⟨⟨k + 1, by omega, by exact_mod_cast hs.1, unhide Hst, off_t (off_drewN _ (unhide Hoff)) hs.2⟩, by rw [rd_next hs.1, rd_next (unhide HR)]; omega⟩
      · have hzd : decide (0 ≤ Lib.indexByte [32, 9, 10, 13] txt[k]) = false := decide_eq_false hz
        rw [hzd] at hsb
        have Hst := hide ((skipN_end txt k hsb).symm.trans hsk)
        clear hsb hsk
        go_wp2
        go_quiet ((go_at_call 97; exact Calls.quiet_of_same (unhide HI _ _)))
        go_wp2_with fail
        go_end0
        exact ⟨⟨_, rfl⟩, by rw [← unhide Hst]; exact rd_drew _ (unhide HR), off_drewN _ (unhide Hoff)⟩
    · have hlt' : ¬ (k : Int) < txt.size := by omega
      have hsb : seesB txt k blankT = false := by unfold seesB; rw [decide_eq_false hlt, Bool.false_and]
      have hld : decide (k < txt.size) = false := decide_eq_false hlt
      have Hst := hide ((skipN_end txt k hsb).symm.trans hsk)
      clear hsb hsk
      go_wp2
      go_quiet (fail)
      go_wp2_with fail
      go_end0
      exact ⟨⟨_, rfl⟩, by rw [← unhide Hst]; exact rd_drew _ (unhide HR), off_drewN _ (unhide Hoff)⟩
end Go.Proofs.YtkimhfajfbcdmaaGreatDoor

/- The reader: takes, enter. -/
namespace Go.Proofs.YtkimhfajfbcdmaaGreatDoor
open Go.RowKit Go.Maps

set_option maxHeartbeats 1000000 in
set_option maxRecDepth 100000 in
theorem takes_no (w : World) (rb : Nat) (txt : ByteArray) (at' : Int) (nx : Nat) (op : Int) (pv : Value) (hR : RdAt w rb txt at' nx op pv) (sign : ByteArray) (hs : seesB txt nx sign = false) :
    Calls Tryz.prog 75 #[.pointer (some ⟨rb, 0, none⟩), .string sign] w fun e w' => e = .returned (.bool false) ∧ ∃ q, w' = w.drewN q := by
  have HS := hide (sees_any w rb txt at' nx op pv hR sign)
  rw [hs] at HS
  clear hR hs
  go_enter Tryz.func75, Tryz.ntmps75
  go_wp2_with fail
  refine (unhide HS).mono ?_
  rintro e w' ⟨rfl, q, hw⟩
  obtain rfl := hw
  go_wp2
  go_ret
  exact ⟨rfl, q, rfl⟩
set_option maxHeartbeats 1000000 in
set_option maxRecDepth 100000 in
theorem takes_yes (w : World) (rb : Nat) (txt : ByteArray) (htx : txt.size ≤ 281474976710656) (at' : Int) (nx : Nat) (op : Int) (pv : Value) (hR : RdAt w rb txt at' nx op pv) (sign : ByteArray) (hs : seesB txt nx sign = true) :
    Calls Tryz.prog 75 #[.pointer (some ⟨rb, 0, none⟩), .string sign] w fun e w' => e = .returned (.bool true) ∧ RdAt w' rb txt ((nx + 1 : Nat) : Int) (skipN txt (nx + 1)) op pv ∧ Off (fun k => k = rb) w w' := by
  have hlt : nx < txt.size := by unfold seesB at hs; simp at hs; exact hs.1
  have HS := hide (sees_any w rb txt at' nx op pv hR sign)
  rw [hs] at HS
  have HR := hide hR
  clear hR hs
  go_enter Tryz.func75, Tryz.ntmps75
  go_wp2_with fail
  refine (unhide HS).mono ?_
  rintro e w' ⟨rfl, q, hw⟩
  have hR1 := rd_drew q (unhide HR)
  rw [← hw] at hR1
  have c2 := cell_block hR1 2 _ rfl
  have HM := hide (move_any w' rb txt htx at' nx op pv hR1 (nx + 1) (by omega))
  have Hw : Hid (Off (fun k => k = rb) w w') := hide (by rw [hw]; exact off_drewN q (off_refl _ w))
  clear hw hR1
  rw [Int.natCast_succ] at HM
  go_wp2_with fail
  refine (unhide HM).mono ?_
  rintro e2 w2 ⟨⟨v, rfl⟩, hr2, ho2⟩
  have Hr2 := hide hr2; have Ho2 := hide (off_t (unhide Hw) ho2)
  clear hr2 ho2
  go_wp2
  go_ret
  exact ⟨rfl, unhide Hr2, unhide Ho2⟩
end Go.Proofs.YtkimhfajfbcdmaaGreatDoor

/- The reader: enter, must, newReader. -/
namespace Go.Proofs.YtkimhfajfbcdmaaGreatDoor
open Go.RowKit Go.Maps

theorem rd_set3 {w : World} {rb : Nat} {txt : ByteArray} {at' nx op : Int} {pv : Value} (h : RdAt w rb txt at' nx op pv) (n : Int) : RdAt (w.setCell ⟨rb, 3, none⟩ (.int .i64 n)) rb txt at' nx n pv ∧ Off (fun k => k = rb) w (w.setCell ⟨rb, 3, none⟩ (.int .i64 n)) :=
  ⟨block_set (i := 3) h _, off_set (O := fun k => k = rb) (off_refl _ w) (p := ⟨rb, 3, none⟩) (.inl rfl) _⟩
set_option maxHeartbeats 1000000 in
set_option maxRecDepth 100000 in
theorem enter_any (w : World) (rb : Nat) (txt : ByteArray) (htx : txt.size ≤ 281474976710656) (at' : Int) (nx op : Nat) (hop : op < 64) (hnx : nx < txt.size) (pv : Value) (hR : RdAt w rb txt at' nx op pv) :
    Calls Tryz.prog 106 #[.pointer (some ⟨rb, 0, none⟩)] w fun e w' => (∃ v, e = .returned v) ∧ RdAt w' rb txt ((nx + 1 : Nat) : Int) (skipN txt (nx + 1)) ((op + 1 : Nat) : Int) pv ∧ Off (fun k => k = rb) w w' := by
  have c2 := cell_block hR 2 _ rfl
  have c3 := cell_block hR 3 _ rfl
  have f3 := frozen_block hR 3
  have h3 := rd_set3 hR ((op : Int) + 1)
  have HM := hide (move_any _ rb txt htx at' nx ((op : Int) + 1) pv h3.1 (nx + 1) (by omega))
  have Ho := hide h3.2
  have hne : ((op : Int) == 64) = false := by rw [beq_eq_false_iff_ne]; omega
  rw [Int.natCast_succ] at HM
  clear hR h3
  go_enter Tryz.func106, Tryz.ntmps106
  go_wp2_with fail
  refine (unhide HM).mono ?_
  rintro e2 w2 ⟨⟨v, rfl⟩, hr2, ho2⟩
  have Hr2 := hide hr2; have Ho2 := hide (off_t (unhide Ho) ho2)
  clear hr2 ho2
  go_wp2
  go_end0
  exact ⟨⟨_, rfl⟩, by rw [Int.natCast_succ op]; exact unhide Hr2, unhide Ho2⟩
set_option maxHeartbeats 1000000 in
set_option maxRecDepth 100000 in
theorem must_yes (w : World) (rb : Nat) (txt : ByteArray) (htx : txt.size ≤ 281474976710656) (at' : Int) (nx : Nat) (op : Int) (pv : Value) (hR : RdAt w rb txt at' nx op pv) (sign : ByteArray) (hs : seesB txt nx sign = true) :
    Calls Tryz.prog 145 #[.pointer (some ⟨rb, 0, none⟩), .string sign] w fun e w' => (∃ v, e = .returned v) ∧ RdAt w' rb txt ((nx + 1 : Nat) : Int) (skipN txt (nx + 1)) op pv ∧ Off (fun k => k = rb) w w' := by
  have HT := hide (takes_yes w rb txt htx at' nx op pv hR sign hs)
  clear hR hs
  go_enter Tryz.func145, Tryz.ntmps145
  go_wp2_with fail
  refine (unhide HT).mono ?_
  rintro e2 w2 ⟨rfl, hr2, ho2⟩
  have Hr2 := hide hr2; have Ho2 := hide ho2
  clear hr2 ho2
  go_wp2
  go_end0
  exact ⟨⟨_, rfl⟩, unhide Hr2, unhide Ho2⟩
set_option maxHeartbeats 1000000 in
set_option maxRecDepth 100000 in
theorem newReader_any (w : World) (txt : ByteArray) (n : Int) :
    Calls Tryz.prog 34 #[.string txt, .int .i64 n] w fun e' w' => ∃ rb pb mb sb, e' = .returned (.pointer (some ⟨rb, 0, none⟩)) ∧ w.heap.size ≤ rb ∧ RdAt w' rb txt n n 0 (.pointer (some ⟨pb, 0, none⟩)) ∧ Pool (fun _ => False) w' w.heap.size pb mb sb base3 (cmpV pb) 0 0 (.map []) ∧ Below w.heap.size w w' := by
  have HN := hide (newPool_any w)
  go_enter Tryz.func34, Tryz.ntmps34
  go_wp2_with fail
  refine (unhide HN).mono ?_
  rintro e1 w1 ⟨pb, mb, sb, rfl, hp1, hb1⟩
  have Hp1 := hide hp1; have Hb1 := hide hb1
  clear hp1 hb1
  go_wp2
  go_ret
  exact ⟨w1.heap.size, pb, mb, sb, rfl, (unhide Hb1).size, (MapKept.heap_alloc w1 _).1, pool_below (unhide Hp1) ((Below.refl _ _).alloc (Nat.le_refl _) _), (unhide Hb1).alloc (unhide Hb1).size _⟩
end Go.Proofs.YtkimhfajfbcdmaaGreatDoor

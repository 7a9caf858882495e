/- Rows of names, tokens and numbers; names. -/
import Derived.Test.YtkckcnjamlpadabDoorQ1
import Derived.Maps.OwnSet
import Derived.Deep.AppendLies
import Derived.Laws.Strings
namespace Go.Proofs.YtkckcnjamlpadabDoor
open Go.RowKit Go.Maps

/-- A text, of its bytes. -/
def bs (l : List UInt8) : ByteArray := ⟨⟨l⟩⟩
theorem bs_size (l : List UInt8) : (bs l).size = l.length := rfl
theorem bs_of (s : ByteArray) : bs s.data.toList = s := rfl
theorem bs_inj {a b : List UInt8} (h : bs a = bs b) : a = b := congrArg (fun x : ByteArray => x.data.toList) h
theorem bs_toList (l : List UInt8) : (bs l).toList = l := by rw [ByteArray.toList_eq]; rfl
theorem bs_ne {a b : List UInt8} (h : a ≠ b) : ((bs a).toList == (bs b).toList) = false := by
  rw [beq_eq_false_iff_ne, bs_toList, bs_toList]; exact h
theorem lt_of_some {w : World} {b : Nat} {o : Obj} (h : w.heap[b]? = some o) : b < w.heap.size := (Array.getElem?_eq_some_iff.1 h).1
theorem index_bt (s : ByteArray) (j : Nat) (h : j < s.size) (w : World) : (Instr.index 9 (.string s) (.int .i64 (j : Int))).run Tryd.prog w = .ok (.int .u8 (bt s j : Int)) w := by
  rw [run_index_string w 9 s .i64 (j : Int) Tryd.underlying9, dif_pos (by omega)]
  simp [bt_get s j h]

abbrev T3 := Int × Int × Int
/-- A row of texts lies there. -/
def SRow (w : World) (a : Option Addr) (l : List (List UInt8)) : Prop :=
  l = [] ∨ ∃ b off, a = some ⟨b, off, none⟩ ∧ b < w.heap.size ∧ ∀ j, j < l.length → w.cell? ⟨b, off + j, none⟩ = some (.string (bs (l.getD j [])))
/-- A row of tokens lies there. -/
def TRow (w : World) (a : Option Addr) (l : List T3) : Prop :=
  l = [] ∨ ∃ b off, a = some ⟨b, off, none⟩ ∧ b < w.heap.size ∧ ∀ j, j < l.length → w.cell? ⟨b, off + j * 3, none⟩ = some (.int .i64 (l.getD j (0, 0, 0)).1) ∧ w.cell? ⟨b, off + j * 3 + 1, none⟩ = some (.int .i64 (l.getD j (0, 0, 0)).2.1) ∧ w.cell? ⟨b, off + j * 3 + 2, none⟩ = some (.int .i64 (l.getD j (0, 0, 0)).2.2)
/-- A row of numbers lies there. -/
def NRow (w : World) (a : Option Addr) (l : List Int) : Prop :=
  l = [] ∨ ∃ b off, a = some ⟨b, off, none⟩ ∧ b < w.heap.size ∧ ∀ j, j < l.length → w.cell? ⟨b, off + j, none⟩ = some (.int .i64 (l.getD j 0))
theorem srow_below {w w' : World} {a : Option Addr} {l : List (List UInt8)} (h : SRow w a l) {B : Nat} (hB : w.heap.size ≤ B) (hb : Below B w w') : SRow w' a l := by
  rcases h with rfl | ⟨b, off, rfl, hlt, hc⟩
  · exact .inl rfl
  · refine .inr ⟨b, off, rfl, Nat.lt_of_lt_of_le hlt hb.size, fun j hj => ?_⟩
    rw [hb.cell (by show b < B; omega)]
    exact hc j hj
theorem trow_below {w w' : World} {a : Option Addr} {l : List T3} (h : TRow w a l) {B : Nat} (hB : w.heap.size ≤ B) (hb : Below B w w') : TRow w' a l := by
  rcases h with rfl | ⟨b, off, rfl, hlt, hc⟩
  · exact .inl rfl
  · refine .inr ⟨b, off, rfl, Nat.lt_of_lt_of_le hlt hb.size, fun j hj => ?_⟩
    rw [hb.cell (by show b < B; omega), hb.cell (by show b < B; omega), hb.cell (by show b < B; omega)]
    exact hc j hj
theorem nrow_below {w w' : World} {a : Option Addr} {l : List Int} (h : NRow w a l) {B : Nat} (hB : w.heap.size ≤ B) (hb : Below B w w') : NRow w' a l := by
  rcases h with rfl | ⟨b, off, rfl, hlt, hc⟩
  · exact .inl rfl
  · refine .inr ⟨b, off, rfl, Nat.lt_of_lt_of_le hlt hb.size, fun j hj => ?_⟩
    rw [hb.cell (by show b < B; omega)]
    exact hc j hj
theorem srow_pos {w : World} {a : Option Addr} {l : List (List UInt8)} (h : SRow w a l) {k : Nat} (hk : k < l.length) : ∃ b off, a = some ⟨b, off, none⟩ ∧ b < w.heap.size ∧ ∀ j, j < l.length → w.cell? ⟨b, off + j, none⟩ = some (.string (bs (l.getD j []))) := by
  rcases h with rfl | h
  · simp at hk
  · exact h
theorem trow_pos {w : World} {a : Option Addr} {l : List T3} (h : TRow w a l) {k : Nat} (hk : k < l.length) : ∃ b off, a = some ⟨b, off, none⟩ ∧ b < w.heap.size ∧ ∀ j, j < l.length → w.cell? ⟨b, off + j * 3, none⟩ = some (.int .i64 (l.getD j (0, 0, 0)).1) ∧ w.cell? ⟨b, off + j * 3 + 1, none⟩ = some (.int .i64 (l.getD j (0, 0, 0)).2.1) ∧ w.cell? ⟨b, off + j * 3 + 2, none⟩ = some (.int .i64 (l.getD j (0, 0, 0)).2.2) := by
  rcases h with rfl | h
  · simp at hk
  · exact h

/-! ### Names -/
def letB (c : Nat) : Bool := decide ((65 ≤ c ∧ c ≤ 90) ∨ (97 ≤ c ∧ c ≤ 122) ∨ c = 95)
def digB (c : Nat) : Bool := decide (48 ≤ c ∧ c ≤ 57)
def allTo (s : ByteArray) (k : Nat) : Prop := ∀ i, i < k → letB (bt s i) = true ∨ digB (bt s i) = true
instance (s : ByteArray) (k : Nat) : Decidable (allTo s k) := by unfold allTo; infer_instance
def nameB (s : ByteArray) : Bool := decide (1 ≤ s.size ∧ s.size ≤ 64 ∧ digB (bt s 0) = false ∧ allTo s s.size)

set_option maxHeartbeats 400000 in
theorem isDigit_any (c : Nat) (w : World) : Calls Tryd.prog 41 #[.int .u8 (c : Int)] w fun e w' => e = .returned (.bool (digB c)) ∧ w = w' := by
  go_enter Tryd.func41, Tryd.ntmps41
  go_wp2
  all_goals (go_ret; refine ⟨ret_bool ?_, rfl⟩; unfold digB; rw [Bool.eq_iff_iff]; simp; omega)
set_option maxHeartbeats 400000 in
theorem isLetter_any (c : Nat) (w : World) : Calls Tryd.prog 42 #[.int .u8 (c : Int)] w fun e w' => e = .returned (.bool (letB c)) ∧ w = w' := by
  go_enter Tryd.func42, Tryd.ntmps42
  go_wp2
  all_goals (go_ret; refine ⟨ret_bool ?_, rfl⟩; unfold letB; rw [Bool.eq_iff_iff]; simp; omega)

set_option maxHeartbeats 1000000 in
set_option maxRecDepth 100000 in
theorem isName_any (s : ByteArray) (w : World) : Calls Tryd.prog 32 #[.string s] w fun e w' => e = .returned (.bool (nameB s)) ∧ w = w' := by
  by_cases h0 : s.size = 0
  · rw [show nameB s = false by unfold nameB; rw [decide_eq_false_iff_not]; omega]
    have h0' : ((s.size : Int) == 0) = true := by rw [beq_iff_eq]; omega
    go_enter Tryd.func32, Tryd.ntmps32
    go_wp2
    go_ret
    exact ⟨rfl, rfl⟩
  have h0' : ((s.size : Int) == 0) = false := by rw [beq_eq_false_iff_ne]; omega
  by_cases h1 : 64 < s.size
  · rw [show nameB s = false by unfold nameB; rw [decide_eq_false_iff_not]; omega]
    have h1' : (64 : Int) < s.size := by omega
    go_enter Tryd.func32, Tryd.ntmps32
    go_wp2
    go_ret
    exact ⟨rfl, rfl⟩
  have h1' : ¬ (64 : Int) < s.size := by omega
  have i0 : ∀ w, (Instr.index 9 (.string s) (.int .i64 0)).run Tryd.prog w = .ok (.int .u8 (bt s 0 : Int)) w := fun w => index_bt s 0 (by omega) w
  have HD := hide (isDigit_any (bt s 0))
  cases hd : digB (bt s 0)
  · rw [hd] at HD
    have Hn := hide (show nameB s = decide (allTo s s.size) by unfold nameB; rw [decide_eq_decide]; exact ⟨fun h => h.2.2.2, fun h => ⟨by omega, by omega, hd, h⟩⟩)
    clear hd h0
    generalize nameB s = R at *
    go_enter Tryd.func32, Tryd.ntmps32
    go_wp2_with fail
    refine (unhide HD _).mono ?_
    rintro e w' ⟨rfl, rfl⟩
    go_wp2
    go_loop [19] (fun x => ∃ k : Nat, x = .int .i64 k ∧ k ≤ s.size ∧ allTo s k) (fun x => s.size - (intOf x).toNat)
    case atStart => exact ⟨0, rfl, Nat.zero_le _, fun i hi => absurd hi (Nat.not_lt_zero _)⟩
    case round =>
      obtain ⟨k, rfl, hk, hall⟩ := hrel
      have Hall := hide hall
      clear hall
      by_cases hlt : k < s.size
      · have hlt' : (k : Int) < s.size := by omega
        have ik := index_bt s k hlt
        have HL := hide (isLetter_any (bt s k))
        have HD2 := hide (isDigit_any (bt s k))
        cases hl : letB (bt s k)
        · rw [hl] at HL
          cases hg : digB (bt s k)
          · rw [hg] at HD2
            have Hr : Hid (R = false) := hide (by
              rw [unhide Hn]; simp only [decide_eq_false_iff_not]
              intro h; rcases h k hlt with h | h
              · rw [hl] at h; cases h
              · rw [hg] at h; cases h)
            clear hl hg
            go_wp2_with fail
            refine (unhide HL _).mono ?_
            rintro e w' ⟨rfl, rfl⟩
            go_wp2_with fail
            refine (unhide HD2 _).mono ?_
            rintro e w' ⟨rfl, rfl⟩
            go_wp2
            go_ret
            rw [unhide Hr]
            exact ⟨rfl, rfl⟩
          · rw [hg] at HD2
            have Ha : Hid (allTo s (k + 1)) := hide (by
              intro i hi
              by_cases e : i = k
              · subst e; exact .inr hg
              · exact unhide Hall i (by omega))
            clear hl hg
            go_wp2_with fail
            refine (unhide HL _).mono ?_
            rintro e w' ⟨rfl, rfl⟩
            go_wp2_with fail
            refine (unhide HD2 _).mono ?_
            rintro e w' ⟨rfl, rfl⟩
            go_wp2
            go_round
            case rel => exact ⟨k + 1, by go_num, by omega, unhide Ha⟩
            case measure => simp [intOf]; omega
        · rw [hl] at HL
          have Ha : Hid (allTo s (k + 1)) := hide (by
            intro i hi
            by_cases e : i = k
            · subst e; exact .inl hl
            · exact unhide Hall i (by omega))
          clear hl
          go_wp2_with fail
          refine (unhide HL _).mono ?_
          rintro e w' ⟨rfl, rfl⟩
          go_wp2
          go_round
          case rel => exact ⟨k + 1, by go_num, by omega, unhide Ha⟩
          case measure => simp [intOf]; omega
      · obtain rfl : k = s.size := by omega
        have Hr : Hid (R = true) := hide (by rw [unhide Hn]; simp only [decide_eq_true_eq]; exact unhide Hall)
        go_wp2
        go_ret
        rw [unhide Hr]
        exact ⟨rfl, rfl⟩
  · rw [hd] at HD
    rw [show nameB s = false by simp [nameB, hd]]
    clear hd h0
    go_enter Tryd.func32, Tryd.ntmps32
    go_wp2_with fail
    refine (unhide HD _).mono ?_
    rintro e w' ⟨rfl, rfl⟩
    go_wp2
    go_ret
    exact ⟨rfl, rfl⟩
end Go.Proofs.YtkckcnjamlpadabDoor

/- Contracts of HasPrefix, isNone, plain, quotePart and Quote. -/
import Derived.Test.YtkckcnjamlpadabDoorRows
import Derived.Test.YtkckcnjamlpadabDoorM3
import Derived.WalkKit
import Derived.WalkSpells
import Derived.WalkLawsBesides
import Derived.Handy
import Derived.Below
import Derived.Lib.RuneBytes
import Derived.Lib.AppendStr
import Derived.Lib.OthersKept
import Derived.RegionTactic
import Derived.ChangeAlike
import Derived.Deep.RegionWith
namespace Go.Proofs.YtkckcnjamlpadabDoor
open Go.RowKit

theorem hide {p : Prop} (h : p) : Hid p := h
theorem unhide {p : Prop} (h : Hid p) : p := h
theorem ret_bool {a b : Bool} (h : a = b) : Ending.returned (.bool a) = .returned (.bool b) := by rw [h]

theorem hbyte : (Tryd.prog.info? 5).map (fun i => (i.zero, i.size, i.bytes)) = some (some (.int .u8 0), 1, 1) := by kernel_rfl

theorem own_to_string {w : World} {B : Nat} {v : Value} {l : List UInt8} (h : w.ownsRow B 5 1 v l.length (Lib.byteCells l)) :
    (convert 60 9 v).run Tryd.prog w = .ok (.string ⟨l.toArray⟩) w := by
  obtain ⟨hl, hh⟩ := h
  rcases hh with ⟨rfl, h0⟩ | ⟨g, cap, cur, rfl, hg, hheap, hn, hm, hcur, htk⟩
  · have : l = [] := List.length_eq_zero_iff.1 h0
    subst this
    rw [run_convert_bytes_nil w 60 5 Tryd.underlying60 Tryd.underlying5 0 0 9 Tryd.underlying9]
    rfl
  · refine run_convert_bytes_back w 60 9 5 _ _ _ Tryd.underlying60 Tryd.underlying5 Tryd.underlying9 ?_
    intro j hj
    refine World.ownsRow.cells (w := w) (base := B) (e := 5) (size := 1) (v := .slice (some ⟨g, 0, none⟩) l.length cap) (n := l.length) (xs := Lib.byteCells l) ⟨hl, Or.inr ⟨g, cap, cur, rfl, hg, hheap, hn, hm, hcur, htk⟩⟩ rfl j _ ?_
    simp [Lib.byteCells, hj]

set_option maxHeartbeats 400000 in
theorem hasPrefix_lite (s p : ByteArray) (w : World) :
    Calls Tryd.prog 86 #[.string s, .string p] w fun e w' => e = .returned (.bool (decide (p.size ≤ s.size) && ((s.extract 0 p.size).toList == p.toList))) ∧ w = w' := by
  go_enter Tryd.func86, Tryd.ntmps86
  go_wp2
  all_goals go_ret
  all_goals refine ⟨ret_bool ?_, rfl⟩
  · simp [*]
  · simp [*]
set_option maxHeartbeats 400000 in
theorem hasPrefix_any (s p : ByteArray) (w : World) :
    Calls Tryd.prog 77 #[.string s, .string p] w fun e w' => e = .returned (.bool (decide (p.size ≤ s.size) && ((s.extract 0 p.size).toList == p.toList))) ∧ w = w' := by
  go_enter Tryd.func77, Tryd.ntmps77
  go_wp2_with (go_at_call 86; refine (hasPrefix_lite s p _).mono ?_; rintro e w' ⟨rfl, rfl⟩)
  go_ret
  exact ⟨rfl, rfl⟩

set_option maxHeartbeats 400000 in
theorem isNone_no (s : ByteArray) (i : Nat) (r : Int) (hr : (r == 65533) = false) (w : World) :
    Calls Tryd.prog 64 #[.string s, .int .i64 i, .int .i32 r] w fun e w' => e = .returned (.bool false) ∧ w = w' := by
  go_enter Tryd.func64, Tryd.ntmps64
  go_wp2
  go_ret
  exact ⟨rfl, rfl⟩
set_option maxHeartbeats 400000 in
theorem isNone_std (s : ByteArray) (i : Nat) (hi : i ≤ s.size) (w : World) :
    Calls Tryd.prog 64 #[.string s, .int .i64 i, .int .i32 65533] w fun e w' => e = .returned (.bool (!pre3B s i)) ∧ w = w' := by
  go_enter Tryd.func64, Tryd.ntmps64
  go_wp2_with (go_at_call 77; refine (hasPrefix_any _ _ _).mono ?_; rintro e w' ⟨rfl, rfl⟩)
  go_ret
  refine ⟨ret_bool ?_, rfl⟩
  unfold pre3B
  rw [Bool.not_and]
theorem isNone_any (s : ByteArray) (i : Nat) (hi : i ≤ s.size) (w : World) :
    Calls Tryd.prog 64 #[.string s, .int .i64 i, .int .i32 (Utf8.decode s i).1] w fun e w' => e = .returned (.bool (noneB s i)) ∧ w = w' := by
  by_cases h : (Utf8.decode s i).1 = 65533
  · rw [none_std s i h, h]; exact isNone_std s i hi w
  · rw [none_no s i h]; exact isNone_no s i _ (by simp; omega) w


set_option maxHeartbeats 400000 in
theorem plain_low (s : ByteArray) (i : Nat) (r : Int) (h : r < 32) (w : World) :
    Calls Tryd.prog 50 #[.string s, .int .i64 i, .int .i32 r] w fun e w' => e = .returned (.bool false) ∧ w = w' := by
  go_enter Tryd.func50, Tryd.ntmps50
  go_wp2
  go_ret
  exact ⟨rfl, rfl⟩
set_option maxHeartbeats 400000 in
theorem plain_del (s : ByteArray) (i : Nat) (w : World) :
    Calls Tryd.prog 50 #[.string s, .int .i64 i, .int .i32 127] w fun e w' => e = .returned (.bool false) ∧ w = w' := by
  go_enter Tryd.func50, Tryd.ntmps50
  go_wp2
  go_ret
  exact ⟨rfl, rfl⟩
set_option maxHeartbeats 400000 in
theorem plain_else (s : ByteArray) (i : Nat) (r : Int) (b : Bool) (h : 32 ≤ r) (h2 : (r != 127) = true) (w : World)
    (H : Hid (∀ w, Calls Tryd.prog 64 #[.string s, .int .i64 i, .int .i32 r] w fun e w' => e = .returned (.bool b) ∧ w = w')) :
    Calls Tryd.prog 50 #[.string s, .int .i64 i, .int .i32 r] w fun e w' => e = .returned (.bool (!b)) ∧ w = w' := by
  go_enter Tryd.func50, Tryd.ntmps50
  go_wp2_with fail
  refine (unhide H _).mono ?_
  rintro e w' ⟨rfl, rfl⟩
  go_wp2
  go_ret
  exact ⟨rfl, rfl⟩
theorem plain_any (s : ByteArray) (i : Nat) (hi : i ≤ s.size) (w : World) :
    Calls Tryd.prog 50 #[.string s, .int .i64 i, .int .i32 (Utf8.decode s i).1] w fun e w' => e = .returned (.bool (plainB s i)) ∧ w = w' := by
  by_cases h1 : 32 ≤ (Utf8.decode s i).1
  · by_cases h2 : (Utf8.decode s i).1 = 127
    · rw [show plainB s i = false by simp [plainB, h2], h2]; exact plain_del s i w
    · rw [show plainB s i = !noneB s i by simp [plainB, h1, h2]]
      exact plain_else s i _ _ (by omega) (by simp; omega) w (hide (isNone_any s i hi))
  · rw [show plainB s i = false by simp [plainB, h1]]; exact plain_low s i _ (by omega) w

set_option maxHeartbeats 1000000 in
theorem part_short (v : ByteArray) (i : Nat) (r : Int) (l : List UInt8) (h : (r = 10 ∧ l = [92, 110]) ∨ (r = 9 ∧ l = [92, 116]) ∨ (r = 13 ∧ l = [92, 114]) ∨ (r = 34 ∧ l = [92, 34]) ∨ (r = 92 ∧ l = [92, 92])) (w : World) :
    Calls Tryd.prog 43 #[.string v, .int .i64 i, .int .i32 r] w fun e w' => e = .returned (.string ⟨l.toArray⟩) ∧ Below w.heap.size w w' := by
  rcases h with ⟨rfl, rfl⟩ | ⟨rfl, rfl⟩ | ⟨rfl, rfl⟩ | ⟨rfl, rfl⟩ | ⟨rfl, rfl⟩
  all_goals
    go_enter Tryd.func43, Tryd.ntmps43
    go_wp2
    go_ret
    exact ⟨rfl, Below.refl _ _⟩

set_option maxHeartbeats 1000000 in
theorem part_plain (v : ByteArray) (i : Nat) (r : Int) (g : ByteArray) (hg : Hid (Utf8.encode r = g)) (h1 : (r == 10) = false) (h2 : (r == 9) = false) (h3 : (r == 13) = false) (h4 : (r == 34) = false) (h5 : (r == 92) = false) (w : World)
    (H : Hid (∀ w, Calls Tryd.prog 50 #[.string v, .int .i64 i, .int .i32 r] w fun e w' => e = .returned (.bool true) ∧ w = w')) :
    Calls Tryd.prog 43 #[.string v, .int .i64 i, .int .i32 r] w fun e w' => e = .returned (.string g) ∧ Below w.heap.size w w' := by
  rw [← unhide hg]
  go_enter Tryd.func43, Tryd.ntmps43
  go_wp2_with fail
  refine (unhide H _).mono ?_
  rintro e w' ⟨rfl, rfl⟩
  go_wp2
  go_ret
  exact ⟨rfl, Below.refl _ _⟩


theorem digit_at (n : Nat) (h : n < 16) (w : World) : (Instr.index 9 (.string ⟨#[48, 49, 50, 51, 52, 53, 54, 55, 56, 57, 97, 98, 99, 100, 101, 102]⟩) (.int .u8 (n : Int))).run Tryd.prog w = .ok (.int .u8 ((hexD n).toNat : Int)) w := by
  have hn : n = 0 ∨ n = 1 ∨ n = 2 ∨ n = 3 ∨ n = 4 ∨ n = 5 ∨ n = 6 ∨ n = 7 ∨ n = 8 ∨ n = 9 ∨ n = 10 ∨ n = 11 ∨ n = 12 ∨ n = 13 ∨ n = 14 ∨ n = 15 := by omega
  rcases hn with rfl | rfl | rfl | rfl | rfl | rfl | rfl | rfl | rfl | rfl | rfl | rfl | rfl | rfl | rfl | rfl
  all_goals (show _ = _; kernel_rfl)

theorem convert_four (c d : UInt8) (w : World) :
    (convert 60 9 (.slice (some ⟨w.heap.size, 0, none⟩) 4 4)).run Tryd.prog (w.alloc (.cells #[.int .u8 92, .int .u8 120, .int .u8 c.toNat, .int .u8 d.toNat] 5)).drew = .ok (.string ⟨#[92, 120, c, d]⟩) (w.alloc (.cells #[.int .u8 92, .int .u8 120, .int .u8 c.toNat, .int .u8 d.toNat] 5)).drew := by
  refine run_convert_bytes_back _ 60 9 5 ⟨w.heap.size, 0, none⟩ 4 [92, 120, c, d] Tryd.underlying60 Tryd.underlying5 Tryd.underlying9 ?_
  intro j hj
  have e : (⟨w.heap.size, 0, none⟩ : Addr).add j = ⟨w.heap.size, j, none⟩ := by unfold Addr.add; split <;> simp_all
  rw [e]
  refine (World.cell?_alloc_mark w #[.int .u8 92, .int .u8 120, .int .u8 c.toNat, .int .u8 d.toNat] 5 (0, 0) j).trans ?_
  have hj4 : j < 4 := hj
  have hn : j = 0 ∨ j = 1 ∨ j = 2 ∨ j = 3 := by omega
  rcases hn with rfl | rfl | rfl | rfl <;> rfl

set_option maxHeartbeats 1000000 in
theorem part_hex (v : ByteArray) (i : Nat) (hi : i < v.size) (r : Int) (h1 : (r == 10) = false) (h2 : (r == 9) = false) (h3 : (r == 13) = false) (h4 : (r == 34) = false) (h5 : (r == 92) = false) (w : World)
    (H : Hid (∀ w, Calls Tryd.prog 50 #[.string v, .int .i64 i, .int .i32 r] w fun e w' => e = .returned (.bool false) ∧ w = w')) :
    Calls Tryd.prog 43 #[.string v, .int .i64 i, .int .i32 r] w fun e w' => e = .returned (.string ⟨#[92, 120, hexD (bt v i / 16), hexD (bt v i % 16)]⟩) ∧ Below w.heap.size w w' := by
  have hlt : (v[i]'hi).toNat < 256 := (v[i]'hi).toNat_lt
  have hand : bits .and .u8 (((v[i]'hi).toNat : Nat) : Int) 15 = (((v[i]'hi).toNat : Nat) : Int) % 16 := u8_and15 _ (by omega) (by omega)
  have x1 : ∀ w, (Instr.index 9 (.string ⟨#[48, 49, 50, 51, 52, 53, 54, 55, 56, 57, 97, 98, 99, 100, 101, 102]⟩) (.int .u8 ((((v[i]'hi).toNat : Nat) : Int) / 16))).run Tryd.prog w = .ok (.int .u8 ((hexD (bt v i / 16)).toNat : Int)) w := fun w => by
    rw [bt_get v i hi]; exact digit_at ((v[i]'hi).toNat / 16) (by omega) w
  have x2 : ∀ w, (Instr.index 9 (.string ⟨#[48, 49, 50, 51, 52, 53, 54, 55, 56, 57, 97, 98, 99, 100, 101, 102]⟩) (.int .u8 ((((v[i]'hi).toNat : Nat) : Int) % 16))).run Tryd.prog w = .ok (.int .u8 ((hexD (bt v i % 16)).toNat : Int)) w := fun w => by
    rw [bt_get v i hi]; exact digit_at ((v[i]'hi).toNat % 16) (by omega) w
  have x3 := convert_four (hexD (bt v i / 16)) (hexD (bt v i % 16)) w
  generalize hexD (bt v i / 16) = c at *
  generalize hexD (bt v i % 16) = d at *
  go_enter Tryd.func43, Tryd.ntmps43
  go_wp2_with fail
  refine (unhide H _).mono ?_
  rintro e w' ⟨rfl, rfl⟩
  go_wp2
  go_region
  all_goals (go_wp2; go_ret; exact ⟨rfl, ((Below.refl _ _).alloc (Nat.le_refl _) _).drew⟩)

theorem quotePart_any (v : ByteArray) (i : Nat) (hi : i < v.size) (w : World) :
    Calls Tryd.prog 43 #[.string v, .int .i64 i, .int .i32 (Utf8.decode v i).1] w fun e w' => e = .returned (.string ⟨(qpart v i).toArray⟩) ∧ Below w.heap.size w w' := by
  by_cases c1 : (Utf8.decode v i).1 = 10
  · exact part_short v i _ _ (Or.inl ⟨by omega, by simp [qpart, c1]⟩) w
  by_cases c2 : (Utf8.decode v i).1 = 9
  · exact part_short v i _ _ (Or.inr (Or.inl ⟨by omega, by simp [qpart, c2]⟩)) w
  by_cases c3 : (Utf8.decode v i).1 = 13
  · exact part_short v i _ _ (Or.inr (Or.inr (Or.inl ⟨by omega, by simp [qpart, c3]⟩))) w
  by_cases c4 : (Utf8.decode v i).1 = 34
  · exact part_short v i _ _ (Or.inr (Or.inr (Or.inr (Or.inl ⟨by omega, by simp [qpart, c4]⟩)))) w
  by_cases c5 : (Utf8.decode v i).1 = 92
  · exact part_short v i _ _ (Or.inr (Or.inr (Or.inr (Or.inr ⟨by omega, by simp [qpart, c5]⟩)))) w
  have H := plain_any v i (by omega)
  cases hp : plainB v i
  · rw [show qpart v i = [92, 120, hexD (bt v i / 16), hexD (bt v i % 16)] by simp [qpart, c1, c2, c3, c4, c5, hp]]
    rw [hp] at H
    exact part_hex v i hi _ (by simp; omega) (by simp; omega) (by simp; omega) (by simp; omega) (by simp; omega) w (hide H)
  · rw [show qpart v i = Lib.encodeRune ((Utf8.decode v i).1 : Int) by simp [qpart, c1, c2, c3, c4, c5, hp]]
    have hn : noneB v i = false := by simp only [plainB, Bool.and_eq_true, Bool.not_eq_true'] at hp; exact hp.2.2
    rw [hp] at H
    exact part_plain v i _ _ (hide (encode_eq _ (piece_rune v i hi hn).1)) (by simp; omega) (by simp; omega) (by simp; omega) (by simp; omega) (by simp; omega) w (hide H)

/-- A row of the call's own stays one while an iterator moves on. -/
theorem ownsRow_iter {w : World} {base : Nat} {e : TypeId} {size : Nat} {v : Value} {n : Nat} {xs : List Value} (h : w.ownsRow base e size v n xs) {k : Nat} {s : ByteArray} {p : Nat} (hk : w.heap[k]? = some (.stringIter s p)) (p' : Nat) : (w.iterAt k s p').ownsRow base e size v n xs := by
  refine ⟨h.1, ?_⟩
  rcases h.2 with hn | ⟨g, cap, cur, hv, hbg, hg, rest⟩
  · exact .inl hn
  · have hkg : g ≠ k := by
      intro e1
      rw [e1, hk] at hg
      cases hg
    exact .inr ⟨g, cap, cur, hv, hbg, (Lib.iterAt_other w k g s p' hkg).trans hg, rest⟩
/-- And an iterator stays where it is while such a row grows. -/
theorem iter_grown {w w' : World} {base : Nat} {e : TypeId} {size : Nat} {v : Value} {n : Nat} {xs : List Value} (h : w.ownsRow base e size v n xs) (hg : w.grownBy w' v.ownBlock) {k : Nat} {s : ByteArray} {p : Nat} (hk : w.heap[k]? = some (.stringIter s p)) : w'.heap[k]? = some (.stringIter s p) := by
  have hlt : k < w.heap.size := (Array.getElem?_eq_some_iff.1 hk).1
  rw [hg.block k hlt ?_]
  · exact hk
  · intro e1
    rcases h.2 with ⟨rfl, _⟩ | ⟨g, cap, cur, rfl, hbg, hgg, _⟩
    · simp [Value.ownBlock] at e1
    · simp [Value.ownBlock] at e1
      rw [← e1, hk] at hgg
      cases hgg
theorem iter_below {w w' : World} {B : Nat} (hb : Below B w w') {k : Nat} {s : ByteArray} {p : Nat} (hk : w.heap[k]? = some (.stringIter s p)) (hB : w.heap.size ≤ B) : w'.heap[k]? = some (.stringIter s p) := by
  have hlt : k < w.heap.size := (Array.getElem?_eq_some_iff.1 hk).1
  rw [hb.block k (by omega)]; exact hk
theorem ownsRow_below {w w' : World} {base : Nat} {e : TypeId} {size : Nat} {v : Value} {n : Nat} {xs : List Value} (h : w.ownsRow base e size v n xs) {B : Nat} (hb : Below B w w') (hB : w.heap.size ≤ B) : w'.ownsRow base e size v n xs := by
  refine ⟨h.1, ?_⟩
  rcases h.2 with hn | ⟨g, cap, cur, hv, hbg, hg, rest⟩
  · exact .inl hn
  · have hlt : g < w.heap.size := (Array.getElem?_eq_some_iff.1 hg).1
    exact .inr ⟨g, cap, cur, hv, hbg, (hb.block g (by omega)).trans hg, rest⟩

set_option maxHeartbeats 400000 in
theorem quote_long (v : ByteArray) (h : 4096 < v.size) (w : World) :
    Calls Tryd.prog 35 #[.string v] w fun e w' => e = .returned (.tuple #[.string ⟨#[]⟩, .int .i64 3]) ∧ Below w.heap.size w w' := by
  have h' : (4096 : Int) < v.size := by omega
  go_enter Tryd.func35, Tryd.ntmps35
  go_wp2
  go_ret2
  exact ⟨rfl, Below.refl _ _⟩

set_option maxHeartbeats 1000000 in
set_option maxRecDepth 100000 in
theorem quote_good (v : ByteArray) (h : v.size ≤ 4096) (w : World) :
    Calls Tryd.prog 35 #[.string v] w fun e w' => e = .returned (.tuple #[.string ⟨(quoteL v).toArray⟩, .int .i64 0]) ∧ Below w.heap.size w w' := by
  obtain ⟨i0, hi, hz0, hz1, hz2⟩ := info_parts hbyte
  go_enter Tryd.func35, Tryd.ntmps35
  go_wp2
  go_loopw [4] (fun u wr => ∃ (acc : List UInt8) (pos f : Nat), wr.ownsRow w.heap.size 5 1 u acc.length (Lib.byteCells acc) ∧ wr.heap[w.heap.size + 1]? = some (.stringIter v pos) ∧ Below w.heap.size w wr ∧ acc ++ qFrom v f pos = 34 :: qFrom v v.size 0 ∧ v.size ≤ pos + f ∧ acc.length ≤ 1 + 4 * pos ∧ pos ≤ v.size) (fun _ wr => v.size - wr.iterPos (w.heap.size + 1))
  case atStart =>
    refine ⟨[34], 0, v.size, ?_, ?_, ?_, rfl, by omega, by simp, by omega⟩
    · exact (World.ownsRow_lit w #[.int .u8 34] 1 (Nat.le_refl _) (by unfold maxLen; omega) rfl).alloc _
    · have := World.iter_heap (w.alloc (.cells #[.int .u8 34] 5)) v 0
      simpa using this
    · exact ((Below.refl _ _).alloc (Nat.le_refl _) _).alloc (by simp) _
  case round =>
    obtain ⟨acc, pos, f, hown, hit, hbel, hacc, hf, hlen, hpos⟩ := hrel
    have hsz := hbel.size
    have hk : w.heap.size + 1 < wr.heap.size := (Array.getElem?_eq_some_iff.1 hit).1
    have Hown := hide hown; have Hit := hide hit; have Hbel := hide hbel; have Hacc := hide hacc
    clear hown hit hbel hacc
    by_cases hp : pos < v.size
    · obtain ⟨g, rfl⟩ : ∃ g, f = g + 1 := ⟨f - 1, by omega⟩
      have hnx : ∀ ty, (Instr.next (.pointer (some ⟨w.heap.size + 1, 0, none⟩)) true ty).run Tryd.prog wr = _ := fun ty => Lib.run_next_any_at wr (w.heap.size + 1) v pos ty (unhide Hit) hp
      have hw := width_pos v pos hp
      have hq := qpart_le v pos
      have HQ := hide (quotePart_any v pos hp)
      have Hq := hide (qFrom_step v g pos hp)
      generalize hd : (Utf8.decode v pos).2 = d at *
      generalize hr : (Utf8.decode v pos).1 = r at *
      generalize qpart v pos = q at *
      clear hd hr
      go_wp2_with fail
      refine (unhide HQ _).mono ?_
      rintro e w1 ⟨rfl, hb1⟩
      have hs1 := hb1.size
      rw [Lib.iterAt_size] at hs1 hb1
      have ho1 := ownsRow_below (ownsRow_iter (unhide Hown) (unhide Hit) (pos + d)) hb1 (by rw [Lib.iterAt_size]; exact Nat.le_refl _)
      have hi1 := iter_below hb1 (Lib.iterAt_heap wr _ v pos (pos + d) (unhide Hit)) (by rw [Lib.iterAt_size]; exact Nat.le_refl _)
      have hb2 := (Lib.below_iterAt (unhide Hbel) (show w.heap.size ≤ w.heap.size + 1 by omega) v (pos + d)).trans (hb1.mono hsz)
      have Ho1 := hide ho1; have Hi1 := hide hi1; have Hb2 := hide hb2
      clear ho1 hi1 hb2 hb1
      go_wp2_with (at_builtin; refine Lib.wpList_append_own_string _ rfl _ _ 60 9 rfl w.heap.size 5 i0 Tryd.underlying60 Tryd.underlying9 hi hz0 hz1 hz2 _ _ _ rfl (unhide Ho1) ⟨q.toArray⟩ rfl ?c3 ?c4 ?c5 ?_)
      case c3 => unfold maxLen; show acc.length + q.toArray.size ≤ _; simp; omega
      case c4 => show acc.length + q.toArray.size ≤ _; simp; omega
      case c5 => omega
      intro v' w2 hown' hgrow _
      go_wp2
      go_roundw
      case rel =>
        refine ⟨acc ++ q, pos + d, g, ?_, iter_grown (unhide Ho1) hgrow (unhide Hi1), (unhide Hb2).grown hgrow (by omega) (fun x hx => ((unhide Ho1).lt x hx).1), ?_, by omega, by rw [List.length_append]; omega, by omega⟩
        · rw [Lib.byteCells_append, List.length_append]
          exact hown'
        · rw [List.append_assoc, ← unhide Hq]
          exact unhide Hacc
      case measure =>
        rw [iterPos_of (iter_grown (unhide Ho1) hgrow (unhide Hi1)), iterPos_of (unhide Hit)]
        omega
    · have hnx : ∀ ty, (Instr.next (.pointer (some ⟨w.heap.size + 1, 0, none⟩)) true ty).run Tryd.prog wr = _ := fun ty => Lib.run_next_end_at wr (w.heap.size + 1) v pos ty (unhide Hit) hp
      go_wp2_with (at_builtin; refine wpList_append_own _ rfl _ _ 60 rfl w.heap.size 5 i0 (.int .u8 0) 1 1 Tryd.underlying60 hi hz0 hz1 hz2 rfl (by decide) _ _ _ rfl ((unhide Hown).alloc _) ⟨wr.heap.size, 0, none⟩ 1 1 [.int .u8 34] rfl rfl ?c1 ?c2 ?c3 ?c4 ?c5 ?_)
      case c1 => exact cell_one_new _ _ _
      case c2 => intro u hu; simp at hu; subst hu; rfl
      case c3 => unfold maxLen; omega
      case c4 => omega
      case c5 => simp; omega
      intro v' w2 hown' hgrow _
      have hconv : (convert 60 9 v').run Tryd.prog w2 = .ok (.string ⟨(quoteL v).toArray⟩) w2 := by
        have ha : acc = 34 :: qFrom v v.size 0 := by
          have := unhide Hacc
          rwa [qFrom_end v f pos hp, List.append_nil] at this
        have e : quoteL v = acc ++ [34] := by rw [ha]; rfl
        rw [e]
        refine own_to_string (B := w.heap.size) ?_
        rw [Lib.byteCells_append, List.length_append]
        exact hown'
      go_wp2
      go_ret2
      refine ⟨rfl, ?_⟩
      exact ((unhide Hbel).alloc (by omega) _).grown hgrow (by simp; omega) (fun x hx => ((unhide Hown).lt x hx).1)

/-- What both Quotes answer. -/
def quoteVals (v : ByteArray) : ByteArray × Int := if v.size ≤ 4096 then (⟨(quoteL v).toArray⟩, 0) else (⟨#[]⟩, 3)
theorem quote_any (v : ByteArray) (w : World) :
    Calls Tryd.prog 35 #[.string v] w fun e w' => e = .returned (.tuple #[.string (quoteVals v).1, .int .i64 (quoteVals v).2]) ∧ Below w.heap.size w w' := by
  by_cases h : v.size ≤ 4096
  · rw [show quoteVals v = (⟨(quoteL v).toArray⟩, 0) from if_pos h]; exact quote_good v h w
  · rw [show quoteVals v = (⟨#[]⟩, 3) from if_neg h]; exact quote_long v (by omega) w
end Go.Proofs.YtkckcnjamlpadabDoor

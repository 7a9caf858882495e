/- AppendInt at base 16; appendRune at every rune. -/
import Derived.Test.YtkbhdojgdgiggaaDoorT2
import Derived.Test.YtkbhdojgdgiggaaDoorT0
namespace Go.Proofs.YtkbhdojgdgiggaaDoor
open Go.RowKit Go.Lib

/-- The one cell of bits' table that base 16 reads. -/
def Tz (w : World) : Prop := w.cell? ⟨4, 15, none⟩ = some (.int .u8 4) ∧ 4 < w.heap.size
def AppP (B : Nat) (v : Value) (l m : List UInt8) (w : World) (e : Ending) (w' : World) : Prop := ∃ v', e = .returned v' ∧ w'.ownsRow B 5 1 v' (l ++ m).length (Lib.byteCells (l ++ m)) ∧ w.grownBy w' v.ownBlock ∧ (v'.ownBlock = v.ownBlock ∨ ∃ g, v'.ownBlock = some g ∧ w.heap.size ≤ g)
theorem au16 (v : Value) (l : List UInt8) (B : Nat) (u : Nat) (hu : u < 4294967296) (w : World) (hT : Tz w) (hl : l.length ≤ 1000100) (hB : B ≤ w.heap.size) (hown : w.ownsRow B 5 1 v l.length (Lib.byteCells l)) :
    Calls Tryd.prog 109 #[v, .int .u64 u, .int .i64 16] w (AppP B v l (hexL u) w) := by
  have H := hide (fb16 v l B u hu w hT.1 hT.2 hl hB hown)
  obtain ⟨va, vc, rfl⟩ := ownsRow_slice hown
  clear hown hT
  go_enter Tryd.func109, Tryd.ntmps109
  go_wp2_with fail
  refine (unhide H).mono ?_
  rintro e w' ⟨v', x, rfl, h1, h2, h3⟩
  have H1 := hide h1; have H2 := hide h2; have H3 := hide h3
  clear h1 h2 h3
  go_wp2
  go_ret
  exact ⟨_, rfl, unhide H1, unhide H2, unhide H3⟩
theorem ai16 (v : Value) (l : List UInt8) (B : Nat) (r : Nat) (hr : r < 4294967296) (w : World) (hT : Tz w) (hl : l.length ≤ 1000100) (hB : B ≤ w.heap.size) (hown : w.ownsRow B 5 1 v l.length (Lib.byteCells l)) :
    Calls Tryd.prog 91 #[v, .int .i64 r, .int .i64 16] w (AppP B v l (hexL r) w) := by
  have H := hide (au16 v l B r hr w hT hl hB hown)
  obtain ⟨va, vc, rfl⟩ := ownsRow_slice hown
  have h0 : ¬ (r : Int) < 0 := by omega
  clear hown hT
  go_enter Tryd.func91, Tryd.ntmps91
  go_wp2_with fail
  refine (unhide H).mono ?_
  rintro e w' ⟨v', rfl, h1, h2, h3⟩
  have H1 := hide h1; have H2 := hide h2; have H3 := hide h3
  clear h1 h2 h3
  go_wp2
  go_ret
  exact ⟨_, rfl, unhide H1, unhide H2, unhide H3⟩
theorem sai16 (v : Value) (l : List UInt8) (B : Nat) (r : Nat) (hr : r < 4294967296) (w : World) (hT : Tz w) (hl : l.length ≤ 1000100) (hB : B ≤ w.heap.size) (hown : w.ownsRow B 5 1 v l.length (Lib.byteCells l)) :
    Calls Tryd.prog 68 #[v, .int .i64 r, .int .i64 16] w (AppP B v l (hexL r) w) := by
  have H := hide (ai16 v l B r hr w hT hl hB hown)
  obtain ⟨va, vc, rfl⟩ := ownsRow_slice hown
  clear hown hT
  go_enter Tryd.func68, Tryd.ntmps68
  go_wp2_with fail
  refine (unhide H).mono ?_
  rintro e w' ⟨v', rfl, h1, h2, h3⟩
  have H1 := hide h1; have H2 := hide h2; have H3 := hide h3
  clear h1 h2 h3
  go_wp2
  go_ret
  exact ⟨_, rfl, unhide H1, unhide H2, unhide H3⟩

theorem strC (a : List UInt8) : Lib.strCells ⟨a.toArray⟩ = Lib.byteCells a := by simp [Lib.strCells, Lib.byteCells]
set_option maxHeartbeats 2000000 in
set_option maxRecDepth 100000 in
theorem append_esc (r : Int) (hr : r = 10 ∨ r = 9 ∨ r = 13) (B : Nat) (w : World) (v : Value) (l : List UInt8) (hB : B ≤ w.heap.size) (hown : w.ownsRow B 5 1 v l.length (Lib.byteCells l)) (hl : l.length ≤ 1000000) :
    Calls Tryd.prog 54 #[v, .int .i32 r] w (AppP B v l (runeT r) w) := by
  obtain ⟨i0, hi, hz0, hz1, hz2⟩ := info_parts hbyte
  obtain ⟨va, vcap, rfl⟩ := ownsRow_slice hown
  have Hown := hide hown
  clear hown
  obtain ⟨c, rt, hc⟩ : ∃ c : UInt8, runeT r = [92, c] ∧ ((r = 10 ∧ c = 110) ∨ (r = 9 ∧ c = 116) ∨ (r = 13 ∧ c = 114)) := by
    rcases hr with rfl | rfl | rfl
    · exact ⟨110, by decide, .inl ⟨rfl, rfl⟩⟩
    · exact ⟨116, by decide, .inr (.inl ⟨rfl, rfl⟩)⟩
    · exact ⟨114, by decide, .inr (.inr ⟨rfl, rfl⟩)⟩
  rw [rt]
  clear hr rt
  go_enter Tryd.func54, Tryd.ntmps54
  rcases hc with ⟨rfl, rfl⟩ | ⟨rfl, rfl⟩ | ⟨rfl, rfl⟩
  all_goals
    go_wp2_with (at_builtin; refine wpList_append_string_at _ rfl _ _ 71 9 rfl B 5 i0 Tryd.underlying71 Tryd.underlying9 hi hz0 hz1 hz2 _ _ _ rfl (unhide Hown) _ (by decide) rfl ?c3 ?c4 ?c5 ?_)
    case c3 => unfold maxLen; simp [ByteArray.size]; omega
    case c4 => simp [ByteArray.size]; omega
    case c5 => exact hB
    intro v' w2 hown' hgrow hblk
    have hb := hide hblk
    have hh := hide hown'
    have hg := hide hgrow
    clear hown' hgrow hblk
    go_wp2
    go_ret
    refine ⟨v', rfl, ?_, unhide hg, (unhide hb).imp id fun h => ⟨_, h, Nat.le_refl _⟩⟩
    rw [Lib.byteCells_append, List.length_append]
    exact unhide hh
theorem cells_two_new (w : World) (x y : Value) (t : TypeId) : ∀ j u, [x, y][j]? = some u → (w.alloc (.cells #[x, y] t)).cell? ((⟨w.heap.size, 0, none⟩ : Addr).add j) = some u := by
  intro j u hu
  have h := World.cell?_alloc_mark w #[x, y] t (0, 0) j
  rw [addr_add, Nat.zero_add, h]
  simpa using hu
set_option maxHeartbeats 2000000 in
set_option maxRecDepth 100000 in
theorem append_m91 (B : Nat) (w : World) (v : Value) (l : List UInt8) (hB : B ≤ w.heap.size) (hown : w.ownsRow B 5 1 v l.length (Lib.byteCells l)) (hl : l.length ≤ 1000000) :
    Calls Tryd.prog 54 #[v, .int .i32 91] w (AppP B v l [92, 91] w) := by
  obtain ⟨i0, hi, hz0, hz1, hz2⟩ := info_parts hbyte
  obtain ⟨va, vcap, rfl⟩ := ownsRow_slice hown
  have Hown := hide hown
  clear hown
  go_enter Tryd.func54, Tryd.ntmps54
  go_wp2_with (at_builtin; refine wpList_append_own_at _ rfl _ _ 71 rfl B 5 i0 (.int .u8 0) 1 1 Tryd.underlying71 hi hz0 hz1 hz2 rfl (by decide) _ _ _ rfl ((unhide Hown).alloc _) ⟨w.heap.size, 0, none⟩ 2 2 [.int .u8 92, .int .u8 91] rfl rfl (cells_two_new _ _ _ _) ?c2 ?c3 ?c4 ?c5 ?_)
  case c2 => intro u hu; simp at hu; rcases hu with rfl | rfl <;> rfl
  case c3 => unfold maxLen; omega
  case c4 => omega
  case c5 => simp; omega
  intro v' w2 hown' hgrow _ hblk
  have hb := hide hblk
  have hh := hide hown'
  have hg := hide (grown_trans (World.grownBy_alloc w _ _) hgrow)
  clear hown' hgrow hblk
  go_wp2
  go_ret
  refine ⟨v', rfl, ?_, unhide hg, (unhide hb).imp id fun h => ⟨_, h, by simp⟩⟩
  rw [Lib.byteCells_append, List.length_append]
  exact unhide hh
set_option maxHeartbeats 2000000 in
set_option maxRecDepth 100000 in
theorem append_m93 (B : Nat) (w : World) (v : Value) (l : List UInt8) (hB : B ≤ w.heap.size) (hown : w.ownsRow B 5 1 v l.length (Lib.byteCells l)) (hl : l.length ≤ 1000000) :
    Calls Tryd.prog 54 #[v, .int .i32 93] w (AppP B v l [92, 93] w) := by
  obtain ⟨i0, hi, hz0, hz1, hz2⟩ := info_parts hbyte
  obtain ⟨va, vcap, rfl⟩ := ownsRow_slice hown
  have Hown := hide hown
  clear hown
  go_enter Tryd.func54, Tryd.ntmps54
  go_wp2_with (at_builtin; refine wpList_append_own_at _ rfl _ _ 71 rfl B 5 i0 (.int .u8 0) 1 1 Tryd.underlying71 hi hz0 hz1 hz2 rfl (by decide) _ _ _ rfl ((unhide Hown).alloc _) ⟨w.heap.size, 0, none⟩ 2 2 [.int .u8 92, .int .u8 93] rfl rfl (cells_two_new _ _ _ _) ?c2 ?c3 ?c4 ?c5 ?_)
  case c2 => intro u hu; simp at hu; rcases hu with rfl | rfl <;> rfl
  case c3 => unfold maxLen; omega
  case c4 => omega
  case c5 => simp; omega
  intro v' w2 hown' hgrow _ hblk
  have hb := hide hblk
  have hh := hide hown'
  have hg := hide (grown_trans (World.grownBy_alloc w _ _) hgrow)
  clear hown' hgrow hblk
  go_wp2
  go_ret
  refine ⟨v', rfl, ?_, unhide hg, (unhide hb).imp id fun h => ⟨_, h, by simp⟩⟩
  rw [Lib.byteCells_append, List.length_append]
  exact unhide hh
set_option maxHeartbeats 2000000 in
set_option maxRecDepth 100000 in
theorem append_m45 (B : Nat) (w : World) (v : Value) (l : List UInt8) (hB : B ≤ w.heap.size) (hown : w.ownsRow B 5 1 v l.length (Lib.byteCells l)) (hl : l.length ≤ 1000000) :
    Calls Tryd.prog 54 #[v, .int .i32 45] w (AppP B v l [92, 45] w) := by
  obtain ⟨i0, hi, hz0, hz1, hz2⟩ := info_parts hbyte
  obtain ⟨va, vcap, rfl⟩ := ownsRow_slice hown
  have Hown := hide hown
  clear hown
  go_enter Tryd.func54, Tryd.ntmps54
  go_wp2_with (at_builtin; refine wpList_append_own_at _ rfl _ _ 71 rfl B 5 i0 (.int .u8 0) 1 1 Tryd.underlying71 hi hz0 hz1 hz2 rfl (by decide) _ _ _ rfl ((unhide Hown).alloc _) ⟨w.heap.size, 0, none⟩ 2 2 [.int .u8 92, .int .u8 45] rfl rfl (cells_two_new _ _ _ _) ?c2 ?c3 ?c4 ?c5 ?_)
  case c2 => intro u hu; simp at hu; rcases hu with rfl | rfl <;> rfl
  case c3 => unfold maxLen; omega
  case c4 => omega
  case c5 => simp; omega
  intro v' w2 hown' hgrow _ hblk
  have hb := hide hblk
  have hh := hide hown'
  have hg := hide (grown_trans (World.grownBy_alloc w _ _) hgrow)
  clear hown' hgrow hblk
  go_wp2
  go_ret
  refine ⟨v', rfl, ?_, unhide hg, (unhide hb).imp id fun h => ⟨_, h, by simp⟩⟩
  rw [Lib.byteCells_append, List.length_append]
  exact unhide hh
set_option maxHeartbeats 2000000 in
set_option maxRecDepth 100000 in
theorem append_m94 (B : Nat) (w : World) (v : Value) (l : List UInt8) (hB : B ≤ w.heap.size) (hown : w.ownsRow B 5 1 v l.length (Lib.byteCells l)) (hl : l.length ≤ 1000000) :
    Calls Tryd.prog 54 #[v, .int .i32 94] w (AppP B v l [92, 94] w) := by
  obtain ⟨i0, hi, hz0, hz1, hz2⟩ := info_parts hbyte
  obtain ⟨va, vcap, rfl⟩ := ownsRow_slice hown
  have Hown := hide hown
  clear hown
  go_enter Tryd.func54, Tryd.ntmps54
  go_wp2_with (at_builtin; refine wpList_append_own_at _ rfl _ _ 71 rfl B 5 i0 (.int .u8 0) 1 1 Tryd.underlying71 hi hz0 hz1 hz2 rfl (by decide) _ _ _ rfl ((unhide Hown).alloc _) ⟨w.heap.size, 0, none⟩ 2 2 [.int .u8 92, .int .u8 94] rfl rfl (cells_two_new _ _ _ _) ?c2 ?c3 ?c4 ?c5 ?_)
  case c2 => intro u hu; simp at hu; rcases hu with rfl | rfl <;> rfl
  case c3 => unfold maxLen; omega
  case c4 => omega
  case c5 => simp; omega
  intro v' w2 hown' hgrow _ hblk
  have hb := hide hblk
  have hh := hide hown'
  have hg := hide (grown_trans (World.grownBy_alloc w _ _) hgrow)
  clear hown' hgrow hblk
  go_wp2
  go_ret
  refine ⟨v', rfl, ?_, unhide hg, (unhide hb).imp id fun h => ⟨_, h, by simp⟩⟩
  rw [Lib.byteCells_append, List.length_append]
  exact unhide hh
set_option maxHeartbeats 2000000 in
set_option maxRecDepth 100000 in
theorem append_m92 (B : Nat) (w : World) (v : Value) (l : List UInt8) (hB : B ≤ w.heap.size) (hown : w.ownsRow B 5 1 v l.length (Lib.byteCells l)) (hl : l.length ≤ 1000000) :
    Calls Tryd.prog 54 #[v, .int .i32 92] w (AppP B v l [92, 92] w) := by
  obtain ⟨i0, hi, hz0, hz1, hz2⟩ := info_parts hbyte
  obtain ⟨va, vcap, rfl⟩ := ownsRow_slice hown
  have Hown := hide hown
  clear hown
  go_enter Tryd.func54, Tryd.ntmps54
  go_wp2_with (at_builtin; refine wpList_append_own_at _ rfl _ _ 71 rfl B 5 i0 (.int .u8 0) 1 1 Tryd.underlying71 hi hz0 hz1 hz2 rfl (by decide) _ _ _ rfl ((unhide Hown).alloc _) ⟨w.heap.size, 0, none⟩ 2 2 [.int .u8 92, .int .u8 92] rfl rfl (cells_two_new _ _ _ _) ?c2 ?c3 ?c4 ?c5 ?_)
  case c2 => intro u hu; simp at hu; rcases hu with rfl | rfl <;> rfl
  case c3 => unfold maxLen; omega
  case c4 => omega
  case c5 => simp; omega
  intro v' w2 hown' hgrow _ hblk
  have hb := hide hblk
  have hh := hide hown'
  have hg := hide (grown_trans (World.grownBy_alloc w _ _) hgrow)
  clear hown' hgrow hblk
  go_wp2
  go_ret
  refine ⟨v', rfl, ?_, unhide hg, (unhide hb).imp id fun h => ⟨_, h, by simp⟩⟩
  rw [Lib.byteCells_append, List.length_append]
  exact unhide hh
set_option maxHeartbeats 2000000 in
set_option maxRecDepth 100000 in
theorem append_m34 (B : Nat) (w : World) (v : Value) (l : List UInt8) (hB : B ≤ w.heap.size) (hown : w.ownsRow B 5 1 v l.length (Lib.byteCells l)) (hl : l.length ≤ 1000000) :
    Calls Tryd.prog 54 #[v, .int .i32 34] w (AppP B v l [92, 34] w) := by
  obtain ⟨i0, hi, hz0, hz1, hz2⟩ := info_parts hbyte
  obtain ⟨va, vcap, rfl⟩ := ownsRow_slice hown
  have Hown := hide hown
  clear hown
  go_enter Tryd.func54, Tryd.ntmps54
  go_wp2_with (at_builtin; refine wpList_append_own_at _ rfl _ _ 71 rfl B 5 i0 (.int .u8 0) 1 1 Tryd.underlying71 hi hz0 hz1 hz2 rfl (by decide) _ _ _ rfl ((unhide Hown).alloc _) ⟨w.heap.size, 0, none⟩ 2 2 [.int .u8 92, .int .u8 34] rfl rfl (cells_two_new _ _ _ _) ?c2 ?c3 ?c4 ?c5 ?_)
  case c2 => intro u hu; simp at hu; rcases hu with rfl | rfl <;> rfl
  case c3 => unfold maxLen; omega
  case c4 => omega
  case c5 => simp; omega
  intro v' w2 hown' hgrow _ hblk
  have hb := hide hblk
  have hh := hide hown'
  have hg := hide (grown_trans (World.grownBy_alloc w _ _) hgrow)
  clear hown' hgrow hblk
  go_wp2
  go_ret
  refine ⟨v', rfl, ?_, unhide hg, (unhide hb).imp id fun h => ⟨_, h, by simp⟩⟩
  rw [Lib.byteCells_append, List.length_append]
  exact unhide hh
theorem append_marked (r : Int) (hm : markedB r = true) (B : Nat) (w : World) (v : Value) (l : List UInt8) (hB : B ≤ w.heap.size) (hown : w.ownsRow B 5 1 v l.length (Lib.byteCells l)) (hl : l.length ≤ 1000000) :
    Calls Tryd.prog 54 #[v, .int .i32 r] w (AppP B v l (runeT r) w) := by
  have hc : r = 91 ∨ r = 93 ∨ r = 45 ∨ r = 94 ∨ r = 92 ∨ r = 34 := by simpa [markedB] using hm
  rcases hc with rfl | rfl | rfl | rfl | rfl | rfl
  · exact append_m91 B w v l hB hown hl
  · exact append_m93 B w v l hB hown hl
  · exact append_m45 B w v l hB hown hl
  · exact append_m94 B w v l hB hown hl
  · exact append_m92 B w v l hB hown hl
  · exact append_m34 B w v l hB hown hl
theorem Tz.grown {w w' : World} (h : Tz w) {row : Option Nat} (hg : w.grownBy w' row) (hne : row ≠ some 4) : Tz w' := by
  have := hg.block 4 h.2 (fun e => hne e.symm)
  refine ⟨?_, Nat.lt_of_lt_of_le h.2 hg.size⟩
  have h1 := h.1
  simp only [World.cell?, this] at h1 ⊢
  exact h1
theorem Tz.alloc {w : World} (h : Tz w) (o : Obj) : Tz (w.alloc o) := h.grown (World.grownBy_alloc w o none) (by simp)

set_option maxHeartbeats 2000000 in
set_option maxRecDepth 100000 in
theorem append_hex (r : Nat) (h10 : (r : Int) ≠ 10) (h9 : (r : Int) ≠ 9) (h13 : (r : Int) ≠ 13) (hm : markedB r = false) (hp : ¬ (32 < (r : Int) ∧ (r : Int) < 127)) (hr : r < 16777216) (B : Nat) (hB5 : 4 < B) (w : World) (hT : Tz w) (v : Value) (l : List UInt8) (hB : B ≤ w.heap.size) (hown : w.ownsRow B 5 1 v l.length (Lib.byteCells l)) (hl : l.length ≤ 1000000) :
    Calls Tryd.prog 54 #[v, .int .i32 r] w (AppP B v l (runeT r) w) := by
  obtain ⟨i0, hi, hz0, hz1, hz2⟩ := info_parts hbyte
  have hne : v.ownBlock ≠ some 4 := fun e => by have := (hown.lt 4 e).1; omega
  have e : runeT r = [92, 117, 123] ++ (hexL r ++ [125]) := by
    unfold runeT
    rw [if_neg h10, if_neg h9, if_neg h13, if_neg (by rw [hm]; simp), if_neg hp, Int.toNat_natCast, hexF_L 6 r (by simpa using hr) (by omega), List.append_assoc]
  rw [e]
  have hll : (hexL r).length ≤ 6 := by rw [← hexF_L 6 r (by simpa using hr) (by omega)]; exact hexF_le 6 r
  simp only [markedB, Bool.or_eq_false_iff] at hm
  obtain ⟨m1, m2, m3, m4, m5, m6⟩ := hm
  have n1 : ((r : Int) == 10) = false := by simpa using h10
  have n2 : ((r : Int) == 9) = false := by simpa using h9
  have n3 : ((r : Int) == 13) = false := by simpa using h13
  obtain ⟨va, vcap, rfl⟩ := ownsRow_slice hown
  have Hown := hide hown; have HT := hide hT
  clear hown e hT
  go_enter Tryd.func54, Tryd.ntmps54
  have hh : (32 < (r : Int) ∧ ¬ (r : Int) < 127) ∨ (¬ 32 < (r : Int)) := by omega
  rcases hh with ⟨h32, h127⟩ | h32
  all_goals
    go_wp2_with (at_builtin; refine wpList_append_string_at _ rfl _ _ 71 9 rfl B 5 i0 Tryd.underlying71 Tryd.underlying9 hi hz0 hz1 hz2 _ _ _ rfl (unhide Hown) _ (by decide) rfl ?c3 ?c4 ?c5 ?_)
    case c3 => unfold maxLen; omega
    case c4 => omega
    try (case c5 => exact hB)
    intro v1 w1 hown1 hg1 hk1
    have hT1 := (unhide HT).grown hg1 hne
    have hown1' : w1.ownsRow B 5 1 v1 (l ++ [92, 117, 123]).length (Lib.byteCells (l ++ [92, 117, 123])) := by rw [Lib.byteCells_append, List.length_append]; exact hown1
    have hsz1 := hg1.size
    obtain ⟨va1, vc1, rfl⟩ := ownsRow_slice hown1'
    have HS := hide (sai16 _ (l ++ [92, 117, 123]) B r (by omega) w1 hT1 (by simp; omega) (by omega) hown1')
    have Hg1 := hide hg1; have Hk1 := hide hk1
    clear hown1 hown1' hT1 hg1 hk1
    go_wp2_with fail
    have e0 : (l ++ [92, 117, 123]).length = l.length + 3 := by simp
    rw [e0] at HS Hk1
    refine (unhide HS).mono ?_
    rintro e w2 ⟨v2, rfl, h1, h2, h3⟩
    obtain ⟨va2, vc2, rfl⟩ := ownsRow_slice h1
    have hsz2 := h2.size
    have Hg2 := hide (grown_step (unhide Hg1) h2 ((unhide Hk1).imp id fun h => ⟨_, h, Nat.le_refl _⟩))
    have Hk2 : Hid ((Value.slice va2 (l ++ [92, 117, 123] ++ hexL r).length vc2).ownBlock = (Value.slice va l.length vcap).ownBlock ∨ ∃ g, (Value.slice va2 (l ++ [92, 117, 123] ++ hexL r).length vc2).ownBlock = some g ∧ w.heap.size ≤ g) := hide (by
      rcases h3 with h3 | ⟨g, h3, h4⟩
      · rw [h3]; exact (unhide Hk1).imp id fun h => ⟨_, h, Nat.le_refl _⟩
      · exact .inr ⟨g, h3, by omega⟩)
    have Hown2 := hide h1
    clear h1 h2 h3 HS Hg1 Hk1
    have e1 : (l ++ [92, 117, 123] ++ hexL r).length ≤ 1000010 := by simp; omega
    generalize hq : (l ++ [92, 117, 123] ++ hexL r).length = q at *
    go_wp2_with (at_builtin; refine wpList_append_own_at _ rfl _ _ 71 rfl B 5 i0 (.int .u8 0) 1 1 Tryd.underlying71 hi hz0 hz1 hz2 rfl (by decide) _ _ _ rfl ((unhide Hown2).alloc _) ⟨w2.heap.size, 0, none⟩ 1 1 [.int .u8 125] rfl rfl ?d1 ?d2 ?d3 ?d4 ?d5 ?_)
    case d1 => exact cell_one_new _ _ _
    case d2 => intro u hu; simp at hu; subst hu; rfl
    case d3 => unfold maxLen; omega
    case d4 => omega
    case d5 => simp; omega
    intro v3 w3 hown3 hg3 _ hk3
    have Hg3 := hide (grown_step (grown_trans (unhide Hg2) (World.grownBy_alloc w2 _ _)) hg3 (unhide Hk2))
    have Hk3 : Hid (v3.ownBlock = (Value.slice va l.length vcap).ownBlock ∨ ∃ g, v3.ownBlock = some g ∧ w.heap.size ≤ g) := hide (by
      rcases hk3 with h3 | h3
      · rw [h3]; exact unhide Hk2
      · exact .inr ⟨_, h3, by have := (World.grownBy_alloc w2 (.cells #[.int .u8 125] 5) none).size; omega⟩)
    have Hown3 := hide hown3
    clear hg3 hk3 hown3
    go_wp2
    go_ret
    refine ⟨v3, rfl, ?_, unhide Hg3, unhide Hk3⟩
    have e5 : l ++ 92 :: 117 :: 123 :: (hexL r ++ [125]) = l ++ [92, 117, 123] ++ hexL r ++ [125] := by simp
    rw [e5, List.length_append, hq, Lib.byteCells_append, show l ++ [92, 117, 123] ++ hexL r = l ++ 92 :: 117 :: 123 :: hexL r by simp]
    exact unhide Hown3
/-- appendRune at every rune. -/
theorem append_any (r : Int) (h0 : 0 ≤ r) (hr : r ≤ 1114111) (B : Nat) (hB5 : 4 < B) (w : World) (hT : Tz w) (v : Value) (l : List UInt8) (hB : B ≤ w.heap.size) (hown : w.ownsRow B 5 1 v l.length (Lib.byteCells l)) (hl : l.length ≤ 1000000) :
    Calls Tryd.prog 54 #[v, .int .i32 r] w fun e w' => ∃ v', e = .returned v' ∧ w'.ownsRow B 5 1 v' (l ++ runeT r).length (Lib.byteCells (l ++ runeT r)) ∧ w.grownBy w' v.ownBlock := by
  by_cases he : r = 10 ∨ r = 9 ∨ r = 13
  · exact (append_esc r he B w v l hB hown hl).mono fun e w' ⟨v', a, b, c, _⟩ => ⟨v', a, b, c⟩
  · cases hm : markedB r
    · by_cases hp : 32 < r ∧ r < 127
      · exact append_plain r (by omega) (by omega) hm B w v l hB hown hl
      · obtain ⟨n, rfl⟩ := Int.eq_ofNat_of_zero_le h0
        exact (append_hex n (by omega) (by omega) (by omega) hm hp (by omega) B hB5 w hT v l hB hown hl).mono fun e w' ⟨v', a, b, c, _⟩ => ⟨v', a, b, c⟩
    · exact (append_marked r hm B w v l hB hown hl).mono fun e w' ⟨v', a, b, c, _⟩ => ⟨v', a, b, c⟩
theorem appR_any (r : Int) (h0 : 0 ≤ r) (hr : r ≤ 1114111) (w : World) (hT : Tz w) : AppR w r := fun wr v l hb hown hl => by
  have h5 := hT.2
  refine append_any r h0 hr w.heap.size h5 wr ⟨(hb.cell (p := ⟨4, 15, none⟩) h5).trans hT.1, Nat.lt_of_lt_of_le h5 hb.size⟩ v l hb.size hown hl
end Go.Proofs.YtkbhdojgdgiggaaDoor

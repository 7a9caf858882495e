/- Cut and SplitN at one byte. -/
import Derived.Test.YtkckcnjamlpadabDoorL2
namespace Go.Proofs.YtkckcnjamlpadabDoor
open Go.RowKit Go.Maps

/-- What is ahead of the first such byte, and what is behind it. -/
def cutL (c : UInt8) : List UInt8 → Option (List UInt8 × List UInt8)
  | [] => none
  | b :: l => if b = c then some ([], l) else (cutL c l).map fun p => (b :: p.1, p.2)
theorem cutL_some {c : UInt8} : ∀ {s x y : List UInt8}, cutL c s = some (x, y) → s = x ++ c :: y ∧ c ∉ x
  | [], x, y, h => by simp [cutL] at h
  | b :: l, x, y, h => by
    simp only [cutL] at h
    by_cases hb : b = c
    · rw [if_pos hb] at h
      simp only [Option.some.injEq, Prod.mk.injEq] at h
      obtain ⟨rfl, rfl⟩ := h
      subst hb
      exact ⟨rfl, by simp⟩
    · rw [if_neg hb] at h
      cases hc : cutL c l with
      | none => rw [hc] at h; simp at h
      | some p =>
        rw [hc] at h
        simp only [Option.map_some, Option.some.injEq, Prod.mk.injEq] at h
        obtain ⟨rfl, rfl⟩ := h
        obtain ⟨h1, h2⟩ := cutL_some (x := p.1) (y := p.2) hc
        exact ⟨by rw [h1]; rfl, by simp only [List.mem_cons, not_or]; exact ⟨fun e => hb e.symm, h2⟩⟩
theorem cutL_of {c : UInt8} : ∀ (x y : List UInt8), c ∉ x → cutL c (x ++ c :: y) = some (x, y)
  | [], y, _ => by simp [cutL]
  | b :: x, y, h => by
    simp only [List.mem_cons, not_or] at h
    simp only [List.cons_append, cutL, cutL_of x y h.2, if_neg (fun e : b = c => h.1 e.symm), Option.map_some]
theorem cutL_none {c : UInt8} : ∀ {s : List UInt8}, cutL c s = none ↔ c ∉ s
  | [] => by simp [cutL]
  | b :: l => by
    simp only [cutL]
    by_cases hb : b = c
    · rw [if_pos hb]; simp [hb]
    · rw [if_neg hb, Option.map_eq_none_iff, cutL_none, List.mem_cons, not_or]
      exact ⟨fun h => ⟨fun e => hb e.symm, h⟩, fun h => h.2⟩
theorem index_cut {c : UInt8} : ∀ (s : List UInt8), (Lib.indexByte s c < 0 ∧ Lib.indexByte s c = -1 ∧ cutL c s = none) ∨ ∃ i : Nat, Lib.indexByte s c = (i : Int) ∧ i < s.length ∧ cutL c s = some (s.take i, s.drop (i + 1))
  | [] => .inl ⟨by simp [Lib.indexByte], rfl, rfl⟩
  | b :: l => by
    simp only [Lib.indexByte, cutL]
    by_cases hb : b = c
    · right; exact ⟨0, by simp [hb], by simp, by simp [hb]⟩
    · have hb' : (b == c) = false := by simpa using hb
      rcases index_cut (c := c) l with ⟨h1, h2, h3⟩ | ⟨i, h1, h2, h3⟩
      · left; simp [hb', hb, h2, h3]
      · right
        have : ((i : Int) == -1) = false := by rw [beq_eq_false_iff_ne]; omega
        exact ⟨i + 1, by rw [hb', h1, this]; simp, by simp; omega, by rw [if_neg hb, h3]; simp⟩
theorem bs_extract (l : List UInt8) (a b : Nat) : (bs l).extract a b = bs ((l.drop a).take (b - a)) := by
  apply ByteArray.ext
  rw [ByteArray.data_extract]
  apply Array.toList_inj.1
  simp [bs, List.extract]

/-- What Cut at one byte answers. -/
def cutV (c : UInt8) (s : List UInt8) : List UInt8 × List UInt8 × Bool := match cutL c s with | some (x, y) => (x, y, true) | none => (s, [], false)

set_option maxHeartbeats 1000000 in
set_option maxRecDepth 100000 in
theorem cutlite_any (c : UInt8) (s : List UInt8) (hs : s.length ≤ 281474976710656) (w : World) :
    Calls Tryd.prog 38 #[.string (bs s), .string ⟨#[c]⟩] w fun e w' => e = .returned (.tuple #[.string (bs (cutV c s).1), .string (bs (cutV c s).2.1), .bool (cutV c s).2.2]) ∧ Below w.heap.size w w' := by
  have HX := hide (Tryd.stringslite_Index_one (bs s) c)
  rcases index_cut (c := c) s with ⟨h1, h2, h3⟩ | ⟨i, h1, h2, h3⟩
  · rw [show Lib.indexByte (bs s).data.toList c = -1 from h2] at HX
    rw [show cutV c s = (s, [], false) by unfold cutV; rw [h3]]
    clear h1 h2 h3
    go_enter Tryd.func38, Tryd.ntmps38
    go_wp2_with fail
    refine (unhide HX _).mono ?_
    rintro e w' ⟨rfl, rfl⟩
    go_wp2
    go_ret3
    exact ⟨rfl, Below.refl _ _⟩
  · rw [show Lib.indexByte (bs s).data.toList c = (i : Int) from h1] at HX
    rw [show cutV c s = (s.take i, s.drop (i + 1), true) by unfold cutV; rw [h3]]
    have e1 : bs (s.take i) = (bs s).extract 0 i := by rw [bs_extract]; rfl
    have e2 : bs (s.drop (i + 1)) = (bs s).extract (i + 1) (bs s).size := by rw [bs_extract, bs_size, List.take_of_length_le (by simp)]
    rw [e1, e2]
    have hi : (i : Int) < (bs s).size := by rw [bs_size]; omega
    have hi2 : (i : Int) + 1 ≤ (bs s).size := by omega
    have hsz : ((bs s).size : Int) ≤ 281474976710656 := by rw [bs_size]; omega
    clear h1 h2 h3 e1 e2
    generalize bs s = S at *
    go_enter Tryd.func38, Tryd.ntmps38
    go_wp2_with fail
    refine (unhide HX _).mono ?_
    rintro e w' ⟨rfl, rfl⟩
    go_wp2
    go_region
    all_goals go_wp2
    all_goals go_ret3
    all_goals exact ⟨rfl, below_drewN (Below.refl _ _) _⟩
set_option maxHeartbeats 1000000 in
set_option maxRecDepth 100000 in
theorem cut_any (c : UInt8) (s : List UInt8) (hs : s.length ≤ 281474976710656) (w : World) :
    Calls Tryd.prog 30 #[.string (bs s), .string ⟨#[c]⟩] w fun e w' => e = .returned (.tuple #[.string (bs (cutV c s).1), .string (bs (cutV c s).2.1), .bool (cutV c s).2.2]) ∧ Below w.heap.size w w' := by
  have H := hide (cutlite_any c s hs)
  generalize cutV c s = V at *
  go_enter Tryd.func30, Tryd.ntmps30
  go_wp2_with fail
  refine (unhide H _).mono ?_
  rintro e w1 ⟨rfl, hb⟩
  go_wp2
  go_ret3
  exact ⟨rfl, hb⟩
end Go.Proofs.YtkckcnjamlpadabDoor

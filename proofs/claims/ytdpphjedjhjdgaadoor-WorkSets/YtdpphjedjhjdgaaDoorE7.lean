/- The document's sets: Has, Same, with. -/
import Derived.Test.YtdpphjedjhjdgaaDoorE6
import Derived.WalkSmall
namespace Go.Proofs.YtdpphjedjhjdgaaDoor
open Go.RowKit Go.Maps

set_option maxHeartbeats 4000000 in
set_option maxRecDepth 100000 in
theorem refHas_any (a : Option Addr) (c : Nat) (l : List Int) (hl : l.length ≤ 281474976710656) (n : Int) (w : World) (hrow : NRow w a l) :
    Calls Tryd.prog 29 #[.agg #[.slice a l.length c], .int .i64 n] w fun e w' => e = .returned (.bool (decide (n ∈ l))) ∧ Below w.heap.size w w' := by
  have hb : Below w.heap.size w (w.alloc (.cells #[.slice a l.length c] 32)) := (Below.refl _ _).alloc (Nat.le_refl _) _
  have hrow1 := nrow_below hrow hb (Nat.le_refl _)
  have Hb := hide hb
  have Hrow := hide hrow1
  clear hb hrow hrow1
  go_enter Tryd.func29, Tryd.ntmps29
  go_wp2
  go_loop [5] (fun x => ∃ k : Nat, x = .int .i64 k ∧ k ≤ l.length ∧ n ∉ l.take k) (fun x => l.length - (intOf x).toNat)
  case atStart => exact ⟨0, rfl, Nat.zero_le _, by simp⟩
  case round =>
    obtain ⟨k, rfl, hk, hn⟩ := hrel
    by_cases hlt : k < l.length
    · have hlt' : (k : Int) < l.length := by omega
      rcases unhide Hrow with h0 | ⟨g, off, rfl, hgl, hc⟩
      · subst h0; simp at hlt
      have ck := hc k hlt
      have hg : l.getD k 0 = l[k] := by rw [List.getD_eq_getElem?_getD, List.getElem?_eq_getElem hlt]; rfl
      rw [hg] at ck
      by_cases he : l[k] = n
      · have hm : n ∈ l := he ▸ List.getElem_mem hlt
        rw [he] at ck
        have Hm : Hid (decide (n ∈ l) = true) := hide (by simpa using hm)
        clear hm he hn hg hc
        go_wp2
        go_ret
        exact ⟨by rw [unhide Hm]; rfl, unhide Hb⟩
      · have hq : (l[k] == n) = false := by simpa using he
        have hn' : n ∉ l.take (k + 1) := by
          rw [List.take_add_one, List.getElem?_eq_getElem hlt, List.mem_append]
          rintro (h | h)
          · exact hn h
          · simp at h; exact he h.symm
        have Hn := hide hn'
        clear he hn hn' hg hc
        generalize l[k] = x at *
        go_wp2
        go_round
        case rel => exact ⟨k + 1, by go_num, by omega, unhide Hn⟩
        case measure => simp [intOf]; omega
    · obtain rfl : k = l.length := by omega
      have hlt' : ¬ ((l.length : Int) < l.length) := by omega
      rw [List.take_length] at hn
      have Hm : Hid (decide (n ∈ l) = false) := hide (by simpa using hn)
      clear hn
      go_wp2
      go_ret
      exact ⟨by rw [unhide Hm]; rfl, unhide Hb⟩

set_option maxHeartbeats 4000000 in
set_option maxRecDepth 100000 in
theorem refSame_any (a b : Option Addr) (c d : Nat) (x y : List Int) (hx : x.length ≤ 281474976710656) (w : World) (hrx : NRow w a x) (hry : NRow w b y) :
    Calls Tryd.prog 10 #[.slice a x.length c, .slice b y.length d] w fun e w' => e = .returned (.bool (decide (x = y))) ∧ ∃ q, w' = w.drewN q := by
  by_cases hxy : x.length = y.length
  · have hq : ((x.length : Int) != y.length) = false := by rw [hxy]; simp
    have Hrx := hide hrx; have Hry := hide hry
    clear hrx hry
    go_enter Tryd.func10, Tryd.ntmps10
    go_wp2
    go_loopw [5] (fun i W => ∃ k q : Nat, i = .int .i64 k ∧ k ≤ x.length ∧ x.take k = y.take k ∧ W = w.drewN q) (fun i _ => x.length - (intOf i).toNat)
    case atStart => exact ⟨0, 0, rfl, Nat.zero_le _, by simp, rfl⟩
    case round =>
      obtain ⟨k, q, rfl, hk, heq, rfl⟩ := hrel
      by_cases hlt : k < x.length
      · have hlt' : (k : Int) < x.length := by omega
        have hlt2 : (k : Int) < y.length := by omega
        have hky : k < y.length := by omega
        rcases unhide Hrx with h0 | ⟨g, off, rfl, hgl, hc⟩
        · subst h0; simp at hlt
        rcases unhide Hry with h0 | ⟨g2, off2, rfl, hgl2, hc2⟩
        · subst h0; simp at hky
        have ck := hc k hlt
        have dk := hc2 k hky
        have hg : x.getD k 0 = x[k] := by rw [List.getD_eq_getElem?_getD, List.getElem?_eq_getElem hlt]; rfl
        have hg2 : y.getD k 0 = y[k] := by rw [List.getD_eq_getElem?_getD, List.getElem?_eq_getElem hky]; rfl
        rw [hg] at ck
        rw [hg2] at dk
        by_cases he : x[k] = y[k]
        · have heq' : x.take (k + 1) = y.take (k + 1) := by rw [List.take_add_one, List.take_add_one, heq, List.getElem?_eq_getElem hlt, List.getElem?_eq_getElem hky, he]
          rw [← he] at dk
          have Heq := hide heq'
          clear heq heq' he hg hg2 hc hc2
          generalize x[k] = z at *
          go_wp2
          go_quiet (fail)
          go_wp2
          go_roundw
          case rel => exact ⟨k + 1, _, by go_num, by omega, unhide Heq, rfl⟩
          case measure => simp [intOf]; omega
        · have hb : (x[k] == y[k]) = false := by simpa using he
          have hne : decide (x = y) = false := by
            rw [decide_eq_false_iff_not]
            intro e
            apply he
            subst e
            rfl
          have Hne := hide hne
          clear hne heq he hg hg2 hc hc2
          generalize x[k] = z at *
          generalize y[k] = z2 at *
          have hb' : (z != z2) = true := by simpa using hb
          go_wp2
          go_quiet (fail)
          go_wp2
          go_ret
          exact ⟨by rw [unhide Hne]; rfl, drew_two _ _ _⟩
      · obtain rfl : k = x.length := by omega
        have hlt' : ¬ ((x.length : Int) < x.length) := by omega
        rw [List.take_length, hxy, List.take_length] at heq
        have He : Hid (decide (x = y) = true) := hide (by simpa using heq)
        clear heq
        go_wp2
        go_ret
        exact ⟨by rw [unhide He]; rfl, q, rfl⟩
  · have hq : ((x.length : Int) != y.length) = true := by simp; omega
    have hne : decide (x = y) = false := by rw [decide_eq_false_iff_not]; rintro rfl; exact hxy rfl
    have Hne := hide hne
    clear hne hrx hry
    go_enter Tryd.func10, Tryd.ntmps10
    go_wp2
    go_ret
    exact ⟨by rw [unhide Hne]; rfl, 0, rfl⟩
end Go.Proofs.YtdpphjedjhjdgaaDoor

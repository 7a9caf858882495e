/- The package's Find. -/
import Derived.Test.YtkckcnjamlpadaaDoorG3
import Derived.Test.YtkckcnjamlpadaaDoorS1
namespace Go.Proofs.YtkckcnjamlpadaaDoor
open Go.RowKit Go.Maps

theorem idxFrom_bs (s : List UInt8) : ∀ (ns : List (List UInt8)) (i : Nat), Lib.idxFromS (ns.map bs) (bs s) i = if s ∈ ns then ((i + ns.idxOf s : Nat) : Int) else -1
  | [], i => by simp [Lib.idxFromS]
  | z :: ns, i => by
    rw [List.map_cons, Lib.idxFromS, idxFrom_bs s ns (i + 1)]
    by_cases h : z = s
    · subst h; simp
    · have hi : (z :: ns).idxOf s = ns.idxOf s + 1 := by rw [List.idxOf_cons, show (z == s) = false from beq_eq_false_iff_ne.2 h]; rfl
      rw [if_neg (fun e => h (bs_inj e)), hi]
      have h' : ¬ s = z := fun e => h e.symm
      by_cases hm : s ∈ ns
      · rw [if_pos hm, if_pos (List.mem_cons_of_mem _ hm)]; congr 1; omega
      · rw [if_neg hm, if_neg (by simp [h', hm])]
theorem idx_bs (s : List UInt8) (ns : List (List UInt8)) : Lib.idxOfS (ns.map bs) (bs s) = if s ∈ ns then ((ns.idxOf s : Nat) : Int) else -1 := by
  unfold Lib.idxOfS
  rw [idxFrom_bs, Nat.zero_add]
theorem sIndex_any (a : Option Addr) (cap : Nat) (ns : List (List UInt8)) (hl : ns.length ≤ 281474976710656) (s : List UInt8) (w : World) (hrow : SRow w a ns) :
    Calls Tryd.prog 31 #[.slice a ns.length cap, .string (bs s)] w fun e w' => e = .returned (.int .i64 (if s ∈ ns then ((ns.idxOf s : Nat) : Int) else -1)) ∧ w' = w := by
  rcases hrow with rfl | ⟨b, off, rfl, -, hc⟩
  · exact Tryd.slices_Index_string_empty a cap (bs s) w
  · refine (Tryd.slices_Index_string b off ns.length cap (ns.map bs) (bs s) w (by simp) (by omega) ?_).mono ?_
    · intro j hj
      rw [List.length_map] at hj
      rw [hc j hj, List.getD_eq_getElem?_getD, List.getD_eq_getElem?_getD, List.getElem?_map, List.getElem?_eq_getElem hj]
      rfl
    · rintro e w' ⟨rfl, rfl⟩
      rw [List.take_of_length_le (by simp), idx_bs]
      exact ⟨rfl, rfl⟩

set_option maxHeartbeats 2000000 in
set_option maxRecDepth 100000 in
theorem find_any (a : Option Addr) (cap : Nat) (ns : List (List UInt8)) (hl : ns.length ≤ 281474976710656) (s : List UInt8) (w : World) (hrow : SRow w a ns) :
    Calls Tryd.prog 9 #[.slice a ns.length cap, .string (bs s)] w fun e w' => e = .returned (.tuple #[.int .i64 (findT ns s).1, .bool (findT ns s).2]) ∧ w = w' := by
  have HI := hide (sIndex_any a cap ns hl s w hrow)
  unfold findT
  by_cases h : s ∈ ns
  · rw [if_pos h] at HI ⊢
    have h9 : ns.idxOf s ≤ 281474976710656 := Nat.le_trans (Nat.le_of_lt (List.idxOf_lt_length_of_mem h)) hl
    generalize ns.idxOf s = N at *
    have hN : ¬ (N : Int) < 0 := by omega
    clear h hrow
    go_enter Tryd.func9, Tryd.ntmps9
    go_wp2_with fail
    refine (unhide HI).mono ?_
    rintro e w1 ⟨rfl, rfl⟩
    go_wp2
    go_ret2
    exact ⟨rfl, rfl⟩
  · rw [if_neg h] at HI ⊢
    clear h hrow
    go_enter Tryd.func9, Tryd.ntmps9
    go_wp2_with fail
    refine (unhide HI).mono ?_
    rintro e w1 ⟨rfl, rfl⟩
    go_wp2
    go_ret2
    exact ⟨rfl, rfl⟩
end Go.Proofs.YtkckcnjamlpadaaDoor

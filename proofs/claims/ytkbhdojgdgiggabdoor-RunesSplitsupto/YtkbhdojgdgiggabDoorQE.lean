/- Contracts of both Cuts. -/
import Derived.Test.YtkbhdojgdgiggabDoorQD
import Derived.Test.YtkbhdojgdgiggabDoorV20
namespace Go.Proofs.YtkbhdojgdgiggabDoor
open Go.RowKit

theorem sets_isR {ls : List (List Rng)} (h : chkAll ls = 0) : ∀ s ∈ ls, ∀ x ∈ s, isR x = true := fun s hs x hx => set_isR (chkAll_sets h s hs) x hx
/-- What both Cuts hand back. -/
def CutPost (w : World) (ls : List (List Rng)) (e : Ending) (w' : World) : Prop := ∃ v, e = .returned (.tuple #[v, .int .i64 (cutC ls)]) ∧ w'.ownsRow w.heap.size 21 1 v (cutR ls).length (rc (cutR ls)) ∧ Below w.heap.size w w'

set_option maxHeartbeats 2000000 in
set_option maxRecDepth 100000 in
theorem cuts_any (a : Option Addr) (cap : Nat) (ls : List (List Rng)) (hn : ls.length ≤ 281474976710656) (hl : ∀ s ∈ ls, s.length ≤ 281474976710656) (hT : chkAll ls = 0 → (2 * tot ls + 2) * 4 ≤ 140737488355328) (w : World) (hsets : SetsAt w a ls) :
    Calls Tryd.prog 17 #[.slice a ls.length cap] w (CutPost w ls) := by
  by_cases hc : chkAll ls = 0
  · exact cuts_ok a cap ls hn hl (hT hc) (sets_isR hc) hc w hsets
  · have HC := hide (checkAll_any a cap ls hn hl w hsets)
    have HcC : Hid (cutC ls = chkAll ls) := hide (if_neg hc)
    have hne : (chkAll ls != 0) = true := by simpa using hc
    have Hne := hide hc
    clear hsets hl hT hc
    generalize chkAll ls = k at *
    go_enter Tryd.func17, Tryd.ntmps17
    go_wp2_with fail
    refine (unhide HC).mono ?_
    rintro e w1 ⟨rfl, hb1⟩
    go_wp2
    go_ret2
    have hR0 : cutR ls = [] := if_neg (fun h => unhide Hne ((unhide HcC).symm.trans h))
    exact ⟨_, by rw [unhide HcC]; rfl, by rw [hR0]; exact ⟨rfl, .inl ⟨rfl, rfl⟩⟩, hb1⟩

set_option maxHeartbeats 2000000 in
set_option maxRecDepth 100000 in
theorem rCuts_any (a : Option Addr) (cap : Nat) (ls : List (List Rng)) (hn : ls.length ≤ 281474976710656) (hl : ∀ s ∈ ls, s.length ≤ 281474976710656) (hT : chkAll ls = 0 → (2 * tot ls + 2) * 4 ≤ 140737488355328) (w : World) (hsets : SetsAt w a ls) :
    Calls Tryd.prog 26 #[.slice a ls.length cap] w (CutPost w ls) := by
  have HC := hide (checked_any a cap ls hn hl w hsets)
  by_cases hc : chkAll ls = 0
  · have HcC : Hid (cutC ls = if (startsL ls).length > 2048 then 21 else 0) := hide (if_pos hc)
    have HS := hide (fun w' (hb : Below w.heap.size w w') => starts_any a cap ls hn (hT hc) (sets_isR hc) w' (setsAt_below hsets (Nat.le_refl _) hb))
    have hpos : 0 < (startsL ls).length := List.length_pos_of_mem ((mem_starts ls 0).2 (by simp [rawL]))
    rw [hc] at HC
    clear hsets hl hT hc
    go_enter Tryd.func26, Tryd.ntmps26
    go_wp2_with fail
    refine (unhide HC).mono ?_
    rintro e w1 ⟨rfl, hb1⟩
    have HS1 := hide (unhide HS w1 hb1)
    have hs1 := hb1.size
    have Hb1 := hide hb1
    clear hb1 HC HS
    go_wp2_with fail
    refine (unhide HS1).mono ?_
    rintro e w2 ⟨v, rfl, hown, hb2⟩
    obtain ⟨g, gc, rfl⟩ := ownsRow_some hown hpos
    have hg := hown.lt g rfl
    have Hrr := hide (ownsRow_le hown hs1)
    have Hb2 := hide ((unhide Hb1).trans (below_le hb2 hs1))
    clear hown hb2 HS1
    by_cases hmax : (startsL ls).length > 2048
    · have hmax' : (2048 : Int) < (startsL ls).length := by omega
      rw [if_pos hmax] at HcC
      go_wp2
      go_ret2
      have hR0 : cutR ls = [] := by unfold cutR; rw [unhide HcC]; rfl
      exact ⟨_, by rw [unhide HcC]; rfl, by rw [hR0]; exact ⟨rfl, .inl ⟨rfl, rfl⟩⟩, unhide Hb2⟩
    · have hmax' : ¬ (2048 : Int) < (startsL ls).length := by omega
      rw [if_neg hmax] at HcC
      go_wp2
      go_ret2
      have hR0 : cutR ls = startsL ls := by unfold cutR; rw [unhide HcC]; rfl
      exact ⟨_, by rw [unhide HcC]; rfl, by rw [hR0]; exact unhide Hrr, unhide Hb2⟩
  · have HcC : Hid (cutC ls = chkAll ls) := hide (if_neg hc)
    have hne : (chkAll ls != 0) = true := by simpa using hc
    have Hne := hide hc
    clear hsets hl hT hc
    generalize chkAll ls = k at *
    go_enter Tryd.func26, Tryd.ntmps26
    go_wp2_with fail
    refine (unhide HC).mono ?_
    rintro e w1 ⟨rfl, hb1⟩
    go_wp2
    go_ret2
    have hR0 : cutR ls = [] := if_neg (fun h => unhide Hne ((unhide HcC).symm.trans h))
    exact ⟨_, by rw [unhide HcC]; rfl, by rw [hR0]; exact ⟨rfl, .inl ⟨rfl, rfl⟩⟩, hb1⟩
end Go.Proofs.YtkbhdojgdgiggabDoor

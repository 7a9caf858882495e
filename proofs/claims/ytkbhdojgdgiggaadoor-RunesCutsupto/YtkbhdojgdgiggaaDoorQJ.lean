/- The law RunesCuts, walked. -/
import Derived.Test.YtkbhdojgdgiggaaDoorQE
import Derived.Test.YtkbhdojgdgiggaaDoorQI
namespace Go.Proofs.YtkbhdojgdgiggaaDoor
open Go.RowKit

theorem own_some {w : World} {B e s n c : Nat} {va : Option Addr} {xs : List Value} (h : w.ownsRow B e s (.slice va n c) n xs) (hn : 0 < n) : ∃ g, va = some ⟨g, 0, none⟩ := by
  rcases h.2 with ⟨h1, h2⟩ | ⟨g, cap', cur, h1, _⟩
  · omega
  · simp only [Value.slice.injEq] at h1; exact ⟨g, h1.1⟩
theorem mem_tot {ls : List (List Rng)} {s : List Rng} (h : s ∈ ls) : s.length ≤ tot ls := by
  induction ls with
  | nil => simp at h
  | cons t ls ih =>
    simp only [tot, List.map_cons, List.sum_cons]
    rcases List.mem_cons.1 h with rfl | h
    · omega
    · have := ih h
      unfold tot at this
      omega
theorem cutR_facts {ls : List (List Rng)} (h : cutC ls = 0) : 0 < (cutR ls).length ∧ (cutR ls).Pairwise (· < ·) ∧ (cutR ls).length ≤ 2048 := by
  have e : cutR ls = startsL ls := if_pos h
  unfold cutC at h
  by_cases h1 : chkAll ls = 0
  · rw [if_pos h1] at h
    by_cases h2 : (startsL ls).length > 2048
    · rw [if_pos h2] at h; omega
    · rw [e]
      exact ⟨List.length_pos_of_mem ((mem_starts ls 0).2 (by simp [rawL])), sup_pairwise (starts_up ls (sets_isRq h1)), by omega⟩
  · rw [if_neg h1] at h; exact absurd h h1
theorem cutR_le (ls : List (List Rng)) : (cutR ls).length ≤ 2048 := by
  by_cases h : cutC ls = 0
  · exact (cutR_facts h).2.2
  · unfold cutR; rw [if_neg h]; simp

set_option maxHeartbeats 8000000 in
set_option maxRecDepth 100000 in
theorem runesCuts_walk (a : Option Addr) (cap : Nat) (ls : List (List Rng)) (hn : ls.length ≤ 281474976710656) (ht : tot ls ≤ 1000000000) (r : Int) (w : World) (hsets : SetsAt w a ls) :
    Calls Tryd.prog 7 #[.slice a ls.length cap, .int .i32 r] w fun e w' => e = .returned (.bool true) ∧ Below w.heap.size w w' := by
  have hl : ∀ s ∈ ls, s.length ≤ 281474976710656 := fun s hs => by
    have := mem_tot hs
    omega
  have H1 := hide (cuts_any a cap ls hn hl (fun _ => by omega) w hsets)
  have H2 := hide (fun w' (hb : Below w.heap.size w w') => rCuts_any a cap ls hn hl (fun _ => by omega) w' (setsAt_below hsets (Nat.le_refl _) hb))
  have hCl := cutR_le ls
  have HF := hide (fun h : cutC ls = 0 => cutR_facts h)
  clear hsets hl
  go_enter Tryd.func7, Tryd.ntmps7
  go_wp2_with fail
  refine (unhide H1).mono ?_
  rintro e w1 ⟨v1, rfl, ho1, hb1⟩
  obtain ⟨va, vc, rfl⟩ := ownsRow_slice ho1
  have hs1 := hb1.size
  have HH2 := hide (unhide H2 w1 hb1)
  have HO1 := hide ho1; have HB1 := hide hb1
  clear ho1 hb1 H1 H2
  go_wp2_with fail
  refine (unhide HH2).mono ?_
  rintro e w2 ⟨v2, rfl, ho2, hb2⟩
  obtain ⟨da, dc, rfl⟩ := ownsRow_slice ho2
  have HA2 := hide (ownsRow_below (unhide HO1) hb2 (Nat.le_refl _))
  have HB2 := hide ((unhide HB1).trans (below_le hb2 hs1))
  have HO2 := hide ho2
  clear ho2 hb2 HH2 HO1 HB1
  generalize hC : cutR ls = C at *
  generalize hcc : cutC ls = cc at *
  have hq : (cc != cc) = false := by simp
  clear hC hcc
  go_wp2
  go_loopw [9] (fun t wr => ∃ (i q : Nat), t = .int .i64 i ∧ i ≤ C.length ∧ wr = w2.drewN q) (fun t _ => C.length - (intOf t).toNat)
  case atStart => exact ⟨0, 0, rfl, by omega, rfl⟩
  case round =>
    obtain ⟨i, q, rfl, hiC, rfl⟩ := hrel
    by_cases hlt : i < C.length
    · have hlt' : (i : Int) < C.length := by omega
      obtain ⟨gd, rfl⟩ := own_some (unhide HA2) (by omega)
      obtain ⟨gk, rfl⟩ := own_some (unhide HO2) (by omega)
      have x1 := own_cells (unhide HA2) i hlt
      have x2 := own_cells (unhide HO2) i hlt
      generalize C.getD i 0 = ci at *
      have hq2 : (ci != ci) = false := by simp
      go_wp2
      go_quiet (fail)
      go_wp2
      go_roundw
      case rel => exact ⟨i + 1, _, by go_num, by omega, rfl⟩
      case measure => simp [intOf]; omega
    · have hlt' : ¬ (i : Int) < C.length := by omega
      have TE : Hid (Below w.heap.size w (w2.drewN q)) := hide ⟨(unhide HB2).os, (unhide HB2).tape, (unhide HB2).output, (unhide HB2).size, (unhide HB2).block⟩
      have hA : (w2.drewN q).ownsRow w.heap.size 21 1 (.slice va C.length vc) C.length (rc C) := unhide HA2
      have hO : (w2.drewN q).ownsRow w1.heap.size 21 1 (.slice da C.length dc) C.length (rc C) := unhide HO2
      generalize w2.drewN q = E at *
      by_cases hz : cc = 0
      · have hz' : (cc != 0) = false := by simp [hz]
        obtain ⟨f1, f2, f3⟩ := unhide HF hz
        obtain ⟨gd, rfl⟩ := own_some hA (by omega)
        obtain ⟨gk, rfl⟩ := own_some hO (by omega)
        have HC1 := hide (class_any w.heap.size gd vc C f1 f2 f3 r E hA)
        have HC2 := hide (fun E1 (hb : Below E.heap.size E E1) => rClass_any w1.heap.size gk dc C f1 f3 r E1 (ownsRow_below hO hb (Nat.le_refl _)))
        have hcl := clsN_le C r (C.length - 1)
        generalize clsN C r (C.length - 1) = cn at *
        have hq3 : ((cn : Int) == (cn : Int)) = true := by simp
        clear hA hO HA2 HO2 f2 HF
        go_wp2_with fail
        refine (unhide HC1).mono ?_
        rintro e E1 ⟨rfl, hb1⟩
        have HC3 := hide (unhide HC2 E1 hb1)
        have B1 := hide hb1
        clear HC1 HC2 hb1
        go_wp2_with fail
        refine (unhide HC3).mono ?_
        rintro e E2 ⟨rfl, hb2⟩
        have B2 := hide ((unhide B1).trans (below_le hb2 (unhide B1).size))
        have HA := hide (awake_any E2)
        clear HC3 hb2
        go_wp2_with fail
        refine (unhide HA).mono ?_
        rintro e E3 ⟨rfl, hb3⟩
        go_wp2
        go_ret
        exact ⟨rfl, (unhide TE).trans (below_le ((unhide B2).trans (below_le hb3 (unhide B2).size)) (unhide TE).size)⟩
      · have hz' : (cc != 0) = true := by simpa using hz
        have HA := hide (awake_any E)
        clear hA hO HA2 HO2 HF
        go_wp2_with fail
        refine (unhide HA).mono ?_
        rintro e E3 ⟨rfl, hb3⟩
        go_wp2
        go_ret
        exact ⟨rfl, (unhide TE).trans (below_le hb3 (unhide TE).size)⟩
end Go.Proofs.YtkbhdojgdgiggaaDoor

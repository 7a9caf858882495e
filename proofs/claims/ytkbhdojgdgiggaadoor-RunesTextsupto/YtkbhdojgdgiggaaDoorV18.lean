/- Contracts of Not and Minus, ours and the reference's. -/
import Derived.Test.YtkbhdojgdgiggaaDoorV17
namespace Go.Proofs.YtkbhdojgdgiggaaDoor
open Go.RowKit

theorem starts_length (ls : List (List Rng)) (acc : List Int) : (ls.foldl (fun acc s => s.foldl stepL acc) acc).length ≤ acc.length + 2 * tot ls := by
  induction ls generalizing acc with
  | nil => simp [tot]
  | cons s ls ih =>
    have one : ∀ (s : List Rng) (acc : List Int), (s.foldl stepL acc).length ≤ acc.length + 2 * s.length := by
      intro s
      induction s with
      | nil => intro acc; simp
      | cons x s ih2 => intro acc; have := ih2 (stepL acc x); have := stepL_length acc x; simp only [List.foldl_cons, List.length_cons]; omega
    have h1 := ih (s.foldl stepL acc)
    have h2 := one s acc
    have h3 : tot (s :: ls) = s.length + tot ls := by simp [tot]
    simp only [List.foldl_cons]
    omega
/-- What is made of some sets, where there are not too many ranges. -/
theorem rmade_any (what : Int) (P : Int → Bool) (a : Option Addr) (cap : Nat) (ls : List (List Rng)) (hn : ls.length ≤ 281474976710656) (hT : tot ls ≤ 1000000000) (hR : ∀ s ∈ ls, ∀ x ∈ s, isR x = true) (w : World) (hsets : SetsAt w a ls)
    (HH : ∀ wr, Below w.heap.size w wr → ∀ c, Calls Tryd.prog 61 #[.slice a ls.length cap, .int .i32 c, .int .i64 what] wr fun e w' => e = .returned (.bool (P c)) ∧ Below wr.heap.size wr w') :
    Calls Tryd.prog 41 #[.slice a ls.length cap, .int .i64 what] w fun e w' => ∃ v, e = .returned (.tuple #[v, .int .i64 (limC (madeL P (startsL ls)))]) ∧ w'.ownsRow w.heap.size 55 2 v (limL (madeL P (startsL ls))).length (flat (limL (madeL P (startsL ls)))) ∧ Below w.heap.size w w' := by
  have h := starts_inv ls [0] ⟨Int.le_refl _, by omega, trivial⟩ (by simp) hR
  change SUp 0 (startsL ls) ∧ _ at h
  have hlen : (startsL ls).length ≤ 1 + 2 * tot ls := by have := starts_length ls [0]; simpa [startsL, Nat.add_comm] using this
  exact made_loop what P a cap ls (startsL ls) (by omega) (fun j hj => by have := sup_get h.1 j hj; omega)
    (fun i hi => by have := madeTo_length P (startsL ls) i; omega) w (hide (starts_any a cap ls hn (by omega) hR w hsets)) (hide HH)

/-- What Not answers. -/
def notC (l : List Rng) : Int := if checkV l = 0 then limC (restL l) else checkV l
def notL (l : List Rng) : List Rng := if checkV l = 0 then limL (restL l) else []
theorem set_isR {l : List Rng} (h : checkV l = 0) : ∀ x ∈ l, isR x = true := by
  intro x hx
  obtain ⟨n, hn, rfl⟩ := List.getElem_of_mem hx
  have := (checkV_zero h).1 n hn
  simp only [okAt, Bool.and_eq_true] at this
  have h2 := this.1
  rwa [List.getD_eq_getElem?_getD, List.getElem?_eq_getElem hn] at h2
theorem set_up {l : List Rng} (h : checkV l = 0) : Up 0 l := getD_up (checkV_zero h).1
theorem limL_le (l : List Rng) : (limL l).length ≤ 2048 := by
  unfold limL; split
  · simp
  · omega

set_option maxHeartbeats 2000000 in
set_option maxRecDepth 100000 in
theorem not_any (a : Option Addr) (cap : Nat) (l : List Rng) (hl : l.length ≤ 281474976710656) (w : World) (hrow : RowAt w a l) :
    Calls Tryd.prog 23 #[.slice a l.length cap] w fun e w' => ∃ v, e = .returned (.tuple #[v, .int .i64 (notC l)]) ∧ w'.ownsRow w.heap.size 55 2 v (notL l).length (flat (notL l)) ∧ Below w.heap.size w w' := by
  have HC := hide (check_any a cap l hl w hrow)
  by_cases hc : checkV l = 0
  · have Hv : Hid (notL l = limL (restL l) ∧ notC l = limC (restL l)) := hide ⟨if_pos hc, if_pos hc⟩
    have hle := (checkV_zero hc).2
    have HR := hide (fun w' (hb : Below w.heap.size w w') => rest_any a cap l (by omega) (set_isR hc) w' (rowAt_below hrow (Nat.le_refl _) hb))
    rw [hc] at HC
    clear hc hrow
    go_enter Tryd.func23, Tryd.ntmps23
    go_wp2_with fail
    refine (unhide HC).mono ?_
    rintro e w1 ⟨rfl, hb1⟩
    have HR1 := hide (unhide HR w1 hb1)
    have Hb1 := hide hb1
    clear hb1 HR
    go_wp2_with fail
    refine (unhide HR1).mono ?_
    rintro e w2 ⟨v, rfl, hown, hb2⟩
    have HL := hide (limited_any _ v (restL l) w2 hown)
    have Hb2 := hide ((unhide Hb1).trans (below_le hb2 (unhide Hb1).size))
    clear hown hb2
    go_wp2_with fail
    refine (unhide HL).mono ?_
    rintro e w3 ⟨v', rfl, hown', rfl⟩
    have Hown' := hide hown'
    clear hown'
    go_wp2
    go_ret2
    rw [(unhide Hv).1, (unhide Hv).2]
    exact ⟨v', rfl, ownsRow_le (unhide Hown') (unhide Hb1).size, unhide Hb2⟩
  · have Hv : Hid (notL l = [] ∧ notC l = checkV l) := hide ⟨if_neg hc, if_neg hc⟩
    have hc' : (checkV l != 0) = true := by simpa using hc
    clear hc hrow
    generalize checkV l = c at *
    go_enter Tryd.func23, Tryd.ntmps23
    go_wp2_with fail
    refine (unhide HC).mono ?_
    rintro e w1 ⟨rfl, hb1⟩
    have Hb1 := hide hb1
    clear hb1
    go_wp2
    go_ret2
    rw [(unhide Hv).1, (unhide Hv).2]
    exact ⟨_, rfl, ⟨rfl, .inl ⟨rfl, rfl⟩⟩, unhide Hb1⟩

theorem holds_not (l : List Rng) (c : Int) : holdsB 3 [l] c = !hasB l c := by
  simp [holdsB, cntB]
theorem made_not (l : List Rng) (h : checkV l = 0) : madeL (fun c => !hasB l c) (startsL [l]) = restL l := by
  have h1 := madeL_inv [l] (fun s hs => by simp at hs; subst hs; exact set_isR h) (fun c => !hasB l c) (fun c r hcr => by rw [hcr l (by simp)])
  have h2 := restFrom_inv l 0 (Int.le_refl _) (set_up h)
  refine up_uniq h1.1 h2.1 fun r => ?_
  rw [h1.2]
  exact (h2.2 r).symm
set_option maxHeartbeats 2000000 in
set_option maxRecDepth 100000 in
theorem rNot_any (a : Option Addr) (cap : Nat) (l : List Rng) (hl : l.length ≤ 281474976710656) (w : World) (hrow : RowAt w a l) :
    Calls Tryd.prog 24 #[.slice a l.length cap] w fun e w' => ∃ v, e = .returned (.tuple #[v, .int .i64 (notC l)]) ∧ w'.ownsRow w.heap.size 55 2 v (notL l).length (flat (notL l)) ∧ Below w.heap.size w w' := by
  have hbw : Below w.heap.size w (w.alloc (.cells #[.slice a l.length cap] 22)) := (Below.refl _ _).alloc (Nat.le_refl _) _
  have hsets := setsAt_one (ca := cap) hrow
  have HC := hide (checked_any (some ⟨w.heap.size, 0, none⟩) 1 [l] (by simp) (by simp [hl]) _ hsets)
  have hck : chkAll [l] = checkV l := by unfold chkAll chkAll; split <;> simp_all
  rw [hck] at HC
  have Hbw := hide hbw
  by_cases hc : checkV l = 0
  · have Hv : Hid (notL l = limL (restL l) ∧ notC l = limC (restL l)) := hide ⟨if_pos hc, if_pos hc⟩
    have hle := (checkV_zero hc).2
    have hRs : ∀ s ∈ [l], ∀ x ∈ s, isR x = true := fun s hs => by simp at hs; subst hs; exact set_isR hc
    have HM := hide (fun w' (hb : Below (w.alloc (.cells #[.slice a l.length cap] 22)).heap.size (w.alloc (.cells #[.slice a l.length cap] 22)) w') => by
      have h := rmade_any 3 (fun c => !hasB l c) (some ⟨w.heap.size, 0, none⟩) 1 [l] (by simp) (by simp [tot]; omega) hRs w' (setsAt_below hsets (Nat.le_refl _) hb)
        (fun wr hbr c => by
          have := holds_any 3 (by omega) (some ⟨w.heap.size, 0, none⟩) 1 [l] (by simp) (by simp [hl]) c wr (setsAt_below (setsAt_below hsets (Nat.le_refl _) hb) (Nat.le_refl _) hbr)
          rwa [holds_not] at this)
      rw [made_not l hc] at h
      exact h)
    rw [hc] at HC
    clear hc hrow hsets hbw hck hRs
    go_enter Tryd.func24, Tryd.ntmps24
    go_wp2_with fail
    refine (unhide HC).mono ?_
    rintro e w1 ⟨rfl, hb1⟩
    have HM1 := hide (unhide HM w1 hb1)
    have Hb1 := hide ((unhide Hbw).trans (below_le hb1 (unhide Hbw).size))
    clear hb1 HM
    go_wp2_with fail
    refine (unhide HM1).mono ?_
    rintro e w2 ⟨v, rfl, hown, hb2⟩
    have Hb2 := hide ((unhide Hb1).trans (below_le hb2 (unhide Hb1).size))
    have Hown := hide hown
    clear hown hb2
    go_wp2
    go_ret2
    rw [(unhide Hv).1, (unhide Hv).2]
    exact ⟨v, rfl, ownsRow_le (unhide Hown) (unhide Hb1).size, unhide Hb2⟩
  · have Hv : Hid (notL l = [] ∧ notC l = checkV l) := hide ⟨if_neg hc, if_neg hc⟩
    have hc' : (checkV l != 0) = true := by simpa using hc
    clear hc hrow hsets hbw hck
    generalize checkV l = c at *
    go_enter Tryd.func24, Tryd.ntmps24
    go_wp2_with fail
    refine (unhide HC).mono ?_
    rintro e w1 ⟨rfl, hb1⟩
    have Hb1 := hide ((unhide Hbw).trans (below_le hb1 (unhide Hbw).size))
    clear hb1
    go_wp2
    go_ret2
    rw [(unhide Hv).1, (unhide Hv).2]
    exact ⟨_, rfl, ⟨rfl, .inl ⟨rfl, rfl⟩⟩, unhide Hb1⟩
end Go.Proofs.YtkbhdojgdgiggaaDoor

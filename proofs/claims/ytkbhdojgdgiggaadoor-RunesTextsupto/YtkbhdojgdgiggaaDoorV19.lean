/- Contracts of both Minus. -/
import Derived.Test.YtkbhdojgdgiggaaDoorV18
import Derived.Laws.AppendOwnNone
namespace Go.Proofs.YtkbhdojgdgiggaaDoor
open Go.RowKit

/-- What Minus makes. -/
def minusM (l m : List Rng) : List Rng := restL (mergedL (restL l ++ m))
def minusC (l m : List Rng) : Int := if chkAll [l, m] = 0 then limC (minusM l m) else chkAll [l, m]
def minusL (l m : List Rng) : List Rng := if chkAll [l, m] = 0 then limL (minusM l m) else []
theorem up_isR {lo : Int} {l : List Rng} (h0 : 0 ≤ lo) (h : Up lo l) : ∀ x ∈ l, isR x = true := by
  induction l generalizing lo with
  | nil => intro x hx; simp at hx
  | cons y l ih =>
    intro x hx
    obtain ⟨h1, h2, h3, h4⟩ := h
    rw [List.mem_cons] at hx
    rcases hx with rfl | hx
    · simp only [isR, decide_eq_true_eq]; omega
    · exact ih (by omega) h4 x hx
theorem restFrom_length (fr : Int) (l : List Rng) : (restFrom fr l).length ≤ l.length + 1 := by
  induction l generalizing fr with
  | nil => unfold restFrom; split <;> simp
  | cons x l ih =>
    have := ih (x.2 + 1)
    unfold restFrom
    rw [List.length_append]
    split <;> simp <;> omega
theorem mergeL_length (l : List Rng) : (mergeL l).length ≤ l.length := by
  have key : ∀ (l acc : List Rng), (l.foldl mergeStep acc).length ≤ acc.length + l.length := by
    intro l
    induction l with
    | nil => intro acc; simp
    | cons x l ih => intro acc; have := ih (mergeStep acc x); have := mergeStep_length acc x; simp only [List.foldl_cons, List.length_cons]; omega
  show (l.foldl mergeStep []).length ≤ _
  simpa using key l []
theorem mergedL_length (l : List Rng) : (mergedL l).length ≤ l.length := by
  have := mergeL_length (sortL l)
  rw [sortL_length] at this
  exact this
theorem chk_both {l m : List Rng} (h : chkAll [l, m] = 0) : checkV l = 0 ∧ checkV m = 0 := by
  rw [chk_two] at h
  split at h
  · exact ⟨‹_›, h⟩
  · exact absurd h ‹_›
theorem minus_isR {l m : List Rng} (h : chkAll [l, m] = 0) : ∀ x ∈ restL l ++ m, isR x = true := by
  obtain ⟨h1, h2⟩ := chk_both h
  intro x hx
  rw [List.mem_append] at hx
  rcases hx with hx | hx
  · exact up_isR (Int.le_refl _) (restFrom_inv l 0 (Int.le_refl _) (set_up h1)).1 x hx
  · exact set_isR h2 x hx
/-- The document's Minus is ours. -/
theorem made_minus (l m : List Rng) (h : chkAll [l, m] = 0) : madeL (fun c => hasB l c && !hasB m c) (startsL [l, m]) = minusM l m := by
  obtain ⟨h1, h2⟩ := chk_both h
  have a := madeL_inv [l, m] (fun s hs => by
    simp at hs
    rcases hs with rfl | rfl
    · exact set_isR h1
    · exact set_isR h2) (fun c => hasB l c && !hasB m c) (fun c r hcr => by rw [hcr l (by simp), hcr m (by simp)])
  have b := restFrom_inv l 0 (Int.le_refl _) (set_up h1)
  have c := mergedL_inv (restL l ++ m) (minus_isR h)
  have d := restFrom_inv (mergedL (restL l ++ m)) 0 (Int.le_refl _) c.1
  refine up_uniq a.1 d.1 fun r => ?_
  rw [a.2]
  refine Eq.trans ?_ (d.2 r).symm
  rw [c.2, hasB_append, show hasB (restL l) r = _ from b.2 r]
  by_cases hr : 0 ≤ r ∧ r ≤ 1114111
  · simp [hr]
  · simp [hr]

set_option maxHeartbeats 4000000 in
set_option maxRecDepth 100000 in
theorem minus_any (a a2 : Option Addr) (cap cap2 : Nat) (hcap : a2 = none → cap2 = 0) (l m : List Rng) (hl : l.length ≤ 281474976710656) (hm : m.length ≤ 281474976710656) (w : World) (hrow : RowAt w a l) (hrow2 : RowAt w a2 m) :
    Calls Tryd.prog 21 #[.slice a l.length cap, .slice a2 m.length cap2] w fun e w' => ∃ v, e = .returned (.tuple #[v, .int .i64 (minusC l m)]) ∧ w'.ownsRow w.heap.size 55 2 v (minusL l m).length (flat (minusL l m)) ∧ Below w.heap.size w w' := by
  obtain ⟨i0, hi, hz0, hz1, hz2⟩ := info_parts hrange
  have hbw : Below w.heap.size w (w.alloc (.cells #[.slice a l.length cap, .slice a2 m.length cap2] 22)) := (Below.refl _ _).alloc (Nat.le_refl _) _
  have HC := hide (checkAll_any (some ⟨w.heap.size, 0, none⟩) 2 [l, m] (by simp) (by simp [hl, hm]) _ (setsAt_two (ca := cap) (cb := cap2) hrow hrow2))
  have Hbw := hide hbw
  clear hbw
  by_cases hc : chkAll [l, m] = 0
  · have Hv : Hid (minusL l m = limL (minusM l m) ∧ minusC l m = limC (minusM l m)) := hide ⟨if_pos hc, if_pos hc⟩
    obtain ⟨h1, h2⟩ := chk_both hc
    have hle := (checkV_zero h1).2
    have hle2 := (checkV_zero h2).2
    have hlr := restFrom_length 0 l
    have hml := mergedL_length (restL l ++ m)
    rw [List.length_append] at hml
    have hlr' : (restL l).length ≤ l.length + 1 := hlr
    have HR := hide (fun w' (hb : Below w.heap.size w w') => rest_any a cap l (by omega) (set_isR h1) w' (rowAt_below hrow (Nat.le_refl _) hb))
    have HM := hide (fun (v : Value) (w' : World) (B : Nat) (ho : w'.ownsRow B 55 2 v (restL l ++ m).length (flat (restL l ++ m))) => show Calls Tryd.prog 40 #[v] w' fun e w'' => ∃ v', e = .returned v' ∧ w''.ownsRow w'.heap.size 55 2 v' (mergedL (restL l ++ m)).length (flat (mergedL (restL l ++ m))) ∧ Below w'.heap.size w' w'' by
      obtain ⟨va, vc, rfl⟩ := ownsRow_slice ho
      exact merged_any va vc (restL l ++ m) (by rw [List.length_append]; omega) (minus_isR hc) w' (rowAt_own ho))
    have HR2 := hide (fun (v : Value) (w' : World) (B : Nat) (ho : w'.ownsRow B 55 2 v (mergedL (restL l ++ m)).length (flat (mergedL (restL l ++ m)))) => show Calls Tryd.prog 46 #[v] w' fun e w'' => ∃ v', e = .returned v' ∧ w''.ownsRow w'.heap.size 55 2 v' (minusM l m).length (flat (minusM l m)) ∧ Below w'.heap.size w' w'' by
      obtain ⟨va, vc, rfl⟩ := ownsRow_slice ho
      exact rest_any va vc (mergedL (restL l ++ m)) (by omega) (up_isR (Int.le_refl _) (mergedL_inv _ (minus_isR hc)).1) w' (rowAt_own ho))
    rw [hc] at HC
    have Hrow2 := hide hrow2
    clear hc hrow hrow2 h1 h2 hlr hml
    go_enter Tryd.func21, Tryd.ntmps21
    go_wp2_with fail
    refine (unhide HC).mono ?_
    rintro e w1 ⟨rfl, hb1⟩
    have hb01 := (unhide Hbw).trans (below_le hb1 (unhide Hbw).size)
    have HR1 := hide (unhide HR w1 hb01)
    have Hb1 := hide hb01
    clear hb1 hb01 HR
    go_wp2_with fail
    refine (unhide HR1).mono ?_
    rintro e w2 ⟨v, rfl, hown, hb2⟩
    have hb02 := (unhide Hb1).trans (below_le hb2 (unhide Hb1).size)
    have hs1 := (unhide Hb1).size
    have hs2 := hb2.size
    have Hown := hide hown
    have Hb2 := hide hb02
    have Hb12 := hide hb2
    clear hown hb2 hb02
    obtain ⟨va, vc, rfl⟩ := ownsRow_slice (unhide Hown)
    -- append(rest(a), b...)
    have tail : ∀ (v3 : Value) (w3 : World), w3.ownsRow w1.heap.size 55 2 v3 ((restL l).length + m.length) (flat (restL l) ++ flat m) → Below w1.heap.size w1 w3 → Hid (Calls Tryd.prog 40 #[v3] w3 fun e w'' => ∃ v', e = .returned v' ∧ w''.ownsRow w3.heap.size 55 2 v' (mergedL (restL l ++ m)).length (flat (mergedL (restL l ++ m))) ∧ Below w3.heap.size w3 w'') := fun v3 w3 ho _ => hide (unhide HM v3 w3 w1.heap.size (by rw [List.length_append, flat_append]; exact ho))
    cases a2 with
    | none =>
      have hm0 : m = [] := by
        rcases unhide Hrow2 with h | ⟨b, off, h, _⟩
        · exact h
        · cases h
      subst hm0
      obtain rfl := hcap rfl
      simp only [List.length_nil] at *
      have HM3 := tail (.slice va (restL l).length vc) w2 (by simpa [flat] using unhide Hown) (unhide Hb12)
      have Hb3 := Hb2
      go_wp2_with (at_builtin; refine wpList_append_own_none rfl _ _ 22 rfl w1.heap.size 55 i0 2 Tryd.underlying22 hi _ _ _ rfl (unhide Hown) rfl ?_)
      go_wp2_with fail
      refine (unhide HM3).mono ?_
      rintro e w4 ⟨v4, rfl, hown4, hb4⟩
      have HR4 := hide (unhide HR2 v4 w4 _ hown4)
      have Hb4 := hide ((unhide Hb3).trans (below_le hb4 (unhide Hb3).size))
      clear hown4 hb4
      go_wp2_with fail
      refine (unhide HR4).mono ?_
      rintro e w5 ⟨v5, rfl, hown5, hb5⟩
      have HL := hide (limited_any _ v5 (minusM l []) w5 hown5)
      have hs4 := (unhide Hb4).size
      have Hb5 := hide ((unhide Hb4).trans (below_le hb5 (unhide Hb4).size))
      clear hown5 hb5
      go_wp2_with fail
      refine (unhide HL).mono ?_
      rintro e w6 ⟨v6, rfl, hown6, rfl⟩
      have Hown6 := hide hown6
      clear hown6
      go_wp2
      go_ret2
      rw [(unhide Hv).1, (unhide Hv).2]
      exact ⟨v6, rfl, ownsRow_le (unhide Hown6) hs4, unhide Hb5⟩
    | some ad =>
      have Hc2 : Hid (∀ j u, (flat m)[j]? = some u → w2.cell? (ad.add j) = some u) := hide fun j u hj => by
        rcases rowAt_below (unhide Hrow2) (Nat.le_refl _) (unhide Hb2) with rfl | ⟨b, off, h, hlt, hc⟩
        · simp [flat] at hj
        · cases h
          have hj2 : j < m.length * 2 := by
            have := (List.getElem?_eq_some_iff.1 hj).1
            rwa [flat_length] at this
          have e : (⟨b, off, none⟩ : Addr).add j = ⟨b, off + j, none⟩ := by unfold Addr.add; split <;> simp_all
          rw [e]
          have f := flat_at m (j / 2) (by omega)
          have g := hc (j / 2) (by omega)
          have h2 : j % 2 = 0 ∨ j % 2 = 1 := by omega
          rcases h2 with h2 | h2
          · rw [show j / 2 * 2 = j by omega] at f g
            rw [f.1] at hj; cases hj; exact g.1
          · rw [show off + j / 2 * 2 + 1 = off + j by omega] at g
            rw [show j / 2 * 2 + 1 = j by omega] at f
            rw [f.2] at hj; cases hj; exact g.2
      go_wp2_with (at_builtin; refine wpList_append_own _ rfl _ _ 22 rfl w1.heap.size 55 i0 (.agg #[.int .i32 0, .int .i32 0]) 2 8 Tryd.underlying22 hi hz0 hz1 hz2 rfl (by decide) _ _ _ rfl (unhide Hown) ad m.length cap2 (flat m) rfl ?c1 ?c2 ?c3 ?c4 ?c5 ?c6 ?_)
      case c1 => exact flat_length m
      case c2 => exact unhide Hc2
      case c3 => exact flat_one m
      case c4 => unfold maxLen; omega
      case c5 => omega
      case c6 => omega
      intro v3 w3 hown3 hgrow3 _
      have hb13 := (unhide Hb12).grown hgrow3 (by omega) (fun x hx => ((unhide Hown).lt x hx).1)
      have HM3 := tail v3 w3 hown3 hb13
      have Hb3 := hide ((unhide Hb1).trans (below_le hb13 hs1))
      clear hown3 hgrow3 hb13 Hc2
      go_wp2_with fail
      refine (unhide HM3).mono ?_
      rintro e w4 ⟨v4, rfl, hown4, hb4⟩
      have HR4 := hide (unhide HR2 v4 w4 _ hown4)
      have Hb4 := hide ((unhide Hb3).trans (below_le hb4 (unhide Hb3).size))
      clear hown4 hb4
      go_wp2_with fail
      refine (unhide HR4).mono ?_
      rintro e w5 ⟨v5, rfl, hown5, hb5⟩
      have HL := hide (limited_any _ v5 (minusM l m) w5 hown5)
      have hs4 := (unhide Hb4).size
      have Hb5 := hide ((unhide Hb4).trans (below_le hb5 (unhide Hb4).size))
      clear hown5 hb5
      go_wp2_with fail
      refine (unhide HL).mono ?_
      rintro e w6 ⟨v6, rfl, hown6, rfl⟩
      have Hown6 := hide hown6
      clear hown6
      go_wp2
      go_ret2
      rw [(unhide Hv).1, (unhide Hv).2]
      exact ⟨v6, rfl, ownsRow_le (unhide Hown6) hs4, unhide Hb5⟩
  · have Hv : Hid (minusL l m = [] ∧ minusC l m = chkAll [l, m]) := hide ⟨if_neg hc, if_neg hc⟩
    have hc' : (chkAll [l, m] != 0) = true := by simpa using hc
    clear hc hrow hrow2
    generalize chkAll [l, m] = c at *
    go_enter Tryd.func21, Tryd.ntmps21
    go_wp2_with fail
    refine (unhide HC).mono ?_
    rintro e w1 ⟨rfl, hb1⟩
    have Hb1 := hide ((unhide Hbw).trans (below_le hb1 (unhide Hbw).size))
    clear hb1
    go_wp2
    go_ret2
    rw [(unhide Hv).1, (unhide Hv).2]
    exact ⟨_, rfl, ⟨rfl, .inl ⟨rfl, rfl⟩⟩, unhide Hb1⟩

/-- holds, asked for what is in the one and not in the other. -/
theorem cnt_two (l m : List Rng) (r : Int) (i : Nat) : cntB ([l, m].take i) r ≤ 2 := by
  have := cnt_le ([l, m].take i) r
  have h2 : ([l, m].take i).length ≤ 2 := by simp; omega
  omega
set_option maxHeartbeats 4000000 in
set_option maxRecDepth 100000 in
theorem holds_minus (a : Option Addr) (cap : Nat) (l m : List Rng) (hl : l.length ≤ 281474976710656) (hm : m.length ≤ 281474976710656) (r : Int) (w : World) (hsets : SetsAt w a [l, m]) :
    Calls Tryd.prog 61 #[.slice a 2 cap, .int .i32 r, .int .i64 2] w fun e w' => e = .returned (.bool (hasB l r && !hasB m r)) ∧ Below w.heap.size w w' := by
  have Hs := hide hsets
  clear hsets
  go_enter Tryd.func61, Tryd.ntmps61
  go_wp2
  go_loopw [7, 8] (fun n x wr => ∃ i c : Nat, n = .int .i64 (c : Int) ∧ x = .int .i64 i ∧ i ≤ 2 ∧ Below w.heap.size w wr ∧ c ≤ i) (fun _ x _ => 2 - (intOf x).toNat)
  case atStart => exact ⟨0, 0, rfl, rfl, by omega, Below.refl _ _, by omega⟩
  case round =>
    obtain ⟨i, c, rfl, rfl, hi, hbel, hci⟩ := hrel
    have hsz := hbel.size
    have Hbel := hide hbel
    clear hbel
    by_cases hil : i < 2
    · have hil' : (i : Int) < 2 := by omega
      obtain ⟨b, off, ai, ci, rfl, hlt, hcell, hrow⟩ := setsAt_cell (unhide Hs) (unhide Hbel) (show i < [l, m].length from hil)
      have hls : ([l, m].getD i []).length ≤ 281474976710656 := by
        have h2 : i = 0 ∨ i = 1 := by omega
        rcases h2 with rfl | rfl
        · exact hl
        · exact hm
      generalize [l, m].getD i [] = s at *
      have HH := hide (rHas_any ai ci s hls r wr hrow)
      clear hrow
      cases hh : hasB s r
      · rw [hh] at HH
        clear hh
        go_wp2_with fail
        refine (unhide HH).mono ?_
        rintro e w1 ⟨rfl, hb1⟩
        have Hb1 := hide ((unhide Hbel).trans (below_le hb1 hsz))
        clear hb1
        go_wp2
        go_roundw
        case rel => exact ⟨i + 1, c, rfl, by go_num, by omega, unhide Hb1, by omega⟩
        case measure => simp [intOf]; omega
      · rw [hh] at HH
        clear hh
        go_wp2_with fail
        refine (unhide HH).mono ?_
        rintro e w1 ⟨rfl, hb1⟩
        have Hb1 := hide ((unhide Hbel).trans (below_le hb1 hsz))
        clear hb1
        go_wp2
        go_roundw
        case rel => exact ⟨i + 1, c + 1, by go_num, by go_num, by omega, unhide Hb1, by omega⟩
        case measure => simp [intOf]; omega
    · have hil' : ¬ (i : Int) < 2 := by omega
      obtain ⟨b, off, a0, c0, rfl, hlt, hcell, hrow⟩ := setsAt_cell (unhide Hs) (unhide Hbel) (show 0 < [l, m].length by simp)
      simp only [List.getD_cons_zero, Nat.add_zero] at hcell hrow
      have HH := hide (rHas_any a0 c0 l hl r wr hrow)
      have HM := hide (fun w' (hb : Below w.heap.size w w') => setsAt_cell (unhide Hs) hb (show 1 < [l, m].length by simp))
      clear hrow
      generalize hp : hasB l r = p at *
      have Hp := hide hp
      clear hp
      cases p
      · go_wp2_with fail
        refine (unhide HH).mono ?_
        rintro e w1 ⟨rfl, hb1⟩
        have Hb1 := hide ((unhide Hbel).trans (below_le hb1 hsz))
        clear hb1
        go_wp2
        go_ret
        exact ⟨ret_bool (by rw [unhide Hp]; rfl), unhide Hb1⟩
      · go_wp2_with fail
        refine (unhide HH).mono ?_
        rintro e w1 ⟨rfl, hb1⟩
        have hb01 := (unhide Hbel).trans (below_le hb1 hsz)
        obtain ⟨b', off', a1, c1, he, hlt1, hcell1, hrow1⟩ := unhide HM w1 hb01
        cases he
        simp only [List.getD_cons_succ, List.getD_cons_zero] at hcell1 hrow1
        have HH1 := hide (rHas_any a1 c1 m hm r w1 hrow1)
        have Hb1 := hide hb01
        clear hb1 hb01 hrow1 hcell
        generalize hq : hasB m r = q at *
        have Hq := hide hq
        clear hq
        go_wp2_with fail
        refine (unhide HH1).mono ?_
        rintro e w2 ⟨rfl, hb2⟩
        have Hb2 := hide ((unhide Hb1).trans (below_le hb2 (unhide Hb1).size))
        clear hb2
        go_wp2
        go_ret
        exact ⟨ret_bool (by rw [unhide Hp, unhide Hq]; simp), unhide Hb2⟩
set_option maxHeartbeats 2000000 in
set_option maxRecDepth 100000 in
theorem rMinus_any (a a2 : Option Addr) (cap cap2 : Nat) (l m : List Rng) (hl : l.length ≤ 281474976710656) (hm : m.length ≤ 281474976710656) (w : World) (hrow : RowAt w a l) (hrow2 : RowAt w a2 m) :
    Calls Tryd.prog 22 #[.slice a l.length cap, .slice a2 m.length cap2] w fun e w' => ∃ v, e = .returned (.tuple #[v, .int .i64 (minusC l m)]) ∧ w'.ownsRow w.heap.size 55 2 v (minusL l m).length (flat (minusL l m)) ∧ Below w.heap.size w w' := by
  have hbw : Below w.heap.size w (w.alloc (.cells #[.slice a l.length cap, .slice a2 m.length cap2] 22)) := (Below.refl _ _).alloc (Nat.le_refl _) _
  have hsets := setsAt_two (ca := cap) (cb := cap2) hrow hrow2
  have HC := hide (checked_any (some ⟨w.heap.size, 0, none⟩) 2 [l, m] (by simp) (by simp [hl, hm]) _ hsets)
  have Hbw := hide hbw
  by_cases hc : chkAll [l, m] = 0
  · have Hv : Hid (minusL l m = limL (minusM l m) ∧ minusC l m = limC (minusM l m)) := hide ⟨if_pos hc, if_pos hc⟩
    obtain ⟨h1, h2⟩ := chk_both hc
    have hle := (checkV_zero h1).2
    have hle2 := (checkV_zero h2).2
    have hRs : ∀ s ∈ [l, m], ∀ x ∈ s, isR x = true := fun s hs => by
      simp at hs
      rcases hs with rfl | rfl
      · exact set_isR h1
      · exact set_isR h2
    have HM := hide (fun w' (hb : Below (w.alloc (.cells #[.slice a l.length cap, .slice a2 m.length cap2] 22)).heap.size (w.alloc (.cells #[.slice a l.length cap, .slice a2 m.length cap2] 22)) w') => by
      have h := rmade_any 2 (fun c => hasB l c && !hasB m c) (some ⟨w.heap.size, 0, none⟩) 2 [l, m] (by simp) (by simp [tot]; omega) hRs w' (setsAt_below hsets (Nat.le_refl _) hb)
        (fun wr hbr c => holds_minus (some ⟨w.heap.size, 0, none⟩) 2 l m hl hm c wr (setsAt_below (setsAt_below hsets (Nat.le_refl _) hb) (Nat.le_refl _) hbr))
      rw [made_minus l m hc] at h
      exact h)
    rw [hc] at HC
    clear hc hrow hrow2 hsets hbw hRs h1 h2
    go_enter Tryd.func22, Tryd.ntmps22
    go_wp2_with fail
    refine (unhide HC).mono ?_
    rintro e w1 ⟨rfl, hb1⟩
    have HM1 := hide (unhide HM w1 hb1)
    have Hb1 := hide ((unhide Hbw).trans (below_le hb1 (unhide Hbw).size))
    clear hb1 HM
    go_wp2_with fail
    refine (unhide HM1).mono ?_
    rintro e w2 ⟨v, rfl, hown, hb2⟩
    have Hb2 := hide ((unhide Hb1).trans (below_le hb2 (unhide Hb1).size))
    have Hown := hide hown
    clear hown hb2
    go_wp2
    go_ret2
    rw [(unhide Hv).1, (unhide Hv).2]
    exact ⟨v, rfl, ownsRow_le (unhide Hown) (unhide Hb1).size, unhide Hb2⟩
  · have Hv : Hid (minusL l m = [] ∧ minusC l m = chkAll [l, m]) := hide ⟨if_neg hc, if_neg hc⟩
    have hc' : (chkAll [l, m] != 0) = true := by simpa using hc
    clear hc hrow hrow2 hsets hbw
    generalize chkAll [l, m] = c at *
    go_enter Tryd.func22, Tryd.ntmps22
    go_wp2_with fail
    refine (unhide HC).mono ?_
    rintro e w1 ⟨rfl, hb1⟩
    have Hb1 := hide ((unhide Hbw).trans (below_le hb1 (unhide Hbw).size))
    clear hb1
    go_wp2
    go_ret2
    rw [(unhide Hv).1, (unhide Hv).2]
    exact ⟨_, rfl, ⟨rfl, .inl ⟨rfl, rfl⟩⟩, unhide Hb1⟩
end Go.Proofs.YtkbhdojgdgiggaaDoor

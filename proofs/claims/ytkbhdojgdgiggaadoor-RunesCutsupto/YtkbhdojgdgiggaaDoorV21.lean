/- Contract of Meet. -/
import Derived.Test.YtkbhdojgdgiggaaDoorV20
namespace Go.Proofs.YtkbhdojgdgiggaaDoor
open Go.RowKit

/-- The runes that are not in one of them. -/
def missL (ls : List (List Rng)) : List Rng := ls.flatMap restL
theorem missL_succ (ls : List (List Rng)) (i : Nat) (hi : i < ls.length) : missL (ls.take (i + 1)) = missL (ls.take i) ++ restL (ls.getD i []) := by
  unfold missL
  rw [List.take_add_one, List.flatMap_append]
  simp [List.getD_eq_getElem?_getD, List.getElem?_eq_getElem hi]
theorem missL_length (ls : List (List Rng)) : (missL ls).length ≤ tot ls + ls.length := by
  induction ls with
  | nil => simp [missL, tot]
  | cons s ls ih =>
    have h1 : missL (s :: ls) = restL s ++ missL ls := rfl
    have h2 : tot (s :: ls) = s.length + tot ls := by simp [tot]
    have h3 : (restL s).length ≤ s.length + 1 := restFrom_length 0 s
    rw [h1, h2, List.length_append, List.length_cons]
    omega
def meetM (ls : List (List Rng)) : List Rng := restL (mergedL (missL ls))
def meetC (ls : List (List Rng)) : Int := if chkAll ls = 0 then limC (meetM ls) else chkAll ls
def meetL (ls : List (List Rng)) : List Rng := if chkAll ls = 0 then limL (meetM ls) else []
theorem miss_isR {ls : List (List Rng)} (h : chkAll ls = 0) : ∀ x ∈ missL ls, isR x = true := by
  intro x hx
  simp only [missL, List.mem_flatMap] at hx
  obtain ⟨s, hs, hx⟩ := hx
  exact up_isR (Int.le_refl _) (restFrom_inv s 0 (Int.le_refl _) (set_up (chkAll_sets h s hs))).1 x hx
set_option maxHeartbeats 4000000 in
set_option maxRecDepth 100000 in
theorem meet_any (a : Option Addr) (cap : Nat) (ls : List (List Rng)) (hn : ls.length ≤ 281474976710656) (hl : ∀ s ∈ ls, s.length ≤ 281474976710656) (hT : chkAll ls = 0 → (tot ls + ls.length + 1) * 8 ≤ 140737488355328) (w : World) (hsets : SetsAt w a ls) :
    Calls Tryd.prog 19 #[.slice a ls.length cap] w fun e w' => ∃ v, e = .returned (.tuple #[v, .int .i64 (meetC ls)]) ∧ w'.ownsRow w.heap.size 55 2 v (meetL ls).length (flat (meetL ls)) ∧ Below w.heap.size w w' := by
  obtain ⟨i0, hi, hz0, hz1, hz2⟩ := info_parts hrange
  have HC := hide (checkAll_any a cap ls hn hl w hsets)
  by_cases hc : chkAll ls = 0
  · have Hv : Hid (meetL ls = limL (meetM ls) ∧ meetC ls = limC (meetM ls)) := hide ⟨if_pos hc, if_pos hc⟩
    have ht := hT hc
    have hml := missL_length ls
    have hmm := mergedL_length (missL ls)
    have Hck : Hid (∀ i, i < ls.length → checkV (ls.getD i []) = 0) := hide fun i hi => by
      refine chkAll_sets hc _ ?_
      rw [List.getD_eq_getElem?_getD, List.getElem?_eq_getElem hi]; exact List.getElem_mem _
    have HM := hide (fun (v : Value) (w' : World) (B : Nat) (ho : w'.ownsRow B 55 2 v (missL ls).length (flat (missL ls))) => show Calls Tryd.prog 40 #[v] w' fun e w'' => ∃ v', e = .returned v' ∧ w''.ownsRow w'.heap.size 55 2 v' (mergedL (missL ls)).length (flat (mergedL (missL ls))) ∧ Below w'.heap.size w' w'' by
      obtain ⟨va, vc, rfl⟩ := ownsRow_slice ho
      exact merged_any va vc (missL ls) (by omega) (miss_isR hc) w' (rowAt_own ho))
    have HR2 := hide (fun (v : Value) (w' : World) (B : Nat) (ho : w'.ownsRow B 55 2 v (mergedL (missL ls)).length (flat (mergedL (missL ls)))) => show Calls Tryd.prog 46 #[v] w' fun e w'' => ∃ v', e = .returned v' ∧ w''.ownsRow w'.heap.size 55 2 v' (meetM ls).length (flat (meetM ls)) ∧ Below w'.heap.size w' w'' by
      obtain ⟨va, vc, rfl⟩ := ownsRow_slice ho
      exact rest_any va vc (mergedL (missL ls)) (by omega) (up_isR (Int.le_refl _) (mergedL_inv _ (miss_isR hc)).1) w' (rowAt_own ho))
    rw [hc] at HC
    have Hs := hide hsets
    clear hc hsets hl hmm
    go_enter Tryd.func19, Tryd.ntmps19
    go_wp2_with fail
    refine (unhide HC).mono ?_
    rintro e w1 ⟨rfl, hb1⟩
    have Hb1 := hide hb1
    clear hb1 HC
    go_wp2
    go_loopw [5, 15] (fun u x wr => ∃ i : Nat, wr.ownsRow w.heap.size 55 2 u (missL (ls.take i)).length (flat (missL (ls.take i))) ∧ x = .int .i64 i ∧ i ≤ ls.length ∧ Below w.heap.size w wr) (fun _ x _ => ls.length - (intOf x).toNat)
    case atStart => exact ⟨0, ⟨rfl, .inl ⟨rfl, rfl⟩⟩, rfl, by omega, unhide Hb1⟩
    case round =>
      obtain ⟨i, hown, rfl, hil, hbel⟩ := hrel
      have hsz := hbel.size
      have hlen : (missL (ls.take i)).length ≤ tot ls + ls.length := by
        have h1 := missL_length (ls.take i)
        have h2 := tot_take_le ls i
        have h3 : (ls.take i).length ≤ ls.length := by simp; omega
        omega
      obtain ⟨ua, ucap, rfl⟩ := ownsRow_slice hown
      have Hown := hide hown; have Hbel := hide hbel
      clear hown hbel
      by_cases hic : i < ls.length
      · have hic' : (i : Int) < ls.length := by omega
        obtain ⟨b, off, ai, ci, rfl, hlt, hcell, hrow⟩ := setsAt_cell (unhide Hs) (unhide Hbel) hic
        have Hms := hide (missL_succ ls i hic)
        have hlen2 : (missL (ls.take (i + 1))).length ≤ tot ls + ls.length := by
          have h1 := missL_length (ls.take (i + 1))
          have h2 := tot_take_le ls (i + 1)
          have h3 : (ls.take (i + 1)).length ≤ ls.length := by simp; omega
          omega
        rw [unhide Hms, List.length_append] at hlen2
        have hck := unhide Hck i hic
        generalize ls.getD i [] = s at *
        have hsl := (checkV_zero hck).2
        have HR := hide (rest_any ai ci s (by omega) (set_isR hck) wr hrow)
        clear hrow hck
        generalize missL (ls.take i) = acc at *
        go_wp2_with fail
        refine (unhide HR).mono ?_
        rintro e w2 ⟨v2, rfl, hown2, hb2⟩
        have hb02 := (unhide Hbel).trans (below_le hb2 hsz)
        have hsz2 := hb02.size
        have Hown' := hide (ownsRow_below (unhide Hown) hb2 (Nat.le_refl _))
        have Hb2 := hide hb02
        obtain ⟨va, vc, rfl⟩ := ownsRow_slice hown2
        cases va with
        | none =>
          have h0 : restL s = [] ∧ vc = 0 := by
            rcases hown2.2 with ⟨h', h''⟩ | ⟨g, cap', cur, h', _⟩
            · exact ⟨List.eq_nil_of_length_eq_zero h'', by simp only [Value.slice.injEq, true_and] at h'; omega⟩
            · cases h'
          have Hm2 : Hid (missL (ls.take (i + 1)) = acc) := hide (by rw [unhide Hms, h0.1, List.append_nil])
          obtain ⟨h00, rfl⟩ := h0
          have h000 : (restL s).length = 0 := by rw [h00]; rfl
          rw [h000]
          clear hown2 hb2 hb02 h00 h000 HR Hms
          go_wp2_with (at_builtin; refine wpList_append_own_none rfl _ _ 22 rfl _ 55 i0 2 Tryd.underlying22 hi _ _ _ rfl (unhide Hown') rfl ?_)
          go_wp2
          go_roundw
          case rel => exact ⟨i + 1, by rw [unhide Hm2]; exact unhide Hown', by go_num, by omega, unhide Hb2⟩
          case measure => simp [intOf]; omega
        | some ad =>
          have Hc2 := hide (row_cells (rowAt_own hown2))
          clear hown2 hb2 hb02 HR
          go_wp2_with (at_builtin; refine wpList_append_own _ rfl _ _ 22 rfl _ 55 i0 (.agg #[.int .i32 0, .int .i32 0]) 2 8 Tryd.underlying22 hi hz0 hz1 hz2 rfl (by decide) _ _ _ rfl (unhide Hown') ad (restL s).length vc (flat (restL s)) rfl ?c1 ?c2 ?c3 ?c4 ?c5 ?c6 ?_)
          case c1 => exact flat_length _
          case c2 => exact unhide Hc2
          case c3 => exact flat_one _
          case c4 => unfold maxLen; omega
          case c5 => omega
          case c6 => omega
          intro v3 w3 hown3 hgrow3 _
          have Hb3 := hide ((unhide Hb2).grown hgrow3 (by omega) (fun x hx => ((unhide Hown').lt x hx).1))
          have Hown3 := hide hown3
          clear hown3 hgrow3 Hc2
          go_wp2
          go_roundw
          case rel =>
            refine ⟨i + 1, ?_, by go_num, by omega, unhide Hb3⟩
            rw [unhide Hms, flat_append, List.length_append]
            exact unhide Hown3
          case measure => simp [intOf]; omega
      · have hic' : ¬ (i : Int) < ls.length := by omega
        have hie : i = ls.length := by omega
        subst hie
        have HM2 : Hid (Calls Tryd.prog 40 #[.slice ua (missL (ls.take ls.length)).length ucap] wr fun e w'' => ∃ v', e = .returned v' ∧ w''.ownsRow wr.heap.size 55 2 v' (mergedL (missL ls)).length (flat (mergedL (missL ls))) ∧ Below wr.heap.size wr w'') := hide (by
          have ho := unhide Hown
          rw [List.take_length] at ho ⊢
          exact unhide HM _ wr _ ho)
        clear Hck hlen
        generalize (missL (ls.take ls.length)).length = ln at *
        go_wp2_with fail
        refine (unhide HM2).mono ?_
        rintro e w3 ⟨v3, rfl, hown3, hb3⟩
        have HR3 := hide (unhide HR2 v3 w3 _ hown3)
        have Hb3 := hide ((unhide Hbel).trans (below_le hb3 hsz))
        clear hown3 hb3
        go_wp2_with fail
        refine (unhide HR3).mono ?_
        rintro e w4 ⟨v4, rfl, hown4, hb4⟩
        have HL := hide (limited_any _ v4 (meetM ls) w4 hown4)
        have hs3 := (unhide Hb3).size
        have Hb4 := hide ((unhide Hb3).trans (below_le hb4 (unhide Hb3).size))
        clear hown4 hb4
        go_wp2_with fail
        refine (unhide HL).mono ?_
        rintro e w5 ⟨v5, rfl, hown5, rfl⟩
        have Hown5 := hide hown5
        clear hown5
        go_wp2
        go_ret2
        rw [(unhide Hv).1, (unhide Hv).2]
        exact ⟨v5, rfl, ownsRow_le (unhide Hown5) hs3, unhide Hb4⟩
  · have Hv : Hid (meetL ls = [] ∧ meetC ls = chkAll ls) := hide ⟨if_neg hc, if_neg hc⟩
    have hc' : (chkAll ls != 0) = true := by simpa using hc
    clear hc hsets hT
    generalize chkAll ls = c at *
    go_enter Tryd.func19, Tryd.ntmps19
    go_wp2_with fail
    refine (unhide HC).mono ?_
    rintro e w1 ⟨rfl, hb1⟩
    have Hb1 := hide hb1
    clear hb1
    go_wp2
    go_ret2
    rw [(unhide Hv).1, (unhide Hv).2]
    exact ⟨_, rfl, ⟨rfl, .inl ⟨rfl, rfl⟩⟩, unhide Hb1⟩
end Go.Proofs.YtkbhdojgdgiggaaDoor

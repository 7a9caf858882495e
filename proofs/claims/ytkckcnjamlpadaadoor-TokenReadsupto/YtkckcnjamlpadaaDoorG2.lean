/- The document's Kinds. -/
import Derived.Test.YtkckcnjamlpadaaDoorG1
namespace Go.Proofs.YtkckcnjamlpadaaDoor
open Go.RowKit Go.Maps

def apartTo (ns : List (List UInt8)) (i k : Nat) : Prop := ∀ j, j < k → ns.getD j [] ≠ ns.getD i []
def distTo (ns : List (List UInt8)) (k : Nat) : Prop := ∀ i, i < k → apartTo ns i i
theorem dist_nodup {ns : List (List UInt8)} (h : distTo ns ns.length) : ns.Nodup := by
  rw [List.Nodup, List.pairwise_iff_getElem]
  intro i j hi hj hij
  have := h j hj i hij
  rwa [List.getD_eq_getElem?_getD, List.getD_eq_getElem?_getD, List.getElem?_eq_getElem hi, List.getElem?_eq_getElem hj] at this
theorem nodup_dist {ns : List (List UInt8)} (h : ns.Nodup) : distTo ns ns.length := by
  rw [List.Nodup, List.pairwise_iff_getElem] at h
  intro i hi j hj
  have := h j i (by omega) hi hj
  rwa [List.getD_eq_getElem?_getD, List.getD_eq_getElem?_getD, List.getElem?_eq_getElem hi, List.getElem?_eq_getElem (by omega : j < ns.length)]

set_option maxHeartbeats 4000000 in
set_option maxRecDepth 100000 in
theorem rKinds_any (a : Option Addr) (cap : Nat) (ns : List (List UInt8)) (w : World) (hrow : SRow w a ns) :
    Calls Tryd.prog 14 #[.slice a ns.length cap] w fun e w' => e = .returned (.bool (kindsB ns)) ∧ Below w.heap.size w w' := by
  by_cases h0 : ns.length < 2
  · rw [show kindsB ns = false from kinds_no (by omega)]
    have h0' : (ns.length : Int) < 2 := by omega
    go_enter Tryd.func14, Tryd.ntmps14
    go_wp2
    go_ret
    exact ⟨rfl, Below.refl _ _⟩
  have h0' : ¬ (ns.length : Int) < 2 := by omega
  by_cases h1 : 1024 < ns.length
  · rw [show kindsB ns = false from kinds_no (by omega)]
    have h1' : (1024 : Int) < ns.length := by omega
    go_enter Tryd.func14, Tryd.ntmps14
    go_wp2
    go_ret
    exact ⟨rfl, Below.refl _ _⟩
  have h1' : ¬ (1024 : Int) < ns.length := by omega
  obtain ⟨b, off, rfl, hb, hc⟩ := srow_pos hrow (k := 0) (by omega)
  have c0 := hc 0 (by omega)
  have c1 := hc 1 (by omega)
  have i0 : (0 : Int) < ns.length := by omega
  have i1 : (1 : Int) < ns.length := by omega
  by_cases h2 : ns.getD 0 [] = endS
  · rw [h2] at c0
    by_cases h3 : ns.getD 1 [] = errS
    · rw [h3] at c1
      have c0' : w.cell? ⟨b, off, none⟩ = some (.string ⟨#[101, 110, 100]⟩) := c0
      have c1' : w.cell? ⟨b, off + 1, none⟩ = some (.string ⟨#[101, 114, 114, 111, 114]⟩) := c1
      have Hyes : Hid (goodTo ns ns.length ∧ distTo ns ns.length → kindsB ns = true) := hide fun h => decide_eq_true ⟨by omega, by omega, h2, h3, h.1, dist_nodup h.2⟩
      have Hno : Hid (¬ (goodTo ns ns.length ∧ distTo ns ns.length) → kindsB ns = false) := hide fun h => kinds_no (fun k => h ⟨k.2.2.2.2.1, nodup_dist k.2.2.2.2.2⟩)
      have Hc := hide hc
      generalize kindsB ns = R at *
      clear hrow hc c0 c1 h2 h3
      go_enter Tryd.func14, Tryd.ntmps14
      go_wp2
      go_loopw [3] (fun x wr => ∃ k : Nat, x = .int .i64 k ∧ k ≤ ns.length ∧ goodTo ns k ∧ distTo ns k ∧ Below w.heap.size w wr) (fun x _ => ns.length - (intOf x).toNat)
      case atStart => exact ⟨0, rfl, Nat.zero_le _, (fun i hi => absurd hi (Nat.not_lt_zero _)), (fun i hi => absurd hi (Nat.not_lt_zero _)), Below.refl _ _⟩
      case round =>
        obtain ⟨k, rfl, hk, hgood, hdist, hbel⟩ := hrel
        have Hg := hide hgood; have Hd := hide hdist; have Hbel := hide hbel
        clear hgood hdist hbel c0' c1'
        by_cases hlt : k < ns.length
        · have hlt' : (k : Int) < ns.length := by omega
          have ck := ((unhide Hbel).cell (p := ⟨b, off + k, none⟩) hb).trans (unhide Hc k hlt)
          have HN := hide (rName_any (bs (ns.getD k [])))
          cases hn : nameB (bs (ns.getD k []))
          · rw [hn] at HN
            have Hr : Hid (R = false) := hide (unhide Hno (by
              intro h; have := h.1 k hlt; rw [hn] at this; cases this))
            clear hn
            generalize bs (ns.getD k []) = s at *
            go_wp2_with fail
            refine (unhide HN _).mono ?_
            rintro e w' ⟨rfl, rfl⟩
            go_wp2
            go_ret
            rw [unhide Hr]
            exact ⟨rfl, unhide Hbel⟩
          · rw [hn] at HN
            have Hg' : Hid (goodTo ns (k + 1)) := hide (by
              intro i hi
              by_cases e : i = k
              · subst e; exact hn
              · exact unhide Hg i (by omega))
            clear hn
            generalize bs (ns.getD k []) = s at *
            go_wp2_with fail
            refine (unhide HN _).mono ?_
            rintro e w' ⟨rfl, rfl⟩
            clear ck HN
            go_wp2
            go_loopw [4] (fun y W => ∃ i : Nat, y = .int .i64 i ∧ i ≤ k ∧ apartTo ns k i ∧ Below w.heap.size w W) (fun y _ => k - (intOf y).toNat)
            case atStart => exact ⟨0, rfl, Nat.zero_le _, (fun i hi => absurd hi (Nat.not_lt_zero _)), unhide Hbel⟩
            case round =>
              obtain ⟨i, rfl, hi, hap, hbel2⟩ := hrel
              have Hap := hide hap; have Hb2 := hide hbel2
              clear hap hbel2
              by_cases hil : i < k
              · have hil' : (i : Int) < k := by omega
                have hin : (i : Int) < ns.length := by omega
                have ck := ((unhide Hb2).cell (p := ⟨b, off + k, none⟩) hb).trans (unhide Hc k hlt)
                have ci := ((unhide Hb2).cell (p := ⟨b, off + i, none⟩) hb).trans (unhide Hc i (by omega))
                by_cases he : ns.getD i [] = ns.getD k []
                · have Hr : Hid (R = false) := hide (unhide Hno (fun h => h.2 k hlt i hil he))
                  rw [he] at ci
                  clear he
                  generalize bs (ns.getD k []) = s at *
                  go_wp2
                  go_quiet (fail)
                  go_wp2
                  go_ret
                  rw [unhide Hr]
                  exact ⟨rfl, below_drewN (unhide Hb2) _⟩
                · have Ha' : Hid (apartTo ns k (i + 1)) := hide (by
                    intro j hj
                    by_cases e : j = i
                    · subst e; exact he
                    · exact unhide Hap j (by omega))
                  have hne := bs_ne he
                  clear he
                  generalize bs (ns.getD k []) = s at *
                  generalize bs (ns.getD i []) = s2 at *
                  go_wp2
                  go_quiet (fail)
                  go_wp2
                  go_roundw
                  case rel => exact ⟨i + 1, by go_num, by omega, unhide Ha', below_drewN (unhide Hb2) _⟩
                  case measure => simp [intOf]; omega
              · obtain rfl : i = k := by omega
                have Hd' : Hid (distTo ns (i + 1)) := hide (by
                  intro j hj
                  by_cases e : j = i
                  · subst e; exact unhide Hap
                  · exact unhide Hd j (by omega))
                go_wp2
                go_roundw
                case rel => exact ⟨i + 1, by go_num, by omega, unhide Hg', unhide Hd', unhide Hb2⟩
                case measure => simp [intOf]; omega
        · obtain rfl : k = ns.length := by omega
          have Hr : Hid (R = true) := hide (unhide Hyes ⟨unhide Hg, unhide Hd⟩)
          go_wp2
          go_ret
          rw [unhide Hr]
          exact ⟨rfl, unhide Hbel⟩
    · rw [show kindsB ns = false from kinds_no (fun h => h3 h.2.2.2.1)]
      have c0' : w.cell? ⟨b, off, none⟩ = some (.string ⟨#[101, 110, 100]⟩) := c0
      have hne : ((bs (ns.getD 1 [])).toList == [101, 114, 114, 111, 114]) = false := by rw [bs_toList, beq_eq_false_iff_ne]; exact h3
      clear hc c0 hrow h2 h3
      generalize bs (ns.getD 1 []) = s at *
      go_enter Tryd.func14, Tryd.ntmps14
      go_wp2
      go_ret
      exact ⟨rfl, Below.refl _ _⟩
  · rw [show kindsB ns = false from kinds_no (fun h => h2 h.2.2.1)]
    have hne : ((bs (ns.getD 0 [])).toList == [101, 110, 100]) = false := by rw [bs_toList, beq_eq_false_iff_ne]; exact h2
    clear hc hrow h2 c1
    rw [Nat.add_zero] at c0
    generalize bs (ns.getD 0 []) = s at *
    go_enter Tryd.func14, Tryd.ntmps14
    go_wp2
    go_ret
    exact ⟨rfl, Below.refl _ _⟩
end Go.Proofs.YtkckcnjamlpadaaDoor

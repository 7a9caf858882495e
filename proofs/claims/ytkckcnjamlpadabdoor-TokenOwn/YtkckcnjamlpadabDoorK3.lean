/- Kinds. -/
import Derived.Test.YtkckcnjamlpadabDoorK2
namespace Go.Proofs.YtkckcnjamlpadabDoor
open Go.RowKit Go.Maps

def endS : List UInt8 := [101, 110, 100]
def errS : List UInt8 := [101, 114, 114, 111, 114]
def goodTo (ns : List (List UInt8)) (k : Nat) : Prop := ∀ j, j < k → nameB (bs (ns.getD j [])) = true
instance (ns : List (List UInt8)) (k : Nat) : Decidable (goodTo ns k) := by unfold goodTo; infer_instance
def kindsB (ns : List (List UInt8)) : Bool := decide (2 ≤ ns.length ∧ ns.length ≤ 1024 ∧ ns.getD 0 [] = endS ∧ ns.getD 1 [] = errS ∧ goodTo ns ns.length ∧ ns.Nodup)
def kindsV (ns : List (List UInt8)) : Int := if kindsB ns then 0 else 70
theorem kinds_no {ns : List (List UInt8)} (h : ¬ (2 ≤ ns.length ∧ ns.length ≤ 1024 ∧ ns.getD 0 [] = endS ∧ ns.getD 1 [] = errS ∧ goodTo ns ns.length ∧ ns.Nodup)) : kindsB ns = false := decide_eq_false h
theorem nameB_le {s : ByteArray} (h : nameB s = true) : s.size ≤ 64 := (of_decide_eq_true h).2.1

set_option maxHeartbeats 2000000 in
set_option maxRecDepth 100000 in
theorem kinds_any (a : Option Addr) (cap : Nat) (ns : List (List UInt8)) (w : World) (hrow : SRow w a ns) :
    Calls Tryd.prog 20 #[.slice a ns.length cap] w fun e w' => e = .returned (.int .i64 (kindsV ns)) ∧ Below w.heap.size w w' := by
  by_cases h0 : ns.length < 2
  · rw [show kindsV ns = 70 by unfold kindsV; rw [kinds_no (by omega)]; rfl]
    have h0' : (ns.length : Int) < 2 := by omega
    go_enter Tryd.func20, Tryd.ntmps20
    go_wp2
    go_ret
    exact ⟨rfl, Below.refl _ _⟩
  have h0' : ¬ (ns.length : Int) < 2 := by omega
  by_cases h1 : 1024 < ns.length
  · rw [show kindsV ns = 70 by unfold kindsV; rw [kinds_no (by omega)]; rfl]
    have h1' : (1024 : Int) < ns.length := by omega
    go_enter Tryd.func20, Tryd.ntmps20
    go_wp2
    go_ret
    exact ⟨rfl, Below.refl _ _⟩
  have h1' : ¬ (1024 : Int) < ns.length := by omega
  obtain ⟨b, off, rfl, hb, hc⟩ := srow_pos hrow (k := 0) (by omega)
  have c0 := hc 0 (by omega)
  have c1 := hc 1 (by omega)
  have i0 : (0 : Int) < ns.length := by omega
  have i1 : (1 : Int) < ns.length := by omega
  by_cases h2 : ns.getD 0 [] = endS
  · rw [h2] at c0
    by_cases h3 : ns.getD 1 [] = errS
    · rw [h3] at c1
      have c0' : w.cell? ⟨b, off, none⟩ = some (.string ⟨#[101, 110, 100]⟩) := c0
      have c1' : w.cell? ⟨b, off + 1, none⟩ = some (.string ⟨#[101, 114, 114, 111, 114]⟩) := c1
      have Hyes : Hid (goodTo ns ns.length ∧ ns.Nodup → kindsV ns = 0) := hide fun h => by unfold kindsV; rw [show kindsB ns = true from decide_eq_true ⟨by omega, by omega, h2, h3, h⟩]; rfl
      have Hno : Hid (¬ (goodTo ns ns.length ∧ ns.Nodup) → kindsV ns = 70) := hide fun h => by unfold kindsV; rw [kinds_no (fun k => h k.2.2.2.2)]; rfl
      have Hrow := hide hrow; have Hc := hide hc
      generalize kindsV ns = R at *
      clear hrow hc c0 c1 h2 h3
      go_enter Tryd.func20, Tryd.ntmps20
      go_wp2
      go_loopw [27] (fun x wr => ∃ k : Nat, x = .int .i64 k ∧ k ≤ ns.length ∧ goodTo ns k ∧ wr = w) (fun x _ => ns.length - (intOf x).toNat)
      case atStart => exact ⟨0, rfl, Nat.zero_le _, fun i hi => absurd hi (Nat.not_lt_zero _), rfl⟩
      case round =>
        obtain ⟨k, rfl, hk, hgood, hw⟩ := hrel
        subst hw
        have Hg := hide hgood
        clear hgood
        by_cases hlt : k < ns.length
        · have hlt' : (k : Int) < ns.length := by omega
          have ck := unhide Hc k hlt
          have HN := hide (isName_any (bs (ns.getD k [])))
          cases hn : nameB (bs (ns.getD k []))
          · rw [hn] at HN
            have Hr : Hid (R = 70) := hide (unhide Hno (by
              intro h; have := h.1 k hlt; rw [hn] at this; cases this))
            clear hn c0' c1'
            generalize bs (ns.getD k []) = s at *
            go_wp2_with fail
            refine (unhide HN _).mono ?_
            rintro e w' ⟨rfl, rfl⟩
            go_wp2
            go_ret
            rw [unhide Hr]
            exact ⟨rfl, Below.refl _ _⟩
          · rw [hn] at HN
            have Hg' : Hid (goodTo ns (k + 1)) := hide (by
              intro i hi
              by_cases e : i = k
              · subst e; exact hn
              · exact unhide Hg i (by omega))
            clear hn c0' c1'
            generalize bs (ns.getD k []) = s at *
            go_wp2_with fail
            refine (unhide HN _).mono ?_
            rintro e w' ⟨rfl, rfl⟩
            go_wp2
            go_roundw
            case rel => exact ⟨k + 1, by go_num, by omega, unhide Hg', by first | rfl | trivial⟩
            case measure => simp [intOf]; omega
        · obtain rfl : k = ns.length := by omega
          have HM := hide (numbers_any (some ⟨b, off, none⟩) cap ns (by omega) (fun j hj => nameB_le (unhide Hg j hj)) wr (unhide Hrow))
          clear c0' c1'
          go_wp2_with fail
          refine (unhide HM).mono ?_
          rintro e w' ⟨rfl, hnum, hbel⟩
          obtain ⟨D, hm, -, -, -, h4, h5⟩ := hnum
          have hlen := fun ty => hm.len Tryd.underlying72 ty
          have Hb := hide hbel
          clear hm hbel HM
          by_cases hnd : ns.Nodup
          · have Hr : Hid (R = 0) := hide (unhide Hyes ⟨unhide Hg, hnd⟩)
            have e5 := h5.2 hnd
            rw [e5] at hlen
            have hn5 : ¬ (ns.length : Int) < ns.length := by omega
            clear h5 hnd e5 h4
            go_wp2
            go_ret
            rw [unhide Hr]
            exact ⟨rfl, unhide Hb⟩
          · have Hr : Hid (R = 70) := hide (unhide Hno fun h => hnd h.2)
            have e5 : Maps.size D < ns.length := by
              have : Maps.size D ≠ ns.length := fun e => hnd (h5.1 e)
              omega
            generalize Maps.size D = z at *
            have hn5 : (z : Int) < ns.length := by omega
            clear h5 hnd h4
            go_wp2
            go_ret
            rw [unhide Hr]
            exact ⟨rfl, unhide Hb⟩
    · rw [show kindsV ns = 70 by unfold kindsV; rw [kinds_no (fun h => h3 h.2.2.2.1)]; rfl]
      have c0' : w.cell? ⟨b, off, none⟩ = some (.string ⟨#[101, 110, 100]⟩) := c0
      have hne : ((bs (ns.getD 1 [])).toList == [101, 114, 114, 111, 114]) = false := by rw [bs_toList, beq_eq_false_iff_ne]; exact h3
      clear hc c0 hrow h2 h3
      generalize bs (ns.getD 1 []) = s at *
      go_enter Tryd.func20, Tryd.ntmps20
      go_wp2
      go_ret
      exact ⟨rfl, Below.refl _ _⟩
  · rw [show kindsV ns = 70 by unfold kindsV; rw [kinds_no (fun h => h2 h.2.2.1)]; rfl]
    have hne : ((bs (ns.getD 0 [])).toList == [101, 110, 100]) = false := by rw [bs_toList, beq_eq_false_iff_ne]; exact h2
    clear hc hrow h2 c1
    rw [Nat.add_zero] at c0
    generalize bs (ns.getD 0 []) = s at *
    go_enter Tryd.func20, Tryd.ntmps20
    go_wp2
    go_ret
    exact ⟨rfl, Below.refl _ _⟩
end Go.Proofs.YtkckcnjamlpadabDoor

/- Which productions lead: every one; those whose rules are all marked. -/
import Derived.Test.YtagohbpbgjelaaaGreatDoorGT
import Derived.Test.YtagohbpbgjelaaaGreatDoorTW
import Derived.Test.YtagohbpbgjelaaaGreatDoorGV
import Derived.Test.YtagohbpbgjelaaaGreatDoorH2
import Derived.Test.YtagohbpbgjelaaaGreatDoorGJ
import Derived.Test.YtagohbpbgjelaaaGreatDoorSP
import Derived.Laws.AppendOwnNone
import Derived.Test.YtagohbpbgjelaaaGreatDoorA5
namespace Go.Proofs.YtagohbpbgjelaaaGreatDoor
open Go.RowKit

theorem everyProd_any (q : Nat) (w : World) : Calls Tryz.prog 33 (#[.int .i64 (q : Int)] ++ #[]) w fun e w' => e = .returned (.bool true) ∧ w' = w := by
  show Calls Tryz.prog 33 #[.int .i64 (q : Int)] w _
  go_enter Tryz.func33, Tryz.ntmps33
  go_wp2
  go_ret
  exact ⟨rfl, rfl⟩
theorem callF33 : ∀ args W, Sem.run Tryz.prog (callFunc 33 args) W = .ok (.enter 33 args) W := fun _ _ => by simp [callFunc, Tryz.func33, Tryz.f33, go_sem, Result.andThen]
end Go.Proofs.YtagohbpbgjelaaaGreatDoor

/- The code's toThemselves: which rules lead to themselves. -/
namespace Go.Proofs.YtagohbpbgjelaaaGreatDoor
open Go.RowKit

open Classical in
/-- A rule leads to itself, by one step or more. -/
noncomputable def selfF (W : Nat → List Nat) : Nat → Bool := fun r => decide (∃ y, y ∈ W r ∧ Rh W y r)
theorem selfF_is {W : Nat → List Nat} {n : Nat} {made : List (List Nat)} (hR : Rings W n made) {i x : Nat} {a : List Nat} (ha : made[i]? = some a) (hx : x ∈ a) : selfF W x = (decide (1 < a.length) || decide (x ∈ W x)) := by
  have h := ring_self hR ha hx
  have h1 : selfF W x = true ↔ ∃ y, y ∈ W x ∧ Rh W y x := by unfold selfF; simp
  rw [Bool.eq_iff_iff, h1, h]
  simp
theorem way_big {B B' : Nat} {w : World} {tb n : Nat} {W : Nat → List Nat} (h : WayAt B w tb n W) (hB : B ≤ B') : WayAt B' w tb n W := by
  refine ⟨by have := h.1; omega, fun r hr => ?_⟩
  obtain ⟨a, c, h1, h2⟩ := h.2 r hr
  refine ⟨a, c, h1, ?_⟩
  rcases h2 with h2 | ⟨b, off, h3, h4, h5⟩
  · exact .inl h2
  · exact .inr ⟨b, off, h3, by omega, h5⟩
theorem contains_any (a : Option Addr) (c : Nat) (l : List Nat) (x : Nat) (hl : l.length ≤ 1048576) (B : Nat) (w : World) (h : NRow B w a (castL l)) : Calls Tryz.prog 126 #[.slice a l.length c, .int .i64 (x : Nat)] w fun e w' => e = .returned (.bool (decide (x ∈ l))) ∧ w' = w := by
  have e1 : (castL l).length = l.length := castL_len l
  rcases h with h | ⟨b, off, rfl, h1, h2⟩
  · have : l = [] := by
      cases l with
      | nil => rfl
      | cons y l => simp [castL] at h
    subst this
    exact Tryz.slices_Contains_int_empty a c x w
  · have h3 := Tryz.slices_Contains_int b off l.length c (castL l) x w (by omega) (by omega) h2
    rw [List.take_of_length_le (by omega)] at h3
    have e2 : (castL l).contains (x : Int) = decide (x ∈ l) := by
      rw [Bool.eq_iff_iff, decide_eq_true_eq, List.contains_iff_mem]
      unfold castL
      rw [List.mem_map]
      exact ⟨fun ⟨y, h4, h5⟩ => by have : y = x := by omega
                                   exact this ▸ h4, fun h4 => ⟨x, h4, rfl⟩⟩
    rw [e2] at h3
    exact h3
set_option maxHeartbeats 2000000 in
set_option maxRecDepth 100000 in
theorem toThemselves_any (W : Nat → List Nat) (n wb wcp : Nat) (hn : n ≤ 2048) (hW : ∀ r, r < n → ∀ y, y ∈ W r → y < n) (hWl : ∀ r, (W r).length ≤ 1048576) (w : World) (hWay : WayAt w.heap.size w wb n W) :
    Calls Tryz.prog 89 #[.slice (some ⟨wb, 0, none⟩) n wcp] w fun e w' => ∃ b : Nat, e = .returned (.slice (some ⟨b, 0, none⟩) n n) ∧ w'.rowIs b 4 n (fun r => .bool (selfF W r)) ∧ w.heap.size ≤ b ∧ Below w.heap.size w w' := by
  have hmb := fun w => run_make_row' (P := Tryz.prog) 28 4 (.bool false) 1 Tryz.underlying28 info4 rfl .i64 .i64 n (by omega) (by omega) w
  have hal : Below w.heap.size w (w.alloc (.cells (madeCells #[.bool false] n) 4)) := (Below.refl _ _).alloc (Nat.le_refl _) _
  have HR := hide (rings_any W n wb wcp hn hW hWl _ (way_big (way_below hWay hal) hal.size))
  have Hrow := hide (World.rowIs_made w (.bool false) n 4)
  have HW := hide hWay; have Hal := hide hal
  have hszA : (w.alloc (.cells (madeCells #[.bool false] n) 4)).heap.size = w.heap.size + 1 := by simp
  clear hWay hal
  go_enter Tryz.func89, Tryz.ntmps89
  go_wp2_with fail
  generalize w.alloc (.cells (madeCells #[.bool false] n) 4) = w0 at *
  refine (unhide HR).mono ?_
  rintro e w1 ⟨v1, made, rfl, hRi, hml, hRa, hb1⟩
  obtain ⟨ra, rc, rfl⟩ := (show ∃ a c, v1 = .slice a made.length c by obtain ⟨vs, h1, -⟩ := hRa.form; exact own_form h1)
  have hrow1 := (unhide Hrow).of_block (hb1.block _ (unhide Hrow).lt)
  have Hrow1 := hide hrow1
  have Hb1 := hide ((unhide Hal).trans (below_le hb1 (by omega))); have HRi := hide hRi; have HRa := hide hRa
  have hs1 := hb1.size
  clear hb1 hRi hRa HR hrow1
  go_wp2
  go_loopw [14] (fun x V => ∃ (i : Nat) (f : Nat → Bool), x = .int .i64 i ∧ i ≤ made.length ∧ V.rowIs w.heap.size 4 n (fun r => .bool (f r)) ∧ (∀ (j : Nat) (a : List Nat) (x : Nat), j < i → made[j]? = some a → x ∈ a → f x = selfF W x) ∧ Fr (· = w.heap.size) w1 V) (fun x _ => made.length - (intOf x).toNat)
  case atStart => exact ⟨0, fun _ => false, rfl, Nat.zero_le _, unhide Hrow1, fun j a x h => by omega, fr_refl _ _⟩
  case round =>
    obtain ⟨i, f, rfl, hi, hrow, hf, hF⟩ := hrel
    have hkeep : ∀ V, Fr (· = w.heap.size) w1 V → RingsAt w0.heap.size V (.slice ra made.length rc) made := fun V hV => rings_below (unhide HRa) (fun q cs t hq _ hge => hV.2.1 q (Array.getElem?_eq_some_iff.1 hq).1 (fun e => by have e : q = w.heap.size := e; omega))
    by_cases hlt : i < made.length
    · have hlt' : (i : Int) < made.length := by omega
      obtain ⟨a, ha⟩ : ∃ a, made[i]? = some a := ⟨made[i], List.getElem?_eq_getElem hlt⟩
      obtain ⟨va, vc, g, c, hv, hc1, hc2⟩ := ring_at (hkeep _ hF) ha
      cases hv
      have hal : a.length ≤ 2048 := by
        have := nodup_lt ((unhide HRi).nd i _ ha) (fun x hx => (unhide HRi).lt i _ x ha hx)
        omega
      have Hc2 : Hid (∀ V', Fr (· = w.heap.size) w1 V' → ∀ j x : Nat, a[j]? = some x → V'.cell? ⟨g, j, none⟩ = some (.int .i64 (x : Nat))) := hide (fun V' hV' j x hx => by
        obtain ⟨va', vc', g', c', hv', d1, d2⟩ := ring_at (hkeep V' hV') ha
        cases hv'
        have e1 : V'.cell? ⟨va, i, none⟩ = wr.cell? ⟨va, i, none⟩ := by
          obtain ⟨vs, q1, -⟩ := (unhide HRa).form
          obtain ⟨cs, q2⟩ := own_ty q1 rfl
          have hge := (q1.lt va rfl).1
          have hl := (q1.lt va rfl).2
          exact World.cell?_of_block ((hV'.2.1 va hl (fun e => by have e : va = w.heap.size := e; omega)).trans (hF.2.1 va hl (fun e => by have e : va = w.heap.size := e; omega)).symm)
        rw [d1, hc1] at e1
        cases e1
        exact d2 j x hx)
      have Hsf := hide (fun x (hx : x ∈ a) => selfF_is (unhide HRi) ha hx)
      have Hrow := hide hrow; have Hf := hide hf; have HF := hide hF; have Hha := hide ha
      clear hrow hf hF ha hc2 hkeep
      go_wp2
      go_loopw [20] (fun x V => ∃ (p : Nat) (f : Nat → Bool), x = .int .i64 p ∧ p ≤ a.length ∧ V.rowIs w.heap.size 4 n (fun r => .bool (f r)) ∧ (∀ (j : Nat) (b : List Nat) (x : Nat), j < i → made[j]? = some b → x ∈ b → f x = selfF W x) ∧ (∀ x, x ∈ a.take p → f x = selfF W x) ∧ Fr (· = w.heap.size) w1 V) (fun x _ => a.length - (intOf x).toNat)
      case atStart => exact ⟨0, f, rfl, Nat.zero_le _, unhide Hrow, unhide Hf, fun x hx => by simp at hx, unhide HF⟩
      case round =>
        clear Hrow Hf HF
        obtain ⟨p, f, rfl, hp, hrow, hf, hfa, hF⟩ := hrel
        by_cases hpl : p < a.length
        · have hpl' : (p : Int) < a.length := by omega
          have hxa : a[p]? = some (a.getD p 0) := by rw [List.getD_eq_getElem?_getD, List.getElem?_eq_getElem hpl]; rfl
          have hxm := List.mem_of_getElem? hxa
          have hxn := (unhide HRi).lt i _ _ (unhide Hha) hxm
          have hcx := unhide Hc2 wr hF p _ hxa
          have hsx := unhide Hsf _ hxm
          have hbV : Below w.heap.size w wr := (unhide Hb1).trans (fr_below hF (by omega) (fun k hk => by have hk : k = w.heap.size := hk; omega))
          obtain ⟨xa, xc, hwc, hwr⟩ := (way_below (unhide HW) hbV).2 _ hxn
          have HC := hide (contains_any xa xc (W (a.getD p 0)) (a.getD p 0) (hWl _) _ wr hwr)
          have mc := hrow.cell hxn
          have mf := hrow.frozen (a.getD p 0)
          have Hrs : Hid ((wr.setCell ⟨w.heap.size, a.getD p 0, none⟩ (.bool (selfF W (a.getD p 0)))).rowIs w.heap.size 4 n (fun r => .bool (upB f (a.getD p 0) (selfF W (a.getD p 0)) r))) := hide ((hrow.set _ _).congr (fun q _ => by unfold upB; split <;> rfl))
          have Hf2 := hide (show ∀ (j : Nat) (b : List Nat) (x : Nat), j < i → made[j]? = some b → x ∈ b → upB f (a.getD p 0) (selfF W (a.getD p 0)) x = selfF W x from fun j b x h1 h2 h3 => by
            by_cases e : x = a.getD p 0
            · rw [e, upB_self]
            · rw [upB_ne e]; exact hf j b x h1 h2 h3)
          have Hfa2 := hide (show ∀ x, x ∈ a.take (p + 1) → upB f (a.getD p 0) (selfF W (a.getD p 0)) x = selfF W x from fun x hx => by
            by_cases e : x = a.getD p 0
            · rw [e, upB_self]
            · rw [upB_ne e]; exact hfa x (((take_mem_succ hpl x).1 hx).resolve_right e))
          have HFs := hide (show Fr (· = w.heap.size) w1 (wr.setCell ⟨w.heap.size, a.getD p 0, none⟩ (.bool (selfF W (a.getD p 0)))) from fr_set hF (by rfl) _)
          generalize hxe : a.getD p 0 = x at *
          have hxn' : (x : Int) < n := by omega
          have hwl := hWl x
          clear hrow hf hfa hF hxa hxm hbV hwr
          by_cases h1 : 1 < a.length
          · have h1' : (1 : Int) < a.length := by omega
            rw [decide_eq_true h1, Bool.true_or] at hsx
            rw [hsx] at Hrs HFs Hf2 Hfa2
            go_wp2
            go_roundw
            case rel => exact ⟨p + 1, _, by go_num, by omega, unhide Hrs, unhide Hf2, unhide Hfa2, unhide HFs⟩
            case measure => simp [intOf]; omega
          · have h1' : ¬ (1 : Int) < a.length := by omega
            rw [decide_eq_false h1, Bool.false_or] at hsx
            rw [hsx] at Hrs HFs Hf2 Hfa2
            generalize decide (x ∈ W x) = bx at *
            go_wp2_with fail
            refine (unhide HC).mono ?_
            rintro e w9 ⟨rfl, rfl⟩
            go_wp2
            go_roundw
            case rel => exact ⟨p + 1, _, by go_num, by omega, unhide Hrs, unhide Hf2, unhide Hfa2, unhide HFs⟩
            case measure => simp [intOf]; omega
        · obtain rfl : p = a.length := by omega
          rw [List.take_length] at hfa
          have Hf3 := hide (show ∀ (j : Nat) (b : List Nat) (x : Nat), j < i + 1 → made[j]? = some b → x ∈ b → f x = selfF W x from fun j b x h1 h2 h3 => by
            by_cases e : j = i
            · subst e; rw [unhide Hha] at h2; cases h2; exact hfa x h3
            · exact hf j b x (by omega) h2 h3)
          have Hrow := hide hrow; have HF := hide hF
          clear hrow hf hfa hF
          go_wp2
          go_roundw
          case rel => exact ⟨i + 1, f, by go_num, by omega, unhide Hrow, unhide Hf3, unhide HF⟩
          case measure => simp [intOf]; omega
    · obtain rfl : i = made.length := by omega
      have Hrw : Hid (wr.rowIs w.heap.size 4 n (fun r => .bool (selfF W r))) := hide (hrow.congr (fun r hr => by
        obtain ⟨j, a, h1, h2⟩ := (unhide HRi).cov r hr
        rw [hf j a r (List.getElem?_eq_some_iff.1 h1).1 h1 h2]))
      have HbV := hide ((unhide Hb1).trans (fr_below hF (by omega) (fun k hk => by have hk : k = w.heap.size := hk; omega)))
      clear hrow hf hF hkeep
      go_wp2
      go_ret
      exact ⟨w.heap.size, rfl, unhide Hrw, Nat.le_refl _, unhide HbV⟩
end Go.Proofs.YtagohbpbgjelaaaGreatDoor

/- Plain mathematics: what a rule's shortest row is, by its production, also where it is empty. -/
namespace Go.Proofs.YtagohbpbgjelaaaGreatDoor
open Go.RowKit

theorem spl_write {G : Gm} {f c : Nat → Int} (hc : AgreeC G f c) {n r : Nat} (h : 0 ≤ chS G f (n + 1) r) (hb : f r ≤ 65536) :
    ∃ i, i < G.prods.length ∧ c r = i ∧ (∀ y, y ∈ (G.prods.getD i pd0).right → HasC G f n y ∧ lnX G.nk f y ≤ 65536) ∧ splF G f c (n + 2) ((G.nk : Int) + r) = ((G.prods.getD i pd0).right.map (splF G f c (n + 1))).flatten := by
  obtain ⟨i, hi, h1, h2, h3, h4⟩ := has_prod hc h
  have hge : 0 ≤ lenR G.nk f (G.prods.getD i pd0).right 0 := by rw [h3]; exact chS_pos _ _ h
  have hs := lenR_sum (nk := G.nk) (f := f) (G.prods.getD i pd0).right 0 (Int.le_refl _) (by omega) hge (by omega)
  have hy : ∀ y, y ∈ (G.prods.getD i pd0).right → HasC G f n y ∧ lnX G.nk f y ≤ 65536 := fun y hy => ⟨h4 y hy, by
    by_cases hy1 : (G.nk : Int) ≤ y
    · have := lenR_each (nk := G.nk) (f := f) (G.prods.getD i pd0).right 0 (Int.le_refl _) (by omega) hge y hy hy1
      unfold lnX
      rw [if_pos hy1]
      omega
    · unfold lnX; rw [if_neg hy1]; omega⟩
  refine ⟨i, hi, h1, hy, ?_⟩
  have hk : ¬ ((G.nk : Int) + r < G.nk) := by omega
  have ex : ((G.nk : Int) + r - G.nk).toNat = r := by omega
  by_cases h0 : f r = 0
  · rw [splF_zero hk (by rw [ex]; exact h0)]
    have hl := flat_len (splF G f c (n + 1)) (lnX G.nk f) (G.prods.getD i pd0).right (fun y hm => splF_len hc n y (hy y hm).1 (hy y hm).2)
    symm
    apply List.eq_nil_of_length_eq_zero
    omega
  · rw [splF_step hk (by rw [ex]; exact h0), ex, h1, Int.toNat_natCast]
/-- A rule's row does not hang on the fuel. -/
theorem spl_row {G : Gm} {c : Nat → Int} (hch : ChosenIs G (lstF G) c) {n r : Nat} (h : 0 ≤ chS G (lstF G) n r) : splF G (lstF G) c (n + 1) ((G.nk : Int) + r) = rowOf G r := by
  obtain ⟨rfl, hF⟩ := chF_is hch
  have hA := agree_of hF
  have ex : ((G.nk : Int) + r - G.nk).toNat = r := by omega
  have h1 : HasC G (lstF G) n ((G.nk : Int) + r) := .inr (by rw [ex]; exact h)
  have h2 : HasC G (lstF G) (chN G) ((G.nk : Int) + r) := .inr (by
    rw [ex]
    show 0 ≤ chF G r
    rw [hA n r h]; exact h)
  show _ = splF G (lstF G) (chF G) (chN G + 1) ((G.nk : Int) + r)
  rcases Nat.le_total n (chN G) with hl | hl
  · exact (splF_fuel hA n _ h1 _ hl).symm
  · exact splF_fuel hA _ _ h2 _ hl
end Go.Proofs.YtagohbpbgjelaaaGreatDoor

/- Plain mathematics: a row that is written piece by piece, each rule's piece once. -/
namespace Go.Proofs.YtagohbpbgjelaaaGreatDoor
open Go.RowKit

/-- A symbol's row, if each rule has one. -/
def symR (nk : Nat) (ρ : Nat → List Int) (x : Int) : List Int := if x < nk then [x] else ρ (x - nk).toNat
/-- What is known of where rules' rows stand in the row so far. -/
def SpI (ρ : Nat → List Int) (R : List Int) (M : Nat → Option (Nat × Nat)) : Prop := ∀ r a b, M r = some (a, b) → a ≤ b ∧ b ≤ R.length ∧ (R.take b).drop a = ρ r
theorem sp_more {ρ : Nat → List Int} {R S : List Int} {M : Nat → Option (Nat × Nat)} (h : SpI ρ R M) : SpI ρ (R ++ S) M := fun r a b hm => by
  obtain ⟨h1, h2, h3⟩ := h r a b hm
  exact ⟨h1, by rw [List.length_append]; omega, by rw [List.take_append_of_le_length h2]; exact h3⟩
def upM (M : Nat → Option (Nat × Nat)) (r : Nat) (p : Nat × Nat) : Nat → Option (Nat × Nat) := fun s => if s = r then some p else M s
theorem sp_put {ρ : Nat → List Int} {R : List Int} {M : Nat → Option (Nat × Nat)} (h : SpI ρ R M) {r a : Nat} (ha : a ≤ R.length) (hr : R.drop a = ρ r) : SpI ρ R (upM M r (a, R.length)) := fun s c d hm => by
  unfold upM at hm
  by_cases e : s = r
  · rw [if_pos e] at hm
    simp only [Option.some.injEq, Prod.mk.injEq] at hm
    obtain ⟨rfl, rfl⟩ := hm
    subst e
    exact ⟨ha, Nat.le_refl _, by rw [List.take_length]; exact hr⟩
  · rw [if_neg e] at hm; exact h s c d hm
/-- How many have a place. -/
def cntM (M : Nat → Option (Nat × Nat)) : Nat → Nat
  | 0 => 0
  | k + 1 => cntM M k + if (M k).isSome then 1 else 0
theorem cntM_le (M : Nat → Option (Nat × Nat)) : ∀ k, cntM M k ≤ k
  | 0 => Nat.le_refl _
  | k + 1 => by unfold cntM; have := cntM_le M k; split <;> omega
theorem cntM_out (M : Nat → Option (Nat × Nat)) (r : Nat) (p : Nat × Nat) : ∀ k, k ≤ r → cntM (upM M r p) k = cntM M k
  | 0, _ => rfl
  | k + 1, h => by
    unfold cntM
    rw [cntM_out M r p k (by omega)]
    have : upM M r p k = M k := by unfold upM; rw [if_neg (by omega)]
    rw [this]
theorem cntM_up (M : Nat → Option (Nat × Nat)) (r : Nat) (p : Nat × Nat) (hr : M r = none) : ∀ k, r < k → cntM (upM M r p) k = cntM M k + 1
  | 0, h => by omega
  | k + 1, h => by
    unfold cntM
    by_cases e : k = r
    · subst e
      rw [cntM_out M k p k (Nat.le_refl _), hr]
      have : upM M k p k = some p := by unfold upM; rw [if_pos rfl]
      rw [this]; simp
    · rw [cntM_up M r p hr k (by omega)]
      have : upM M r p k = M k := by unfold upM; rw [if_neg e]
      rw [this]; omega
theorem cntM_none : ∀ k, cntM (fun _ => none) k = 0
  | 0 => rfl
  | k + 1 => by unfold cntM; rw [cntM_none k]; rfl
/-- Rules' rows, by their productions: those that come at a stage are made of kinds and of those that came ahead. -/
structure RhoI (G : Gm) (ρ : Nat → List Int) (by_ : Nat → Int) (st : Nat → Nat → Prop) : Prop where
  z : ∀ r, ¬ st 0 r
  prod : ∀ n r, st (n + 1) r → ∃ i : Nat, i < G.prods.length ∧ by_ r = i ∧ (∀ y, y ∈ (G.prods.getD i pd0).right → (G.nk : Int) ≤ y → st n (y - G.nk).toNat) ∧ ρ r = ((G.prods.getD i pd0).right.map (symR G.nk ρ)).flatten
/-- The pieces of a production's row, up to one. -/
def preR (nk : Nat) (ρ : Nat → List Int) (row : List Int) (k : Nat) : List Int := ((row.take k).map (symR nk ρ)).flatten
theorem preR_succ {nk : Nat} {ρ : Nat → List Int} {row : List Int} {k : Nat} (hk : k < row.length) : preR nk ρ row (k + 1) = preR nk ρ row k ++ symR nk ρ (row.getD k 0) := by
  unfold preR
  rw [take_snoc row k 0 hk, List.map_append, List.flatten_append]
  simp
theorem preR_le {nk : Nat} {ρ : Nat → List Int} {row : List Int} : ∀ {k : Nat}, k ≤ row.length → (preR nk ρ row k).length ≤ ((row.map (symR nk ρ)).flatten).length := fun {k} _ => by
  unfold preR
  have h : row.map (symR nk ρ) = (row.take k).map (symR nk ρ) ++ (row.drop k).map (symR nk ρ) := by rw [← List.map_append, List.take_append_drop]
  rw [h, List.flatten_append, List.length_append]
  omega
theorem rho_spl {G : Gm} {c : Nat → Int} (hch : ChosenIs G (lstF G) c) : RhoI G (fun r => rowOf G r) c (fun n r => 0 ≤ chS G (lstF G) n r ∧ lstF G r ≤ 65536) := by
  obtain ⟨rfl, hF⟩ := chF_is hch
  have hA := agree_of hF
  refine ⟨fun r h => ?_, fun n r ⟨h1, h2⟩ => ?_⟩
  · have h : (0 : Int) ≤ -1 := h.1
    omega
  · obtain ⟨i, hi, hci, hy, hs⟩ := spl_write hA h1 h2
    refine ⟨i, hi, hci, fun y hym hk => ?_, ?_⟩
    · obtain ⟨h3, h4⟩ := hy y hym
      rcases h3 with h3 | h3
      · omega
      · unfold lnX at h4
        rw [if_pos hk] at h4
        exact ⟨h3, h4⟩
    · rw [spl_row hch h1] at hs
      show rowOf G r = _
      rw [hs]
      congr 1
      refine List.map_congr_left fun y hym => ?_
      obtain ⟨h3, -⟩ := hy y hym
      unfold symR
      by_cases hk : y < G.nk
      · rw [if_pos hk, splF_kind hk]
      · rw [if_neg hk]
        rcases h3 with h3 | h3
        · exact absurd h3 hk
        · have e : ((G.nk : Int) + (y - G.nk).toNat) = y := by omega
          have h5 := spl_row hch h3
          rw [e] at h5
          exact h5
end Go.Proofs.YtagohbpbgjelaaaGreatDoor

/- The writer: how it lies. -/
namespace Go.Proofs.YtagohbpbgjelaaaGreatDoor
open Go.RowKit Go.Maps

/-- A span, as a value, and how it reads. -/
def spV (p : Nat × Nat) : Value := .agg #[.int .i64 (p.1 : Nat), .int .i64 (p.2 : Nat)]
def spD (p : Nat × Nat) : DataW Unit := .agg [.lit (.int .i64 (p.1 : Nat)), .lit (.int .i64 (p.2 : Nat))]
def spanL : List Value → Option (DataW Unit × List MemPlace)
  | [.int .i64 a, .int .i64 b] => some (.agg [.lit (.int .i64 a), .lit (.int .i64 b)], [])
  | _ => none
def spanE : Value → Option (DataW Unit × List MemPlace)
  | .agg cs => spanL cs.toList
  | _ => none
theorem spanE_mk (p : Nat × Nat) : spanE (spV p) = some (spD p, []) := rfl
theorem spanE_at {v : Value} {ps : List MemPlace} {p : Nat × Nat} (h : spanE v = some (spD p, ps)) : v = spV p := by
  unfold spanE at h
  split at h
  · rename_i cs
    unfold spanL at h
    split at h
    · rename_i a b hl
      unfold spD at h
      simp at h
      obtain ⟨⟨h1, h2⟩, -⟩ := h
      have : cs = #[.int .i64 a, .int .i64 b] := by rw [← Array.toList_inj]; exact hl
      rw [this, h1, h2]; rfl
    · cases h
  · cases h
theorem zero201 (w : World) : (zeroValue 201).run Tryz.prog w = .ok (spV (0, 0)) w := by kernel_rfl
structure WrAt (B n : Nat) (wb gb cb mb : Nat) (R : List Int) (M : Nat → Option (Nat × Nat)) (rv : Value) (w : World) : Prop where
  bx : w.heap[wb]? = some (.cells #[.pointer (some ⟨gb, 0, none⟩), .slice (some ⟨cb, 0, none⟩) n n, rv, .map (some mb)] 158 (0, 0))
  row : w.ownsRow B 3 1 rv R.length (vints R)
  mp : ∃ D, w.ownsMap (H := Unit) Tryz.prog 3 spanE mb (cntM M n) D ∧ ∀ r : Nat, r < n → Maps.has D (ki r) = (M r).isSome ∧ D.atKey (ki r) (spD (0, 0)) = spD ((M r).getD (0, 0))
  b1 : B ≤ wb
  b2 : B ≤ mb
section
variable {B n wb gb cb mb : Nat} {R : List Int} {M : Nat → Option (Nat × Nat)} {rv : Value} {w w' : World}
theorem mapOf {k : Nat} {D : DataW Unit} {c : Nat} (h : w.ownsMap (H := Unit) Tryz.prog 3 spanE k c D) : ∃ es cl, w.heap[k]? = some (.map es cl) := by
  obtain ⟨es, cl, h1, -⟩ := h
  exact ⟨es, cl, h1⟩
theorem map_fr {O : Nat → Prop} {k c : Nat} {D : DataW Unit} (h : w.ownsMap (H := Unit) Tryz.prog 3 spanE k c D) (hf : Fr O w w') (hk : ¬ O k) : w'.ownsMap (H := Unit) Tryz.prog 3 spanE k c D := by
  obtain ⟨es, cl, h1, h2⟩ := h
  exact ⟨es, cl, (hf.2.1 k (Array.getElem?_eq_some_iff.1 h1).1 hk).trans h1, h2⟩
theorem wr_below (h : WrAt B n wb gb cb mb R M rv w) (hb : Below w.heap.size w w') : WrAt B n wb gb cb mb R M rv w' := by
  obtain ⟨D, hm, hD⟩ := h.mp
  exact ⟨(hb.block _ (Array.getElem?_eq_some_iff.1 h.bx).1).trans h.bx, own_blkB h.row hb, ⟨D, map_fr (O := fun _ => False) hm (below_fr hb) (fun h => h), hD⟩, h.b1, h.b2⟩
/-- The row was gone behind, and stored. -/
theorem wr_push {w1 w2 : World} (h : WrAt B n wb gb cb mb R M rv w) (hb : Below w.heap.size w w1) {rv' : Value} {R' : List Int} (hg : w1.grownBy w2 rv.ownBlock) (ho : w2.ownsRow B 3 1 rv' R'.length (vints R')) : WrAt B n wb gb cb mb R' M rv' (w2.setCell ⟨wb, 2, none⟩ rv') := by
  have h1 := wr_below h hb
  have nb := own_other h1.row h1.bx (by decide)
  have hl : ∀ {k : Nat} {o : Obj}, w1.heap[k]? = some o → rv.ownBlock ≠ some k → w2.heap[k]? = some o := fun {k o} hk' hne => (hg.block k (Array.getElem?_eq_some_iff.1 hk').1 (fun e => hne e.symm)).trans hk'
  have hbox := hl h1.bx nb
  obtain ⟨D, hm, hD⟩ := h1.mp
  obtain ⟨es, cl, hmb⟩ := mapOf hm
  have nm : rv.ownBlock ≠ some mb := fun e => by
    obtain ⟨cs, h2⟩ := own_ty h1.row e
    rw [h2] at hmb; cases hmb
  have hmb2 := hl hmb nm
  have hm2 : w2.ownsMap (H := Unit) Tryz.prog 3 spanE mb (cntM M n) D := by
    obtain ⟨es', cl', h2, h3⟩ := hm
    exact ⟨es', cl', hl h2 nm, h3⟩
  refine ⟨?_, own_set ho (own_other ho hbox (by decide)), ⟨D, map_fr (O := (· = wb)) hm2 (fr_set (O := (· = wb)) (fr_refl _ _) (by rfl) _) (fun e => ?_), hD⟩, h.b1, h.b2⟩
  · have := Wk.block_set (i := 2) hbox rv'
    simpa using this
  · have e : mb = wb := e
    rw [e, hbox] at hmb2; cases hmb2
theorem wr_look (h : WrAt B n wb gb cb mb R M rv w) {r : Nat} (hr : r < n) (hn : n ≤ 2048) : (Instr.lookup 156 (.map (some mb)) (.int .i64 (r : Nat)) true).run Tryz.prog w = .ok (.tuple #[spV ((M r).getD (0, 0)), .bool (M r).isSome]) w := by
  obtain ⟨D, hm, hD⟩ := h.mp
  have hwf : (Lit.int .i64 (r : Int)).wf = true := WalkArith.wf_i64 (by omega)
  obtain ⟨v, ps, h1, h2⟩ := hm.look_ok law3 Tryz.underlying156 (zero201 w) (spanE_mk (0, 0)) (keyOf_int_mk Tryz.underlying3 hwf)
  obtain ⟨e1, e2⟩ := hD r hr
  rw [e2] at h2
  rw [h1, e1, spanE_at h2]
theorem wr_put (h : WrAt B n wb gb cb mb R M rv w) {r : Nat} (hr : r < n) (hn : n ≤ 2048) (hB : B ≤ w.heap.size) (hM : M r = none) (p : Nat × Nat) : ∃ w', (Instr.mapUpdate 156 (.map (some mb)) (.int .i64 (r : Nat)) (spV p)).run Tryz.prog w = .ok () w' ∧ WrAt B n wb gb cb mb R (upM M r p) rv w' ∧ Below B w w' := by
  obtain ⟨D, hm, hD⟩ := h.mp
  have hwf : (Lit.int .i64 (r : Int)).wf = true := WalkArith.wf_i64 (by omega)
  have hc := cntM_le M n
  obtain ⟨w2, h1, h2, h3⟩ := hm.update law3 Tryz.underlying156 (by unfold maxLen; omega) (keyOf_int_mk Tryz.underlying3 hwf) (spanE_mk p)
  obtain ⟨es, cl, hmb⟩ := mapOf hm
  have hl : ∀ {k t : Nat} {cs : Array Value}, w.heap[k]? = some (.cells cs t (0, 0)) → w2.heap[k]? = some (.cells cs t (0, 0)) := fun {k t cs} hk => (h3.block k (Array.getElem?_eq_some_iff.1 hk).1 (fun e => by
    cases e
    rw [hk] at hmb; cases hmb)).trans hk
  refine ⟨w2, h1, ⟨hl h.bx, ⟨h.row.1, ?_⟩, ⟨D.put (ki r) (spD p), by rw [cntM_up M r p hM n hr]; exact h2, fun s hs => ?_⟩, h.b1, h.b2⟩, ⟨h3.os, h3.tape, h3.output, h3.size, fun k hk => h3.block k (by omega) (fun e => by cases e; have := h.b2; omega)⟩⟩
  · rcases h.row.2 with h4 | ⟨g, cap, cur, hv, hg, hh, rest⟩
    · exact .inl h4
    · exact .inr ⟨g, cap, cur, hv, hg, hl hh, rest⟩
  · by_cases e : s = r
    · subst e
      rw [has_put_same hm.isMap (show WideAt.IsKeyLit (ki s) from trivial), atKey_put_same hm.isMap (show WideAt.IsKeyLit (ki s) from trivial)]
      have : upM M s p s = some p := by unfold upM; rw [if_pos rfl]
      rw [this]
      exact ⟨rfl, rfl⟩
    · have hne : ki s ≠ ki r := fun e' => by simp at e'; omega
      rw [has_put_other hne, atKey_put_other hne, (hD s hs).1, (hD s hs).2]
      have : upM M r p s = M s := by unfold upM; rw [if_neg e]
      rw [this]
      exact ⟨rfl, rfl⟩
end
end Go.Proofs.YtagohbpbgjelaaaGreatDoor

/- The code's write, where a rule's row stands already. -/
namespace Go.Proofs.YtagohbpbgjelaaaGreatDoor
open Go.RowKit Go.Maps

theorem addr_addN (b off j : Nat) : (⟨b, off, none⟩ : Addr).add j = ⟨b, off + j, none⟩ := by
  unfold Addr.add
  split
  · rename_i h; subst h; rfl
  · rfl
theorem run_append_none_c {P : Program} {w : World} (base : Nat) (t ty e : TypeId) (i : TypeInfo) (size : Nat) (ht : P.underlying t = some (.slice e)) (hi : P.info? e = some i)
    (v : Value) (n : Nat) (xs : List Value) (hown : w.ownsRow base e size v n xs) (c : Nat) :
    (Builtin.append_ #[t, t] ty #[v, .slice none 0 c]).run P w = .ok v w := by
  rcases hown.2 with ⟨rfl, rfl⟩ | ⟨g, cap, cur, rfl, _, _, hnc, _⟩
  · simp [Builtin.append_, run_underlying ht, sizeOf, typeInfo, hi, Builtin.lenOf, Builtin.firstCells]
  · simp [Builtin.append_, run_underlying ht, sizeOf, typeInfo, hi, Builtin.lenOf, Builtin.firstCells, hnc, storeCells]
/-- Some values lie there, one behind the other. -/
def LieAt (w : World) (la : Option Addr) (m : Nat) (vs : List Value) : Prop := (m = 0 ∧ vs = []) ∨ ∃ b off, la = some ⟨b, off, none⟩ ∧ ∀ j u, vs[j]? = some u → w.cell? ⟨b, off + j, none⟩ = some u
/-- append(l, m...), l one's own, m any. -/
theorem wp_append_any {P : Program} {w : World} {o : Oper} {a : Act} {K : Act → World → Prop} {Q : Exit → Act → World → Prop} (s x : Operand) (t : TypeId)
    (ho : o.op = .call { callee := .builtin .append, args := #[s, x], argTypes := #[t, t] })
    (base : Nat) (e : TypeId) (i : TypeInfo) (z : Value) (size bytes : Nat) (ht : P.underlying t = some (.slice e)) (hi : P.info? e = some i) (hz : i.zero = some z)
    (hsize : i.size = size) (hby : i.bytes = bytes) (hzs : z.cells.size = size) (hsz : 0 < size)
    (v : Value) (n : Nat) (xs : List Value) (hs : a.eval s = v) (hown : w.ownsRow base e size v n xs)
    (la : Option Addr) (m c : Nat) (vs : List Value) (hx : a.eval x = .slice la m c) (hl : vs.length = m * size) (hv : LieAt w la m vs) (h1 : ∀ u ∈ vs, u.oneCell' = true)
    (h63 : n + m ≤ maxLen) (hbytes : (n + m) * bytes ≤ 140737488355328) (hbase : base ≤ w.heap.size)
    (h : ∀ v' w', w'.ownsRow base e size v' (n + m) (xs ++ vs) → w.grownBy w' v.ownBlock → K (a.put o.dst v') w') : o.wp P a w K Q := by
  cases la with
  | none =>
    obtain ⟨rfl, rfl⟩ : m = 0 ∧ vs = [] := by
      rcases hv with h | ⟨b, off, h, -⟩
      · exact h
      · cases h
    have hrun := run_append_none_c (P := P) (w := w) base t o.type e i size ht hi v n xs hown c
    unfold Oper.wp
    simp [execOp, ho, resolve, invoke, builtin, hs, hx, hrun, Result.andThen]
    exact h _ _ (by simpa using hown) ⟨rfl, rfl, rfl, Nat.le_refl _, fun _ _ _ => rfl⟩
  | some ad =>
    refine wp_append_own w s x t ho base e i z size bytes ht hi hz hsize hby hzs hsz v n xs hs hown ad m c vs hx hl (fun j u hu => ?_) h1 h63 hbytes hbase (fun v' w' h2 h3 _ => h v' w' h2 h3)
    rcases hv with ⟨-, rfl⟩ | ⟨b, off, hb, hc⟩
    · simp at hu
    · cases hb; rw [addr_addN]; exact hc j u hu
theorem step_append_any {P : Program} {w : World} {ops : Array Oper} {o : Oper} {a : Act} {K : Act → World → Prop} {Q : Exit → Act → World → Prop} {E : Prop} (hgd : o.guard = none) (s x : Operand) (t : TypeId)
    (ho : o.op = .call { callee := .builtin .append, args := #[s, x], argTypes := #[t, t] })
    (base : Nat) (e : TypeId) (i : TypeInfo) (z : Value) (size bytes : Nat) (ht : P.underlying t = some (.slice e)) (hi : P.info? e = some i) (hz : i.zero = some z)
    (hsize : i.size = size) (hby : i.bytes = bytes) (hzs : z.cells.size = size) (hsz : 0 < size)
    (v : Value) (n : Nat) (xs : List Value) (hs : a.eval s = v) (hown : w.ownsRow base e size v n xs)
    (la : Option Addr) (m c : Nat) (vs : List Value) (hx : a.eval x = .slice la m c) (hl : vs.length = m * size) (hv : LieAt w la m vs) (h1 : ∀ u ∈ vs, u.oneCell' = true)
    (h63 : n + m ≤ maxLen) (hbytes : (n + m) * bytes ≤ 140737488355328) (hbase : base ≤ w.heap.size)
    (h : ∀ v' w', w'.ownsRow base e size v' (n + m) (xs ++ vs) → w.grownBy w' v.ownBlock → K (a.put o.dst v') w') :
    if Region.wanted o (yielded ops a.tmps) = true then Oper.wp P o a w K Q else E := by
  have hw : Region.wanted o (yielded ops a.tmps) = true := by simp [Region.wanted, hgd]
  rw [if_pos hw]
  exact wp_append_any s x t ho base e i z size bytes ht hi hz hsize hby hzs hsz v n xs hs hown la m c vs hx hl hv h1 h63 hbytes hbase h
set_option maxRecDepth 100000 in
theorem slice27lh (a : Option Addr) (n c lo hi : Nat) (h1 : lo ≤ hi) (h2 : hi ≤ c) (w : World) : (Instr.slice 27 (.slice a n c) (some (.int .i64 (lo : Int))) (some (.int .i64 (hi : Int))) none).run Tryz.prog w = .ok (.slice (if c = lo then a else a.map (·.add lo)) (hi - lo) (c - lo)) w := by
  rw [run_slice_lh (w := w) 27 a n c Tryz.underlying27 .i64 .i64 (lo : Int) (hi : Int) (by omega) (by omega) (by omega)]
  have e : ((lo : Int)).toNat = lo := by omega
  have e2 : ((hi : Int)).toNat = hi := by omega
  rw [e, e2]
  simp [go_sem]
/-- A piece of one's own row. -/
theorem piece_lies {B : Nat} {w : World} {a : Option Addr} {c : Nat} {R : List Int} (h : w.ownsRow B 3 1 (.slice a R.length c) R.length (vints R)) {lo hi : Nat} (h1 : lo ≤ hi) (h2 : hi ≤ R.length) : LieAt w (if c = lo then a else a.map (·.add lo)) (hi - lo) (vints ((R.take hi).drop lo)) := by
  by_cases e0 : hi = lo
  · subst e0
    refine .inl ⟨by omega, ?_⟩
    have : (R.take hi).drop hi = [] := by apply List.eq_nil_of_length_eq_zero; simp
    rw [this]; rfl
  · rcases h.2 with ⟨hv, hn⟩ | ⟨g, cap, cur, hv, hg, hh, hcl, -⟩
    · omega
    · cases hv
      have hcR : R.length ≤ c := by
        have := hcl
        omega
      refine .inr ⟨g, lo, by rw [if_neg (by omega)]; simp only [Option.map_some, Option.some.injEq]; exact (addr_addN g 0 lo).trans (by rw [Nat.zero_add]), fun j u hu => ?_⟩
      have hj : j < hi - lo := by
        have := (List.getElem?_eq_some_iff.1 hu).1
        rw [vints_len, List.length_drop, List.length_take] at this
        omega
      have h3 : (vints R)[lo + j]? = some u := by
        rw [← hu]
        unfold vints
        rw [List.getElem?_map, List.getElem?_map, List.getElem?_drop, List.getElem?_take_of_lt (by omega)]
      rw [h.cellAt (lo + j) (by omega)]
      exact h3
end Go.Proofs.YtagohbpbgjelaaaGreatDoor

/- The code's write: where a rule's row stands already. -/
namespace Go.Proofs.YtagohbpbgjelaaaGreatDoor
open Go.RowKit Go.Maps

set_option maxHeartbeats 2000000 in
set_option maxRecDepth 100000 in
theorem write_found (B n wb gb cb mb r : Nat) (R : List Int) (M : Nat → Option (Nat × Nat)) (rv : Value) (hn : n ≤ 2048) (hr : r < n) (p : Nat × Nat) (hp1 : p.1 ≤ p.2) (hp2 : p.2 ≤ R.length) (hl : R.length + (p.2 - p.1) ≤ 65536) (hM : M r = some p) (w : World) (hB : B ≤ w.heap.size) (h : WrAt B n wb gb cb mb R M rv w) :
    Calls Tryz.prog 111 #[.pointer (some ⟨wb, 0, none⟩), .int .i64 (r : Nat)] w fun e w' => (∃ v, e = .returned v) ∧ ∃ rv', WrAt B n wb gb cb mb (R ++ (R.take p.2).drop p.1) M rv' w' ∧ Below B w w' := by
  obtain ⟨i3, hi3, hz30, hz31, hz32⟩ := info_parts info3
  obtain ⟨ra, rc, rfl⟩ := own_form h.row
  have hbx := h.bx
  have c3 : w.cell? ⟨wb, 3, none⟩ = some (.map (some mb)) := by unfold World.cell?; rw [hbx]; rfl
  have hlk := wr_look h hr hn
  rw [hM] at hlk
  replace hlk : (Instr.lookup 156 (.map (some mb)) (.int .i64 (r : Nat)) true).run Tryz.prog w = .ok (.tuple #[.agg #[.int .i64 (p.1 : Nat), .int .i64 (p.2 : Nat)], .bool true]) w := hlk
  have hal : Below w.heap.size w (w.alloc (.cells #[.int .i64 (p.1 : Nat), .int .i64 (p.2 : Nat)] 201)) := (Below.refl _ _).alloc (Nat.le_refl _) _
  have hnw : (w.alloc (.cells #[.int .i64 (p.1 : Nat), .int .i64 (p.2 : Nat)] 201)).heap[w.heap.size]? = some (.cells #[.int .i64 (p.1 : Nat), .int .i64 (p.2 : Nat)] 201 (0, 0)) := Go.Deep.blk_alloc_new _ _
  have hW2 := wr_below h hal
  have hbx2 := hW2.bx
  have s0 : (w.alloc (.cells #[.int .i64 (p.1 : Nat), .int .i64 (p.2 : Nat)] 201)).cell? ⟨w.heap.size, 0, none⟩ = some (.int .i64 (p.1 : Nat)) := by unfold World.cell?; rw [hnw]; rfl
  have s1 : (w.alloc (.cells #[.int .i64 (p.1 : Nat), .int .i64 (p.2 : Nat)] 201)).cell? ⟨w.heap.size, 1, none⟩ = some (.int .i64 (p.2 : Nat)) := by unfold World.cell?; rw [hnw]; rfl
  have d2 : (w.alloc (.cells #[.int .i64 (p.1 : Nat), .int .i64 (p.2 : Nat)] 201)).cell? ⟨wb, 2, none⟩ = some (.slice ra R.length rc) := by unfold World.cell?; rw [hbx2]; rfl
  have hB2 : B ≤ (w.alloc (.cells #[.int .i64 (p.1 : Nat), .int .i64 (p.2 : Nat)] 201)).heap.size := by have := hal.size; omega
  have hRc : R.length ≤ rc := by
    rcases h.row.2 with ⟨hv, hn⟩ | ⟨g, cap, cur, hv, hg, hh, hcl, -⟩
    · omega
    · cases hv; omega
  have hsl0 := fun w => slice27lh ra R.length rc p.1 p.2 hp1 (by omega) w
  have hpie := piece_lies hW2.row hp1 hp2
  obtain ⟨sa, hsa⟩ : ∃ sa, (if rc = p.1 then ra else ra.map (·.add p.1)) = sa := ⟨_, rfl⟩
  rw [hsa] at hpie
  have hsl : ∀ w, (Instr.slice 27 (.slice ra R.length rc) (some (.int .i64 (p.1 : Int))) (some (.int .i64 (p.2 : Int))) none).run Tryz.prog w = .ok (.slice sa (p.2 - p.1) (rc - p.1)) w := fun w => by rw [hsl0 w, hsa]
  have Hpie := hide hpie
  clear hsl0 hsa hpie
  have HFin : Hid (∀ v7 W7, W7.ownsRow B 3 1 v7 (R.length + (p.2 - p.1)) (vints R ++ vints ((R.take p.2).drop p.1)) → (w.alloc (.cells #[.int .i64 (p.1 : Nat), .int .i64 (p.2 : Nat)] 201)).grownBy W7 (Value.slice ra R.length rc).ownBlock → WrAt B n wb gb cb mb (R ++ (R.take p.2).drop p.1) M v7 (W7.setCell ⟨wb, 2, none⟩ v7) ∧ W7.cell? ⟨wb, 2, none⟩ = some (.slice ra R.length rc) ∧ W7.frozen? ⟨wb, 2, none⟩ = false ∧ (W7.cell? ⟨w.heap.size, 0, none⟩ = some (.int .i64 (p.1 : Nat)) ∧ W7.cell? ⟨w.heap.size, 1, none⟩ = some (.int .i64 (p.2 : Nat))) ∧ Below B w (W7.setCell ⟨wb, 2, none⟩ v7)) := hide (fun v7 W7 ho hg => by
    have e1 : vints R ++ vints ((R.take p.2).drop p.1) = vints (R ++ (R.take p.2).drop p.1) := (vints_app _ _).symm
    have e2 : R.length + (p.2 - p.1) = (R ++ (R.take p.2).drop p.1).length := by rw [List.length_append, List.length_drop, List.length_take]; omega
    rw [e1, e2] at ho
    have nbx := own_other hW2.row hW2.bx (by decide)
    have nsb := own_other hW2.row hnw (by decide)
    have hlt := (Array.getElem?_eq_some_iff.1 hbx2).1
    have hlt2 := (Array.getElem?_eq_some_iff.1 hnw).1
    have k1 := (hg.block wb hlt (fun e => nbx e.symm)).trans hbx2
    have k2 := (hg.block w.heap.size hlt2 (fun e => nsb e.symm)).trans hnw
    refine ⟨wr_push h hal hg ho, by unfold World.cell?; rw [k1]; rfl, by unfold World.frozen?; rw [k1]; rfl, ⟨by unfold World.cell?; rw [k2]; rfl, by unfold World.cell?; rw [k2]; rfl⟩, ?_⟩
    exact (((below_le hal hB).grown hg (by omega) (fun j hj => (hW2.row.lt j hj).1))).setCell h.b1 _)
  have HS7 : Hid (∀ v7 W7, W7.ownsRow B 3 1 v7 (R.length + (p.2 - p.1)) (vints R ++ vints ((R.take p.2).drop p.1)) → (w.alloc (.cells #[.int .i64 (p.1 : Nat), .int .i64 (p.2 : Nat)] 201)).grownBy W7 (Value.slice ra R.length rc).ownBlock → (W7.setCell ⟨wb, 2, none⟩ v7).cell? ⟨w.heap.size, 0, none⟩ = some (.int .i64 (p.1 : Nat)) ∧ (W7.setCell ⟨wb, 2, none⟩ v7).cell? ⟨w.heap.size, 1, none⟩ = some (.int .i64 (p.2 : Nat))) := hide (fun v7 W7 ho hg => by
    obtain ⟨-, -, -, ⟨k1, k2⟩, -⟩ := unhide HFin v7 W7 ho hg
    have hne : w.heap.size ≠ wb := by have := (Array.getElem?_eq_some_iff.1 hbx).1; omega
    exact ⟨(World.cell?_of_block (heap_other W7 hne)).trans k1, (World.cell?_of_block (heap_other W7 hne)).trans k2⟩)
  have HW2 := hide hW2
  clear h hbx hW2 hbx2 hM hal hnw
  go_enter Tryz.func111, Tryz.ntmps111
  go_wp2_with fail
  refine wp_region_held_drew (S := (fun V : World => V.cell? ⟨w.heap.size, 0, none⟩ = some (.int .i64 (p.1 : Nat)) ∧ V.cell? ⟨w.heap.size, 1, none⟩ = some (.int .i64 (p.2 : Nat)))) (by kernel_rfl) (by exact ⟨s0, s1⟩) (fun hHeld => ?_)
  refine take_dst (i := 0) (dst := some 21) (v := ?_) rfl rfl (by kernel_rfl) (by kernel_rfl) (by kernel_rfl) (fun _ _ _ h => h) (Or.inl ⟨by rfl, ?_⟩) hHeld ?_
  rotate_left
  · intro w hSw; obtain ⟨k0, k1⟩ := hSw; go_simp; try (with_reducible rfl)
  simp only [Act.put, List.setIfInBounds_toArray, List.set_cons_zero, List.set_cons_succ]
  refine take_dst (i := 1) (dst := some 22) (v := ?_) rfl rfl (by kernel_rfl) (by kernel_rfl) (by kernel_rfl) (fun _ _ _ h => h) (Or.inl ⟨by rfl, ?_⟩) hHeld ?_
  rotate_left
  · intro w hSw; obtain ⟨k0, k1⟩ := hSw; go_simp; try (with_reducible rfl)
  simp only [Act.put, List.setIfInBounds_toArray, List.set_cons_zero, List.set_cons_succ]
  refine take_dst (i := 2) (dst := some 23) (v := ?_) rfl rfl (by kernel_rfl) (by kernel_rfl) (by kernel_rfl) (fun _ _ _ h => h) (Or.inl ⟨by rfl, ?_⟩) hHeld ?_
  rotate_left
  · intro w hSw; obtain ⟨k0, k1⟩ := hSw; go_simp; try (with_reducible rfl)
  simp only [Act.put, List.setIfInBounds_toArray, List.set_cons_zero, List.set_cons_succ]
  refine take_dst (i := 3) (dst := some 24) (v := ?_) rfl rfl (by kernel_rfl) (by kernel_rfl) (by kernel_rfl) (fun _ _ _ h => h) (Or.inl ⟨by rfl, ?_⟩) hHeld ?_
  rotate_left
  · intro w hSw; obtain ⟨k0, k1⟩ := hSw; go_simp; try (with_reducible rfl)
  simp only [Act.put, List.setIfInBounds_toArray, List.set_cons_zero, List.set_cons_succ]
  refine take_dst (i := 5) (dst := some 26) (v := ?_) rfl rfl (by kernel_rfl) (by kernel_rfl) (by kernel_rfl) (fun _ _ _ h => h) (Or.inl ⟨by rfl, ?_⟩) hHeld ?_
  rotate_left
  · intro w hSw; obtain ⟨k0, k1⟩ := hSw; go_simp; try (with_reducible rfl)
  simp only [Act.put, List.setIfInBounds_toArray, List.set_cons_zero, List.set_cons_succ]
  refine take_dst (i := 6) (dst := some 27) (v := ?_) rfl rfl (by kernel_rfl) (by kernel_rfl) (by kernel_rfl) (fun _ _ _ h => h) (Or.inl ⟨by rfl, ?_⟩) hHeld ?_
  rotate_left
  · intro w hSw; obtain ⟨k0, k1⟩ := hSw; go_simp; try (with_reducible rfl)
  simp only [Act.put, List.setIfInBounds_toArray, List.set_cons_zero, List.set_cons_succ]
  refine take_dst (i := 7) (dst := some 28) (v := ?_) rfl rfl (by kernel_rfl) (by kernel_rfl) (by kernel_rfl) (fun _ _ _ h => h) (Or.inl ⟨by rfl, ?_⟩) hHeld ?_
  rotate_left
  · intro w hSw; obtain ⟨k0, k1⟩ := hSw; go_simp; try (with_reducible rfl)
  simp only [Act.put, List.setIfInBounds_toArray, List.set_cons_zero, List.set_cons_succ]
  refine take_dst (i := 9) (dst := some 30) (v := ?_) rfl rfl (by kernel_rfl) (by kernel_rfl) (by kernel_rfl) (fun _ _ _ h => h) (Or.inl ⟨by rfl, ?_⟩) hHeld ?_
  rotate_left
  · intro w hSw; obtain ⟨k0, k1⟩ := hSw; go_simp; try (with_reducible rfl)
  simp only [Act.put, List.setIfInBounds_toArray, List.set_cons_zero, List.set_cons_succ]
  refine take_dst (i := 10) (dst := some 31) (v := ?_) rfl rfl (by kernel_rfl) (by kernel_rfl) (by kernel_rfl) (fun _ _ _ h => h) (Or.inl ⟨by rfl, ?_⟩) hHeld ?_
  rotate_left
  · intro w hSw; obtain ⟨k0, k1⟩ := hSw; go_simp; try (with_reducible rfl)
  simp only [Act.put, List.setIfInBounds_toArray, List.set_cons_zero, List.set_cons_succ]
  refine take_dst (i := 11) (dst := some 32) (v := ?_) rfl rfl (by kernel_rfl) (by kernel_rfl) (by kernel_rfl) (fun _ _ _ h => h) (Or.inl ⟨by rfl, ?_⟩) hHeld ?_
  rotate_left
  · intro w hSw; obtain ⟨k0, k1⟩ := hSw; go_simp; try (with_reducible rfl)
  simp only [Act.put, List.setIfInBounds_toArray, List.set_cons_zero, List.set_cons_succ]
  refine take_dst (i := 12) (dst := some 33) (v := ?_) rfl rfl (by kernel_rfl) (by kernel_rfl) (by kernel_rfl) (fun _ _ _ h => h) (Or.inl ⟨by rfl, ?_⟩) hHeld ?_
  rotate_left
  · intro w hSw; obtain ⟨k0, k1⟩ := hSw; go_simp; try (with_reducible rfl)
  simp only [Act.put, List.setIfInBounds_toArray, List.set_cons_zero, List.set_cons_succ]
  refine wpAnyH_ready (rs := [4, 8]) (by kernel_rfl) (by simp) ?_
  refine AllReadyH.cons rfl (fun K hK => ?_) (AllReadyH.cons rfl (fun K hK => ?_) AllReadyH.nil)
  · go_simp
    refine hK.out _ _ (by exact ⟨s0, s1⟩) (fun hHeld => ?_)
    clear hK K
    refine wpAnyH_ready (rs := [8]) (by kernel_rfl) (by simp) ?_
    refine AllReadyH.cons rfl (fun K hK => ?_) AllReadyH.nil
    go_simp
    refine hK.out _ _ (by exact ⟨s0, s1⟩) (fun hHeld => ?_)
    clear hK K
    refine take_dst (i := 13) (dst := some 34) (v := ?_) rfl rfl (by kernel_rfl) (by kernel_rfl) (by kernel_rfl) (fun _ _ _ h => h) (Or.inl ⟨by rfl, ?_⟩) hHeld ?_
    rotate_left
    · intro w hSw; obtain ⟨k0, k1⟩ := hSw; go_simp; try (with_reducible rfl)
    simp only [Act.put, List.setIfInBounds_toArray, List.set_cons_zero, List.set_cons_succ]
    refine wpAnyH_ready (rs := [14]) (by kernel_rfl) (by simp) ?_
    refine AllReadyH.cons rfl (fun K hK => ?_) AllReadyH.nil
    refine step_append_any rfl (.tmp 25) (.tmp 34) 27 rfl B 3 i3 (.int .i64 0) 1 8 Tryz.underlying27 hi3 hz30 hz31 hz32 rfl (by decide) (.slice ra R.length rc) R.length (vints R) (by simp [Act.eval]) (unhide HW2).row sa (p.2 - p.1) (rc - p.1) (vints ((R.take p.2).drop p.1)) (by simp [Act.eval]) (by rw [vints_len, List.length_drop, List.length_take]; omega) (unhide Hpie) (vints_one _) (by unfold maxLen; omega) (by omega) hB2 ?_
    intro v7 W7 hown7 hgrow7
    obtain ⟨a7, c7, rfl⟩ := own_form hown7
    have hgrow7 : (w.alloc (.cells #[.int .i64 (p.1 : Nat), .int .i64 (p.2 : Nat)] 201)).grownBy W7 (Value.slice ra R.length rc).ownBlock := ⟨hgrow7.os, hgrow7.tape, hgrow7.output, hgrow7.size, hgrow7.block⟩
    obtain ⟨hT7, hc7, hf7, hs7, hb7⟩ := unhide HFin _ W7 hown7 hgrow7
    go_simp
    refine hK.out _ _ hs7 (fun hHeld => ?_)
    clear hK K
    refine take_dst (i := 15) (dst := some 36) (v := ?_) rfl rfl (by kernel_rfl) (by kernel_rfl) (by kernel_rfl) (fun _ _ _ h => h) (Or.inl ⟨by rfl, ?_⟩) hHeld ?_
    rotate_left
    · intro w hSw; obtain ⟨k0, k1⟩ := hSw; go_simp; try (with_reducible rfl)
    simp only [Act.put, List.setIfInBounds_toArray, List.set_cons_zero, List.set_cons_succ]
    refine take_dst (i := 16) (dst := some 37) (v := ?_) rfl rfl (by kernel_rfl) (by kernel_rfl) (by kernel_rfl) (fun _ _ _ h => h) (Or.inl ⟨by rfl, ?_⟩) hHeld ?_
    rotate_left
    · intro w hSw; obtain ⟨k0, k1⟩ := hSw; go_simp; try (with_reducible rfl)
    simp only [Act.put, List.setIfInBounds_toArray, List.set_cons_zero, List.set_cons_succ]
    refine wpAnyH_ready (rs := [17]) (by kernel_rfl) (by simp) ?_
    refine AllReadyH.cons rfl (fun K hK => ?_) AllReadyH.nil
    go_simp
    refine hK.out _ _ (unhide HS7 _ W7 hown7 hgrow7) (fun hHeld => ?_)
    clear hK K
    refine wpAnyH_done (by kernel_rfl) ?_ _
    have HT7 := hide hT7; have Hb7 := hide hb7
    clear hT7 hb7 hown7 hgrow7 hHeld hc7 hf7
    go_wp2
    refine bodyPost_ret (results_none rfl _ _ _) rfl ?_
    first | exact ⟨⟨_, rfl⟩, ⟨_, unhide HT7⟩, unhide Hb7⟩ | exact ⟨⟨_, rfl⟩, _, unhide HT7, unhide Hb7⟩
  · go_simp
    refine hK.out _ _ (by exact ⟨s0, s1⟩) (fun hHeld => ?_)
    clear hK K
    refine take_dst (i := 13) (dst := some 34) (v := ?_) rfl rfl (by kernel_rfl) (by kernel_rfl) (by kernel_rfl) (fun _ _ _ h => h) (Or.inl ⟨by rfl, ?_⟩) hHeld ?_
    rotate_left
    · intro w hSw; obtain ⟨k0, k1⟩ := hSw; go_simp; try (with_reducible rfl)
    simp only [Act.put, List.setIfInBounds_toArray, List.set_cons_zero, List.set_cons_succ]
    refine wpAnyH_ready (rs := [4]) (by kernel_rfl) (by simp) ?_
    refine AllReadyH.cons rfl (fun K hK => ?_) AllReadyH.nil
    go_simp
    refine hK.out _ _ (by exact ⟨s0, s1⟩) (fun hHeld => ?_)
    clear hK K
    refine wpAnyH_ready (rs := [14]) (by kernel_rfl) (by simp) ?_
    refine AllReadyH.cons rfl (fun K hK => ?_) AllReadyH.nil
    refine step_append_any rfl (.tmp 25) (.tmp 34) 27 rfl B 3 i3 (.int .i64 0) 1 8 Tryz.underlying27 hi3 hz30 hz31 hz32 rfl (by decide) (.slice ra R.length rc) R.length (vints R) (by simp [Act.eval]) (unhide HW2).row sa (p.2 - p.1) (rc - p.1) (vints ((R.take p.2).drop p.1)) (by simp [Act.eval]) (by rw [vints_len, List.length_drop, List.length_take]; omega) (unhide Hpie) (vints_one _) (by unfold maxLen; omega) (by omega) hB2 ?_
    intro v7 W7 hown7 hgrow7
    obtain ⟨a7, c7, rfl⟩ := own_form hown7
    have hgrow7 : (w.alloc (.cells #[.int .i64 (p.1 : Nat), .int .i64 (p.2 : Nat)] 201)).grownBy W7 (Value.slice ra R.length rc).ownBlock := ⟨hgrow7.os, hgrow7.tape, hgrow7.output, hgrow7.size, hgrow7.block⟩
    obtain ⟨hT7, hc7, hf7, hs7, hb7⟩ := unhide HFin _ W7 hown7 hgrow7
    go_simp
    refine hK.out _ _ hs7 (fun hHeld => ?_)
    clear hK K
    refine take_dst (i := 15) (dst := some 36) (v := ?_) rfl rfl (by kernel_rfl) (by kernel_rfl) (by kernel_rfl) (fun _ _ _ h => h) (Or.inl ⟨by rfl, ?_⟩) hHeld ?_
    rotate_left
    · intro w hSw; obtain ⟨k0, k1⟩ := hSw; go_simp; try (with_reducible rfl)
    simp only [Act.put, List.setIfInBounds_toArray, List.set_cons_zero, List.set_cons_succ]
    refine take_dst (i := 16) (dst := some 37) (v := ?_) rfl rfl (by kernel_rfl) (by kernel_rfl) (by kernel_rfl) (fun _ _ _ h => h) (Or.inl ⟨by rfl, ?_⟩) hHeld ?_
    rotate_left
    · intro w hSw; obtain ⟨k0, k1⟩ := hSw; go_simp; try (with_reducible rfl)
    simp only [Act.put, List.setIfInBounds_toArray, List.set_cons_zero, List.set_cons_succ]
    refine wpAnyH_ready (rs := [17]) (by kernel_rfl) (by simp) ?_
    refine AllReadyH.cons rfl (fun K hK => ?_) AllReadyH.nil
    go_simp
    refine hK.out _ _ (unhide HS7 _ W7 hown7 hgrow7) (fun hHeld => ?_)
    clear hK K
    refine wpAnyH_done (by kernel_rfl) ?_ _
    have HT7 := hide hT7; have Hb7 := hide hb7
    clear hT7 hb7 hown7 hgrow7 hHeld hc7 hf7
    go_wp2
    refine bodyPost_ret (results_none rfl _ _ _) rfl ?_
    first | exact ⟨⟨_, rfl⟩, ⟨_, unhide HT7⟩, unhide Hb7⟩ | exact ⟨⟨_, rfl⟩, _, unhide HT7, unhide Hb7⟩
end Go.Proofs.YtagohbpbgjelaaaGreatDoor

/- The code's toThemselves: which rules lead to themselves. -/
import Derived.Test.YtagohbpbgjelaaaGreatDoorTW
import Derived.Test.YtagohbpbgjelaaaGreatDoorGV
import Derived.Test.YtagohbpbgjelaaaGreatDoorLF
namespace Go.Proofs.YtagohbpbgjelaaaGreatDoor
open Go.RowKit

open Classical in
noncomputable def selfF (W : Nat → List Nat) : Nat → Bool := fun r => decide (∃ y, y ∈ W r ∧ Rh W y r)
theorem selfF_is {W : Nat → List Nat} {n : Nat} {made : List (List Nat)} (hR : Rings W n made) {i x : Nat} {a : List Nat} (ha : made[i]? = some a) (hx : x ∈ a) : selfF W x = (decide (1 < a.length) || decide (x ∈ W x)) := by
  have h := ring_self hR ha hx
  have h1 : selfF W x = true ↔ ∃ y, y ∈ W x ∧ Rh W y x := by unfold selfF; simp
  rw [Bool.eq_iff_iff, h1, h]
  simp
theorem way_big {B B' : Nat} {w : World} {tb n : Nat} {W : Nat → List Nat} (h : WayAt B w tb n W) (hB : B ≤ B') : WayAt B' w tb n W := by
  refine ⟨by have := h.1; omega, fun r hr => ?_⟩
  obtain ⟨a, c, h1, h2⟩ := h.2 r hr
  refine ⟨a, c, h1, ?_⟩
  rcases h2 with h2 | ⟨b, off, h3, h4, h5⟩
  · exact .inl h2
  · exact .inr ⟨b, off, h3, by omega, h5⟩
theorem contains_any (a : Option Addr) (c : Nat) (l : List Nat) (x : Nat) (hl : l.length ≤ 1048576) (B : Nat) (w : World) (h : NRow B w a (castL l)) : Calls Tryz.prog 126 #[.slice a l.length c, .int .i64 (x : Nat)] w fun e w' => e = .returned (.bool (decide (x ∈ l))) ∧ w' = w := by
  have e1 : (castL l).length = l.length := castL_len l
  rcases h with h | ⟨b, off, rfl, h1, h2⟩
  · have : l = [] := by
      cases l with
      | nil => rfl
      | cons y l => simp [castL] at h
    subst this
    exact Tryz.slices_Contains_int_empty a c x w
  · have h3 := Tryz.slices_Contains_int b off l.length c (castL l) x w (by omega) (by omega) h2
    rw [List.take_of_length_le (by omega)] at h3
    have e2 : (castL l).contains (x : Int) = decide (x ∈ l) := by
      rw [Bool.eq_iff_iff, decide_eq_true_eq, List.contains_iff_mem]
      unfold castL
      rw [List.mem_map]
      exact ⟨fun ⟨y, h4, h5⟩ => by have : y = x := by omega
                                   exact this ▸ h4, fun h4 => ⟨x, h4, rfl⟩⟩
    rw [e2] at h3
    exact h3
set_option maxHeartbeats 2000000 in
set_option maxRecDepth 100000 in
theorem toThemselves_any (W : Nat → List Nat) (n wb wcp : Nat) (hn : n ≤ 2048) (hW : ∀ r, r < n → ∀ y, y ∈ W r → y < n) (hWl : ∀ r, (W r).length ≤ 1048576) (w : World) (hWay : WayAt w.heap.size w wb n W) :
    Calls Tryz.prog 89 #[.slice (some ⟨wb, 0, none⟩) n wcp] w fun e w' => ∃ b : Nat, e = .returned (.slice (some ⟨b, 0, none⟩) n n) ∧ w'.rowIs b 4 n (fun r => .bool (selfF W r)) ∧ w.heap.size ≤ b ∧ Below w.heap.size w w' := by
  have hmb := fun w => run_make_row' (P := Tryz.prog) 28 4 (.bool false) 1 Tryz.underlying28 info4 rfl .i64 .i64 n (by omega) (by omega) w
  have hal : Below w.heap.size w (w.alloc (.cells (madeCells #[.bool false] n) 4)) := (Below.refl _ _).alloc (Nat.le_refl _) _
  have HR := hide (rings_any W n wb wcp hn hW hWl _ (way_big (way_below hWay hal) hal.size))
  have Hrow := hide (World.rowIs_made w (.bool false) n 4)
  have HW := hide hWay; have Hal := hide hal
  have hszA : (w.alloc (.cells (madeCells #[.bool false] n) 4)).heap.size = w.heap.size + 1 := by simp
  clear hWay hal
  go_enter Tryz.func89, Tryz.ntmps89
  go_wp2_with fail
  generalize w.alloc (.cells (madeCells #[.bool false] n) 4) = w0 at *
  refine (unhide HR).mono ?_
  rintro e w1 ⟨v1, made, rfl, hRi, hml, hRa, hb1⟩
  obtain ⟨ra, rc, rfl⟩ := (show ∃ a c, v1 = .slice a made.length c by obtain ⟨vs, h1, -⟩ := hRa.form; exact own_form h1)
  have hrow1 := (unhide Hrow).of_block (hb1.block _ (unhide Hrow).lt)
  have Hrow1 := hide hrow1
  have Hb1 := hide ((unhide Hal).trans (below_le hb1 (by omega))); have HRi := hide hRi; have HRa := hide hRa
  have hs1 := hb1.size
  clear hb1 hRi hRa HR hrow1
  go_wp2
  go_loopw [14] (fun x V => ∃ (i : Nat) (f : Nat → Bool), x = .int .i64 i ∧ i ≤ made.length ∧ V.rowIs w.heap.size 4 n (fun r => .bool (f r)) ∧ (∀ (j : Nat) (a : List Nat) (x : Nat), j < i → made[j]? = some a → x ∈ a → f x = selfF W x) ∧ Fr (· = w.heap.size) w1 V) (fun x _ => made.length - (intOf x).toNat)
  case atStart => exact ⟨0, fun _ => false, rfl, Nat.zero_le _, unhide Hrow1, fun j a x h => by omega, fr_refl _ _⟩
  case round =>
    obtain ⟨i, f, rfl, hi, hrow, hf, hF⟩ := hrel
    have hkeep : ∀ V, Fr (· = w.heap.size) w1 V → RingsAt w0.heap.size V (.slice ra made.length rc) made := fun V hV => rings_below (unhide HRa) (fun q cs t hq _ hge => hV.2.1 q (Array.getElem?_eq_some_iff.1 hq).1 (fun e => by have e : q = w.heap.size := e; omega))
    by_cases hlt : i < made.length
    · have hlt' : (i : Int) < made.length := by omega
      obtain ⟨a, ha⟩ : ∃ a, made[i]? = some a := ⟨made[i], List.getElem?_eq_getElem hlt⟩
      obtain ⟨va, vc, g, c, hv, hc1, hc2⟩ := ring_at (hkeep _ hF) ha
      cases hv
      have hal : a.length ≤ 2048 := by
        have := nodup_lt ((unhide HRi).nd i _ ha) (fun x hx => (unhide HRi).lt i _ x ha hx)
        omega
      have Hc2 : Hid (∀ V', Fr (· = w.heap.size) w1 V' → ∀ j x : Nat, a[j]? = some x → V'.cell? ⟨g, j, none⟩ = some (.int .i64 (x : Nat))) := hide (fun V' hV' j x hx => by
        obtain ⟨va', vc', g', c', hv', d1, d2⟩ := ring_at (hkeep V' hV') ha
        cases hv'
        have e1 : V'.cell? ⟨va, i, none⟩ = wr.cell? ⟨va, i, none⟩ := by
          obtain ⟨vs, q1, -⟩ := (unhide HRa).form
          obtain ⟨cs, q2⟩ := own_ty q1 rfl
          have hge := (q1.lt va rfl).1
          have hl := (q1.lt va rfl).2
          exact World.cell?_of_block ((hV'.2.1 va hl (fun e => by have e : va = w.heap.size := e; omega)).trans (hF.2.1 va hl (fun e => by have e : va = w.heap.size := e; omega)).symm)
        rw [d1, hc1] at e1
        cases e1
        exact d2 j x hx)
      have Hsf := hide (fun x (hx : x ∈ a) => selfF_is (unhide HRi) ha hx)
      have Hrow := hide hrow; have Hf := hide hf; have HF := hide hF; have Hha := hide ha
      clear hrow hf hF ha hc2 hkeep
      go_wp2
      go_loopw [20] (fun x V => ∃ (p : Nat) (f : Nat → Bool), x = .int .i64 p ∧ p ≤ a.length ∧ V.rowIs w.heap.size 4 n (fun r => .bool (f r)) ∧ (∀ (j : Nat) (b : List Nat) (x : Nat), j < i → made[j]? = some b → x ∈ b → f x = selfF W x) ∧ (∀ x, x ∈ a.take p → f x = selfF W x) ∧ Fr (· = w.heap.size) w1 V) (fun x _ => a.length - (intOf x).toNat)
      case atStart => exact ⟨0, f, rfl, Nat.zero_le _, unhide Hrow, unhide Hf, fun x hx => by simp at hx, unhide HF⟩
      case round =>
        clear Hrow Hf HF
        obtain ⟨p, f, rfl, hp, hrow, hf, hfa, hF⟩ := hrel
        by_cases hpl : p < a.length
        · have hpl' : (p : Int) < a.length := by omega
          have hxa : a[p]? = some (a.getD p 0) := by rw [List.getD_eq_getElem?_getD, List.getElem?_eq_getElem hpl]; rfl
          have hxm := List.mem_of_getElem? hxa
          have hxn := (unhide HRi).lt i _ _ (unhide Hha) hxm
          have hcx := unhide Hc2 wr hF p _ hxa
          have hsx := unhide Hsf _ hxm
          have hbV : Below w.heap.size w wr := (unhide Hb1).trans (fr_below hF (by omega) (fun k hk => by have hk : k = w.heap.size := hk; omega))
          obtain ⟨xa, xc, hwc, hwr⟩ := (way_below (unhide HW) hbV).2 _ hxn
          have HC := hide (contains_any xa xc (W (a.getD p 0)) (a.getD p 0) (hWl _) _ wr hwr)
          have mc := hrow.cell hxn
          have mf := hrow.frozen (a.getD p 0)
          have Hrs : Hid ((wr.setCell ⟨w.heap.size, a.getD p 0, none⟩ (.bool (selfF W (a.getD p 0)))).rowIs w.heap.size 4 n (fun r => .bool (upB f (a.getD p 0) (selfF W (a.getD p 0)) r))) := hide ((hrow.set _ _).congr (fun q _ => by unfold upB; split <;> rfl))
          have Hf2 := hide (show ∀ (j : Nat) (b : List Nat) (x : Nat), j < i → made[j]? = some b → x ∈ b → upB f (a.getD p 0) (selfF W (a.getD p 0)) x = selfF W x from fun j b x h1 h2 h3 => by
            by_cases e : x = a.getD p 0
            · rw [e, upB_self]
            · rw [upB_ne e]; exact hf j b x h1 h2 h3)
          have Hfa2 := hide (show ∀ x, x ∈ a.take (p + 1) → upB f (a.getD p 0) (selfF W (a.getD p 0)) x = selfF W x from fun x hx => by
            by_cases e : x = a.getD p 0
            · rw [e, upB_self]
            · rw [upB_ne e]; exact hfa x (((take_mem_succ hpl x).1 hx).resolve_right e))
          have HFs := hide (show Fr (· = w.heap.size) w1 (wr.setCell ⟨w.heap.size, a.getD p 0, none⟩ (.bool (selfF W (a.getD p 0)))) from fr_set hF (by rfl) _)
          generalize hxe : a.getD p 0 = x at *
          have hxn' : (x : Int) < n := by omega
          have hwl := hWl x
          clear hrow hf hfa hF hxa hxm hbV hwr
          by_cases h1 : 1 < a.length
          · have h1' : (1 : Int) < a.length := by omega
            rw [decide_eq_true h1, Bool.true_or] at hsx
            rw [hsx] at Hrs HFs Hf2 Hfa2
            go_wp2
            go_roundw
            case rel => exact ⟨p + 1, _, by go_num, by omega, unhide Hrs, unhide Hf2, unhide Hfa2, unhide HFs⟩
            case measure => simp [intOf]; omega
          · have h1' : ¬ (1 : Int) < a.length := by omega
            rw [decide_eq_false h1, Bool.false_or] at hsx
            rw [hsx] at Hrs HFs Hf2 Hfa2
            generalize decide (x ∈ W x) = bx at *
            go_wp2_with fail
            refine (unhide HC).mono ?_
            rintro e w9 ⟨rfl, rfl⟩
            go_wp2
            go_roundw
            case rel => exact ⟨p + 1, _, by go_num, by omega, unhide Hrs, unhide Hf2, unhide Hfa2, unhide HFs⟩
            case measure => simp [intOf]; omega
        · obtain rfl : p = a.length := by omega
          rw [List.take_length] at hfa
          have Hf3 := hide (show ∀ (j : Nat) (b : List Nat) (x : Nat), j < i + 1 → made[j]? = some b → x ∈ b → f x = selfF W x from fun j b x h1 h2 h3 => by
            by_cases e : j = i
            · subst e; rw [unhide Hha] at h2; cases h2; exact hfa x h3
            · exact hf j b x (by omega) h2 h3)
          have Hrow := hide hrow; have HF := hide hF
          clear hrow hf hfa hF
          go_wp2
          go_roundw
          case rel => exact ⟨i + 1, f, by go_num, by omega, unhide Hrow, unhide Hf3, unhide HF⟩
          case measure => simp [intOf]; omega
    · obtain rfl : i = made.length := by omega
      have Hrw : Hid (wr.rowIs w.heap.size 4 n (fun r => .bool (selfF W r))) := hide (hrow.congr (fun r hr => by
        obtain ⟨j, a, h1, h2⟩ := (unhide HRi).cov r hr
        rw [hf j a r (List.getElem?_eq_some_iff.1 h1).1 h1 h2]))
      have HbV := hide ((unhide Hb1).trans (fr_below hF (by omega) (fun k hk => by have hk : k = w.heap.size := hk; omega)))
      clear hrow hf hF hkeep
      go_wp2
      go_ret
      exact ⟨w.heap.size, rfl, unhide Hrw, Nat.le_refl _, unhide HbV⟩
end Go.Proofs.YtagohbpbgjelaaaGreatDoor

namespace Go.Proofs.YtagohbpbgjelaaaGreatDoor
open Go.RowKit

theorem set7 {w : World} {b : Nat} {t : TypeId} {a0 a1 a2 a3 a4 a5 a6 : Value} (h : w.heap[b]? = some (.cells #[a0, a1, a2, a3, a4, a5, a6] t)) (v0 v1 v2 v3 v4 v5 v6 : Value) :
    (((((((w.setCell ⟨b, 0, none⟩ v0).setCell ⟨b, 1, none⟩ v1).setCell ⟨b, 2, none⟩ v2).setCell ⟨b, 3, none⟩ v3).setCell ⟨b, 4, none⟩ v4).setCell ⟨b, 5, none⟩ v5).setCell ⟨b, 6, none⟩ v6).heap[b]? = some (.cells #[v0, v1, v2, v3, v4, v5, v6] t) ∧ Fr (· = b) w (((((((w.setCell ⟨b, 0, none⟩ v0).setCell ⟨b, 1, none⟩ v1).setCell ⟨b, 2, none⟩ v2).setCell ⟨b, 3, none⟩ v3).setCell ⟨b, 4, none⟩ v4).setCell ⟨b, 5, none⟩ v5).setCell ⟨b, 6, none⟩ v6) :=
  by
  have h0 : (w.setCell ⟨b, 0, none⟩ v0).heap[b]? = some (.cells #[v0, a1, a2, a3, a4, a5, a6] t) := set_blk h v0
  have h1 : ((w.setCell ⟨b, 0, none⟩ v0).setCell ⟨b, 1, none⟩ v1).heap[b]? = some (.cells #[v0, v1, a2, a3, a4, a5, a6] t) := set_blk h0 v1
  generalize hx1 : (w.setCell ⟨b, 0, none⟩ v0).setCell ⟨b, 1, none⟩ v1 = x1 at *
  have f1 : Fr (· = b) w x1 := by rw [← hx1]; exact fr_set (fr_set (fr_refl (· = b) w) (by rfl) _) (by rfl) _
  have h2 : (x1.setCell ⟨b, 2, none⟩ v2).heap[b]? = some (.cells #[v0, v1, v2, a3, a4, a5, a6] t) := set_blk h1 v2
  have h3 : ((x1.setCell ⟨b, 2, none⟩ v2).setCell ⟨b, 3, none⟩ v3).heap[b]? = some (.cells #[v0, v1, v2, v3, a4, a5, a6] t) := set_blk h2 v3
  generalize hx2 : (x1.setCell ⟨b, 2, none⟩ v2).setCell ⟨b, 3, none⟩ v3 = x2 at *
  have f2 : Fr (· = b) w x2 := by rw [← hx2]; exact fr_set (fr_set f1 (by rfl) _) (by rfl) _
  have h4 : (x2.setCell ⟨b, 4, none⟩ v4).heap[b]? = some (.cells #[v0, v1, v2, v3, v4, a5, a6] t) := set_blk h3 v4
  have h5 : ((x2.setCell ⟨b, 4, none⟩ v4).setCell ⟨b, 5, none⟩ v5).heap[b]? = some (.cells #[v0, v1, v2, v3, v4, v5, a6] t) := set_blk h4 v5
  generalize hx3 : (x2.setCell ⟨b, 4, none⟩ v4).setCell ⟨b, 5, none⟩ v5 = x3 at *
  have f3 : Fr (· = b) w x3 := by rw [← hx3]; exact fr_set (fr_set f2 (by rfl) _) (by rfl) _
  exact ⟨set_blk h5 v6, fr_set f3 (by rfl) _⟩
theorem seven_frz {w : World} {b : Nat} {t : TypeId} {a0 a1 a2 a3 a4 a5 a6 : Value} (h : w.heap[b]? = some (.cells #[a0, a1, a2, a3, a4, a5, a6] t)) : w.frozen? ⟨b, 0, none⟩ = false ∧ w.frozen? ⟨b, 1, none⟩ = false ∧ w.frozen? ⟨b, 2, none⟩ = false ∧ w.frozen? ⟨b, 3, none⟩ = false ∧ w.frozen? ⟨b, 4, none⟩ = false ∧ w.frozen? ⟨b, 5, none⟩ = false ∧ w.frozen? ⟨b, 6, none⟩ = false := by
  refine ⟨?_, ?_, ?_, ?_, ?_, ?_, ?_⟩ <;> (unfold World.frozen?; rw [h]; rfl)
structure Mv0 (w1 W : World) (mb : Nat) (cs : Array Value) (t : Ac) (v3 v4 v5 v6 : Value) : Prop where
  lo : w1.heap.size ≤ mb
  hi : mb < W.heap.size
  bx : W.heap[mb]? = some (.cells cs 89)
  ac : AcO (fun b => w1.heap.size ≤ b ∧ b < W.heap.size ∧ b ≠ mb) W t v3 v4 v5 v6
  bl : Below w1.heap.size w1 W
theorem mv_b {w1 W : World} {t : Ac} {v0 v1 v2 v3 v4 v5 v6 : Value} (hb : Below w1.heap.size w1 W) (hac : AcO (fun b => w1.heap.size ≤ b ∧ b < W.heap.size) W t v3 v4 v5 v6) :
    Mv0 w1 (W.alloc (.cells #[v0, v1, v2, v3, v4, v5, v6] 89)) W.heap.size #[v0, v1, v2, v3, v4, v5, v6] t v3 v4 v5 v6 := by
  have hba : Below W.heap.size W (W.alloc (.cells #[v0, v1, v2, v3, v4, v5, v6] 89)) := (Below.refl _ _).alloc (Nat.le_refl _) _
  have hs : (W.alloc (.cells #[v0, v1, v2, v3, v4, v5, v6] 89)).heap.size = W.heap.size + 1 := by simp
  have hle := hb.size
  exact ⟨hle, by omega, Go.Deep.blk_alloc_new _ _, acO_up (fun b h => ⟨h.1, by have := h.2; omega, by have := h.2; omega⟩) (fun b h => hba.block b h.2) _ _ _ _ _ hac, hb.trans (below_le hba hle)⟩
theorem mv_a {w1 W : World} {t : Ac} {v0 v1 v2 v3 v4 v5 v6 z0 z1 z2 z3 z4 z5 z6 : Value} (hb : Below (w1.alloc (.cells #[z0, z1, z2, z3, z4, z5, z6] 89)).heap.size (w1.alloc (.cells #[z0, z1, z2, z3, z4, z5, z6] 89)) W) (hac : AcO (fun b => (w1.alloc (.cells #[z0, z1, z2, z3, z4, z5, z6] 89)).heap.size ≤ b ∧ b < W.heap.size) W t v3 v4 v5 v6) :
    Mv0 w1 (((((((W.setCell ⟨w1.heap.size, 0, none⟩ v0).setCell ⟨w1.heap.size, 1, none⟩ v1).setCell ⟨w1.heap.size, 2, none⟩ v2).setCell ⟨w1.heap.size, 3, none⟩ v3).setCell ⟨w1.heap.size, 4, none⟩ v4).setCell ⟨w1.heap.size, 5, none⟩ v5).setCell ⟨w1.heap.size, 6, none⟩ v6) w1.heap.size #[v0, v1, v2, v3, v4, v5, v6] t v3 v4 v5 v6 := by
  have hba : Below w1.heap.size w1 (w1.alloc (.cells #[z0, z1, z2, z3, z4, z5, z6] 89)) := (Below.refl _ _).alloc (Nat.le_refl _) _
  have hs : (w1.alloc (.cells #[z0, z1, z2, z3, z4, z5, z6] 89)).heap.size = w1.heap.size + 1 := by simp
  rw [hs] at hac
  have hbx : W.heap[w1.heap.size]? = some (.cells #[z0, z1, z2, z3, z4, z5, z6] 89) := (hb.block _ (by omega)).trans (Go.Deep.blk_alloc_new _ _)
  obtain ⟨h1, h2⟩ := set7 hbx v0 v1 v2 v3 v4 v5 v6
  have hsz := h2.1
  have hle := hb.size
  exact ⟨Nat.le_refl _, (Array.getElem?_eq_some_iff.1 h1).1, h1, acO_up (fun b h => ⟨by have := h.1; omega, by have := h.2; omega, by have := h.1; omega⟩) (fun b h => h2.2.1 b h.2 (by have := h.1; show ¬ _ = _; omega)) _ _ _ _ _ hac,
    hba.trans ((below_le hb (by omega)).trans (fr_below h2 (by omega) (fun j hj => by have hj : j = w1.heap.size := hj; omega)))⟩

set_option maxHeartbeats 1000000 in
set_option maxRecDepth 100000 in
theorem moved_any (G : Gm) (hG : GOk G) (ka pa ra qa : Option Addr) (kc pc rc qc gb ob ub M pb : Nat) (l : Nat) (hl : l < G.rules.length) (prt : List Int) (hpr : prt.length ≤ 64) (hpy : ∀ x, x ∈ prt → 1 ≤ x ∧ x < ((G.kinds.length + G.rules.length : Nat) : Int)) (plv : Int) (pac : Ac) (hpa : acS pac) (rr : Option Addr) (rrc : Nat) (x3 x4 : Int) (x5 : ByteArray) (x6 : Option Addr) (n6 c6 : Nat) (w : World) (hM : M ≤ w.heap.size) (hg : GrAt M w G ka kc pa pc ra rc qa qc gb ob ub)
    (hrr : NRow w.heap.size w rr prt) (hac : AcAt w.heap.size w pac (.int .i64 x3) (.int .i64 x4) (.string x5) (.slice x6 n6 c6)) (hpl : w.rowIs pb 3 G.rules.length (fun r => .int .i64 (nmbF G r : Int))) :
    Calls Tryz.prog 102 #[.pointer (some ⟨gb, 0, none⟩), .agg #[.int .i64 (l : Int), .slice rr prt.length rrc, .int .i64 plv, .int .i64 x3, .int .i64 x4, .string x5, .slice x6 n6 c6], .slice (some ⟨pb, 0, none⟩) G.rules.length G.rules.length] w fun e w' => ∃ (L : Nat) (ca : Option Addr) (cc : Nat) (v6 : Value), e = .returned (.agg #[.int .i64 (nmbF G l : Int), .slice ca prt.length cc, .int .i64 plv, .int .i64 x3, .int .i64 x4, .string x5, v6]) ∧ (w.heap.size ≤ L ∧ L ≤ w'.heap.size) ∧ w'.ownsRow L 3 1 (.slice ca prt.length cc) prt.length (vints (prt.map (symT G))) ∧ AcO (fun b => w.heap.size ≤ b ∧ b < L) w' pac (.int .i64 x3) (.int .i64 x4) (.string x5) v6 ∧ Below w.heap.size w w' := by
  obtain ⟨i3, hi3, hz30, hz31, hz32⟩ := info_parts info3
  have hnr := hG.r2; have hnk := hG.k3
  unfold Gm.nr at hnr
  unfold Gm.nk at hnk
  have hl1 : (l : Int) < G.rules.length := by omega
  obtain ⟨w0, hw0⟩ : ∃ w0, w0 = w.alloc (.cells #[.int .i64 (l : Int), .slice rr prt.length rrc, .int .i64 plv, .int .i64 x3, .int .i64 x4, .string x5, .slice x6 n6 c6] 89) := ⟨_, rfl⟩
  have hb0 : Below w.heap.size w w0 := by rw [hw0]; exact (Below.refl _ _).alloc (Nat.le_refl _) _
  have hs0 : w0.heap.size = w.heap.size + 1 := by rw [hw0]; simp
  have hbx0 : w0.heap[w.heap.size]? = some (.cells #[.int .i64 (l : Int), .slice rr prt.length rrc, .int .i64 plv, .int .i64 x3, .int .i64 x4, .string x5, .slice x6 n6 c6] 89) := by rw [hw0]; exact Go.Deep.blk_alloc_new _ _
  obtain ⟨w1, hw1⟩ : ∃ w1, w1 = w0.alloc (.cells #[.int .i64 0, .slice none 0 0, .int .i64 0, .int .i64 0, .int .i64 0, .string ⟨#[]⟩, .slice none 0 0] 89) := ⟨_, rfl⟩
  have hb01 : Below w0.heap.size w0 w1 := by rw [hw1]; exact (Below.refl _ _).alloc (Nat.le_refl _) _
  have hs1 : w1.heap.size = w.heap.size + 1 + 1 := by rw [hw1]; simp; exact hs0
  have hbx : w1.heap[w.heap.size]? = some (.cells #[.int .i64 (l : Int), .slice rr prt.length rrc, .int .i64 plv, .int .i64 x3, .int .i64 x4, .string x5, .slice x6 n6 c6] 89) := (hb01.block _ (by omega)).trans hbx0
  have hbr : w1.heap[w.heap.size + 1]? = some (.cells #[.int .i64 0, .slice none 0 0, .int .i64 0, .int .i64 0, .int .i64 0, .string ⟨#[]⟩, .slice none 0 0] 89) := by rw [hw1, ← hs0]; exact Go.Deep.blk_alloc_new _ _
  have hb1 : Below w.heap.size w w1 := hb0.trans (below_le hb01 (by omega))
  have hpl1 := rowIs_below hpl hb1
  obtain ⟨p0, p1, p2, p3, p4, p5, p6⟩ := seven_cells hbx
  have HS : Hid (∀ W : World, Below w1.heap.size w1 W → W.cell? ⟨w.heap.size, 0, none⟩ = some (.int .i64 (l : Int)) ∧ W.cell? ⟨w.heap.size, 2, none⟩ = some (.int .i64 plv) ∧ W.cell? ⟨w.heap.size, 3, none⟩ = some (.int .i64 x3) ∧ W.cell? ⟨w.heap.size, 4, none⟩ = some (.int .i64 x4) ∧ W.cell? ⟨w.heap.size, 5, none⟩ = some (.string x5) ∧ W.cell? ⟨w.heap.size, 6, none⟩ = some (.slice x6 n6 c6) ∧ W.cell? ⟨pb, l, none⟩ = some (.int .i64 (nmbF G l : Int))) := hide (fun W hW => by
    have hx : w.heap.size < w1.heap.size := by omega
    exact ⟨(hW.cell (p := ⟨w.heap.size, 0, none⟩) hx).trans p0, (hW.cell (p := ⟨w.heap.size, 2, none⟩) hx).trans p2, (hW.cell (p := ⟨w.heap.size, 3, none⟩) hx).trans p3, (hW.cell (p := ⟨w.heap.size, 4, none⟩) hx).trans p4, (hW.cell (p := ⟨w.heap.size, 5, none⟩) hx).trans p5, (hW.cell (p := ⟨w.heap.size, 6, none⟩) hx).trans p6, (rowIs_below hpl1 hW).cell hl⟩)
  have HC := hide (fun (W : World) (hW : Below w1.heap.size w1 W) => copyAct pac hpa W _ _ _ _ (acAt_up (hb1.trans (below_le hW (by omega))) hac))
  have Hb1 := hide hb1; have Hbr := hide hbr; have Hbx := hide hbx; have Hpl := hide hpl1; have Hg := hide hg; have Hrr := hide hrr; have Hpy := hide hpy
  have Hw0 := hide hw0; have Hw1 := hide hw1
  have hS : Below w1.heap.size w1 w1 := Below.refl _ _
  have hS2 : Below w1.heap.size w1 (w1.alloc (.cells #[.int .i64 0, .slice none 0 0, .int .i64 0, .int .i64 0, .int .i64 0, .string ⟨#[]⟩, .slice none 0 0] 89)) := (Below.refl _ _).alloc (Nat.le_refl _) _
  clear hw0 hw1 hbx0 hb01 hbr hb0 hbx hpl hpl1 p0 p1 p2 p3 p4 p5 p6 hac hg hrr hb1 hpy
  have Hs1 := hide hs1
  clear hs1 hs0
  go_enter Tryz.func102, Tryz.ntmps102
  go_wp2_with fail
  rw [← unhide Hw0, ← unhide Hw1]
  clear Hw0 Hw1
  go_cut [7] (fun v W => ∃ mb v6, v = .pointer (some ⟨mb, 0, none⟩) ∧ Mv0 w1 W mb #[.int .i64 (nmbF G l : Int), .slice none 0 0, .int .i64 plv, .int .i64 x3, .int .i64 x4, .string x5, v6] pac (.int .i64 x3) (.int .i64 x4) (.string x5) v6)
  case first =>
    go_region_held3 (fun W : World => W.cell? ⟨w.heap.size, 0, none⟩ = some (.int .i64 (l : Int)) ∧ W.cell? ⟨w.heap.size, 2, none⟩ = some (.int .i64 plv) ∧ W.cell? ⟨w.heap.size, 3, none⟩ = some (.int .i64 x3) ∧ W.cell? ⟨w.heap.size, 4, none⟩ = some (.int .i64 x4) ∧ W.cell? ⟨w.heap.size, 5, none⟩ = some (.string x5) ∧ W.cell? ⟨w.heap.size, 6, none⟩ = some (.slice x6 n6 c6) ∧ W.cell? ⟨pb, l, none⟩ = some (.int .i64 (nmbF G l : Int)))
      (first | (refine unhide HS _ ?_; repeat (first | with_reducible exact hS | with_reducible exact hS2 | with_reducible refine Below.drew ?_ | with_reducible refine Below.setCell ?_ (by first | exact Nat.le_refl _ | exact hS.size | (have := hS.size; simp; omega)) _ | with_reducible refine Below.alloc ?_ (by first | exact Nat.le_refl _ | exact hS.size | (have := hS.size; simp; omega)) _)) | fail)
      (first
        | (go_at_call 130; first
            | (refine (unhide HC w1.drew hS.drew).mono ?_; rintro e W3 ⟨v6, rfl, hac3, hb3⟩; obtain ⟨_, _, _, z3, n3, q3, -, -, -, rfl⟩ := acO_form hac3; have hb3 : Below w1.heap.size w1 W3 := ⟨hb3.os, hb3.tape, hb3.output, hb3.size, hb3.block⟩; have HMv := hide (mv_b (v0 := .int .i64 (nmbF G l : Int)) (v1 := .slice none 0 0) (v2 := .int .i64 plv) hb3 hac3); have hS := hb3; clear hac3 hb3)
            | (refine (unhide HC (w1.alloc (.cells #[.int .i64 0, .slice none 0 0, .int .i64 0, .int .i64 0, .int .i64 0, .string ⟨#[]⟩, .slice none 0 0] 89)).drew hS2.drew).mono ?_; rintro e W3 ⟨v6, rfl, hac3, hb3⟩; obtain ⟨_, _, _, z3, n3, q3, -, -, -, rfl⟩ := acO_form hac3; have hb3 : Below (w1.alloc (.cells #[.int .i64 0, .slice none 0 0, .int .i64 0, .int .i64 0, .int .i64 0, .string ⟨#[]⟩, .slice none 0 0] 89)).heap.size (w1.alloc (.cells #[.int .i64 0, .slice none 0 0, .int .i64 0, .int .i64 0, .int .i64 0, .string ⟨#[]⟩, .slice none 0 0] 89)) W3 := ⟨hb3.os, hb3.tape, hb3.output, hb3.size, hb3.block⟩; have hbx3 : W3.heap[w1.heap.size]? = some (.cells #[.int .i64 0, .slice none 0 0, .int .i64 0, .int .i64 0, .int .i64 0, .string ⟨#[]⟩, .slice none 0 0] 89) := (hb3.block _ (by simp)).trans (Go.Deep.blk_alloc_new _ _); have ⟨m0, m1, m2, m3, m4, m5, m6⟩ := seven_cells hbx3; have ⟨f0, f1, f2, f3, f4, f5, f6⟩ := seven_frz hbx3; have HMv := hide (mv_a (v0 := .int .i64 (nmbF G l : Int)) (v1 := .slice none 0 0) (v2 := .int .i64 plv) hb3 hac3); have hS := hS2.trans (below_le hb3 (by simp)); clear hac3 hb3 hbx3)
            | fail)
        | fail)
    all_goals
      go_wp2_with fail
      go_meet
      exact ⟨_, _, rfl, unhide HMv⟩
  case rest =>
    obtain ⟨mb, v6, rfl, hmv⟩ := hcut
    obtain ⟨z3, n3, q3, rfl⟩ : ∃ a n c, v6 = .slice a n c := by
      obtain ⟨_, _, _, a, n, c, -, -, -, h⟩ := acO_form hmv.ac
      exact ⟨a, n, c, h⟩
    have q1 := (hmv.bl.cell (p := ⟨w.heap.size, 1, none⟩) (by show w.heap.size < _; have := unhide Hs1; omega)).trans (seven_cells (unhide Hbx)).2.1
    have Hmv := hide hmv
    clear hS hS2 HS HC hmv
    have hwc := (unhide Hmv).bl.size
    have hMb : w.heap.size + 1 < mb := by have := (unhide Hmv).lo; have := unhide Hs1; omega
    have hs1' := unhide Hs1
    go_wp2
    go_loopw [9, 26] (fun _ x W => ∃ (j : Nat) (rv : Value), x = .int .i64 j ∧ j ≤ prt.length ∧ W.heap[mb]? = some (.cells #[.int .i64 (nmbF G l : Int), rv, .int .i64 plv, .int .i64 x3, .int .i64 x4, .string x5, .slice z3 n3 q3] 89) ∧ W.ownsRow wc.heap.size 3 1 rv j (vints ((prt.take j).map (symT G))) ∧ Fr (· = mb) wc W) (fun _ x _ => prt.length - (intOf x).toNat)
    case atStart => exact ⟨0, _, rfl, Nat.zero_le _, (unhide Hmv).bx, World.ownsRow_nil _ _ _ _, fr_refl _ _⟩
    case round =>
      clear q1
      obtain ⟨j, rv, rfl, hj, hbx, hown, hf⟩ := hrel
      obtain ⟨va, vc, rfl⟩ := own_form hown
      have hsW := hf.1
      have hbw : Below w.heap.size w wr := (unhide Hb1).trans ((below_le (unhide Hmv).bl (by omega)).trans (fr_below hf (by omega) (fun k hk => by have hk : k = mb := hk; omega)))
      by_cases hjt : j < prt.length
      · have hjt' : (j : Int) < prt.length := by omega
        obtain ⟨b, off, rfl, hbB, hcx⟩ := nrow_at (nrow_kept hbw (unhide Hrr)) hjt
        have hx := unhide Hpy _ (mem_getD hjt)
        have hgr := gr_kept (unhide Hg) (below_le hbw hM)
        have hgbl := hgr.lt
        have c0 : wr.cell? ⟨gb, 0, none⟩ = some (.slice ka G.kinds.length kc) := by unfold World.cell?; rw [hgr.box]; rfl
        have hbw1 : Below w1.heap.size w1 wr := (unhide Hmv).bl.trans (fr_below hf hwc (fun k hk => by have hk : k = mb := hk; have := (unhide Hmv).lo; omega))
        have hplr := rowIs_below (unhide Hpl) hbw1
        have Hsn : Hid (vints ((prt.take (j + 1)).map (symT G)) = vints ((prt.take j).map (symT G)) ++ [.int .i64 (symT G (prt.getD j 0))]) := hide (by rw [take_snoc _ _ 0 hjt, List.map_append]; simp [vints])
        generalize prt.getD j 0 = x at *
        obtain ⟨hx1, hx2⟩ := hx
        have hR := rule_any gb x G.kinds.length ka kc hnk ⟨by omega, by omega⟩ wr c0
        have m1 := (seven_cells hbx).2.1
        have Hbx2 := hide hbx; have Hown := hide hown; have Hf := hide hf
        generalize (prt.take j).map (symT G) = acc at *
        clear hbx hown hf hgr hbw hbw1
        by_cases hxk : (G.kinds.length : Int) ≤ x
        · obtain ⟨r, hxr⟩ : ∃ r : Nat, x - (G.kinds.length : Int) = r := ⟨(x - G.kinds.length).toNat, by omega⟩
          have hr2 : (r : Int) < G.rules.length := by omega
          have cp := hplr.cell (i := r) (by omega)
          have hnm := nmbF_le G r
          have hwr := wN (G.kinds.length + nmbF G r) (by omega)
          have hsy : symT G x = ((G.kinds.length + nmbF G r : Nat) : Int) := by
            unfold symT Gm.nk
            rw [if_pos hxk, hxr, Int.toNat_natCast]
            omega
          rw [hsy] at Hsn
          rw [if_pos hxk, decide_eq_true hxk, hxr] at hR
          have HR := hide hR
          clear hR hplr hsy
          generalize nmbF G r = nm at *
          rw [show ((G.kinds.length + nm : Nat) : Int) = (G.kinds.length : Int) + (nm : Int) by omega] at Hsn hwr
          go_wp2_with fail
          refine (unhide HR).mono ?_
          rintro e w2 ⟨rfl, rfl⟩
          go_wp2
          go_quiet (fail)
          have m1' : (wr.drewN nq).cell? ⟨mb, 1, none⟩ = some (.slice va j vc) := m1
          have Hown' := hide (show (wr.drewN nq).ownsRow wc.heap.size 3 1 (.slice va j vc) j (vints acc) from unhide Hown)
          have Hbx' := hide (show (wr.drewN nq).heap[mb]? = some (.cells #[.int .i64 (nmbF G l : Int), .slice va j vc, .int .i64 plv, .int .i64 x3, .int .i64 x4, .string x5, .slice z3 n3 q3] 89) from unhide Hbx2)
          have Hf' := hide (show Fr (· = mb) wc (wr.drewN nq) from ⟨(unhide Hf).1, (unhide Hf).2.1, (unhide Hf).2.2.1, (unhide Hf).2.2.2.1, (unhide Hf).2.2.2.2⟩)
          have hsW' : wc.heap.size ≤ (wr.drewN nq).heap.size := hsW
          clear Hown Hbx2 Hf hsW m1 c0 cp hcx
          generalize wr.drewN nq = wd at *
          go_wp2_with (at_builtin; refine wpList_append_own _ rfl _ _ 27 rfl wc.heap.size 3 i3 (.int .i64 0) 1 8 Tryz.underlying27 hi3 hz30 hz31 hz32 rfl (by decide) _ _ _ rfl ((unhide Hown').alloc _) ⟨wd.heap.size, 0, none⟩ 1 1 [.int .i64 ((G.kinds.length : Int) + (nm : Int))] rfl rfl ?zc1 ?zc2 ?zc3 ?zc4 ?zc5 ?_)
          case zc1 => exact new1 _ _ _
          case zc2 => intro u hu; simp at hu; rcases hu with rfl; rfl
          case zc3 => unfold maxLen; omega
          case zc4 => omega
          case zc5 => simp; omega
          intro v' W3 hown' hgrow _
          have c9 := (unhide Hown').alloc (.cells #[.int .i64 ((G.kinds.length : Int) + (nm : Int))] 3)
          have bx3 := bx_grown (bx_alloc (unhide Hbx') (.cells #[.int .i64 ((G.kinds.length : Int) + (nm : Int))] 3)) c9 hgrow (by decide)
          have f3 := fr_grown (fr_alloc (unhide Hf') (.cells #[.int .i64 ((G.kinds.length : Int) + (nm : Int))] 3)) hgrow (fun i hi => (c9.lt i hi).1)
          have ho3 : W3.ownsRow wc.heap.size 3 1 v' (j + 1) (vints acc ++ [.int .i64 ((G.kinds.length : Int) + (nm : Int))]) := hown'
          obtain ⟨v9, c99, rfl⟩ := own_form ho3
          have fz := (seven_frz bx3).2.1
          have s1 := (seven_cells bx3).2.1
          have fr4 : Fr (· = mb) W3 (W3.setCell ⟨mb, 1, none⟩ (.slice v9 (j + 1) c99)) := fr_set (fr_refl _ _) (by rfl) _
          have Hx1 := hide (fr_t f3 fr4)
          have Hx2 := hide (set_blk (i := 1) bx3 (.slice v9 (j + 1) c99))
          have Hx3 := hide (own_fr ho3 bx3 fr4 (by decide))
          clear hown' hgrow c9 bx3 f3 ho3 fr4
          go_wp2
          go_roundw
          case rel => exact ⟨j + 1, _, by go_num, by omega, unhide Hx2, by rw [unhide Hsn]; exact unhide Hx3, unhide Hx1⟩
          case measure => simp [intOf]; omega
        · have hsy : symT G x = x := by unfold symT Gm.nk; rw [if_neg hxk]
          rw [hsy] at Hsn
          rw [if_neg hxk, decide_eq_false hxk] at hR
          have HR := hide hR
          clear hR hplr hsy
          go_wp2_with fail
          refine (unhide HR).mono ?_
          rintro e w2 ⟨rfl, rfl⟩
          go_wp2_with (at_builtin; refine wpList_append_own _ rfl _ _ 27 rfl wc.heap.size 3 i3 (.int .i64 0) 1 8 Tryz.underlying27 hi3 hz30 hz31 hz32 rfl (by decide) _ _ _ rfl ((unhide Hown).alloc _) ⟨wr.heap.size, 0, none⟩ 1 1 [.int .i64 x] rfl rfl ?zc1 ?zc2 ?zc3 ?zc4 ?zc5 ?_)
          case zc1 => exact new1 _ _ _
          case zc2 => intro u hu; simp at hu; rcases hu with rfl; rfl
          case zc3 => unfold maxLen; omega
          case zc4 => omega
          case zc5 => simp; omega
          intro v' W3 hown' hgrow _
          have c9 := (unhide Hown).alloc (.cells #[.int .i64 x] 3)
          have bx3 := bx_grown (bx_alloc (unhide Hbx2) (.cells #[.int .i64 x] 3)) c9 hgrow (by decide)
          have f3 := fr_grown (fr_alloc (unhide Hf) (.cells #[.int .i64 x] 3)) hgrow (fun i hi => (c9.lt i hi).1)
          have ho3 : W3.ownsRow wc.heap.size 3 1 v' (j + 1) (vints acc ++ [.int .i64 x]) := hown'
          obtain ⟨v9, c99, rfl⟩ := own_form ho3
          have fz := (seven_frz bx3).2.1
          have s1 := (seven_cells bx3).2.1
          have fr4 : Fr (· = mb) W3 (W3.setCell ⟨mb, 1, none⟩ (.slice v9 (j + 1) c99)) := fr_set (fr_refl _ _) (by rfl) _
          have Hx1 := hide (fr_t f3 fr4)
          have Hx2 := hide (set_blk (i := 1) bx3 (.slice v9 (j + 1) c99))
          have Hx3 := hide (own_fr ho3 bx3 fr4 (by decide))
          clear hown' hgrow c9 bx3 f3 ho3 fr4
          go_wp2
          go_roundw
          case rel => exact ⟨j + 1, _, by go_num, by omega, unhide Hx2, by rw [unhide Hsn]; exact unhide Hx3, unhide Hx1⟩
          case measure => simp [intOf]; omega
      · obtain rfl : j = prt.length := by omega
        rw [List.take_length] at hown
        have hbxr := (hf.2.1 (w.heap.size + 1) (by omega) (by show ¬ _ = _; omega)).trans (((unhide Hmv).bl.block (w.heap.size + 1) (by omega)).trans (unhide Hbr))
        obtain ⟨m0, m1, m2, m3, m4, m5, m6⟩ := seven_cells hbx
        obtain ⟨r0, r1, r2, r3, r4, r5, r6⟩ := seven_cells hbxr
        obtain ⟨z0, z1, z2, z4, z5, z6, z7⟩ := seven_frz hbxr
        have h7 := set7 hbxr (.int .i64 (nmbF G l : Int)) (.slice va prt.length vc) (.int .i64 plv) (.int .i64 x3) (.int .i64 x4) (.string x5) (.slice z3 n3 q3)
        have H7 := hide h7; have Hown := hide hown; have Hf := hide hf; have Hbw := hide hbw
        clear h7 hown hf hbw hbxr hbx
        go_wp2
        obtain ⟨WF, hWF⟩ : ∃ WF, WF = ((((((wr.setCell ⟨w.heap.size + 1, 0, none⟩ (.int .i64 (nmbF G l : Int))).setCell ⟨w.heap.size + 1, 1, none⟩ (.slice va prt.length vc)).setCell ⟨w.heap.size + 1, 2, none⟩ (.int .i64 plv)).setCell ⟨w.heap.size + 1, 3, none⟩ (.int .i64 x3)).setCell ⟨w.heap.size + 1, 4, none⟩ (.int .i64 x4)).setCell ⟨w.heap.size + 1, 5, none⟩ (.string x5)).setCell ⟨w.heap.size + 1, 6, none⟩ (.slice z3 n3 q3) := ⟨_, rfl⟩
        have h7 := unhide H7
        rw [← hWF] at h7 ⊢
        clear hWF H7
        obtain ⟨hbF, hFr⟩ := h7
        obtain ⟨y0, y1, y2, y3, y4, y5, y6⟩ := seven_cells hbF
        have hsF := hFr.1
        refine bodyPost_ret (v := .agg #[.int .i64 (nmbF G l : Int), .slice va prt.length vc, .int .i64 plv, .int .i64 x3, .int .i64 x4, .string x5, .slice z3 n3 q3]) ?zz9 rfl ⟨wc.heap.size, va, vc, .slice z3 n3 q3, rfl, ⟨by omega, by omega⟩, own_frN (unhide Hown) hFr (by omega), ?_, ?_⟩
        case zz9 => simp [results, Tryz.results102, go_sem, y0, y1, y2, y3, y4, y5, y6]
        · exact acO_up (fun b hb => ⟨by have := hb.1; omega, hb.2.1⟩) (fun b hb => (hFr.2.1 b (by have := hb.2.1; omega) (by have := hb.1; show ¬ _ = _; omega)).trans ((unhide Hf).2.1 b hb.2.1 (by show ¬ _ = _; exact hb.2.2))) _ _ _ _ _ (unhide Hmv).ac
        · exact (unhide Hbw).trans (fr_below hFr (by have := (unhide Hbw).size; omega) (fun k hk => by have hk : k = w.heap.size + 1 := hk; omega))
end Go.Proofs.YtagohbpbgjelaaaGreatDoor

namespace Go.Proofs.YtagohbpbgjelaaaGreatDoor
open Go.RowKit

def PqO (P : Nat → Prop) (L : Nat) (W : World) (p : Pd) (v0 v1 v2 v3 v4 v5 v6 : Value) : Prop :=
  v0 = .int .i64 p.left ∧ W.ownsRow L 3 1 v1 p.right.length (vints p.right) ∧ v2 = .int .i64 p.level ∧ AcO P W p.act v3 v4 v5 v6
def PqS (P : Nat → Prop) (L : Nat) (W : World) : List Pd → List Value → Prop
  | [], vs => vs = []
  | p :: ps, vs => ∃ v0 v1 v2 v3 v4 v5 v6 rest, vs = v0 :: v1 :: v2 :: v3 :: v4 :: v5 :: v6 :: rest ∧ PqO P L W p v0 v1 v2 v3 v4 v5 v6 ∧ PqS P L W ps rest
theorem pqS_snoc {P : Nat → Prop} {L : Nat} {W : World} {p : Pd} {v0 v1 v2 v3 v4 v5 v6 : Value} (hp : PqO P L W p v0 v1 v2 v3 v4 v5 v6) : ∀ (ps : List Pd) (vs : List Value), PqS P L W ps vs → PqS P L W (ps ++ [p]) (vs ++ [v0, v1, v2, v3, v4, v5, v6])
  | [], vs, h => by
    unfold PqS at h
    subst h
    show PqS P L W [p] [v0, v1, v2, v3, v4, v5, v6]
    unfold PqS
    exact ⟨_, _, _, _, _, _, _, [], rfl, hp, by unfold PqS; rfl⟩
  | q :: qs, vs, h => by
    unfold PqS at h
    obtain ⟨u0, u1, u2, u3, u4, u5, u6, rest, rfl, h1, h2⟩ := h
    show PqS P L W (q :: (qs ++ [p])) _
    unfold PqS
    exact ⟨_, _, _, _, _, _, _, _, rfl, h1, pqS_snoc hp qs rest h2⟩
theorem pqS_up {P P' : Nat → Prop} {L : Nat} {W W' : World} (ho : ∀ v n xs, W.ownsRow L 3 1 v n xs → W'.ownsRow L 3 1 v n xs) (hP : ∀ b, P b → P' b) (hb : ∀ b, P b → W'.heap[b]? = W.heap[b]?) : ∀ (ps : List Pd) (vs : List Value), PqS P L W ps vs → PqS P' L W' ps vs
  | [], vs, h => by unfold PqS at h ⊢; exact h
  | q :: qs, vs, h => by
    unfold PqS at h ⊢
    obtain ⟨u0, u1, u2, u3, u4, u5, u6, rest, rfl, ⟨e0, e1, e2, e3⟩, h2⟩ := h
    exact ⟨_, _, _, _, _, _, _, _, rfl, ⟨e0, ho _ _ _ e1, e2, acO_up hP hb _ _ _ _ _ e3⟩, pqS_up ho hP hb qs rest h2⟩
theorem pqS_pd {P : Nat → Prop} {B L : Nat} {W : World} (hP : ∀ b, P b → b < B) : ∀ (ps : List Pd) (vs : List Value), PqS P L W ps vs → PdTs B L W ps vs
  | [], vs, h => by unfold PqS at h; unfold PdTs; exact h
  | q :: qs, vs, h => by
    unfold PqS at h
    unfold PdTs
    obtain ⟨u0, u1, u2, u3, u4, u5, u6, rest, rfl, ⟨e0, e1, e2, e3⟩, h2⟩ := h
    exact ⟨_, _, _, _, _, _, _, _, rfl, ⟨e0, e1, e2, acO_at hP _ _ _ _ _ e3⟩, pqS_pd hP qs rest h2⟩
structure PqR (N : Nat) (W : World) (v : Value) (ps : List Pd) (vs : List Value) : Prop where
  ow : W.ownsRow N 89 7 v ps.length vs
  pq : PqS (fun b => (N ≤ b ∧ b < W.heap.size) ∧ v.ownBlock ≠ some b) N W ps vs
theorem pqR_below {N : Nat} {W W' : World} {v : Value} {ps : List Pd} {vs : List Value} (h : PqR N W v ps vs) (hb : Below W.heap.size W W') : PqR N W' v ps vs :=
  ⟨own_below h.ow hb, pqS_up (fun _ _ _ h => own_below h hb) (fun b h => ⟨⟨h.1.1, by have := h.1.2; have := hb.size; omega⟩, h.2⟩) (fun b h => hb.block b h.1.2) _ _ h.pq⟩
theorem pqR_store {N b : Nat} {W W' : World} {v : Value} {ps : List Pd} {vs : List Value} (h : PqR N W v ps vs) (hf : Fr (· = b) W W') (hb : b < N) : PqR N W' v ps vs :=
  ⟨own_frN h.ow hf hb, pqS_up (fun _ _ _ h => own_frN h hf hb) (fun c h => ⟨⟨h.1.1, by have := h.1.2; have := hf.1; omega⟩, h.2⟩) (fun c h => hf.2.1 c h.1.2 (by have := h.1.1; show ¬ _ = _; omega)) _ _ h.pq⟩
theorem pqR_more {N H g cap : Nat} {W W' : World} {a : Option Addr} {c : Nat} {ps : List Pd} {vs : List Value} {p : Pd} {v0 v1 v2 v3 v4 v5 v6 : Value} (h : PqR N W (.slice a ps.length c) ps vs) (hH : W.heap.size = H)
    (hp : PqO (fun b => (N ≤ b ∧ b < W.heap.size) ∧ (Value.slice a ps.length c).ownBlock ≠ some b) N W p v0 v1 v2 v3 v4 v5 v6)
    (ho : W'.ownsRow N 89 7 (.slice (some ⟨g, 0, none⟩) (ps.length + 1) cap) (ps.length + 1) (vs ++ [v0, v1, v2, v3, v4, v5, v6])) (hg : W.grownBy W' (Value.slice a ps.length c).ownBlock) (hat : (Value.slice a ps.length c).ownBlock = some g ∨ g = H) :
    PqR N W' (.slice (some ⟨g, 0, none⟩) (ps ++ [p]).length cap) (ps ++ [p]) (vs ++ [v0, v1, v2, v3, v4, v5, v6]) := by
  have hl : (ps ++ [p]).length = ps.length + 1 := by simp
  rw [hl]
  have hs := hg.size
  have hP : ∀ b, ((N ≤ b ∧ b < W.heap.size) ∧ (Value.slice a ps.length c).ownBlock ≠ some b) → ((N ≤ b ∧ b < W'.heap.size) ∧ (Value.slice (some ⟨g, 0, none⟩) (ps.length + 1) cap).ownBlock ≠ some b) := fun b hb => ⟨⟨hb.1.1, by have := hb.1.2; omega⟩, fun e => by
    have e : some g = some b := e
    rcases hat with h | h
    · exact hb.2 (h.trans e)
    · have h9 := hb.1.2
      injection e with e
      omega⟩
  have hm : ∀ b, ((N ≤ b ∧ b < W.heap.size) ∧ (Value.slice a ps.length c).ownBlock ≠ some b) → W'.heap[b]? = W.heap[b]? := fun b hb => hg.block b hb.1.2 (fun e => hb.2 e.symm)
  have hrow : ∀ v n xs, W.ownsRow N 3 1 v n xs → W'.ownsRow N 3 1 v n xs := fun v n xs h1 => own_grown h1 h.ow hg (by decide)
  refine ⟨by rw [hl]; exact ho, pqS_snoc ⟨hp.1, hrow _ _ _ hp.2.1, hp.2.2.1, acO_up hP hm _ _ _ _ _ hp.2.2.2⟩ _ _ (pqS_up hrow hP hm _ _ h.pq)⟩
end Go.Proofs.YtagohbpbgjelaaaGreatDoor

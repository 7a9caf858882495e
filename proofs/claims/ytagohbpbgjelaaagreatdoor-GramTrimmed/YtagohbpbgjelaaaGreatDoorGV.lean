/- The code's gather: what rules have is laid together along their ways. -/
import Derived.Test.YtagohbpbgjelaaaGreatDoorTW
import Derived.Test.YtagohbpbgjelaaaGreatDoorSP
import Derived.Test.YtagohbpbgjelaaaGreatDoorGJ
import Derived.Test.YtagohbpbgjelaaaGreatDoorSX
import Derived.Test.YtagohbpbgjelaaaGreatDoorWkS9
import Derived.Test.YtagohbpbgjelaaaGreatDoorV1
namespace Go.Proofs.YtagohbpbgjelaaaGreatDoor
open Go.RowKit

theorem ring_at {B : Nat} {w : World} {v : Value} {made : List (List Nat)} (h : RingsAt B w v made) {i : Nat} {a : List Nat} (ha : made[i]? = some a) : ∃ va vc g c, v = .slice (some ⟨va, 0, none⟩) made.length vc ∧ w.cell? ⟨va, i, none⟩ = some (.slice (some ⟨g, 0, none⟩) a.length c) ∧ ∀ j x : Nat, a[j]? = some x → w.cell? ⟨g, j, none⟩ = some (.int .i64 (x : Nat)) := by
  obtain ⟨vs, h1, h2⟩ := h.form
  obtain ⟨g, c, cs, h3, h4, h5, h6⟩ := h2 i a ha
  have hi : i < made.length := (List.getElem?_eq_some_iff.1 ha).1
  obtain ⟨va, vc, hv, -⟩ := Wk.own_pos h1 (by omega)
  subst hv
  refine ⟨va, vc, g, c, rfl, ?_, fun j x hx => ?_⟩
  · rw [Wk.own_cell h1 rfl i (by have := h1.1; omega), List.getD_eq_getElem?_getD, h3]; rfl
  · unfold World.cell?; rw [h5]; exact h6 j x hx
def GaB (B tb : Nat) (w : World) (k : Nat) : Prop := k = tb ∨ SetB B w k
theorem gaB_trans {B tb : Nat} {a b c : World} (h : Fr (GaB B tb a) a b) (k : Fr (GaB B tb b) b c) : Fr (GaB B tb a) a c :=
  ⟨Nat.le_trans h.1 k.1, fun i hi ho => by
    have e1 := h.2.1 i hi ho
    exact (k.2.1 i (Nat.lt_of_lt_of_le hi h.1) (fun hs => ho (hs.imp id (fun hs => ⟨hs.1, (isSet_blk e1).1 hs.2⟩)))).trans e1, k.2.2.1.trans h.2.2.1, k.2.2.2.1.trans h.2.2.2.1, k.2.2.2.2.trans h.2.2.2.2⟩
theorem gaB_set {B tb : Nat} {a b c : World} (h : Fr (GaB B tb a) a b) (k : Fr (SetB B b) b c) : Fr (GaB B tb a) a c := gaB_trans h (fr_mono k (fun _ _ h => .inr h))
theorem gar_mono {W : Nat → List Nat} {S : Nat → Int → Bool} {made : List (List Nat)} {i h : Nat} {X X' : Nat → Prop} {Y Y' : Nat → Nat → Prop} {acc : Int → Bool} (hr : GaR W S made i h X Y acc) (hX : ∀ x, X' x → X x) (hY : ∀ x y, Y' x y → Y x y) : GaR W S made i h X' Y' acc :=
  ⟨hr.snd, hr.hd, fun x m hx => hr.own x m (hX x hx), fun x y j b m hy => hr.to x y j b m (hY x y hy)⟩
theorem rings_keep {B tb R : Nat} {a b : World} {v : Value} {made : List (List Nat)} (h : RingsAt R a v made) (hf : Fr (GaB B tb a) a b) (ht : ∃ cs, a.heap[tb]? = some (.cells cs 75 (0, 0))) : RingsAt R b v made :=
  rings_below h (fun k cs t hk h3 _ => hf.2.1 k (Array.getElem?_eq_some_iff.1 hk).1 (fun ho => by
    obtain ⟨ds, hd⟩ := ht
    rcases ho with e | ⟨-, hs⟩
    · subst e
      rw [hk] at hd
      simp only [Option.some.injEq, Obj.cells.injEq] at hd
      rcases h3 with rfl | rfl <;> simp at hd
    · rcases h3 with rfl | rfl
      · exact isSet_not hk (by decide) (by decide) hs
      · exact isSet_not hk (by decide) (by decide) hs))
theorem nodup_lt {l : List Nat} {n : Nat} (hnd : l.Nodup) (hl : ∀ x, x ∈ l → x < n) : l.length ≤ n := by
  have := Wk.nodup_bound n (castL l) (by
    unfold castL
    refine List.Pairwise.map (R := (· ≠ ·)) _ (fun a b hab e => hab (by omega)) hnd) (fun x hx => by
    unfold castL at hx
    obtain ⟨y, hy, rfl⟩ := List.mem_map.1 hx
    have := hl y hy
    omega)
  rwa [castL_len] at this
theorem take_mem_succ {l : List Nat} {p : Nat} (h : p < l.length) (z : Nat) : z ∈ l.take (p + 1) ↔ z ∈ l.take p ∨ z = l.getD p 0 := by
  have e : l.take (p + 1) = l.take p ++ [l.getD p 0] := by rw [List.take_add_one, List.getD_eq_getElem?_getD, List.getElem?_eq_getElem h]; rfl
  rw [e]; simp
set_option maxHeartbeats 4000000 in
set_option maxRecDepth 100000 in
theorem gather_any (B : Nat) (W : Nat → List Nat) (S : Nat → Int → Bool) (n wb wcp tb tc : Nat) (A : Nat → Nat) (OO : Nat → Nat → Prop) (hn : n ≤ 2048) (hW : ∀ r, r < n → ∀ y, y ∈ W r → y < n) (hWl : ∀ r, (W r).length ≤ 1048576) (w : World) (hB : B ≤ w.heap.size) (hWay : WayAt w.heap.size w wb n W) (hwn : ∀ r a c b o, r < n → w.cell? ⟨wb, r, none⟩ = some (.slice (some ⟨b, o, none⟩) a c) → ¬ IsSet w b ∧ b ≠ tb) (hwb : ¬ IsSet w wb ∧ wb ≠ tb) (hS : SetsV B w tb n A OO id S) :
    Calls Tryz.prog 80 #[.slice (some ⟨wb, 0, none⟩) n wcp, .slice (some ⟨tb, 0, none⟩) n tc] w fun e w' => (∃ v, e = .returned v) ∧ (∃ OO' rep C, SetsV B w' tb n A OO' rep C ∧ ∀ x, x < n → ∀ m, C (rep x) m = true ↔ Uw W S x m) ∧ Fr (GaB B tb w) w w' := by
  have HR := hide (rings_any W n wb wcp hn hW hWl w hWay)
  have HS := hide hS; have HW := hide hWay; have Hwn := hide hwn; have Hwb := hide hwb
  clear hS hWay hwn hwb
  go_enter Tryz.func80, Tryz.ntmps80
  go_wp2_with fail
  refine (unhide HR).mono ?_
  rintro e w1 ⟨v1, made, rfl, hRi, hml, hRa, hb1⟩
  obtain ⟨ra, rc, rfl⟩ := (show ∃ a c, v1 = .slice a made.length c by obtain ⟨vs, h1, -⟩ := hRa.form; exact own_form h1)
  have hS1 := sets_below (unhide HS) hb1
  have hs1 := hb1.size
  have hB1 : B ≤ w1.heap.size := by omega
  obtain ⟨tcs, htc, -⟩ := hS1.row
  have Htc : Hid (∃ cs, w1.heap[tb]? = some (.cells cs 75 (0, 0))) := hide ⟨tcs, htc⟩
  have HWK : Hid (∀ r, r < n → ∃ a c, ∀ V, Fr (GaB B tb w1) w1 V → V.cell? ⟨wb, r, none⟩ = some (.slice a (W r).length c) ∧ NRow V.heap.size V a (castL (W r))) := hide (fun r hr => by
    obtain ⟨a, c, h1, h2⟩ := (unhide HW).2 r hr
    refine ⟨a, c, fun V hV => ?_⟩
    have kp : ∀ k, k < w.heap.size → ¬ IsSet w k → k ≠ tb → V.heap[k]? = w.heap[k]? := fun k hk h3 h4 => (hV.2.1 k (by omega) (fun ho => ho.elim h4 (fun ho => h3 ((isSet_blk (hb1.block k hk)).1 ho.2)))).trans (hb1.block k hk)
    have hwl := (unhide HW).1
    refine ⟨(World.cell?_of_block (kp wb hwl (unhide Hwb).1 (unhide Hwb).2)).trans h1, ?_⟩
    rcases h2 with h2 | ⟨b, off, rfl, h3, h4⟩
    · exact .inl h2
    · obtain ⟨n1, n2⟩ := unhide Hwn r _ c b off hr h1
      exact .inr ⟨b, off, rfl, Nat.lt_of_lt_of_le h3 (by have := hV.1; omega), fun j hj => (World.cell?_of_block (kp b h3 n1 n2)).trans (h4 j hj)⟩)
  have Hb1 := hide hb1; have HRi := hide hRi; have HRa := hide hRa; have HS1 := hide hS1
  clear hb1 hRi hRa HR hS1 htc HS HW
  go_wp2
  go_loopw [16] (fun x V => ∃ (i : Nat) (rep : Nat → Nat) (C : Nat → Int → Bool) (OO' : Nat → Nat → Prop), x = .int .i64 i ∧ i ≤ made.length ∧ GaI W S made i rep C ∧ SetsV B V tb n A OO' rep C ∧ Fr (GaB B tb w1) w1 V) (fun x _ => made.length - (intOf x).toNat)
  case atStart => exact ⟨0, id, S, OO, rfl, Nat.zero_le _, ga_start W S made, unhide HS1, fr_refl _ _⟩
  case round =>
    obtain ⟨i, rep, C, OO1, rfl, hi, hI, hV, hF⟩ := hrel
    by_cases hlt : i < made.length
    · have hlt' : (i : Int) < made.length := by omega
      obtain ⟨a, ha⟩ : ∃ a, made[i]? = some a := ⟨made[i], List.getElem?_eq_getElem hlt⟩
      obtain ⟨va, vc, g, c, hv, hc1, hc2⟩ := ring_at (rings_keep (unhide HRa) hF (unhide Htc)) ha
      cases hv
      have hne := (unhide HRi).ne i a ha
      obtain ⟨h, a', rfl⟩ : ∃ h a', a = h :: a' := by cases a with
        | nil => exact absurd rfl hne
        | cons h a' => exact ⟨h, a', rfl⟩
      have hhm : h ∈ h :: a' := List.mem_cons_self
      have hhn := (unhide HRi).lt i _ h ha hhm
      obtain ⟨hrh, hch⟩ := hI.new i _ h (Nat.le_refl _) ha hhm
      have hc0 := hc2 0 h rfl
      have hcs := (sets_cell hV hhn).1
      rw [hrh] at hcs
      have hhn' : (h : Int) < n := by omega
      have hal : (h :: a').length ≤ 2048 := by
        have hnd := (unhide HRi).nd i _ ha
        have := nodup_lt hnd (fun x hx => (unhide HRi).lt i _ x ha hx)
        omega
      have hap : (0 : Int) < ((h :: a').length : Nat) := by simp
      have Hc2 : Hid (∀ V', Fr (GaB B tb w1) w1 V' → ∀ j x : Nat, (h :: a')[j]? = some x → V'.cell? ⟨g, j, none⟩ = some (.int .i64 (x : Nat))) := hide (fun V' hV' j x hx => by
        obtain ⟨va', vc', g', c', hv', d1, d2⟩ := ring_at (rings_keep (unhide HRa) hV' (unhide Htc)) ha
        cases hv'
        have e1 : V'.cell? ⟨va, i, none⟩ = wr.cell? ⟨va, i, none⟩ := by
          obtain ⟨vs, q1, -⟩ := (unhide HRa).form
          obtain ⟨cs, q2⟩ := own_ty q1 rfl
          have nk : ¬ GaB B tb w1 va := fun ho => by
            obtain ⟨ds, hd⟩ := unhide Htc
            rcases ho with e | ⟨-, hs⟩
            · subst e; rw [q2] at hd; simp at hd
            · exact isSet_not q2 (by decide) (by decide) hs
          have hl := (Array.getElem?_eq_some_iff.1 q2).1
          exact World.cell?_of_block ((hV'.2.1 va hl nk).trans (hF.2.1 va hl nk).symm)
        rw [d1, hc1] at e1
        cases e1
        exact d2 j x hx)
      have Hst := hide (gar_start W S made i h)
      have HI := hide hI; have HV := hide hV; have HF := hide hF; have Hha := hide ha
      have Hch := hide hch
      clear hI hV hF ha hne hch hc2
      generalize hav : h :: a' = a at *
      go_wp2
      go_loopw [28] (fun x V => ∃ (p : Nat) (acc : Int → Bool) (OO' : Nat → Nat → Prop), x = .int .i64 p ∧ p ≤ a.length ∧ GaR W S made i h (fun z => z = h ∨ z ∈ a.take p) (fun z u => z ∈ a.take p ∧ u ∈ W z) acc ∧ SetsV B V tb n A OO' rep (upC C h acc) ∧ Fr (GaB B tb w1) w1 V) (fun x _ => a.length - (intOf x).toNat)
      case atStart => exact ⟨0, S h, OO1, rfl, Nat.zero_le _, gar_mono (unhide Hst) (fun x hx => by simpa using hx) (fun x y hy => by simp at hy), by rw [← unhide Hch, upC_id]; exact unhide HV, unhide HF⟩
      case round =>
        obtain ⟨p, acc, OO2, rfl, hp, hG, hV, hF⟩ := hrel
        have hBr : B ≤ wr.heap.size := by have := hF.1; omega
        by_cases hpl : p < a.length
        · have hpl' : (p : Int) < a.length := by omega
          have hxa : a[p]? = some (a.getD p 0) := by rw [List.getD_eq_getElem?_getD, List.getElem?_eq_getElem hpl]; rfl
          have hxm : a.getD p 0 ∈ a := List.mem_of_getElem? hxa
          have hxn := (unhide HRi).lt i _ _ (unhide Hha) hxm
          have hcx := unhide Hc2 wr hF p _ hxa
          have hcp := (sets_cell hV hxn).1
          have HJ := hide (sets_join hV hBr hhn (hV.rp _ hxn))
          have hGo := gar_own (unhide HRi) (unhide HI) (unhide Hha) hhm hxm hG
          rw [upC_up, upC_self] at HJ
          have Htk := hide (fun z => take_mem_succ hpl z)
          have Hxm := hide hxm; have HGo := hide hGo; have HF := hide hF
          generalize a.getD p 0 = x at *
          have hxn' : (x : Int) < n := by omega
          clear hG hV hF hGo hxa
          generalize hacc : orF acc (upC C h acc (rep x)) = acc1 at *
          go_wp2_with fail
          refine (unhide HJ).mono ?_
          rintro e W2 ⟨⟨c2, rfl⟩, ⟨OO3, hV3⟩, hF3⟩
          have hF3' := gaB_set (unhide HF) hF3
          obtain ⟨xa, xc, hxw⟩ := unhide HWK x hxn
          obtain ⟨hwc, -⟩ := hxw W2 hF3'
          have hxl := hWl x
          have HV3 := hide hV3; have HF3 := hide hF3'; have Hxw := hide hxw
          have Hwx := hide (hW x hxn)
          clear hV3 hF3 hF3' hxw
          go_wp2
          go_loopw [43] (fun y V => ∃ (q : Nat) (acc : Int → Bool) (OO' : Nat → Nat → Prop), y = .int .i64 q ∧ q ≤ (W x).length ∧ GaR W S made i h (fun z => (z = h ∨ z ∈ a.take p) ∨ z = x) (fun z u => (z ∈ a.take p ∧ u ∈ W z) ∨ z = x ∧ u ∈ (W x).take q) acc ∧ SetsV B V tb n A OO' rep (upC C h acc) ∧ Fr (GaB B tb w1) w1 V) (fun y _ => (W x).length - (intOf y).toNat)
          case atStart => exact ⟨0, acc1, OO3, rfl, Nat.zero_le _, gar_mono (unhide HGo) (fun z hz => hz) (fun z u hu => by simpa using hu), unhide HV3, unhide HF3⟩
          case round =>
            obtain ⟨q, acc2, OO4, rfl, hq, hG, hV, hF⟩ := hrel
            have hBr2 : B ≤ wr.heap.size := by have := hF.1; omega
            by_cases hql : q < (W x).length
            · have hql' : (q : Int) < (W x).length := by omega
              have hya : (W x)[q]? = some ((W x).getD q 0) := by rw [List.getD_eq_getElem?_getD, List.getElem?_eq_getElem hql]; rfl
              have hym : (W x).getD q 0 ∈ W x := List.mem_of_getElem? hya
              have hyn := unhide Hwx _ hym
              obtain ⟨b9, o9, rfl, hb9, hc9⟩ := nrow_at (unhide Hxw wr hF).2 (k := q) (by rw [castL_len]; exact hql)
              rw [castL_get hql] at hc9
              have hcp2 := (sets_cell hV hyn).1
              have HJ2 := hide (sets_join hV hBr2 hhn (hV.rp _ hyn))
              have hGo2 := gar_to (unhide HRi) (unhide HI) (unhide Hha) hhm (unhide Hxm) hym hG
              rw [upC_up, upC_self] at HJ2
              have Htk2 := hide (fun z => take_mem_succ hql z)
              have HGo2 := hide hGo2; have HF5 := hide hF
              generalize (W x).getD q 0 = y at *
              have hyn' : (y : Int) < n := by omega
              clear hG hV hF hGo2 hya hym
              generalize orF acc2 (upC C h acc2 (rep y)) = acc3 at *
              go_wp2_with fail
              refine (unhide HJ2).mono ?_
              rintro e W3 ⟨⟨c3, rfl⟩, ⟨OO5, hV5⟩, hF6⟩
              have HV5 := hide hV5; have HF6 := hide (gaB_set (unhide HF5) hF6)
              clear hV5 hF6
              go_wp2
              go_roundw
              case rel => exact ⟨q + 1, acc3, OO5, by go_num, by omega, gar_mono (unhide HGo2) (fun z hz => hz) (fun z u hu => by
                rcases hu with hu | ⟨rfl, hu⟩
                · exact .inl (.inl hu)
                · rcases (unhide Htk2 u).1 hu with hu | hu
                  · exact .inl (.inr ⟨rfl, hu⟩)
                  · exact .inr ⟨rfl, hu⟩), unhide HV5, unhide HF6⟩
              case measure => simp [intOf]; omega
            · obtain rfl : q = (W x).length := by omega
              have HG := hide hG; have HV := hide hV; have HF4 := hide hF
              clear hG hV hF
              go_wp2
              go_roundw
              case rel => exact ⟨p + 1, acc2, OO4, by go_num, by omega, gar_mono (unhide HG) (fun z hz => by
                rcases hz with hz | hz
                · exact .inl (.inl hz)
                · exact ((unhide Htk z).1 hz).imp .inr id) (fun z u hu => by
                rcases (unhide Htk z).1 hu.1 with hz | hz
                · exact .inl ⟨hz, hu.2⟩
                · subst hz; exact .inr ⟨rfl, by rw [List.take_length]; exact hu.2⟩), unhide HV, unhide HF4⟩
              case measure => simp [intOf]; omega
        · obtain rfl : p = a.length := by omega
          rw [List.take_length] at hG
          have Hnx := hide (ga_next (unhide HRi) (unhide HI) (unhide Hha) hhm hG (fun x hx => .inr hx) (fun x y hx hy => ⟨hx, hy⟩))
          have HV := hide hV; have HF := hide hF
          clear hG hV hF
          go_wp2
          go_loopw [57] (fun x V => ∃ (p : Nat), x = .int .i64 p ∧ p ≤ a.length ∧ SetsV B V tb n A OO2 (fun r => if r ∈ a.take p then h else rep r) (upC C h acc) ∧ Fr (GaB B tb w1) w1 V) (fun x _ => a.length - (intOf x).toNat)
          case atStart => exact ⟨0, rfl, Nat.zero_le _, by simpa using unhide HV, unhide HF⟩
          case round =>
            obtain ⟨p, rfl, hp, hV, hF⟩ := hrel
            by_cases hpl : p < a.length
            · have hpl' : (p : Int) < a.length := by omega
              have hxa : a[p]? = some (a.getD p 0) := by rw [List.getD_eq_getElem?_getD, List.getElem?_eq_getElem hpl]; rfl
              have hxn := (unhide HRi).lt i _ _ (unhide Hha) (List.mem_of_getElem? hxa)
              have hcx := unhide Hc2 wr hF p _ hxa
              obtain ⟨hcp, hfp⟩ := sets_cell hV hxn
              have hVs := sets_store hV (r := a.getD p 0) hhn
              have e1 : upN (fun r => if r ∈ a.take p then h else rep r) (a.getD p 0) h = fun r => if r ∈ a.take (p + 1) then h else rep r := by
                funext r
                unfold upN
                by_cases e : r = a.getD p 0
                · rw [if_pos e, if_pos ((take_mem_succ hpl r).2 (.inr e))]
                · rw [if_neg e]
                  show (if r ∈ a.take p then h else rep r) = _
                  by_cases e2 : r ∈ a.take p
                  · rw [if_pos e2, if_pos ((take_mem_succ hpl r).2 (.inl e2))]
                  · rw [if_neg e2, if_neg (fun e3 => ((take_mem_succ hpl r).1 e3).elim e2 e)]
              rw [e1] at hVs
              have hFs : Fr (GaB B tb w1) w1 (wr.setCell ⟨tb, a.getD p 0, none⟩ (.pointer (some ⟨A h, 0, none⟩))) := fr_set hF (.inl rfl) _
              have HVs := hide hVs; have HFs := hide hFs
              generalize a.getD p 0 = x at *
              generalize (if x ∈ a.take p then h else rep x) = rx at *
              have hxn' : (x : Int) < n := by omega
              clear hV hF hVs hFs hxa e1
              go_wp2
              go_roundw
              case rel => exact ⟨p + 1, by go_num, by omega, unhide HVs, unhide HFs⟩
              case measure => simp [intOf]; omega
            · obtain rfl : p = a.length := by omega
              rw [List.take_length] at hV
              have HV := hide hV; have HF := hide hF
              clear hV hF
              go_wp2
              go_roundw
              case rel => exact ⟨i + 1, _, _, OO2, by go_num, by omega, unhide Hnx, unhide HV, unhide HF⟩
              case measure => simp [intOf]; omega
    · obtain rfl : i = made.length := by omega
      have Hen := hide (fun x hx m => ga_end (unhide HRi) hI x hx m)
      have HV := hide hV; have HF := hide hF
      clear hI hV hF
      go_wp2
      go_end0
      refine ⟨⟨_, rfl⟩, ⟨_, rep, C, unhide HV, unhide Hen⟩, ?_⟩
      have hb1 := unhide Hb1
      have hF := unhide HF
      exact ⟨Nat.le_trans hb1.size hF.1, fun k hk ho => (hF.2.1 k (by omega) (fun h => ho (h.imp id (fun h => ⟨h.1, (isSet_blk (hb1.block k hk)).1 h.2⟩)))).trans (hb1.block k hk), hF.2.2.1.trans hb1.os, hF.2.2.2.1.trans hb1.tape, hF.2.2.2.2.trans hb1.output⟩
end Go.Proofs.YtagohbpbgjelaaaGreatDoor

namespace Go.Proofs.YtagohbpbgjelaaaGreatDoor
open Go.RowKit

theorem made_rep (z : Value) (n : Nat) : madeCells #[z] n = (List.replicate n z).toArray := by
  refine Array.ext (by simp [madeCells]) fun i h1 h2 => ?_
  simp [madeCells, Nat.mod_one]
theorem over_rep (z y : Value) (m k r : Nat) : Wk.over (List.replicate m y ++ List.replicate (k + r) z) m (List.replicate k y) = List.replicate (m + k) y ++ List.replicate r z := by
  unfold Wk.over
  have h1 : (List.replicate m y ++ List.replicate (k + r) z).take m = List.replicate m y := by rw [List.take_append_of_le_length (by simp)]; simp
  have h2 : (List.replicate m y ++ List.replicate (k + r) z).drop (m + (List.replicate k y).length) = List.replicate r z := by
    rw [List.length_replicate, List.drop_append]
    simp
  rw [h1, h2, ← List.append_assoc, List.replicate_append_replicate]
set_option maxRecDepth 100000 in
theorem slice27l (g n m : Nat) (h : m < n) (w : World) : (Instr.slice 27 (.slice (some ⟨g, 0, none⟩) n n) (some (.int .i64 (m : Int))) none none).run Tryz.prog w = .ok (.slice (some ⟨g, m, none⟩) (n - m) (n - m)) w := by
  rw [run_slice_l w 27 (some ⟨g, 0, none⟩) n n Tryz.underlying27 .i64 (m : Int) (by omega) (by omega)]
  have e : ((m : Int)).toNat = m := by omega
  rw [e]
  simp [go_sem, Addr.add]
  rw [if_neg (by omega)]
  split
  · rename_i h0; subst h0; rfl
  · rfl
theorem size3 : (Tryz.prog.info? 3).map (·.size) = some 1 := by kernel_rfl
set_option maxHeartbeats 1000000 in
set_option maxRecDepth 100000 in
theorem repeat_any (xb n : Nat) (x : Int) (hn0 : 1 ≤ n) (hn : n ≤ 2048) (w : World) (hx : w.heap[xb]? = some (.cells #[.int .i64 x] 3)) :
    Calls Tryz.prog 105 #[.slice (some ⟨xb, 0, none⟩) 1 1, .int .i64 (n : Int)] w fun e w' => ∃ b, e = .returned (.slice (some ⟨b, 0, none⟩) n n) ∧ w'.heap[b]? = some (.cells (List.replicate n (Value.int .i64 x)).toArray 3) ∧ w.heap.size ≤ b ∧ Below w.heap.size w w' := by
  have hmk := fun w => run_make_row' (P := Tryz.prog) 27 3 (.int .i64 0) 8 Tryz.underlying27 info3 rfl .i64 .i64 n (by omega) (by omega) w
  have HM := hide (Tryz.bits_Mul 1 n (by omega) (by omega) w)
  have h1 : (1 * n / 18446744073709551616 : Nat) = 0 := by omega
  have h2 : (1 * n % 18446744073709551616 : Nat) = n := by omega
  rw [h1, h2] at HM
  have hn' : ¬ (n : Int) < 0 := by omega
  have hc : (IntKind.u64.wrap (n : Int)) = n := by rw [IntKind.wrap_u64]; omega
  go_enter Tryz.func105, Tryz.ntmps105
  go_wp2_with fail
  refine (unhide HM).mono ?_
  rintro e w2 ⟨rfl, rfl⟩
  have hxl : xb < w2.heap.size := (Array.getElem?_eq_some_iff.1 hx).1
  have hA : (w2.alloc (.cells (madeCells #[.int .i64 0] n) 3)).heap[w2.heap.size]? = some (.cells (List.replicate n (Value.int .i64 0)).toArray 3 (0, 0)) := by rw [made_rep]; exact Go.Deep.blk_alloc_new _ _
  have hb1 : Below w2.heap.size w2 (w2.alloc (.cells (madeCells #[.int .i64 0] n) 3)) := (Below.refl _ _).alloc (Nat.le_refl _) _
  have hcp := Wk.run_copy_rows (P := Tryz.prog) (w2.alloc (.cells (madeCells #[.int .i64 0] n) 3)) 27 27 3 3 1 w2.heap.size 0 n n ⟨xb, 0, none⟩ 1 1 (List.replicate n (Value.int .i64 0)) 3 [.int .i64 x] Tryz.underlying27 size3 hA (by simp [Nat.min_def]; omega) (fun j v hv => by
    rcases j with _ | j
    · cases hv
      rw [addr_add0]
      exact (hb1.cell (p := ⟨xb, 0, none⟩) hxl).trans (by unfold World.cell?; rw [hx]; rfl)
    · cases hv) (by simp; omega) (fun v hv => by simp at hv; subst hv; rfl)
  have hmin : Nat.min 1 n = 1 := by simp [Nat.min_def]; omega
  rw [hmin] at hcp
  have hov := over_rep (.int .i64 0) (.int .i64 x) 0 1 (n - 1)
  simp only [List.replicate_zero, List.nil_append, Nat.zero_add, show 1 + (n - 1) = n by omega] at hov
  have hov' : Wk.over (List.replicate n (Value.int .i64 0)) 0 [.int .i64 x] = .int .i64 x :: List.replicate (n - 1) (.int .i64 0) := hov
  rw [hov'] at hcp
  have hW : ((w2.alloc (.cells (madeCells #[.int .i64 0] n) 3)).setRow w2.heap.size (Value.int .i64 x :: List.replicate (n - 1) (Value.int .i64 0)).toArray).heap[w2.heap.size]? = some (.cells (Value.int .i64 x :: List.replicate (n - 1) (Value.int .i64 0)).toArray 3 (0, 0)) := setRow_heap _ _ _ _ _ _ hA
  have hbW : Below w2.heap.size w2 ((w2.alloc (.cells (madeCells #[.int .i64 0] n) 3)).setRow w2.heap.size (Value.int .i64 x :: List.replicate (n - 1) (Value.int .i64 0)).toArray) := Wk.below_row hb1 _ (Nat.le_refl _) _
  have Hst := hide (And.intro hW hbW)
  clear hA hov hov' hW hbW
  go_wp2_with (at_builtin; refine Wk.wpList_copy_known _ rfl _ _ 27 27 rfl _ _ rfl rfl hcp ?_)
  generalize (w2.alloc (.cells (madeCells #[.int .i64 0] n) 3)).setRow w2.heap.size (Value.int .i64 x :: List.replicate (n - 1) (Value.int .i64 0)).toArray = W0 at *
  go_loopw [8] (fun y W => ∃ m : Nat, y = .int .i64 m ∧ 1 ≤ m ∧ m ≤ n ∧ W.heap[w2.heap.size]? = some (.cells (List.replicate m (Value.int .i64 x) ++ List.replicate (n - m) (Value.int .i64 0)).toArray 3 (0, 0)) ∧ Below w2.heap.size w2 W) (fun y _ => n - (intOf y).toNat)
  case atStart => exact ⟨1, rfl, Nat.le_refl _, hn0, (unhide Hst).1, (unhide Hst).2⟩
  case round =>
    clear Hst hcp hb1
    obtain ⟨m, rfl, hm1, hmn, hW, hb⟩ := hrel
    by_cases hlt : m < n
    · have hlt' : (m : Int) < n := by omega
      obtain ⟨k, hk⟩ : ∃ k, k = Nat.min m (n - m) := ⟨_, rfl⟩
      have hk1 : 1 ≤ k ∧ k ≤ n - m ∧ k ≤ m := by rw [hk]; simp only [Nat.min_def]; split <;> omega
      have hs1 := fun w => slice27l w2.heap.size n m hlt w
      have hs2 := fun w => slice27h w2.heap.size 0 n n m hmn w
      have HC := hide (fun (W' : World) (hW' : W'.heap[w2.heap.size]? = some (.cells (List.replicate m (Value.int .i64 x) ++ List.replicate (n - m) (Value.int .i64 0)).toArray 3 (0, 0))) => Wk.run_copy_rows (P := Tryz.prog) W' 27 27 3 3 1 w2.heap.size m (n - m) (n - m) ⟨w2.heap.size, 0, none⟩ m n (List.replicate m (Value.int .i64 x) ++ List.replicate (n - m) (Value.int .i64 0)) 3 (List.replicate k (.int .i64 x)) Tryz.underlying27 size3 hW' (by rw [← hk]; simp) (fun j v hv => by
        have hj : j < k := by
          rcases Nat.lt_or_ge j k with h | h
          · exact h
          · rw [List.getElem?_eq_none (by simp; omega)] at hv; cases hv
        rw [List.getElem?_replicate, if_pos hj] at hv
        cases hv
        have := World.news_of_block hW' j (.int .i64 x) (by
          rw [List.getElem?_append_left (by simp; omega), List.getElem?_replicate, if_pos (by omega)])
        exact this) (by simp; omega) (fun v hv => by rw [(List.mem_replicate.1 hv).2]; rfl))
      rw [← hk] at HC
      have hov : Wk.over (List.replicate m (Value.int .i64 x) ++ List.replicate (n - m) (Value.int .i64 0)) m (List.replicate k (.int .i64 x)) = List.replicate (m + k) (.int .i64 x) ++ List.replicate (n - (m + k)) (.int .i64 0) := by
        have h := over_rep (.int .i64 0) (.int .i64 x) m k (n - (m + k))
        rwa [show k + (n - (m + k)) = n - m by omega] at h
      rw [hov] at HC
      clear hov hk
      have hwk : IntKind.i64.wrap ((m : Int) + k) = m + k := by rw [IntKind.wrap_i64]; omega
      go_wp2
      go_region_law (refine Wk.step_copy_known rfl (.tmp 41) (.tmp 44) 27 27 rfl (.slice (some ⟨w2.heap.size, m, none⟩) (n - m) (n - m)) (.slice (some ⟨w2.heap.size, 0, none⟩) m n) (by simp [Act.eval, Act.put]) (by simp [Act.eval, Act.put]) (unhide HC _ hW) ?_)
      all_goals
        go_simp
        go_wp2
        go_roundw
        case rel => exact ⟨m + k, by go_num, by omega, by omega, setRow_heap _ _ _ _ _ _ hW, Wk.below_row hb.drew _ (Nat.le_refl _) _⟩
        case measure => simp [intOf]; omega
    · obtain rfl : m = n := by omega
      have hW2 : wr.heap[w2.heap.size]? = some (.cells (List.replicate m (Value.int .i64 x)).toArray 3) := by rw [hW]; simp
      go_wp2
      go_ret
      exact ⟨w2.heap.size, rfl, hW2, Nat.le_refl _, hb⟩
end Go.Proofs.YtagohbpbgjelaaaGreatDoor

namespace Go.Proofs.YtagohbpbgjelaaaGreatDoor
open Go.RowKit

theorem castL_mem {l : List Nat} {x : Int} : x ∈ castL l ↔ ∃ y, y ∈ l ∧ (y : Int) = x := by unfold castL; simp
theorem sort_nat (rd : List Nat) (hnd : rd.Nodup) : ∃ rs, (castL rd).mergeSort (fun x y => decide (x ≤ y)) = castL rs ∧ rs.Pairwise (· < ·) ∧ rs.Nodup ∧ (∀ x, x ∈ rs ↔ x ∈ rd) ∧ rs.length = rd.length := by
  have hp : ((castL rd).mergeSort (fun x y => decide (x ≤ y))).Perm (castL rd) := List.mergeSort_perm _ _
  have hs : ((castL rd).mergeSort (fun x y => decide (x ≤ y))).Pairwise (fun x y => decide (x ≤ y) = true) := List.pairwise_mergeSort (fun a b c h1 h2 => by simp at *; omega) (fun a b => by simp; omega) _
  generalize (castL rd).mergeSort (fun x y => decide (x ≤ y)) = L at *
  have hpos : ∀ x, x ∈ L → 0 ≤ x := fun x hx => by
    obtain ⟨y, _, rfl⟩ := castL_mem.1 (hp.mem_iff.1 hx); omega
  have hL : L = castL (L.map Int.toNat) := by
    have h1 : L.map ((fun (r : Nat) => (r : Int)) ∘ Int.toNat) = L.map id := List.map_congr_left fun x hx => by
      have := hpos x hx
      simp [Function.comp]; omega
    unfold castL
    rw [List.map_map, h1, List.map_id]
  generalize L.map Int.toNat = R at *
  subst hL
  have hn1 : ∀ l : List Nat, l.Nodup ↔ (castL l).Nodup := fun l => by
    unfold List.Nodup castL
    rw [List.pairwise_map]
    exact ⟨fun h => h.imp (fun h e => h (by omega)), fun h => h.imp (fun h e => h (by omega))⟩
  have hR : R.Nodup := (hn1 R).2 (hp.nodup_iff.2 ((hn1 rd).1 hnd))
  refine ⟨R, rfl, ?_, hR, fun x => ?_, by have := hp.length_eq; rwa [castL_len, castL_len] at this⟩
  · unfold castL at hs
    rw [List.pairwise_map] at hs
    have h2 := List.Pairwise.and hs hR
    exact h2.imp (fun {a b} h => by
      have h1 := h.1; have h2 := h.2
      simp at h1; omega)
  · constructor
    · intro hx
      obtain ⟨y, hy, e⟩ := castL_mem.1 (hp.mem_iff.1 (castL_mem.2 ⟨x, hx, rfl⟩))
      have : y = x := by omega
      subst this; exact hy
    · intro hx
      obtain ⟨y, hy, e⟩ := castL_mem.1 (hp.mem_iff.2 (castL_mem.2 ⟨x, hx, rfl⟩))
      have : y = x := by omega
      subst this; exact hy
def cntNeg (f : Nat → Int) : Nat → Nat
  | 0 => 0
  | n + 1 => cntNeg f n + if f n < 0 then 1 else 0
theorem cntNeg_congr {f g : Nat → Int} : ∀ n, (∀ i, i < n → f i = g i) → cntNeg f n = cntNeg g n
  | 0, _ => rfl
  | n + 1, h => by unfold cntNeg; rw [cntNeg_congr n (fun i hi => h i (by omega)), h n (by omega)]
theorem cntNeg_le {f g : Nat → Int} : ∀ n, (∀ i, i < n → 0 ≤ f i → 0 ≤ g i) → cntNeg g n ≤ cntNeg f n
  | 0, _ => Nat.le_refl _
  | n + 1, h => by
    have ih := cntNeg_le n (fun i hi => h i (by omega))
    have hn := h n (by omega)
    unfold cntNeg
    split <;> split <;> omega
theorem cntNeg_lt {f g : Nat → Int} : ∀ n, (∀ i, i < n → 0 ≤ f i → 0 ≤ g i) → ∀ i, i < n → f i < 0 → 0 ≤ g i → cntNeg g n < cntNeg f n
  | 0, _, i, hi, _, _ => by omega
  | n + 1, h, i, hi, h0, h1 => by
    unfold cntNeg
    by_cases e : i = n
    · subst e
      have := cntNeg_le i (fun j hj => h j (by omega))
      rw [if_neg (by omega), if_pos h0]; omega
    · have := cntNeg_lt n (fun j hj => h j (by omega)) i (by omega) h0 h1
      have hn := h n (by omega)
      split <;> split <;> omega
theorem chL_cl {lf : Nat → Nat} : ∀ (l : List Nat) (c : Nat → Int), (∀ r, -1 ≤ c r) → ∀ r, -1 ≤ chL lf l c r
  | [], c, h => h
  | k :: l, c, h => by
    show ∀ r, -1 ≤ chL lf l (if c (lf k) < 0 then upZ c (lf k) k else c) r
    refine chL_cl l _ fun r => ?_
    split
    · unfold upZ; split
      · omega
      · exact h r
    · exact h r
def lenV : Value → Nat
  | .slice _ n _ => n
  | _ => 0
theorem chL_snoc (lf : Nat → Nat) (l : List Nat) (q : Nat) (c : Nat → Int) : chL lf (l ++ [q]) c = if chL lf l c (lf q) < 0 then upZ (chL lf l c) (lf q) q else chL lf l c := by rw [chL_append]; rfl
theorem fnL_snoc (lf : Nat → Nat) (l : List Nat) (q : Nat) (c : Nat → Int) : fnL lf (l ++ [q]) c = fnL lf l c ++ if chL lf l c (lf q) < 0 then [lf q] else [] := by rw [fnL_append]; simp [fnL]
end Go.Proofs.YtagohbpbgjelaaaGreatDoor

/- Expressions in memory: formed. -/
import Derived.Test.YtkimhfajfbcdmaaGreatDoorQS
import Derived.Test.YtkimhfajfbcdmaaGreatDoorRV2
namespace Go.Proofs.YtkimhfajfbcdmaaGreatDoor
open Go.RowKit Go.Maps

def fitX (k : Int) (n : Nat) : Bool := if k = 0 ∨ k = 1 then n == 0 else if k = 3 ∨ k = 4 ∨ k = 5 then decide (0 < n) else if k = 6 ∨ k = 7 then n == 1 else false
mutual
/-- It has the fields that its kind has, and all in it. -/
def formA : Rx → Bool
  | .mk k s ks => if k = 2 then ks.isEmpty && (checkV s == 0) else fitX k ks.length && s.isEmpty && formL ks
def formL : List Rx → Bool
  | [] => true
  | t :: ts => formA t && formL ts
end
theorem formL_take {ks : List Rx} {i : Nat} (hi : i < ks.length) : formL (ks.take (i + 1)) = (formL (ks.take i) && formA (ks.getD i rx0)) := by
  induction ks generalizing i with
  | nil => simp at hi
  | cons t ts ih =>
    cases i with
    | zero => simp [formL]
    | succ i =>
      have := ih (i := i) (by simpa using hi)
      simp only [List.take_succ_cons, formL, this, Bool.and_assoc]
      rfl
theorem formL_bad {ks : List Rx} {i : Nat} (hi : i < ks.length) (h : formA (ks.getD i rx0) = false) : formL ks = false := by
  induction ks generalizing i with
  | nil => simp at hi
  | cons t ts ih =>
    cases i with
    | zero =>
      have h' : formA t = false := h
      simp [formL, h']
    | succ i =>
      have := ih (i := i) (by simpa using hi) h
      simp [formL, this]
theorem sizeOf_kid {k : Int} {s : List Rg} {ks : List Rx} {i : Nat} (hi : i < ks.length) : SizeOf.sizeOf (ks.getD i rx0) < SizeOf.sizeOf (Rx.mk k s ks) := by
  have hm : ks.getD i rx0 ∈ ks := by rw [List.getD_eq_getElem?_getD, List.getElem?_eq_getElem hi]; exact List.getElem_mem _
  have := List.sizeOf_lt_of_mem hm
  rw [Rx.mk.sizeOf_spec]
  omega
/-- What formed says of kids, wherever it is asked. -/
def KidsForm (Q : Nat → Prop) (ks : List Rx) : Prop := ∀ i, i < ks.length → ∀ (W : World) (u0 u1 u2 : Value), RxAt Q W (ks.getD i rx0) u0 u1 u2 → Calls Tryz.prog 77 #[.agg #[u0, u1, u2]] W fun e w' => e = .returned (.bool (formA (ks.getD i rx0))) ∧ Below W.heap.size W w'
set_option maxRecDepth 100000 in
theorem kid_any (t : Rx) (W : World) (k : Int) (s1 : Option Addr) (n1 c1 : Nat) (s2 : Option Addr) (n2 c2 : Nat) (h : ∀ W', Below W.heap.size W W' → Calls Tryz.prog 77 #[.agg #[.int .i64 k, .slice s1 n1 c1, .slice s2 n2 c2]] W' fun e w' => e = .returned (.bool (formA t)) ∧ Below W'.heap.size W' w') :
    Calls Tryz.prog 88 #[.agg #[.int .i64 k, .slice s1 n1 c1, .slice s2 n2 c2]] W fun e w' => e = .returned (.bool (!formA t)) ∧ Below W.heap.size W w' := by
  generalize formA t = z at *
  have H := hide h
  clear h
  go_enter Tryz.func88, Tryz.ntmps88
  go_wp2_with fail
  refine (unhide H _ ((Below.refl _ _).alloc (Nat.le_refl _) _)).mono ?_
  rintro e2 w2 ⟨rfl, hb2⟩
  have Hb2 := hide (((Below.refl W.heap.size W).alloc (Nat.le_refl _) _).trans (below_le hb2 (by simp)))
  clear hb2
  go_wp2
  go_ret
  exact ⟨rfl, unhide Hb2⟩
set_option maxHeartbeats 2000000 in
set_option maxRecDepth 100000 in
theorem indexK_any (Q : Nat → Prop) (ks : List Rx) (hks : ks.length ≤ 281474976710656) (w : World) (ka : Option Addr) (kc : Nat) (vs : List Value) (hts : RxTs Q w ks vs) (hkc : ks = [] ∨ ∃ g off, ka = some ⟨g, off, none⟩ ∧ Q g ∧ g < w.heap.size ∧ ∀ j u, vs[j]? = some u → w.cell? ⟨g, off + j, none⟩ = some u) (hF : KidsForm Q ks) :
    Calls Tryz.prog 98 #[.slice ka ks.length kc, .func (.func 88) #[] #[]] w fun e w' => (∃ r : Int, e = .returned (.int .i64 r) ∧ (0 ≤ r ↔ formL ks = false)) ∧ Below w.heap.size w w' := by
  have Hts := hide hts; have Hkc := hide hkc; have HF := hide hF
  clear hts hkc hF
  go_enter Tryz.func98, Tryz.ntmps98
  go_wp2
  go_loopw [8] (fun iv wr => ∃ i : Nat, iv = .int .i64 i ∧ i ≤ ks.length ∧ formL (ks.take i) = true ∧ Below w.heap.size w wr) (fun iv _ => ks.length - (intOf iv).toNat)
  case atStart => exact ⟨0, rfl, Nat.zero_le _, by simp [formL], Below.refl _ _⟩
  case round =>
    obtain ⟨i, rfl, hi, hft, hb⟩ := hrel
    by_cases hlt : i < ks.length
    · have hlt' : (i : Int) < ks.length := by omega
      obtain ⟨u0, u1, u2, e0, e1, e2, hu⟩ := rxTs_get ks vs (unhide Hts) i hlt
      rcases unhide Hkc with h | ⟨g, off, rfl, hqg, hgl, hcs⟩
      · rw [h] at hlt; simp at hlt
      have hgb := hb.block g hgl
      have c0 := (World.cell?_of_block (a := ⟨g, off + i * 3, none⟩) hgb).trans (hcs _ _ e0)
      have c1 := (World.cell?_of_block (a := ⟨g, off + i * 3 + 1, none⟩) hgb).trans (hcs _ _ e1)
      have c2 := (World.cell?_of_block (a := ⟨g, off + i * 3 + 2, none⟩) hgb).trans (hcs _ _ e2)
      obtain ⟨uk, us1, un1, uc1, us2, un2, uc2, rfl, rfl, rfl⟩ := rxAt_formQ hu
      have HK := hide (kid_any (ks.getD i rx0) wr uk us1 un1 uc1 us2 un2 uc2 (fun W' hb' => unhide HF i hlt W' _ _ _ (rxAt_kept (Nat.le_trans hb.size hb'.size) (fun k _ hk => (hb'.block k (Nat.lt_of_lt_of_le hk hb.size)).trans (hb.block k hk)) (fun k hk _ => hk) _ _ _ _ hu)))
      have Hft : Hid (formL (ks.take (i + 1)) = formA (ks.getD i rx0)) := hide (by rw [formL_take hlt, hft, Bool.true_and])
      have Hbad := hide (formL_bad hlt)
      have Hb := hide hb
      clear hb hgb e0 e1 e2 hu hcs hqg hft
      generalize formA (ks.getD i rx0) = z at *
      cases z with
      | true =>
        go_wp2_with fail
        refine (unhide HK).mono ?_
        rintro e3 w3 ⟨rfl, hb3⟩
        have Hb3 := hide ((unhide Hb).trans (below_le hb3 (unhide Hb).size))
        clear hb3
        go_wp2
        go_roundw
        case rel => exact ⟨i + 1, by go_num, by omega, unhide Hft, unhide Hb3⟩
        case measure => simp [intOf]; omega
      | false =>
        go_wp2_with fail
        refine (unhide HK).mono ?_
        rintro e3 w3 ⟨rfl, hb3⟩
        have Hb3 := hide ((unhide Hb).trans (below_le hb3 (unhide Hb).size))
        clear hb3
        go_wp2
        go_ret
        exact ⟨⟨_, rfl, by simpa using unhide Hbad⟩, unhide Hb3⟩
    · obtain rfl : i = ks.length := by omega
      have hlt' : ¬ ((ks.length : Int) < ks.length) := by omega
      rw [List.take_length] at hft
      have Hft := hide hft
      have Hb := hide hb
      clear hft hb
      go_wp2
      go_ret
      exact ⟨⟨_, rfl, by simp [unhide Hft]⟩, unhide Hb⟩
set_option maxRecDepth 100000 in
theorem containsK_any (Q : Nat → Prop) (ks : List Rx) (hks : ks.length ≤ 281474976710656) (w : World) (ka : Option Addr) (kc : Nat) (vs : List Value) (hts : RxTs Q w ks vs) (hkc : ks = [] ∨ ∃ g off, ka = some ⟨g, off, none⟩ ∧ Q g ∧ g < w.heap.size ∧ ∀ j u, vs[j]? = some u → w.cell? ⟨g, off + j, none⟩ = some u) (hF : KidsForm Q ks) :
    Calls Tryz.prog 87 #[.slice ka ks.length kc, .func (.func 88) #[] #[]] w fun e w' => e = .returned (.bool (!formL ks)) ∧ Below w.heap.size w w' := by
  have HI := hide (indexK_any Q ks hks w ka kc vs hts hkc hF)
  clear hts hkc hF
  go_enter Tryz.func87, Tryz.ntmps87
  go_wp2_with fail
  refine (unhide HI).mono ?_
  rintro e2 w2 ⟨⟨r, rfl, hr⟩, hb2⟩
  have Hb2 := hide hb2
  clear hb2
  have H0 : Hid (decide (0 ≤ r) = !formL ks) := hide (by
    cases h : formL ks with
    | true => simp [h] at hr ⊢; exact hr
    | false => simp [h] at hr ⊢; exact hr)
  clear hr
  go_wp2
  go_ret
  exact ⟨congrArg (fun b => Ending.returned (.bool b)) (unhide H0), unhide Hb2⟩
end Go.Proofs.YtkimhfajfbcdmaaGreatDoor

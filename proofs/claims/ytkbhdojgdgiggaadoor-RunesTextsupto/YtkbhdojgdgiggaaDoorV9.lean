/- Contracts of Of and limited, of appendRune at plain runes, and of awake. -/
import Derived.Test.YtkbhdojgdgiggaaDoorV8
namespace Go.Proofs.YtkbhdojgdgiggaaDoor
open Go.RowKit Go.Sort Go.Lib

set_option maxHeartbeats 1000000 in
theorem limited_long (a : Option Addr) (n cap : Nat) (h : 2048 < n) (w : World) :
    Calls Tryd.prog 39 #[.slice a n cap] w fun e w' => e = .returned (.tuple #[.slice none 0 0, .int .i64 21]) ∧ w = w' := by
  have h' : (2048 : Int) < n := by omega
  go_enter Tryd.func39, Tryd.ntmps39
  go_wp2
  go_ret2
  exact ⟨rfl, rfl⟩
set_option maxHeartbeats 1000000 in
theorem limited_ok (a : Option Addr) (n cap : Nat) (h : n ≤ 2048) (w : World) :
    Calls Tryd.prog 39 #[.slice a n cap] w fun e w' => e = .returned (.tuple #[.slice a n cap, .int .i64 0]) ∧ w = w' := by
  have h' : ¬ (2048 : Int) < n := by omega
  go_enter Tryd.func39, Tryd.ntmps39
  go_wp2
  go_ret2
  exact ⟨rfl, rfl⟩
/-- What a call answers that limits a list. -/
def limC (l : List Rng) : Int := if 2048 < l.length then 21 else 0
def limL (l : List Rng) : List Rng := if 2048 < l.length then [] else l
theorem limited_any (B : Nat) (v : Value) (l : List Rng) (w : World) (h : w.ownsRow B 55 2 v l.length (flat l)) :
    Calls Tryd.prog 39 #[v] w fun e w' => ∃ v', e = .returned (.tuple #[v', .int .i64 (limC l)]) ∧ w.ownsRow B 55 2 v' (limL l).length (flat (limL l)) ∧ w = w' := by
  obtain ⟨a, cap, rfl⟩ := ownsRow_slice h
  by_cases hl : 2048 < l.length
  · refine (limited_long a l.length cap hl w).mono ?_
    rintro e w' ⟨rfl, rfl⟩
    refine ⟨_, by rw [show limC l = 21 from if_pos hl], ?_, rfl⟩
    rw [show limL l = [] from if_pos hl]
    exact ⟨rfl, .inl ⟨rfl, rfl⟩⟩
  · refine (limited_ok a l.length cap (by omega) w).mono ?_
    rintro e w' ⟨rfl, rfl⟩
    refine ⟨_, by rw [show limC l = 0 from if_neg hl], ?_, rfl⟩
    rw [show limL l = l from if_neg hl]
    exact h

/-- What Of answers. -/
def ofC (l : List Rng) : Int := if l.all isR then limC (mergedL l) else 1
def ofL (l : List Rng) : List Rng := if l.all isR then limL (mergedL l) else []
theorem all_isR {l : List Rng} (h : ∀ j, j < l.length → isR (l.getD j (0, 0)) = true) : l.all isR = true := by
  rw [List.all_eq_true]
  intro x hx
  obtain ⟨n, hn, rfl⟩ := List.getElem_of_mem hx
  have := h n hn
  rwa [List.getD_eq_getElem?_getD, List.getElem?_eq_getElem hn] at this
theorem not_all_isR {l : List Rng} {k : Nat} (hk : k < l.length) (h : isR (l.getD k (0, 0)) = false) : l.all isR = false := by
  rw [Bool.eq_false_iff]
  intro hc
  rw [List.all_eq_true] at hc
  rw [List.getD_eq_getElem?_getD, List.getElem?_eq_getElem hk] at h
  have := hc _ (List.getElem_mem hk)
  simp only [Option.getD_some] at h
  rw [h] at this; cases this

set_option maxHeartbeats 4000000 in
set_option maxRecDepth 100000 in
theorem of_any (a : Option Addr) (cap : Nat) (l : List Rng) (hl : l.length * 8 ≤ 140737488355328) (w : World) (hrow : RowAt w a l) :
    Calls Tryd.prog 14 #[.slice a l.length cap] w fun e w' => ∃ v, e = .returned (.tuple #[v, .int .i64 (ofC l)]) ∧ w'.ownsRow w.heap.size 55 2 v (ofL l).length (flat (ofL l)) ∧ Below w.heap.size w w' := by
  have Hrow := hide hrow
  clear hrow
  go_enter Tryd.func14, Tryd.ntmps14
  go_wp2
  go_loopw [8] (fun x wr => ∃ k : Nat, x = .int .i64 k ∧ k ≤ l.length ∧ Below w.heap.size w wr ∧ ∀ j, j < k → isR (l.getD j (0, 0)) = true) (fun x _ => l.length - (intOf x).toNat)
  case atStart => exact ⟨0, rfl, by omega, Below.refl _ _, fun j h => by omega⟩
  case round =>
    obtain ⟨k, rfl, hk, hbel, hall⟩ := hrel
    have hsz := hbel.size
    have Hbel := hide hbel; have Hall := hide hall
    clear hbel hall
    by_cases hkl : k < l.length
    · obtain ⟨b, off, rfl, hlt, hc⟩ := rowAt_cells (unhide Hrow) (unhide Hbel) hkl
      have hkl' : (k : Int) < l.length := by omega
      have q0 := (hc k hkl).1
      have q1 := (hc k hkl).2
      have Hy := hide (fun (h : isR (l.getD k (0, 0)) = true) j (hj : j < k + 1) => show isR (l.getD j (0, 0)) = true from if e : j = k then by subst e; exact h else unhide Hall j (by omega))
      have Hn := hide (not_all_isR (k := k) hkl)
      clear hc
      generalize l.getD k (0, 0) = x at *
      obtain ⟨x, y⟩ := x
      simp only at q0 q1
      have HI := hide (isRange_any x y)
      have HB := hide (fun (o1 o2 : Obj) => ((unhide Hbel).alloc hsz o1).alloc (by simp; omega) o2)
      cases hr : isR (x, y)
      · have hb := unhide Hn hr
        have Hb := hide hb
        rw [hr] at HI
        clear hb Hy Hn hr
        go_wp2_with fail
        refine (unhide HI _).mono ?_
        rintro e w1 ⟨rfl, rfl⟩
        go_wp2
        go_ret2
        rw [show ofL l = [] by unfold ofL; rw [unhide Hb]; rfl, show ofC l = 1 by unfold ofC; rw [unhide Hb]; rfl]
        exact ⟨_, rfl, ⟨rfl, .inl ⟨rfl, rfl⟩⟩, unhide HB _ _⟩
      · have Hb := hide (unhide Hy hr)
        rw [hr] at HI
        clear Hy Hn hr
        go_wp2_with fail
        refine (unhide HI _).mono ?_
        rintro e w1 ⟨rfl, rfl⟩
        go_wp2
        go_roundw
        case rel => exact ⟨k + 1, by go_num, by omega, unhide HB _ _, unhide Hb⟩
        case measure => simp [intOf]; omega
    · have hkl' : ¬ (k : Int) < l.length := by omega
      have hke : k = l.length := by omega
      subst hke
      have hall := all_isR (unhide Hall)
      have HM := hide (merged_any a cap l hl (fun x hx => List.all_eq_true.1 hall x hx) wr (rowAt_below (unhide Hrow) (Nat.le_refl _) (unhide Hbel)))
      have Ho : Hid (ofL l = limL (mergedL l) ∧ ofC l = limC (mergedL l)) := hide ⟨by unfold ofL; rw [hall]; rfl, by unfold ofC; rw [hall]; rfl⟩
      clear hall
      go_wp2_with fail
      refine (unhide HM).mono ?_
      rintro e w1 ⟨v, rfl, hown, hb1⟩
      have HL := hide (limited_any _ v (mergedL l) w1 hown)
      have HB := hide ((unhide Hbel).trans (below_le hb1 hsz))
      clear hown hb1
      go_wp2_with fail
      refine (unhide HL).mono ?_
      rintro e w2 ⟨v', rfl, hown', rfl⟩
      have Hown' := hide hown'
      clear hown'
      go_wp2
      go_ret2
      rw [(unhide Ho).1, (unhide Ho).2]
      exact ⟨v', rfl, ownsRow_le (unhide Hown') hsz, unhide HB⟩

/-! appendRune at runes that are written as themselves -/
set_option maxHeartbeats 2000000 in
set_option maxRecDepth 100000 in
theorem append_plain (r : Int) (h1 : 33 ≤ r) (h2 : r ≤ 126) (hm : markedB r = false) (B : Nat) (w : World) (v : Value) (l : List UInt8) (hB : B ≤ w.heap.size) (hown : w.ownsRow B 5 1 v l.length (Lib.byteCells l)) (hl : l.length ≤ 1000000) :
    Calls Tryd.prog 54 #[v, .int .i32 r] w fun e w' => ∃ v', e = .returned v' ∧ w'.ownsRow B 5 1 v' (l ++ runeT r).length (Lib.byteCells (l ++ runeT r)) ∧ w.grownBy w' v.ownBlock := by
  obtain ⟨i0, hi, hz0, hz1, hz2⟩ := info_parts hbyte
  have e : runeT r = [UInt8.ofNat r.toNat] := by
    unfold runeT
    rw [if_neg (by omega), if_neg (by omega), if_neg (by omega), if_neg (by rw [hm]; simp), if_pos (by omega)]
  rw [e]
  have hc : Lib.byteCells [UInt8.ofNat r.toNat] = [.int .u8 r] := by
    have h3 : ((UInt8.ofNat r.toNat).toNat : Int) = r := by
      show ((r.toNat % 256 : Nat) : Int) = r
      omega
    show [Value.int .u8 ((UInt8.ofNat r.toNat).toNat : Int)] = _
    rw [h3]
  simp only [markedB, Bool.or_eq_false_iff] at hm
  obtain ⟨m1, m2, m3, m4, m5, m6⟩ := hm
  have n1 : (r == 10) = false := by simp; omega
  have n2 : (r == 9) = false := by simp; omega
  have n3 : (r == 13) = false := by simp; omega
  have k1 : (32 : Int) < r := by omega
  have k2 : r < 127 := by omega
  obtain ⟨va, vcap, rfl⟩ := ownsRow_slice hown
  have Hown := hide hown; have Hc := hide hc
  clear hown hc e
  go_enter Tryd.func54, Tryd.ntmps54
  go_wp2_with (at_builtin; refine wpList_append_own _ rfl _ _ 71 rfl B 5 i0 (.int .u8 0) 1 1 Tryd.underlying71 hi hz0 hz1 hz2 rfl (by decide) _ _ _ rfl ((unhide Hown).alloc _) ⟨w.heap.size, 0, none⟩ 1 1 [.int .u8 r] rfl rfl ?c1 ?c2 ?c3 ?c4 ?c5 ?_)
  case c1 => exact cell_one_new _ _ _
  case c2 => intro u hu; simp at hu; subst hu; rfl
  case c3 => unfold maxLen; omega
  case c4 => omega
  case c5 => simp; omega
  intro v' w2 hown' hgrow _
  go_wp2
  go_ret
  refine ⟨_, rfl, ?_, ⟨hgrow.os, hgrow.tape, hgrow.output, ?_, ?_⟩⟩
  · rw [Lib.byteCells_append, List.length_append, unhide Hc]
    exact hown'
  · have := hgrow.size; simp at this; omega
  · intro k hk hne
    rw [hgrow.block k (by simp; omega) hne]
    show (w.heap.push _)[k]? = _
    rw [Array.getElem?_push_lt hk, ← Array.getElem?_eq_getElem hk]
theorem appR_plain (r : Int) (h1 : 33 ≤ r) (h2 : r ≤ 126) (hm : markedB r = false) (w : World) : AppR w r :=
  fun wr v l hb hown hl => append_plain r h1 h2 hm w.heap.size wr v l hb.size hown hl

theorem alive_of : ofL [(98, 99), (97, 97)] = [(97, 99)] ∧ ofC [(98, 99), (97, 97)] = 0 := by
  have hs : sortL [(98, 99), (97, 97)] = [(97, 97), (98, 99)] := by
    unfold sortL
    rw [show (fun x y : Rng => !ltOf cmpR y x) = fun x y => !decide (y.1 < x.1 ∨ (y.1 = x.1 ∧ y.2 < x.2)) from funext fun x => funext fun y => by rw [cmpR_lt]]
    simp [List.mergeSort, List.MergeSort.Internal.splitInTwo]
  have hm : mergedL [(98, 99), (97, 97)] = [(97, 99)] := by
    unfold mergedL; rw [hs]; decide +kernel
  have ha : List.all [((98 : Int), (99 : Int)), (97, 97)] isR = true := by decide +kernel
  constructor
  · unfold ofL; rw [ha, hm]; rfl
  · unfold ofC; rw [ha, hm]; rfl
set_option maxHeartbeats 2000000 in
set_option maxRecDepth 100000 in
theorem awake_any (w : World) : Calls Tryd.prog 13 #[] w fun e w' => e = .returned (.bool true) ∧ Below w.heap.size w w' := by
  have HO : Hid (Calls Tryd.prog 14 #[.slice (some ⟨w.heap.size, 0, none⟩) 2 2] (w.alloc (.cells #[.int .i32 98, .int .i32 99, .int .i32 97, .int .i32 97] 55)) fun e w' => ∃ v, e = .returned (.tuple #[v, .int .i64 0]) ∧ (∃ a cap, v = .slice a 1 cap ∧ RowAt w' a [(97, 99)]) ∧ Below w.heap.size w w') := hide (by
    have hc := World.cell?_alloc_mark w #[.int .i32 98, .int .i32 99, .int .i32 97, .int .i32 97] 55 (0, 0)
    have h := of_any (some ⟨w.heap.size, 0, none⟩) 2 [(98, 99), (97, 97)] (by simp) (w.alloc (.cells #[.int .i32 98, .int .i32 99, .int .i32 97, .int .i32 97] 55)) (.inr ⟨w.heap.size, 0, rfl, by simp, fun j hj => by
      have hj2 : j = 0 ∨ j = 1 := by simp at hj; omega
      rcases hj2 with rfl | rfl
      · exact ⟨hc 0, hc 1⟩
      · exact ⟨hc 2, hc 3⟩⟩)
    rw [alive_of.1, alive_of.2] at h
    refine Calls.mono h ?_
    rintro e w' ⟨v, rfl, hown, hb⟩
    obtain ⟨a, cap, rfl⟩ := ownsRow_slice hown
    refine ⟨_, rfl, ⟨a, cap, rfl, rowAt_own hown⟩, ?_⟩
    exact ((Below.refl _ _).alloc (Nat.le_refl _) _).trans (below_le hb (by simp)))
  go_enter Tryd.func13, Tryd.ntmps13
  go_wp2_with fail
  refine (unhide HO).mono ?_
  rintro e w1 ⟨v, rfl, ⟨a, cap, rfl, hrow⟩, hb1⟩
  have hchk : checkV [((97 : Int), (99 : Int))] = 0 := by decide +kernel
  have HT : Hid (Calls Tryd.prog 31 #[.slice a 1 cap] w1 fun e w' => e = .returned (.tuple #[.string ⟨#[91, 97, 45, 99, 93]⟩, .int .i64 0]) ∧ Below w1.heap.size w1 w') := hide (by
    have hC := check_any a cap [(97, 99)] (by simp) w1 hrow
    rw [hchk] at hC
    have h := text_yes a cap [(97, 99)] (by simp) w1 hrow (fun x hx => by
      simp at hx; subst hx
      exact ⟨appR_plain 97 (by omega) (by omega) (by decide) w1, appR_plain 99 (by omega) (by omega) (by decide) w1⟩) (hide hC)
    rw [alive_text] at h
    exact h)
  have HH : Hid (∀ r w2, Below w1.heap.size w1 w2 → Calls Tryd.prog 38 #[.slice a 1 cap, .int .i32 r] w2 fun e w' => e = .returned (.bool (hasB [(97, 99)] r)) ∧ Below w2.heap.size w2 w') :=
    hide fun r w2 hb2 => has_any a cap [(97, 99)] (by simp) r w2 (rowAt_below hrow (Nat.le_refl _) hb2)
  have Hb1 := hide hb1
  clear HO hrow hb1 hchk
  go_wp2_with fail
  refine (unhide HT).mono ?_
  rintro e w2 ⟨rfl, hb2⟩
  have H98 := hide (unhide HH 98 w2 hb2)
  rw [show hasB [((97 : Int), (99 : Int))] 98 = true by decide +kernel] at H98
  have Hb2 := hide hb2
  clear hb2
  go_wp2_with fail
  refine (unhide H98).mono ?_
  rintro e w3 ⟨rfl, hb3⟩
  have hb13 := (unhide Hb2).trans (below_le hb3 (unhide Hb2).size)
  have H100 := hide (unhide HH 100 w3 hb13)
  rw [show hasB [((97 : Int), (99 : Int))] 100 = false by decide +kernel] at H100
  have Hb13 := hide hb13
  clear hb3 hb13
  go_wp2_with fail
  refine (unhide H100).mono ?_
  rintro e w4 ⟨rfl, hb4⟩
  have hb14 := (unhide Hb13).trans (below_le hb4 (unhide Hb13).size)
  have HB := hide ((unhide Hb1).trans (below_le hb14 (unhide Hb1).size))
  clear hb4 hb14
  go_wp2
  go_ret
  exact ⟨rfl, unhide HB⟩
end Go.Proofs.YtkbhdojgdgiggaaDoor

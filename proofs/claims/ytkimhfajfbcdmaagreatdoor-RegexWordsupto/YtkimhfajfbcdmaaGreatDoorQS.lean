/- Expressions in memory: room. (and what it leads to) -/
import Derived.Test.YtkimhfajfbcdmaaGreatDoorQF
import Derived.Test.YtkimhfajfbcdmaaGreatDoorQA
import Derived.WalkKit
import Derived.WalkSpells
import Derived.WalkLawsBesides
import Derived.Handy
import Derived.Below
import Derived.Deep.RegionWith
/- Expressions in memory: room. -/
namespace Go.Proofs.YtkimhfajfbcdmaaGreatDoor
open Go.RowKit Go.Maps

def rx0 : Rx := .mk 0 [] []
theorem rxTs_get {Q : Nat → Prop} {w : World} : ∀ (ts : List Rx) (vs : List Value), RxTs Q w ts vs → ∀ i, i < ts.length → ∃ u0 u1 u2, vs[i * 3]? = some u0 ∧ vs[i * 3 + 1]? = some u1 ∧ vs[i * 3 + 2]? = some u2 ∧ RxAt Q w (ts.getD i rx0) u0 u1 u2
  | [], _, _, i, hi => by simp at hi
  | t :: ts, vs, h, i, hi => by
    unfold RxTs at h
    obtain ⟨u0, u1, u2, rest, rfl, h1, h2⟩ := h
    cases i with
    | zero => exact ⟨u0, u1, u2, rfl, rfl, rfl, h1⟩
    | succ i =>
      obtain ⟨x0, x1, x2, e0, e1, e2, hx⟩ := rxTs_get ts rest h2 i (by simpa using hi)
      exact ⟨x0, x1, x2, by rw [show (i + 1) * 3 = i * 3 + 1 + 1 + 1 by omega]; exact e0, by rw [show (i + 1) * 3 + 1 = i * 3 + 1 + 1 + 1 + 1 by omega]; exact e1, by rw [show (i + 1) * 3 + 2 = i * 3 + 2 + 1 + 1 + 1 by omega]; exact e2, hx⟩
theorem rxAt_formQ {Q : Nat → Prop} {w : World} {t : Rx} {v0 v1 v2 : Value} (h : RxAt Q w t v0 v1 v2) : ∃ (k : Int) (s1 : Option Addr) (n1 c1 : Nat) (s2 : Option Addr) (n2 c2 : Nat), v0 = .int .i64 k ∧ v1 = .slice s1 n1 c1 ∧ v2 = .slice s2 n2 c2 := by
  cases t
  unfold RxAt at h
  obtain ⟨rfl, ⟨sa, sc, rfl, -⟩, ka, kc, vs, rfl, -⟩ := h
  exact ⟨_, _, _, _, _, _, _, rfl, rfl, rfl⟩
mutual
/-- No row of it is longer than a row can be. -/
def RxSm : Rx → Prop
  | .mk _ s ks => s.length ≤ 281474976710656 ∧ ks.length ≤ 281474976710656 ∧ RxSms ks
def RxSms : List Rx → Prop
  | [] => True
  | t :: ts => RxSm t ∧ RxSms ts
end
theorem rxSms_get : ∀ (ts : List Rx), RxSms ts → ∀ i, i < ts.length → RxSm (ts.getD i rx0)
  | [], _, i, hi => by simp at hi
  | t :: ts, h, i, hi => by
    unfold RxSms at h
    cases i with
    | zero => exact h.1
    | succ i => exact rxSms_get ts h.2 i (by simpa using hi)
mutual
/-- How many parts are left. -/
def roomA : Rx → Int → Nat → Int
  | .mk _ s ks, p, lv => if lv = 0 then -1 else roomL ks (p - (1 + s.length)) (lv - 1)
def roomL : List Rx → Int → Nat → Int
  | [], p, _ => p
  | t :: ts, p, lv => if p < 0 then p else roomL ts (roomA t p lv) lv
end
mutual
theorem room_bd : ∀ (t : Rx) (p : Int) (lv : Nat), RxSm t → 0 ≤ p → p ≤ 4096 → -281474976710657 ≤ roomA t p lv ∧ roomA t p lv ≤ 4096
  | .mk _ s ks, p, lv, h, h0, h1 => by
    unfold RxSm at h
    unfold roomA
    split
    · omega
    · exact roomL_bd ks _ _ h.2.2 (by omega) (by omega)
theorem roomL_bd : ∀ (ts : List Rx) (p : Int) (lv : Nat), RxSms ts → -281474976710657 ≤ p → p ≤ 4096 → -281474976710657 ≤ roomL ts p lv ∧ roomL ts p lv ≤ 4096
  | [], p, lv, h, h0, h1 => by unfold roomL; exact ⟨h0, h1⟩
  | t :: ts, p, lv, h, h0, h1 => by
    unfold RxSms at h
    unfold roomL
    split
    · exact ⟨h0, h1⟩
    · have := room_bd t p lv h.1 (by omega) h1
      exact roomL_bd ts _ lv h.2 this.1 this.2
end
theorem roomL_neg (ts : List Rx) (p : Int) (lv : Nat) (h : p < 0) : roomL ts p lv = p := by
  cases ts with
  | nil => rfl
  | cons t ts => unfold roomL; rw [if_pos h]
theorem roomL_cons (t : Rx) (ts : List Rx) (p : Int) (lv : Nat) : roomL (t :: ts) p lv = if p < 0 then p else roomL ts (roomA t p lv) lv := by rw [roomL]
theorem drop_getD {ks : List Rx} {i : Nat} (hi : i < ks.length) : ks.drop i = ks.getD i rx0 :: ks.drop (i + 1) := by
  rw [List.drop_eq_getElem_cons hi, List.getD_eq_getElem?_getD, List.getElem?_eq_getElem hi]
  rfl
set_option maxHeartbeats 2000000 in
set_option maxRecDepth 100000 in
theorem room_any (Q : Nat → Prop) (lv : Nat) : lv ≤ 64 → ∀ (t : Rx) (w : World) (v0 v1 v2 : Value) (p : Int), RxAt Q w t v0 v1 v2 → RxSm t → 0 ≤ p → p ≤ 4096 →
    Calls Tryz.prog 76 #[.agg #[v0, v1, v2], .int .i64 p, .int .i64 lv] w fun e w' => e = .returned (.int .i64 (roomA t p lv)) ∧ Below w.heap.size w w' := by
  induction lv with
  | zero =>
    rintro - ⟨k, s, ks⟩ w v0 v1 v2 p hR hS hp0 hp1
    unfold RxAt at hR
    obtain ⟨rfl, ⟨sa, sc, rfl, -⟩, ka, kc, vs, rfl, -⟩ := hR
    unfold RxSm at hS
    obtain ⟨hs1, hs2, -⟩ := hS
    have HX : Hid (roomA (.mk k s ks) p 0 = -1) := hide (by unfold roomA; rfl)
    go_enter Tryz.func76, Tryz.ntmps76
    go_wp2
    go_ret
    exact ⟨by rw [unhide HX]; rfl, (Below.refl _ _).alloc (Nat.le_refl _) _⟩
  | succ lv ih =>
    rintro hlv ⟨k, s, ks⟩ w v0 v1 v2 p hR hS hp0 hp1
    have ih := ih (by omega)
    unfold RxAt at hR
    obtain ⟨rfl, ⟨sa, sc, rfl, -⟩, ka, kc, vs, rfl, hts, hkc⟩ := hR
    unfold RxSm at hS
    obtain ⟨hs1, hs2, hs3⟩ := hS
    have HX : Hid (roomA (.mk k s ks) p (lv + 1) = roomL ks (p - (1 + s.length)) lv) := hide (by unfold roomA; rfl)
    have Hih := hide ih; have Hts := hide hts; have Hkc := hide hkc; have Hs3 := hide hs3
    clear ih hts hkc hs3
    obtain ⟨LV, hLV⟩ : ∃ LV : Int, LV = ((lv + 1 : Nat) : Int) := ⟨_, rfl⟩
    rw [← hLV, unhide HX]
    have hL1 : LV - 1 = (lv : Int) := by omega
    have hL0 : (LV == 0) = false := by rw [beq_eq_false_iff_ne]; omega
    have hL2 : 1 ≤ LV ∧ LV ≤ 64 := by omega
    clear hLV HX
    go_enter Tryz.func76, Tryz.ntmps76
    go_wp2
    go_loopw [20, 1] (fun iv pv wr => ∃ (i : Nat) (q : Int), iv = .int .i64 i ∧ pv = .int .i64 q ∧ i ≤ ks.length ∧ -281474976710657 ≤ q ∧ q ≤ 4096 ∧ roomL (ks.drop i) q lv = roomL ks (p - (1 + s.length)) lv ∧ Below w.heap.size w wr) (fun iv _ _ => ks.length - (intOf iv).toNat)
    case atStart => exact ⟨0, p - (1 + s.length), rfl, by go_num, Nat.zero_le _, by omega, by omega, rfl, (Below.refl _ _).alloc (Nat.le_refl _) _⟩
    case round =>
      obtain ⟨i, q, rfl, rfl, hi, hq0, hq1, hrl, hb⟩ := hrel
      by_cases hlt : i < ks.length
      · have hlt' : (i : Int) < ks.length := by omega
        obtain ⟨u0, u1, u2, e0, e1, e2, hu⟩ := rxTs_get ks vs (unhide Hts) i hlt
        have hsm := rxSms_get ks (unhide Hs3) i hlt
        rcases unhide Hkc with h | ⟨g, off, rfl, hqg, hgl, hcs⟩
        · rw [h] at hlt; simp at hlt
        have hgb := hb.block g hgl
        have c0 := (World.cell?_of_block (a := ⟨g, off + i * 3, none⟩) hgb).trans (hcs _ _ e0)
        have c1 := (World.cell?_of_block (a := ⟨g, off + i * 3 + 1, none⟩) hgb).trans (hcs _ _ e1)
        have c2 := (World.cell?_of_block (a := ⟨g, off + i * 3 + 2, none⟩) hgb).trans (hcs _ _ e2)
        have hdr := drop_getD hlt
        obtain ⟨uk, us1, un1, uc1, us2, un2, uc2, rfl, rfl, rfl⟩ := rxAt_formQ hu
        have hu' : RxAt Q (wr.alloc (.cells #[.int .i64 uk, .slice us1 un1 uc1, .slice us2 un2 uc2] 26)) (ks.getD i rx0) (.int .i64 uk) (.slice us1 un1 uc1) (.slice us2 un2 uc2) := rxAt_kept (Nat.le_trans hb.size (by simp)) (fun k _ hk => ((Below.heap_alloc wr _ k (Nat.lt_of_lt_of_le hk hb.size))).trans (hb.block k hk)) (fun k hk _ => hk) _ _ _ _ hu
        have hb2 : Below w.heap.size w (wr.alloc (.cells #[.int .i64 uk, .slice us1 un1 uc1, .slice us2 un2 uc2] 26)) := hb.alloc hb.size _
        rw [hdr] at hrl
        have Hb2 := hide hb2
        clear hb hgb e0 e1 e2 hu hcs hdr hb2 hqg
        by_cases hneg : q < 0
        · rw [roomL_neg _ _ _ hneg] at hrl
          have Hrl := hide hrl
          clear hrl hu' hsm
          go_wp2
          go_ret
          exact ⟨by rw [← unhide Hrl]; rfl, unhide Hb2⟩
        · have hnegd : decide (q < 0) = false := by simpa using hneg
          rw [roomL_cons, if_neg hneg] at hrl
          have hbd := room_bd _ q lv hsm (by omega) hq1
          have HC := hide (unhide Hih (ks.getD i rx0) _ _ _ _ q hu' hsm (by omega) hq1)
          generalize roomA (ks.getD i rx0) q lv = q2 at *
          have Hrl := hide hrl
          clear hrl hu' hsm hneg
          go_wp2_with fail
          refine (unhide HC).mono ?_
          rintro e3 w3 ⟨rfl, hb3⟩
          have Hb3 := hide ((unhide Hb2).trans (below_le hb3 (unhide Hb2).size))
          clear hb3
          go_wp2
          go_roundw
          case rel => exact ⟨i + 1, q2, by go_num, rfl, by omega, hbd.1, hbd.2, unhide Hrl, unhide Hb3⟩
          case measure => simp [intOf]; omega
      · obtain rfl : i = ks.length := by omega
        have hlt' : ¬ ((ks.length : Int) < ks.length) := by omega
        rw [List.drop_length] at hrl
        have Hrl := hide hrl
        have Hb := hide hb
        clear hrl hb
        go_wp2
        go_ret
        exact ⟨by rw [← unhide Hrl]; rfl, unhide Hb⟩
end Go.Proofs.YtkimhfajfbcdmaaGreatDoor

/- Plain mathematics on ranges. -/
namespace Go.Proofs.YtkimhfajfbcdmaaGreatDoor

/-- A range: its first number, its last. -/
abbrev Rng := Int × Int
/-- A range of runes. -/
def isR (x : Rng) : Bool := decide (0 ≤ x.1 ∧ x.1 ≤ x.2 ∧ x.2 ≤ 1114111)
/-- The range at i is a set's: of runes, and well above the one ahead. -/
def okAt (l : List Rng) (i : Nat) : Bool := isR (l.getD i (0, 0)) && (decide (i = 0) || decide ((l.getD (i - 1) (0, 0)).2 + 2 ≤ (l.getD i (0, 0)).1))
def okTo (l : List Rng) (n : Nat) : Prop := ∀ i, i < n → okAt l i = true
/-- Check's answer. -/
def rising (l : List Rng) : Bool := (List.range l.length).all (okAt l)
def checkV (l : List Rng) : Int := if rising l then (if 2048 < l.length then 21 else 0) else 20
theorem okTo_zero (l : List Rng) : okTo l 0 := fun i h => by omega
theorem okTo_succ {l : List Rng} {n : Nat} (h : okTo l n) (k : okAt l n = true) : okTo l (n + 1) := fun i hi => by
  by_cases e : i = n
  · subst e; exact k
  · exact h i (by omega)
theorem rising_iff (l : List Rng) : rising l = true ↔ okTo l l.length := by
  simp [rising, okTo]
theorem checkV_bad {l : List Rng} {n : Nat} (hn : n < l.length) (k : okAt l n = false) : checkV l = 20 := by
  have : rising l = false := by
    rw [Bool.eq_false_iff]; intro h
    have := (rising_iff l).1 h n hn
    rw [k] at this; cases this
  simp [checkV, this]
theorem checkV_long {l : List Rng} (h : okTo l l.length) (k : 2048 < l.length) : checkV l = 21 := by
  simp [checkV, (rising_iff l).2 h, k]
theorem checkV_ok {l : List Rng} (h : okTo l l.length) (k : ¬ 2048 < l.length) : checkV l = 0 := by
  simp [checkV, (rising_iff l).2 h, k]
theorem checkV_zero {l : List Rng} (h : checkV l = 0) : okTo l l.length ∧ l.length ≤ 2048 := by
  unfold checkV at h
  split at h
  · split at h
    · omega
    · exact ⟨(rising_iff l).1 ‹_›, by omega⟩
  · omega
theorem okAt_isR {l : List Rng} {i : Nat} (h : okAt l i = true) : 0 ≤ (l.getD i (0, 0)).1 ∧ (l.getD i (0, 0)).1 ≤ (l.getD i (0, 0)).2 ∧ (l.getD i (0, 0)).2 ≤ 1114111 := by
  simp only [okAt, isR, Bool.and_eq_true, decide_eq_true_eq] at h
  exact h.1
end Go.Proofs.YtkimhfajfbcdmaaGreatDoor

/- Contracts of isRange and both Checks. -/
namespace Go.Proofs.YtkimhfajfbcdmaaGreatDoor
open Go.RowKit


/-- A row of ranges lies there. -/
def RowAt (w : World) (a : Option Addr) (l : List Rng) : Prop :=
  l = [] ∨ ∃ b off, a = some ⟨b, off, none⟩ ∧ b < w.heap.size ∧ ∀ j, j < l.length → w.cell? ⟨b, off + j * 2, none⟩ = some (.int .i32 (l.getD j (0, 0)).1) ∧ w.cell? ⟨b, off + j * 2 + 1, none⟩ = some (.int .i32 (l.getD j (0, 0)).2)
theorem rowAt_below {w w' : World} {a : Option Addr} {l : List Rng} (h : RowAt w a l) {B : Nat} (hB : w.heap.size ≤ B) (hb : Below B w w') : RowAt w' a l := by
  rcases h with rfl | ⟨b, off, rfl, hlt, hc⟩
  · exact .inl rfl
  · refine .inr ⟨b, off, rfl, Nat.lt_of_lt_of_le hlt hb.size, fun j hj => ?_⟩
    rw [hb.cell (by show b < B; omega), hb.cell (by show b < B; omega)]
    exact hc j hj

set_option maxHeartbeats 1000000 in
theorem isRange_any (x y : Int) (w : World) :
    Calls Tryz.prog 24 #[.agg #[.int .i32 x, .int .i32 y]] w fun e w' => e = .returned (.bool (isR (x, y))) ∧ w' = w.alloc (.cells #[.int .i32 x, .int .i32 y] 45) := by
  by_cases h1 : 0 ≤ x
  · by_cases h2 : x ≤ y
    · go_enter Tryz.func24, Tryz.ntmps24
      go_wp2
      all_goals (go_ret; refine ⟨ret_bool ?_, rfl⟩; simp only [isR]; rw [Bool.eq_iff_iff]; simp; omega)
    · go_enter Tryz.func24, Tryz.ntmps24
      go_wp2
      all_goals (go_ret; refine ⟨ret_bool ?_, rfl⟩; simp only [isR]; rw [Bool.eq_iff_iff]; simp; omega)
  · go_enter Tryz.func24, Tryz.ntmps24
    go_wp2
    all_goals (go_ret; refine ⟨ret_bool ?_, rfl⟩; simp only [isR]; rw [Bool.eq_iff_iff]; simp; omega)
end Go.Proofs.YtkimhfajfbcdmaaGreatDoor

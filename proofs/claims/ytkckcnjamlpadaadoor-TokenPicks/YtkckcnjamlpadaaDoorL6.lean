/- The law TokenPicks, walked. -/
import Derived.Test.YtkckcnjamlpadaaDoorF3
namespace Go.Proofs.YtkckcnjamlpadaaDoor
open Go.RowKit Go.Maps

theorem nrow_own {w : World} {B : Nat} {v : Value} {l : List Int} (h : w.ownsRow B 3 1 v l.length (nums l)) : ∃ a cap, v = .slice a l.length cap ∧ NRow w a l := by
  rcases h.2 with ⟨rfl, h0⟩ | ⟨g, cap, cur, rfl, hg, hh, rest⟩
  · have : l = [] := List.eq_nil_of_length_eq_zero h0
    subst this
    exact ⟨none, 0, rfl, .inl rfl⟩
  · refine ⟨some ⟨g, 0, none⟩, cap, rfl, .inr ⟨g, 0, rfl, lt_of_some hh, fun j hj => ?_⟩⟩
    have e : (nums l)[j]? = some (.int .i64 (l.getD j 0)) := by
      unfold nums
      rw [List.getElem?_map, List.getElem?_eq_getElem hj, List.getD_eq_getElem?_getD, List.getElem?_eq_getElem hj]; rfl
    have c1 := h.cells (g := g) rfl _ _ e
    have ad : ∀ j, (⟨g, 0, none⟩ : Addr).add j = ⟨g, j, none⟩ := fun j => by unfold Addr.add; split <;> simp_all
    rw [ad] at c1
    rw [Nat.zero_add]
    exact c1
theorem onlyL_len (l : List T3) (ks : List Int) : (onlyL l ks).length ≤ l.length := List.length_filter_le _ _
theorem kindsOf_at (l : List T3) (j : Nat) (h : j < l.length) : (kindsOf l).getD j 0 = (l.getD j (0, 0, 0)).1 := by
  unfold kindsOf
  rw [List.getD_eq_getElem?_getD, List.getD_eq_getElem?_getD, List.getElem?_map, List.getElem?_eq_getElem h]; rfl
theorem kindsOf_len (l : List T3) : (kindsOf l).length = l.length := by simp [kindsOf]

set_option maxHeartbeats 4000000 in
set_option maxRecDepth 100000 in
theorem picks_walk (a b : Option Addr) (ca cb : Nat) (l : List T3) (ks : List Int) (hl : l.length * 24 ≤ 140737488351232) (hkl : ks.length * 8 ≤ 140737488351232) (hlo : ∀ j, j < l.length → okN (l.getD j (0, 0, 0)).1) (hko : ∀ j, j < ks.length → okN (ks.getD j 0)) (w : World) (h1 : TRow w a l) (h2 : NRow w b ks) (hE : Env w) :
    Calls Tryd.prog 6 #[.slice a l.length ca, .slice b ks.length cb] w fun e w' => e = .returned (.bool true) ∧ Below w.heap.size w w' := by
  have HR := hide (row_any a ca l hl w h1)
  have HO := hide (fun W (hb : Below w.heap.size w W) => only_any a b ca cb l ks hl hkl hlo hko W (trow_below h1 (Nat.le_refl _) hb) (nrow_below h2 (Nat.le_refl _) hb))
  have HQ := hide (fun W (hb : Below w.heap.size w W) => rOnly_any a b ca cb l ks hl hkl W (trow_below h1 (Nat.le_refl _) hb) (nrow_below h2 (Nat.le_refl _) hb))
  have H1 := hide h1; have HE := hide hE
  clear h1 h2 hE hlo hko
  have hol := onlyL_len l ks
  go_enter Tryd.func6, Tryd.ntmps6
  go_wp2_with fail
  refine (unhide HR).mono ?_
  rintro e w1 ⟨v, rfl, hown1, hb1⟩
  rw [← kindsOf_len l] at hown1
  obtain ⟨va, vc, rfl, hn1⟩ := nrow_own hown1
  have hkk := kindsOf_len l
  have hkk' : (((kindsOf l).length : Int) == (l.length : Int)) = true := by rw [beq_iff_eq]; omega
  have HO1 := hide (unhide HO w1 hb1)
  have Hn1 := hide hn1; have Hb1 := hide hb1
  clear hown1 hn1 hb1 HR HO
  go_wp2_with fail
  refine (unhide HO1).mono ?_
  rintro e w2 ⟨v2, rfl, hown2, hb2⟩
  have hB2 := (unhide Hb1).trans (hb2.mono (unhide Hb1).size)
  obtain ⟨ua, uc, rfl, ht2, -⟩ := trow_own hown2
  have HQ1 := hide (unhide HQ w2 hB2)
  have Hn2 := hide (nrow_below (unhide Hn1) (Nat.le_refl _) hb2)
  have Ht2 := hide ht2; have HB2 := hide hB2
  clear hown2 ht2 hb2 hB2 HO1 HQ Hn1 Hb1
  go_wp2_with fail
  refine (unhide HQ1).mono ?_
  rintro e w3 ⟨v3, rfl, hown3, hb3⟩
  have hB3 := (unhide HB2).trans (hb3.mono (unhide HB2).size)
  obtain ⟨xa, xc, rfl, ht3, -⟩ := trow_own hown3
  have HS := hide (same_any ua xa uc xc (onlyL l ks) (onlyL l ks) (by omega) w3 (trow_below (unhide Ht2) (Nat.le_refl _) hb3) ht3)
  rw [show decide (onlyL l ks = onlyL l ks) = true from decide_eq_true rfl] at HS
  have Hn3 := hide (nrow_below (unhide Hn2) (Nat.le_refl _) hb3)
  have HB3 := hide hB3
  clear hown3 ht3 hb3 hB3 HQ1 Hn2 Ht2 HB2
  go_wp2_with fail
  refine (unhide HS).mono ?_
  rintro e w4 ⟨rfl, hb4⟩
  have Hn4 := hide (nrow_below (unhide Hn3) (Nat.le_refl _) hb4)
  have HB4 := hide ((unhide HB3).trans (hb4.mono (unhide HB3).size))
  clear hb4 HS Hn3 HB3
  go_wp2
  go_loopw [26] (fun x wr => ∃ k : Nat, x = .int .i64 k ∧ k ≤ l.length ∧ Below w.heap.size w wr ∧ NRow wr va (kindsOf l)) (fun x _ => l.length - (intOf x).toNat)
  case atStart => exact ⟨0, rfl, Nat.zero_le _, unhide HB4, unhide Hn4⟩
  case round =>
    obtain ⟨k, rfl, hk, hbel, hn⟩ := hrel
    have hsz := hbel.size
    have Hbel := hide hbel; have Hn := hide hn
    clear hbel hn
    by_cases hlt : k < l.length
    · have hlt' : (k : Int) < l.length := by omega
      have hlt2 : (k : Int) < (kindsOf l).length := by omega
      obtain ⟨tb, toff, rfl, htb, hc⟩ := trow_pos (trow_below (unhide H1) (Nat.le_refl _) (unhide Hbel)) hlt
      obtain ⟨q0, -, -⟩ := hc k hlt
      obtain ⟨kb, ko, rfl, hkb, hc2⟩ := nrow_pos (unhide Hn) (show k < (kindsOf l).length by omega)
      have ck := hc2 k (by omega)
      rw [kindsOf_at l k hlt] at ck
      clear hc hc2
      generalize (l.getD k (0, 0, 0)).1 = x at *
      go_wp2
      go_quiet (fail)
      go_wp2
      go_roundw
      case rel => exact ⟨k + 1, by go_num, by omega, below_drewN (unhide Hbel) _, unhide Hn⟩
      case measure => simp [intOf]; omega
    · obtain rfl : k = l.length := by omega
      have hlt2 : ¬ (l.length : Int) < (kindsOf l).length := by omega
      have HR7 := hide (row_any (some ⟨wr.heap.size, 0, none⟩) 1 [(7, 0, 0)] (by simp) (wr.alloc (.cells #[.int .i64 7, .int .i64 0, .int .i64 0] 55)) (.inr ⟨wr.heap.size, 0, rfl, by simp, fun j hj => by
        have : j = 0 := by simp at hj; exact hj
        subst this
        exact ⟨cell_block (heap_new wr _) 0 _ rfl, cell_block (heap_new wr _) 1 _ rfl, cell_block (heap_new wr _) 2 _ rfl⟩⟩))
      have HB7 := hide ((unhide Hbel).alloc hsz (.cells #[.int .i64 7, .int .i64 0, .int .i64 0] 55))
      clear Hbel Hn
      go_wp2_with fail
      refine (unhide HR7).mono ?_
      rintro e w7 ⟨v7, rfl, hown7, hb7⟩
      obtain ⟨ya, yc, rfl⟩ := own_form hown7
      have hB7 := (unhide HB7).trans (hb7.mono (unhide HB7).size)
      have HA := hide (alive_any w7 (env_below (unhide HE) hB7))
      have HB8 := hide hB7
      simp only [List.length_cons, List.length_nil] at *
      clear hown7 hb7 hB7 HR7 HB7
      go_wp2_with fail
      refine (unhide HA).mono ?_
      rintro e w8 ⟨rfl, hb8⟩
      have HB9 := hide ((unhide HB8).trans (hb8.mono (unhide HB8).size))
      clear hb8 HA
      go_wp2
      go_ret
      exact ⟨rfl, unhide HB9⟩
end Go.Proofs.YtkckcnjamlpadaaDoor

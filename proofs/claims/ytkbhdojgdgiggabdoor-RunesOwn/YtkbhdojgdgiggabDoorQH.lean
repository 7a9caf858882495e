/- The law RunesOwn, walked. -/
import Derived.Test.YtkbhdojgdgiggabDoorQG
import Derived.Deep.CutRange
import Derived.Deep.DeepCutAuto
namespace Go.Proofs.YtkbhdojgdgiggabDoor
open Go.RowKit

theorem own_apart {w w0 : World} {B1 B2 e1 e2 s1 s2 n1 n2 : Nat} {v1 v2 : Value} {xs1 xs2 : List Value} (h1 : w.ownsRow B1 e1 s1 v1 n1 xs1) (h2 : w0.ownsRow B2 e2 s2 v2 n2 xs2) (hlt : w0.heap.size ≤ B1) : (v1.ownBlock = none ∨ v1.ownBlock ≠ v2.ownBlock) ∧ (v2.ownBlock = none ∨ v2.ownBlock ≠ v1.ownBlock) := by
  cases e : v1.ownBlock with
  | none =>
    refine ⟨.inl rfl, ?_⟩
    cases f : v2.ownBlock with
    | none => exact .inl rfl
    | some k => exact .inr (by simp)
  | some k =>
    have a1 := (h1.lt k e).1
    have hne : v2.ownBlock ≠ some k := fun f => by have := (h2.lt k f).2; omega
    exact ⟨.inr (fun h => hne h.symm), .inr hne⟩
theorem below_grown {B : Nat} {w w' : World} {row : Option Nat} (hg : w.grownBy w' row) (hB : B ≤ w.heap.size) (hr : ∀ k, row = some k → B ≤ k) : Below B w w' := (Below.refl B w).grown hg hB hr
theorem own_some {w : World} {B e s n c : Nat} {va : Option Addr} {xs : List Value} (h : w.ownsRow B e s (.slice va n c) n xs) (hn : 0 < n) : ∃ g, va = some ⟨g, 0, none⟩ := by
  rcases h.2 with ⟨h1, h2⟩ | ⟨g, cap', cur, h1, _⟩
  · omega
  · simp only [Value.slice.injEq] at h1; exact ⟨g, h1.1⟩
theorem same_self (a a2 : Option Addr) (cap cap2 : Nat) (l : List Rng) (hl : l.length ≤ 281474976710656) (w : World) (hrow : RowAt w a l) (hrow2 : RowAt w a2 l) :
    Calls Tryd.prog 16 #[.slice a l.length cap, .slice a2 l.length cap2] w fun e w' => e = .returned (.bool true) ∧ Below w.heap.size w w' :=
  (same_any a a2 cap cap2 l l hl hl w hrow hrow2).mono fun _ _ ⟨h1, h2⟩ => ⟨by rw [h1]; simp, h2⟩
theorem cutR_le (ls : List (List Rng)) : (cutR ls).length ≤ 2048 := by
  unfold cutR
  by_cases h : cutC ls = 0
  · rw [if_pos h]
    unfold cutC at h
    by_cases h1 : chkAll ls = 0
    · rw [if_pos h1] at h
      by_cases h2 : (startsL ls).length > 2048
      · rw [if_pos h2] at h; omega
      · omega
    · rw [if_neg h1] at h; exact absurd h h1
  · rw [if_neg h]; simp
theorem uniL_le (ls : List (List Rng)) : (uniL ls).length ≤ 2048 := by
  unfold uniL limL
  split
  · split
    · simp
    · omega
  · simp
theorem below_drew {B : Nat} {w w' : World} (q : Nat) (h : Below B w w') : Below B w (w'.drewN q) := ⟨h.os, h.tape, h.output, h.size, h.block⟩

set_option maxHeartbeats 16000000 in
set_option maxRecDepth 100000 in
theorem own_walk (a a2 : Option Addr) (cap cap2 : Nat) (n1 : a = none → cap = 0) (n2 : a2 = none → cap2 = 0) (l m : List Rng) (hl : l.length * 8 ≤ 140737488351232) (hm : m.length * 8 ≤ 140737488351232) (w : World) (hrow : RowAt w a l) (hrow2 : RowAt w a2 m) :
    Calls Tryd.prog 7 #[.slice a l.length cap, .slice a2 m.length cap2] w fun e w' => e = .returned (.bool true) ∧ Below w.heap.size w w' := by
  obtain ⟨i0, hi, hz0, hz1, hz2⟩ := info_parts hrange
  go_enter Tryd.func7, Tryd.ntmps7
  go_upto_region 1 with fail
  go_cut [5] (fun v wx => ∃ g c, v = .slice (some ⟨g, 0, none⟩) l.length c ∧ RowAt wx (some ⟨g, 0, none⟩) l ∧ Below w.heap.size w wx)
  case first =>
    cases a with
    | none =>
      obtain rfl : l = [] := by
        rcases hrow with h | ⟨b, off, h, _⟩
        · exact h
        · cases h
      obtain rfl := n1 rfl
      go_wp2_with fail
      go_meet
      case rel => exact ⟨w.heap.size, 0, rfl, .inl rfl, (Below.refl _ _).alloc (Nat.le_refl _) _⟩
    | some ad =>
      have Hcs := hide (row_cells (rowAt_below hrow (Nat.le_refl _) ((Below.refl _ w).alloc (Nat.le_refl _) (.cells #[] 53))))
      go_wp2_with (at_builtin; refine wpList_append_own _ rfl _ _ 22 rfl w.heap.size 53 i0 (.agg #[.int .i32 0, .int .i32 0]) 2 8 Tryd.underlying22 hi hz0 hz1 hz2 rfl (by decide) _ 0 [] rfl (World.ownsRow_made w #[] 0 (Nat.le_refl _) (Nat.zero_le _) (by simp)) ad l.length cap (flat l) rfl ?c1 ?c2 ?c3 ?c4 ?c5 ?c6 ?_)
      case c1 => exact flat_length _
      case c2 => exact unhide Hcs
      case c3 => exact flat_one _
      case c4 => unfold maxLen; omega
      case c5 => omega
      case c6 => simp
      intro v1 w1 hown1 hgrow1 hne1
      have hb1 : Below w.heap.size w w1 := ((Below.refl _ w).alloc (Nat.le_refl _) _).grown hgrow1 (by simp) (by intro k hk; simp [Value.ownBlock] at hk; omega)
      obtain ⟨va, vc, rfl⟩ := ownsRow_slice hown1
      have hr := rowAt_own hown1
      have hva : ∃ g, va = some ⟨g, 0, none⟩ := by
        rcases hown1.2 with ⟨h1, _⟩ | ⟨g, cap', cur, h1, _⟩
        · exact absurd h1 (by intro h; simp [h] at hne1)
        · simp only [Value.slice.injEq] at h1; exact ⟨g, h1.1⟩
      obtain ⟨g, rfl⟩ := hva
      clear hown1 hgrow1 hne1
      go_wp2_with fail
      go_meet
      case rel => exact ⟨g, vc, by simp, hr, hb1⟩
  case rest =>
    obtain ⟨g1, c1, rfl, hr1, hb1⟩ := hcut
    have hs1 := hb1.size
    have hr2 := rowAt_below hrow2 (Nat.le_refl _) hb1
    go_upto_region 2 with fail
    generalize wc = W at *
    go_cut [6] (fun v wx => ∃ g c, v = .slice (some ⟨g, 0, none⟩) m.length c ∧ RowAt wx (some ⟨g, 0, none⟩) m ∧ Below W.heap.size W wx)
    case first =>
      cases a2 with
      | none =>
        obtain rfl : m = [] := by
          rcases hr2 with h | ⟨b, off, h, _⟩
          · exact h
          · cases h
        obtain rfl := n2 rfl
        go_wp2_with fail
        go_meet
        case rel => exact ⟨W.heap.size, 0, rfl, .inl rfl, (Below.refl _ _).alloc (Nat.le_refl _) _⟩
      | some ad =>
        have Hcs := hide (row_cells (rowAt_below hr2 (Nat.le_refl _) ((Below.refl _ W).alloc (Nat.le_refl _) (.cells #[] 53))))
        go_wp2_with (at_builtin; refine wpList_append_own _ rfl _ _ 22 rfl W.heap.size 53 i0 (.agg #[.int .i32 0, .int .i32 0]) 2 8 Tryd.underlying22 hi hz0 hz1 hz2 rfl (by decide) _ 0 [] rfl (World.ownsRow_made W #[] 0 (Nat.le_refl _) (Nat.zero_le _) (by simp)) ad m.length cap2 (flat m) rfl ?c1 ?c2 ?c3 ?c4 ?c5 ?c6 ?_)
        case c1 => exact flat_length _
        case c2 => exact unhide Hcs
        case c3 => exact flat_one _
        case c4 => unfold maxLen; omega
        case c5 => omega
        case c6 => simp
        intro v1 w1 hown1 hgrow1 hne1
        have hb1 : Below W.heap.size W w1 := ((Below.refl _ W).alloc (Nat.le_refl _) _).grown hgrow1 (by simp) (by intro k hk; simp [Value.ownBlock] at hk; omega)
        obtain ⟨va, vc, rfl⟩ := ownsRow_slice hown1
        have hr := rowAt_own hown1
        have hva : ∃ g, va = some ⟨g, 0, none⟩ := by
          rcases hown1.2 with ⟨h1, _⟩ | ⟨g, cap', cur, h1, _⟩
          · exact absurd h1 (by intro h; simp [h] at hne1)
          · simp only [Value.slice.injEq] at h1; exact ⟨g, h1.1⟩
        obtain ⟨g, rfl⟩ := hva
        clear hown1 hgrow1 hne1
        go_wp2_with fail
        go_meet
        case rel => exact ⟨g, vc, by simp, hr, hb1⟩
    case rest =>
      obtain ⟨g2, c2, rfl, hr3, hb2⟩ := hcut
      have hs2 := hb2.size
      have q1 := rowAt_below hr1 (Nat.le_refl _) hb2
      have T0 := hb1.trans (below_le hb2 hs1)
      have hl' : l.length ≤ 281474976710656 := by omega
      have hm' : m.length ≤ 281474976710656 := by omega
      have hi8 : i0 = i0 := rfl
      clear hr1 hr2 hb1 hb2 hi hz0 hz1 hz2 hi8
      generalize wc = P at *
      have q2 := hr3
      clear hr3
      obtain ⟨U, hU⟩ : ∃ U, U = uniL [l, m] := ⟨_, rfl⟩
      obtain ⟨uc, hUc⟩ : ∃ uc, uc = uniC [l, m] := ⟨_, rfl⟩
      obtain ⟨V, hV⟩ : ∃ V, V = uniL [l] := ⟨_, rfl⟩
      obtain ⟨vcc, hVc⟩ : ∃ vcc, vcc = uniC [l] := ⟨_, rfl⟩
      obtain ⟨C, hC⟩ : ∃ C, C = cutR [l, m] := ⟨_, rfl⟩
      obtain ⟨cc, hCc⟩ : ∃ cc, cc = cutC [l, m] := ⟨_, rfl⟩
      have hUl : U.length ≤ 2048 ∧ V.length ≤ 2048 ∧ C.length ≤ 2048 := ⟨hU ▸ uniL_le _, hV ▸ uniL_le _, hC ▸ cutR_le _⟩
      have HF := hide (And.intro hU (And.intro hUc (And.intro hV (And.intro hVc (And.intro hC hCc)))))
      have HP := hide (And.intro q1 (And.intro q2 (And.intro T0 (And.intro hrow hrow2))))
      clear hU hUc hV hVc hC hCc q1 q2 T0 hrow hrow2
      have HH := hide (uni2 (unhide HF).1 (unhide HF).2.1 hl' hm' (some ⟨g1, 0, none⟩) (some ⟨g2, 0, none⟩) c1 c2 (by simp) (by simp) P (unhide HP).1 (unhide HP).2.1)
      go_wp2_with fail
      refine (unhide HH).mono ?_
      rintro e w1 ⟨xa, xc, rfl, hox, hbx⟩
      clear HH
      have t1 := hbx.size
      have T1 := hide hbx
      have HH := hide (uni2 (unhide HF).1 (unhide HF).2.1 hl' hm' (some ⟨g1, 0, none⟩) (some ⟨g2, 0, none⟩) c1 c2 (by simp) (by simp) w1 (rowAt_below (unhide HP).1 (Nat.le_refl _) (unhide T1)) (rowAt_below (unhide HP).2.1 (Nat.le_refl _) (unhide T1)))
      have HX := hide hox
      clear hox hbx
      go_wp2_with fail
      refine (unhide HH).mono ?_
      rintro e w2 ⟨ya, yc, rfl, hoy, hby⟩
      clear HH
      have t2 := hby.size
      have T2 := hide ((unhide T1).trans (below_le hby t1))
      have HX2 := hide (ownsRow_below (unhide HX) hby (Nat.le_refl _))
      have HY2 := hide hoy
      clear hoy hby
      go_wp2
      go_loopw [11] (fun t wr => ∃ (i : Nat) (xs : List Value), t = .int .i64 i ∧ i ≤ U.length ∧ wr.ownsRow (P.heap.size + 1) 53 2 (.slice xa U.length xc) U.length xs ∧ w2.grownBy wr (Value.slice xa U.length xc).ownBlock) (fun t _ => U.length - (intOf t).toNat)
      case atStart => exact ⟨0, _, rfl, by omega, unhide HX2, grown_refl _ _⟩
      case round =>
        obtain ⟨i, xs, rfl, hiU, hown, hgr⟩ := hrel
        by_cases hlt : i < U.length
        · have hlt' : (i : Int) < U.length := by omega
          obtain ⟨g, rfl⟩ := own_some hown (by omega)
          have hxs := hown.1
          have x0 : wr.cell? ⟨g, i * 2, none⟩ = some (xs.getD (i * 2) undef) := (hown.cellAt _ (by omega)).trans (by rw [List.getD_eq_getElem?_getD, List.getElem?_eq_getElem (by omega)]; rfl)
          have x1 : wr.cell? ⟨g, i * 2 + 1, none⟩ = some (xs.getD (i * 2 + 1) undef) := (hown.cellAt _ (by omega)).trans (by rw [List.getD_eq_getElem?_getD, List.getElem?_eq_getElem (by omega)]; rfl)
          have f0 : wr.frozen? ⟨g, i * 2, none⟩ = false := hown.frozenAt _
          have f1 : wr.frozen? ⟨g, i * 2 + 1, none⟩ = false := hown.frozenAt _
          have Hown := hide hown; have Hgr := hide hgr
          clear hown hgr
          go_wp2
          go_roundw
          case rel =>
            have s1 := (unhide Hown).stored (i * 2) (.int .i32 1)
            have s2 := s1.1.stored (i * 2 + 1) (.int .i32 1)
            exact ⟨i + 1, _, by go_num, by omega, s2.1, grown_t (unhide Hgr) (grown_t s1.2 s2.2)⟩
          case measure => simp [intOf]; omega
        · have hlt' : ¬ (i : Int) < U.length := by omega
          have t3 := hgr.size
          have T3 := hide ((unhide T2).trans (below_grown (B := P.heap.size) hgr (by omega) (fun k e => by have := ((unhide HX).lt k e).1; omega)))
          have HY3 := hide ((unhide HY2).kept hgr (own_apart (unhide HY2) (unhide HX) (by omega)).1)
          clear hown hgr HX2 HX HY2
          generalize wr = w3 at *
          have HH := hide (uni1 (unhide HF).2.2.1 (unhide HF).2.2.2.1 hl' (some ⟨g1, 0, none⟩) c1 (by simp) w3 (rowAt_below (unhide HP).1 (Nat.le_refl _) (unhide T3)))
          go_wp2_with fail
          refine (unhide HH).mono ?_
          rintro e w4 ⟨pa, pc, rfl, hop, hbp⟩
          clear HH
          have t4 := hbp.size
          have T4 := hide ((unhide T3).trans (below_le hbp (unhide T3).size))
          have HY4 := hide (ownsRow_below (unhide HY3) hbp (Nat.le_refl _))
          have HQ := hide hop
          clear hop hbp
          go_wp2
          go_loopw [14] (fun t wr => ∃ (i : Nat) (xs : List Value), t = .int .i64 i ∧ i ≤ V.length ∧ wr.ownsRow (w3.heap.size + 1) 53 2 (.slice pa V.length pc) V.length xs ∧ w4.grownBy wr (Value.slice pa V.length pc).ownBlock) (fun t _ => V.length - (intOf t).toNat)
          case atStart => exact ⟨0, _, rfl, by omega, unhide HQ, grown_refl _ _⟩
          case round =>
            obtain ⟨i, xs, rfl, hiV, hown, hgr⟩ := hrel
            by_cases hlt2 : i < V.length
            · have hlt2' : (i : Int) < V.length := by omega
              obtain ⟨g, rfl⟩ := own_some hown (by omega)
              have hxs := hown.1
              have x1 : wr.cell? ⟨g, i * 2 + 1, none⟩ = some (xs.getD (i * 2 + 1) undef) := (hown.cellAt _ (by omega)).trans (by rw [List.getD_eq_getElem?_getD, List.getElem?_eq_getElem (by omega)]; rfl)
              have f1 : wr.frozen? ⟨g, i * 2 + 1, none⟩ = false := hown.frozenAt _
              have Hown := hide hown; have Hgr := hide hgr
              clear hown hgr
              go_wp2
              go_roundw
              case rel =>
                have s2 := (unhide Hown).stored (i * 2 + 1) (.int .i32 5)
                exact ⟨i + 1, _, by go_num, by omega, s2.1, grown_t (unhide Hgr) s2.2⟩
              case measure => simp [intOf]; omega
            · have hlt2' : ¬ (i : Int) < V.length := by omega
              have t5 := hgr.size
              have T5 := hide ((unhide T4).trans (below_grown (B := P.heap.size) hgr (by omega) (fun k e => by have := ((unhide HQ).lt k e).1; have := (unhide T3).size; omega)))
              have HY5 := hide ((unhide HY4).kept hgr (own_apart (unhide HQ) (unhide HY3) (by omega)).2)
              clear hown hgr HQ HY4 HY3
              generalize wr = w5 at *
              have HH := hide (cut2 (unhide HF).2.2.2.2.1 (unhide HF).2.2.2.2.2 hl' hm' (some ⟨g1, 0, none⟩) (some ⟨g2, 0, none⟩) c1 c2 (by simp) (by simp) w5 (rowAt_below (unhide HP).1 (Nat.le_refl _) (unhide T5)) (rowAt_below (unhide HP).2.1 (Nat.le_refl _) (unhide T5)))
              go_wp2_with fail
              refine (unhide HH).mono ?_
              rintro e w6 ⟨ra, rcp, rfl, hor, hbr⟩
              clear HH
              have t6 := hbr.size
              have T6 := hide ((unhide T5).trans (below_le hbr (unhide T5).size))
              have HY6 := hide (ownsRow_below (unhide HY5) hbr (Nat.le_refl _))
              have HS := hide hor
              clear hor hbr
              go_wp2
              go_loopw [17] (fun t wr => ∃ (i : Nat) (xs : List Value), t = .int .i64 i ∧ i ≤ C.length ∧ wr.ownsRow (w5.heap.size + 1) 21 1 (.slice ra C.length rcp) C.length xs ∧ w6.grownBy wr (Value.slice ra C.length rcp).ownBlock) (fun t _ => C.length - (intOf t).toNat)
              case atStart => exact ⟨0, _, rfl, by omega, unhide HS, grown_refl _ _⟩
              case round =>
                obtain ⟨i, xs, rfl, hiC, hown, hgr⟩ := hrel
                by_cases hlt3 : i < C.length
                · have hlt3' : (i : Int) < C.length := by omega
                  obtain ⟨g, rfl⟩ := own_some hown (by omega)
                  have hxs := hown.1
                  have x1 : wr.cell? ⟨g, i, none⟩ = some (xs.getD i undef) := (hown.cellAt _ (by omega)).trans (by rw [List.getD_eq_getElem?_getD, List.getElem?_eq_getElem (by omega)]; rfl)
                  have f1 : wr.frozen? ⟨g, i, none⟩ = false := hown.frozenAt _
                  have Hown := hide hown; have Hgr := hide hgr
                  clear hown hgr
                  go_wp2
                  go_roundw
                  case rel =>
                    have s2 := (unhide Hown).stored i (.int .i32 77)
                    exact ⟨i + 1, _, by go_num, by omega, s2.1, grown_t (unhide Hgr) s2.2⟩
                  case measure => simp [intOf]; omega
                · have hlt3' : ¬ (i : Int) < C.length := by omega
                  have t7 := hgr.size
                  have T7 := hide ((unhide T6).trans (below_grown (B := P.heap.size) hgr (by have := (unhide T6).size; omega) (fun k e => by have := ((unhide HS).lt k e).1; have := (unhide T5).size; omega)))
                  have HY7 := hide ((unhide HY6).kept hgr (own_apart (unhide HS) (unhide HY5) (by omega)).2)
                  clear hown hgr HS HY6 HY5
                  generalize wr = w7 at *
                  have TW7 := hide ((unhide HP).2.2.1.trans (below_le (unhide T7) (unhide HP).2.2.1.size))
                  have HH := hide (runi2 (unhide HF).1 (unhide HF).2.1 hl' hm' a a2 cap cap2 n1 n2 w7 (rowAt_below (unhide HP).2.2.2.1 (Nat.le_refl _) (unhide TW7)) (rowAt_below (unhide HP).2.2.2.2 (Nat.le_refl _) (unhide TW7)))
                  go_wp2_with fail
                  refine (unhide HH).mono ?_
                  rintro e w8 ⟨za, zc, rfl, hoz, hbz⟩
                  clear HH
                  have t8 := hbz.size
                  have T8 := hide ((unhide T7).trans (below_le hbz (unhide T7).size))
                  have HY8 := hide (ownsRow_below (unhide HY7) hbz (Nat.le_refl _))
                  have HZ8 := hide hoz
                  clear hoz hbz HY7
                  have HH := hide (cut2 (unhide HF).2.2.2.2.1 (unhide HF).2.2.2.2.2 hl' hm' (some ⟨g1, 0, none⟩) (some ⟨g2, 0, none⟩) c1 c2 (by simp) (by simp) w8 (rowAt_below (unhide HP).1 (Nat.le_refl _) (unhide T8)) (rowAt_below (unhide HP).2.1 (Nat.le_refl _) (unhide T8)))
                  go_wp2_with fail
                  refine (unhide HH).mono ?_
                  rintro e w9 ⟨da, dc, rfl, hod, hbd⟩
                  clear HH
                  have t9 := hbd.size
                  have T9 := hide ((unhide T8).trans (below_le hbd (unhide T8).size))
                  have HY9 := hide (ownsRow_below (unhide HY8) hbd (Nat.le_refl _))
                  have HZ9 := hide (ownsRow_below (unhide HZ8) hbd (Nat.le_refl _))
                  have HD9 := hide hod
                  clear hod hbd HY8 HZ8
                  have TW9 := hide ((unhide HP).2.2.1.trans (below_le (unhide T9) (unhide HP).2.2.1.size))
                  have HH := hide (rcut2 (unhide HF).2.2.2.2.1 (unhide HF).2.2.2.2.2 hl' hm' a a2 cap cap2 n1 n2 w9 (rowAt_below (unhide HP).2.2.2.1 (Nat.le_refl _) (unhide TW9)) (rowAt_below (unhide HP).2.2.2.2 (Nat.le_refl _) (unhide TW9)))
                  go_wp2_with fail
                  refine (unhide HH).mono ?_
                  rintro e w10 ⟨ka, kc, rfl, hok, hbk⟩
                  clear HH
                  have t10 := hbk.size
                  have T10 := hide ((unhide T9).trans (below_le hbk (unhide T9).size))
                  have HY10 := hide (ownsRow_below (unhide HY9) hbk (Nat.le_refl _))
                  have HZ10 := hide (ownsRow_below (unhide HZ9) hbk (Nat.le_refl _))
                  have HD10 := hide (ownsRow_below (unhide HD9) hbk (Nat.le_refl _))
                  have HK10 := hide hok
                  clear hok hbk HY9 HZ9 HD9 TW9 TW7
                  go_wp2
                  go_loopw [24] (fun t wr => ∃ (i q : Nat), t = .int .i64 i ∧ i ≤ C.length ∧ wr = w10.drewN q) (fun t _ => C.length - (intOf t).toNat)
                  case atStart => exact ⟨0, 0, rfl, by omega, rfl⟩
                  case round =>
                    obtain ⟨i, q, rfl, hiC2, rfl⟩ := hrel
                    by_cases hlt4 : i < C.length
                    · have hlt4' : (i : Int) < C.length := by omega
                      obtain ⟨gd, rfl⟩ := own_some (unhide HD10) (by omega)
                      obtain ⟨gk, rfl⟩ := own_some (unhide HK10) (by omega)
                      have x1 := own_cells (unhide HD10) i hlt4
                      have x2 := own_cells (unhide HK10) i hlt4
                      generalize C.getD i 0 = ci at *
                      have hq : (ci != ci) = false := by simp
                      go_wp2
                      go_quiet (fail)
                      go_wp2
                      go_roundw
                      case rel => exact ⟨i + 1, _, by go_num, by omega, rfl⟩
                      case measure => simp [intOf]; omega
                    · have hlt4' : ¬ (i : Int) < C.length := by omega
                      have TE := hide (below_drew q ((unhide HP).2.2.1.trans (below_le (unhide T10) (unhide HP).2.2.1.size)))
                      have q1 : RowAt (w10.drewN q) (some ⟨g1, 0, none⟩) l := rowAt_below (unhide HP).1 (Nat.le_refl _) (below_drew q (unhide T10))
                      have q2 : RowAt (w10.drewN q) (some ⟨g2, 0, none⟩) m := rowAt_below (unhide HP).2.1 (Nat.le_refl _) (below_drew q (unhide T10))
                      have q3 : RowAt (w10.drewN q) a l := rowAt_below (unhide HP).2.2.2.1 (Nat.le_refl _) (unhide TE)
                      have q4 : RowAt (w10.drewN q) a2 m := rowAt_below (unhide HP).2.2.2.2 (Nat.le_refl _) (unhide TE)
                      have q5 : RowAt (w10.drewN q) ya U := rowAt_own (unhide HY10)
                      have q6 : RowAt (w10.drewN q) za U := rowAt_own (unhide HZ10)
                      have HR := hide (And.intro q2 (And.intro q4 (And.intro q5 q6)))
                      generalize w10.drewN q = E at *
                      have HH := hide (same_self (some ⟨g1, 0, none⟩) a c1 cap l hl' E q1 q3)
                      clear q1 q2 q3 q4 q5 q6 HY10 HZ10 HD10 HK10
                      go_wp2_with fail
                      refine (unhide HH).mono ?_
                      rintro e E1 ⟨rfl, hb1⟩
                      have B1 := hide hb1
                      have HH2 := hide (same_self (some ⟨g2, 0, none⟩) a2 c2 cap2 m hm' E1 (rowAt_below (unhide HR).1 (Nat.le_refl _) hb1) (rowAt_below (unhide HR).2.1 (Nat.le_refl _) hb1))
                      clear hb1 HH
                      go_wp2_with fail
                      refine (unhide HH2).mono ?_
                      rintro e E2 ⟨rfl, hb2⟩
                      have B2 := hide ((unhide B1).trans (below_le hb2 (unhide B1).size))
                      have HH3 := hide (same_self ya za yc zc U (by omega) E2 (rowAt_below (unhide HR).2.2.1 (Nat.le_refl _) (unhide B2)) (rowAt_below (unhide HR).2.2.2 (Nat.le_refl _) (unhide B2)))
                      clear hb2 HH2
                      go_wp2_with fail
                      refine (unhide HH3).mono ?_
                      rintro e E3 ⟨rfl, hb3⟩
                      have B3 := hide ((unhide B2).trans (below_le hb3 (unhide B2).size))
                      have HA := hide (awake_any E3)
                      have hqe : (uc == uc) = true := by simp
                      clear hb3 HH3
                      go_wp2_with fail
                      refine (unhide HA).mono ?_
                      rintro e E4 ⟨rfl, hb4⟩
                      go_wp2
                      go_ret
                      exact ⟨rfl, (unhide TE).trans (below_le ((unhide B3).trans (below_le hb4 (unhide B3).size)) (unhide TE).size)⟩
end Go.Proofs.YtkbhdojgdgiggabDoor

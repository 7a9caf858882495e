/- The law RunesWalks, walked. -/
import Derived.Test.YtkbhdojgdgiggabDoorW5
namespace Go.Proofs.YtkbhdojgdgiggabDoor
open Go.RowKit

attribute [local go_sem] Oper.semAt_some

theorem first_least {l : List Rng} {pre : List Int} {b x : Int} (h1 : [b] <+: runesL (keptL l)) (h2 : pre ++ [x] <+: runesL (keptL l)) : b ≤ x := by
  obtain ⟨t, ht⟩ := h1
  have hx : x ∈ runesL (keptL l) := h2.subset (by simp)
  have hr := runes_rise (kept_set l).2.1
  rw [← ht] at hx hr
  simp only [List.cons_append, List.nil_append, List.mem_cons, List.pairwise_cons] at hx hr
  rcases hx with rfl | hx
  · exact Int.le_refl _
  · exact Int.le_of_lt (hr.1 x hx)

set_option maxHeartbeats 8000000 in
set_option maxRecDepth 100000 in
theorem walks_some (ad : Addr) (cap : Nat) (l : List Rng) (hl : l.length * 8 ≤ 140737488351232) (leave : Int) (hlv : 0 ≤ leave ∧ leave ≤ 255) (w : World) (hrow : RowAt w (some ad) l) :
    Calls Tryd.prog 6 #[.slice (some ad) l.length cap, .int .u8 leave] w fun e w' => e = .returned (.bool true) ∧ Below w.heap.size w w' := by
  refine (callsIn_wide (n := 20)).1 ?_
  obtain ⟨i0, hi, hz0, hz1, hz2⟩ := info_parts hrange
  refine callsIn_of_wp_marks Tryd.func6 rfl trivial ?_ rfl
  simp only [Tryd.ntmps6, List.size_toArray, List.length_cons, List.length_nil, Nat.reduceAdd, Nat.reduceSub, Array.replicate_succ, Array.replicate_zero, List.push_toArray, List.append_toArray, List.nil_append, List.cons_append]
  have hBa : Below w.heap.size w (((w.alloc (.cells #[.slice (some ad) l.length cap] 22)).alloc (.cells #[.int .u8 leave] 5)).alloc (.cells #[.bool false] 4)) := (((Below.refl _ w).alloc (Nat.le_refl _) _).alloc (by simp) _).alloc (by simp; omega) _
  have hBb := hBa.alloc (by simp; omega) (.cells #[] 53)
  have Hc2 := hide (row_cells (rowAt_below hrow (Nat.le_refl _) hBb))
  have bS0 := (((Boxed.new w 22 (.slice (some ad) l.length cap)).alloc (.cells #[.int .u8 leave] 5)).alloc (.cells #[.bool false] 4)).alloc (.cells #[] 53)
  have bL0 := ((Boxed.new (w.alloc (.cells #[.slice (some ad) l.length cap] 22)) 5 (.int .u8 leave)).alloc (.cells #[.bool false] 4)).alloc (.cells #[] 53)
  have bR0 := (Boxed.new ((w.alloc (.cells #[.slice (some ad) l.length cap] 22)).alloc (.cells #[.int .u8 leave] 5)) 4 (.bool false)).alloc (.cells #[] 53)
  simp only [World.size_alloc] at bL0 bR0
  have Hb := hide hBb; have HS := hide bS0; have HL := hide bL0; have HR := hide bR0
  clear hBa hBb bS0 bL0 bR0
  gi_wp2_with (gi_at_builtin; (refine wpListIn_append_own _ rfl _ _ 22 rfl (w.heap.size + 1 + 1 + 1) 53 i0 (.agg #[.int .i32 0, .int .i32 0]) 2 8 Tryd.underlying22 hi hz0 hz1 hz2 rfl (by decide) _ 0 [] rfl ?c0 ad l.length cap (flat l) rfl ?c1 ?c2 ?c3 ?c4 ?c5 ?c6 ?_))
  case c0 =>
    have h := World.ownsRow_made (base := w.heap.size + 1 + 1 + 1) (e := 53) (size := 2) (((w.alloc (.cells #[.slice (some ad) l.length cap] 22)).alloc (.cells #[.int .u8 leave] 5)).alloc (.cells #[.bool false] 4)) #[] 0 (by simp only [World.size_alloc]; omega) (Nat.zero_le _) rfl
    simp only [World.size_alloc] at h
    exact h
  case c1 => exact flat_length _
  case c2 => exact unhide Hc2
  case c3 => exact flat_one _
  case c4 => unfold maxLen; omega
  case c5 => omega
  case c6 => simp
  intro v' w1 hown hgrow hnl
  have hnil : ¬ v' = .slice none 0 0 := fun h => by simp [h] at hnl
  have Hbe := hide ((unhide Hb).grown hgrow (unhide Hb).size (fun k e => by simp [Value.ownBlock] at e; omega))
  have HS1 := hide ((unhide HS).kept hgrow (by simp [Value.ownBlock] <;> omega))
  have HL1 := hide ((unhide HL).kept hgrow (by simp [Value.ownBlock] <;> omega))
  have HR1 := hide ((unhide HR).kept hgrow (by simp [Value.ownBlock] <;> omega))
  obtain ⟨va, vc, rfl⟩ := ownsRow_slice hown
  have HA := hide (all_any va vc l (by omega) w1 (rowAt_own hown))
  have hrow1 := rowAt_below hrow (Nat.le_refl _) (unhide Hbe)
  have Hrow1 := hide hrow1
  have hgl : ∃ g, va = some ⟨g, 0, none⟩ ∧ w.heap.size + 1 + 1 + 1 ≤ g ∧ g < w1.heap.size := by
    rcases hown.2 with ⟨e, _⟩ | ⟨g, cap', cur, e, hb, hh, _⟩
    · exact absurd e hnil
    · simp only [Value.slice.injEq] at e
      exact ⟨g, e.1, hb, (Array.getElem?_eq_some_iff.1 hh).1⟩
  obtain ⟨g, rfl, hg1, hg2⟩ := hgl
  have Hown := hide hown
  have Hrow0 := hide hrow
  clear hown hgrow HS HL HR Hb Hc2 hrow1 hrow hnil
  gi_wp2_with fail
  refine ⟨trivial, (callsIn_wide.2 (unhide HA)).mono ?_⟩
  rintro e w2 ⟨rfl, ⟨kv, bK, oK⟩, hb2⟩
  have hsz2 := hb2.size
  have HK := hide bK
  have HoK := hide oK
  have Hown2 := hide (ownsRow_below (unhide Hown) hb2 (Nat.le_refl _))
  have HS2 := hide (boxed_below (unhide HS1) (unhide HS1).lt hb2)
  have HL2 := hide (boxed_below (unhide HL1) (unhide HL1).lt hb2)
  have HR2 := hide (boxed_below (unhide HR1) (unhide HR1).lt hb2)
  have Hrow2 := hide (rowAt_below (unhide Hrow1) (Nat.le_refl _) hb2)
  have Hbe2 := hide ((unhide Hbe).trans (below_le hb2 (unhide Hbe).size))
  clear bK oK hb2 HS1 HL1 HR1 Hrow1 Hown HA
  have bW := Boxed.new w2 50 .nilFunc
  have cW := bW.cell
  have fW := bW.frozen
  have hq : ∀ w', (binOp .eql 50 (.func (.func 42) #[] #[.pointer (some ⟨w1.heap.size, 0, none⟩)]) .nilFunc).run Tryd.prog w' = .ok (.bool false) w' := fun w' => func_nil _ _ _ w'
  gi_wp2_with fail
  have HW := hide (Boxed.new w2 50 (.func (.func 42) #[] #[.pointer (some ⟨w1.heap.size, 0, none⟩)]))
  have HS3 := hide ((unhide HS2).alloc (.cells #[.func (.func 42) #[] #[.pointer (some ⟨w1.heap.size, 0, none⟩)]] 50))
  have HL3 := hide ((unhide HL2).alloc (.cells #[.func (.func 42) #[] #[.pointer (some ⟨w1.heap.size, 0, none⟩)]] 50))
  have HR3 := hide ((unhide HR2).alloc (.cells #[.func (.func 42) #[] #[.pointer (some ⟨w1.heap.size, 0, none⟩)]] 50))
  have HK3 := hide ((unhide HK).alloc (.cells #[.func (.func 42) #[] #[.pointer (some ⟨w1.heap.size, 0, none⟩)]] 50))
  have HoK3 := hide ((unhide HoK).alloc (.cells #[.func (.func 42) #[] #[.pointer (some ⟨w1.heap.size, 0, none⟩)]] 50))
  have Hown3 := hide ((unhide Hown2).alloc (.cells #[.func (.func 42) #[] #[.pointer (some ⟨w1.heap.size, 0, none⟩)]] 50))
  have Hbe3 := hide ((unhide Hbe2).alloc (unhide Hbe2).size (.cells #[.func (.func 42) #[] #[.pointer (some ⟨w1.heap.size, 0, none⟩)]] 50))
  have Hrow3 := hide (rowAt_below (unhide Hrow2) (Nat.le_refl _) ((Below.refl _ w2).alloc (Nat.le_refl _) (.cells #[.func (.func 42) #[] #[.pointer (some ⟨w1.heap.size, 0, none⟩)]] 50)))
  clear bW cW fW hq HS2 HL2 HR2 HK HoK Hown2 Hbe2 Hrow2
  generalize w2.alloc (.cells #[.func (.func 42) #[] #[.pointer (some ⟨w1.heap.size, 0, none⟩)]] 50) = w3 at *
  gi_loopw [7] (fun x wr => ∃ i : Nat, x = .int .i64 i ∧ i ≤ l.length ∧ OffG g w3 wr ∧ Below w.heap.size w wr ∧ ∃ xs, wr.ownsRow (w.heap.size + 1 + 1 + 1) 53 2 (.slice (some ⟨g, 0, none⟩) l.length vc) l.length xs) (fun x _ => l.length - (intOf x).toNat)
  case atStart => exact ⟨0, rfl, by omega, ⟨Nat.le_refl _, fun _ _ _ => rfl⟩, unhide Hbe3, _, unhide Hown3⟩
  case round =>
    obtain ⟨i, rfl, hi1, hoff, hbel, xs, hown⟩ := hrel
    by_cases hlt : i < l.length
    · have hlt' : (i : Int) < l.length := by omega
      have hxs := hown.1
      have c0 : wr.cell? ⟨g, i * 2, none⟩ = some (xs.getD (i * 2) undef) := (hown.cellAt _ (by omega)).trans (by rw [List.getD_eq_getElem?_getD, List.getElem?_eq_getElem (by omega)]; rfl)
      have c1 : wr.cell? ⟨g, i * 2 + 1, none⟩ = some (xs.getD (i * 2 + 1) undef) := (hown.cellAt _ (by omega)).trans (by rw [List.getD_eq_getElem?_getD, List.getElem?_eq_getElem (by omega)]; rfl)
      have f0 : wr.frozen? ⟨g, i * 2, none⟩ = false := hown.frozenAt _
      have f1 : wr.frozen? ⟨g, i * 2 + 1, none⟩ = false := hown.frozenAt _
      have Hoff := hide hoff; have Hbel := hide hbel; have Hown := hide hown
      clear hoff hbel hown
      gi_wp2
      go_roundw
      case rel =>
        have s1 := (unhide Hown).stored (i * 2) (.int .i32 7)
        have s2 := s1.1.stored (i * 2 + 1) (.int .i32 3)
        exact ⟨i + 1, by go_num, by omega, offG_t (unhide Hoff) (offG_t (offG_grown s1.2) (offG_grown s2.2)), (((unhide Hbel).setCell (p := ⟨g, i * 2, none⟩) (by show w.heap.size ≤ g; omega) _).setCell (p := ⟨g, i * 2 + 1, none⟩) (by show w.heap.size ≤ g; omega) _), _, s2.1⟩
      case measure => simp [intOf]; omega
    · obtain rfl : i = l.length := by omega
      have bS := boxed_off (unhide HS3) (by omega) hoff
      have bL := boxed_off (unhide HL3) (by omega) hoff
      have bR := boxed_off (unhide HR3) (by omega) hoff
      have bW := boxed_off (unhide HW) (by omega) hoff
      have bK := boxed_off (unhide HK3) (by omega) hoff
      have bW2 := (bW.alloc (.cells #[.int .i64 0] 3)).alloc (.cells #[.int .i32 (-1)] 21)
      have cW := bW2.cell
      clear hown
      gi_wp2_with fail
      have bS2 := (bS.alloc (.cells #[.int .i64 0] 3)).alloc (.cells #[.int .i32 (-1)] 21)
      have bL2 := (bL.alloc (.cells #[.int .i64 0] 3)).alloc (.cells #[.int .i32 (-1)] 21)
      have bR2 := (bR.alloc (.cells #[.int .i64 0] 3)).alloc (.cells #[.int .i32 (-1)] 21)
      have bK2 := (bK.alloc (.cells #[.int .i64 0] 3)).alloc (.cells #[.int .i32 (-1)] 21)
      have bN2 := (Boxed.new wr 3 (.int .i64 0)).alloc (.cells #[.int .i32 (-1)] 21)
      have bT2 := Boxed.new (wr.alloc (.cells #[.int .i64 0] 3)) 21 (.int .i32 (-1))
      simp only [World.size_alloc] at bT2
      have hB2 : Below w.heap.size w ((wr.alloc (.cells #[.int .i64 0] 3)).alloc (.cells #[.int .i32 (-1)] 21)) := (hbel.alloc hbel.size _).alloc (by have := hbel.size; simp; omega) _
      have hsz : ((wr.alloc (.cells #[.int .i64 0] 3)).alloc (.cells #[.int .i32 (-1)] 21)).heap.size = wr.heap.size + 2 := by simp
      have hkv : (kv = .slice none 0 0 ∧ keptL l = []) ∨ ∃ b c, kv = .slice (some ⟨b, 0, none⟩) (keptL l).length c ∧ w1.heap.size < b ∧ b < wr.heap.size ∧ ∀ j, j < (keptL l).length → ((wr.alloc (.cells #[.int .i64 0] 3)).alloc (.cells #[.int .i32 (-1)] 21)).cell? ⟨b, j * 2, none⟩ = some (.int .i32 ((keptL l).getD j (0, 0)).1) ∧ ((wr.alloc (.cells #[.int .i64 0] 3)).alloc (.cells #[.int .i32 (-1)] 21)).cell? ⟨b, j * 2 + 1, none⟩ = some (.int .i32 ((keptL l).getD j (0, 0)).2) := by
        rcases (unhide HoK3).2 with ⟨e1, e2⟩ | ⟨b, c, cur, e1, e2, e3, e4⟩
        · exact .inl ⟨e1, List.eq_nil_of_length_eq_zero e2⟩
        · have ho3 := unhide HoK3
          subst e1
          have hbl := (Array.getElem?_eq_some_iff.1 e3).1
          have hbw3 := hoff.1
          refine .inr ⟨b, c, rfl, by omega, by omega, fun j hj => ?_⟩
          have hcell : ∀ p v, p.block = b → w3.cell? p = some v → ((wr.alloc (.cells #[.int .i64 0] 3)).alloc (.cells #[.int .i32 (-1)] 21)).cell? p = some v := fun p v hp hv => by
            have hw : wr.heap[p.block]? = w3.heap[p.block]? := hoff.2 p.block (by omega) (by omega)
            have h1 : wr.cell? p = some v := by simp only [World.cell?] at hv ⊢; rw [hw]; exact hv
            exact (keep_below (O := fun _ => False) (((Below.refl _ wr).alloc (Nat.le_refl _) _).alloc (by simp) _)).2 p v (fun h => h) h1
          have hf := flat_at (keptL l) j hj
          exact ⟨hcell _ _ rfl ((ho3.cellAt _ (by omega)).trans hf.1), hcell _ _ rfl ((ho3.cellAt _ (by omega)).trans hf.2)⟩
      have hwr3 := bR.lt
      have hwr4 := bW.lt
      have hwr5 := bK.lt
      clear bS bL bR bW bK
      generalize hW0 : (wr.alloc (.cells #[.int .i64 0] 3)).alloc (.cells #[.int .i32 (-1)] 21) = W0 at *
      clear hW0
      have hwr := hbel.size
      have hrl := bR2.lt
      have hseq := all_stops Fence.wide 19 trivial rfl (by omega) w1.heap.size (fun k => k = wr.heap.size ∨ k = wr.heap.size + 1 ∨ k = w.heap.size + 1 + 1) kv (keptL l) (kept_set l).2.2 (kept_set l).1 W0 (fun o ho => by omega) (by have := bK2.lt; omega) bK2.cell
        (by
          rcases hkv with h | ⟨b, c, e1, e2, e3, e4⟩
          · exact .inl h
          · exact .inr ⟨b, 0, c, e1, by omega, by intro h; omega, fun j hj => by rw [Nat.zero_add]; exact e4 j hj⟩)
      refine wpIn_rangeFunc_ownH rfl (by omega) (gf := 42) (lb := #[.pointer (some ⟨w1.heap.size, 0, none⟩)]) rfl trivial (enters_of Tryd.func42 (by kernel_rfl) rfl) hseq keep_t keep_b (Below.refl _ _) (fun _ => rfl)
        (fun pre W => ((((pre.length ≤ leave.toNat ∧ Boxed W wr.heap.size 3 (.int .i64 (pre.length : Nat))) ∧ Boxed W (wr.heap.size + 1) 21 (.int .i32 (pre.getLast?.getD (-1)))) ∧ Boxed W (w.heap.size + 1 + 1) 4 (.bool false)) ∧ Off (fun k => k = wr.heap.size ∨ k = wr.heap.size + 1 ∨ k = w.heap.size + 1 + 1) W0 W) ∧ Below w.heap.size w W)
        (fun c pre W => (c = .ret ∧ ¬ pre <+: runesL (keptL l)) ∨ (((c = .exit 2 ∧ pre.length = leave.toNat + 1) ∧ Boxed W wr.heap.size 3 (.int .i64 leave)) ∧ Boxed W (w.heap.size + 1 + 1) 4 (.bool false)) ∧ Off (fun k => k = wr.heap.size ∨ k = wr.heap.size + 1 ∨ k = w.heap.size + 1 + 1) W0 W ∧ Below w.heap.size w W)
        (OwnFrom.and (OwnFrom.and (OwnFrom.and (OwnFrom.and (OwnFrom.and (ownFrom_pure _ _) (Own.from (boxed_own _ _ _) _)) (Own.from (boxed_own _ _ _) _)) (Own.from (boxed_own _ _ _) _)) (off_own _)) (ownFrom_below (Nat.le_refl _) (by omega)))
        (fun c s X Y row hs hg hr => by
          rcases hs with h | ⟨⟨⟨h1, h2⟩, h3⟩, h4, h5⟩
          · exact .inl h
          · exact .inr ⟨⟨⟨h1, Own.from (boxed_own (β := List Int) wr.heap.size 3 (fun _ => .int .i64 leave)) _ s X Y row h2 hg hr⟩, Own.from (boxed_own (β := List Int) (w.heap.size + 1 + 1) 4 (fun _ => .bool false)) _ s X Y row h3 hg hr⟩, off_own _ s X Y row h4 hg hr, ownFrom_below (Nat.le_refl _) (by omega) s X Y row h5 hg hr⟩)
        ⟨⟨⟨⟨⟨by simp, bN2⟩, bT2⟩, bR2⟩, off_refl _ _⟩, hB2⟩
        (fun x a' _ => a' = { tmps := #[.slice (some ad) l.length cap, .int .u8 leave, .pointer (some ⟨w.heap.size, 0, none⟩), .pointer (some ⟨w.heap.size + 1, 0, none⟩), .pointer (some ⟨w.heap.size + 1 + 1, 0, none⟩), .slice (some ⟨g, 0, none⟩) l.length vc, .pointer (some ⟨w2.heap.size, 0, none⟩), .int .i64 l.length, .pointer (some ⟨wr.heap.size, 0, none⟩), .pointer (some ⟨wr.heap.size + 1, 0, none⟩), .int .i32 x, undef, undef, undef, undef, .slice (some ⟨w.heap.size + 1 + 1 + 1, 0, none⟩) 0 0, .slice (some ad) l.length cap, .slice (some ⟨g, 0, none⟩) l.length vc, .slice (some ⟨g, 0, none⟩) l.length vc, .func (.func 42) #[] #[.pointer (some ⟨w1.heap.size, 0, none⟩)], .func (.func 42) #[] #[.pointer (some ⟨w1.heap.size, 0, none⟩)], .bool false, .int .i64 l.length, .slice (some ⟨g, 0, none⟩) l.length vc, .int .i64 l.length, .bool false, u26, u27, u28, u29, u30, u31, .func (.func 42) #[] #[.pointer (some ⟨w1.heap.size, 0, none⟩)], .int .i32 x, undef, undef, undef, undef, undef, undef, undef, undef, undef, undef, undef, undef, undef, undef, undef, undef, undef, undef, undef, undef, undef, undef, undef, undef, undef, undef, undef, undef, undef, undef, undef, undef, undef, undef, undef, undef, undef, undef, undef, undef, undef, undef, undef, undef], defers := [] })
        (fun _ _ _ _ _ _ hs _ _ => hs)
        ?assign ?body ?done ?stop
      case assign =>
        rintro l0 pre x W K hi hK
        gi_wp2
        exact hK _ _ (KeepsFrom.refl _ _) (keep_refl _ _) hi rfl
      case body =>
        rintro l0 pre x a' W hl0 _ ⟨⟨⟨⟨⟨hp, bN⟩, bT⟩, bR⟩, hoff2⟩, hB⟩ rfl hlt2
        have bL := boxed_offS bL2 (by intro h; omega) hoff2
        have bS := boxed_offS bS2 (by intro h; omega) hoff2
        have cN := bN.cell
        have fN := bN.frozen
        have cT := bT.cell
        have fT := bT.frozen
        have cR := bR.cell
        have fR := bR.frozen
        have cL := bL.cell
        have cS := bS.cell
        have HH := hide (rHas_any (some ad) cap l (by omega) x W (rowAt_below (unhide Hrow0) (Nat.le_refl _) hB))
        have Hnx := hide (fun h => next_rune (l := l) (pre := pre) (x := x) h)
        by_cases hn : (pre.length : Int) = leave
        · have hn' : ((pre.length : Int) == leave) = true := by simpa using hn
          gi_wp2
          exact ⟨KeepsFrom.refl _ _, .inr ⟨⟨⟨⟨rfl, by simp; omega⟩, hn ▸ bN⟩, bR⟩, hoff2, hB⟩⟩
        · have hn' : ((pre.length : Int) == leave) = false := by simpa using hn
          generalize pre.getLast?.getD (-1) = last at *
          by_cases hx : x ≤ last
          · gi_wp2
            refine ⟨trivial, ?_⟩
            gi_wp2
            exact ⟨(KeepsOthers.setCell _ _ _).from _, .inl ⟨rfl, fun h => by have := (unhide Hnx h).1; omega⟩⟩
          · cases hh : hasB l x
            · rw [hh] at HH
              gi_wp2_with fail
              refine ⟨trivial, (CallsIn.inRound l0 (callsIn_wide.2 (unhide HH))).mono ?_⟩
              rintro e w' ⟨rfl, hbw⟩
              have bR' := boxed_below bR bR.lt hbw
              have cR' := bR'.cell
              have fR' := bR'.frozen
              gi_wp2
              exact ⟨(keepsFrom_below hbw).trans ((KeepsOthers.setCell _ _ _).from _), .inl ⟨rfl, fun h => by have := (unhide Hnx h).2; simp [hh] at this⟩⟩
            · rw [hh] at HH
              gi_wp2_with fail
              refine ⟨trivial, (CallsIn.inRound l0 (callsIn_wide.2 (unhide HH))).mono ?_⟩
              rintro e w' ⟨rfl, hbw⟩
              have bT' := boxed_below bT bT.lt hbw
              have cT' := bT'.cell
              have fT' := bT'.frozen
              have bN' := boxed_below bN bN.lt hbw
              have bN1 := bN'.other (B' := wr.heap.size + 1) (by omega) (.int .i32 x)
              have cN1 := bN1.cell
              have fN1 := bN1.frozen
              have bR1 := (boxed_below bR bR.lt hbw).other (B' := wr.heap.size + 1) (by omega) (.int .i32 x)
              gi_wp2
              have ho := off_t (O := fun k => k = wr.heap.size ∨ k = wr.heap.size + 1 ∨ k = w.heap.size + 1 + 1) (off_below hbw) (off_t (off_set w' (wr.heap.size + 1) (.int .i32 x) (by simp)) (off_set _ wr.heap.size (.int .i64 ((pre.length : Int) + 1)) (by simp)))
              refine ⟨(keepsFrom_below hbw).trans (((KeepsOthers.setCell _ _ _).from _).trans ((KeepsOthers.setCell _ _ _).from _)), off_keep ho, ⟨⟨⟨⟨⟨by simp; omega, ?_⟩, ?_⟩, bR1.other (by omega) _⟩, off_t hoff2 ho⟩, ((hB.trans (below_le hbw hB.size)).setCell (p := ⟨wr.heap.size + 1, 0, none⟩) (by show w.heap.size ≤ wr.heap.size + 1; omega) _).setCell (p := ⟨wr.heap.size, 0, none⟩) (by show w.heap.size ≤ wr.heap.size; omega) _⟩⟩
              · have := bN1.set (.int .i64 ((pre.length : Int) + 1))
                simpa using this
              · have := (bT'.set (.int .i32 x)).other (B' := wr.heap.size) (by omega) (.int .i64 ((pre.length : Int) + 1))
                simpa using this
      case done =>
        rintro D xs W hD rfl ⟨⟨⟨⟨⟨hp, bN⟩, bT⟩, bR⟩, hoff2⟩, hB⟩ hK
        obtain ⟨nv, hnv, bN0⟩ : ∃ nv : Nat, nv = min leave.toNat (runesL (keptL l)).length ∧ Boxed W wr.heap.size 3 (.int .i64 nv) := ⟨_, by omega, bN⟩
        clear bN bT hp
        have bW1 := boxed_offS bW2 (by intro h; omega) hoff2
        have bK1 := boxed_offS bK2 (by intro h; omega) hoff2
        have bS1 := boxed_offS bS2 (by intro h; omega) hoff2
        have bL1 := boxed_offS bL2 (by intro h; omega) hoff2
        have hkW : (kv = .slice none 0 0 ∧ keptL l = []) ∨ ∃ b c, kv = .slice (some ⟨b, 0, none⟩) (keptL l).length c ∧ b < wr.heap.size ∧ ∀ j, j < (keptL l).length → W.cell? ⟨b, j * 2, none⟩ = some (.int .i32 ((keptL l).getD j (0, 0)).1) ∧ W.cell? ⟨b, j * 2 + 1, none⟩ = some (.int .i32 ((keptL l).getD j (0, 0)).2) := by
          rcases hkv with h | ⟨b, c, e1, e2, e3, e4⟩
          · exact .inl h
          · exact .inr ⟨b, c, e1, e3, fun j hj => ⟨(off_keep hoff2).2 _ _ (by intro h; simp only at h; omega) (e4 j hj).1, (off_keep hoff2).2 _ _ (by intro h; simp only at h; omega) (e4 j hj).2⟩⟩
        have hlW : wr.heap.size < W.heap.size := bN0.lt
        clear hseq hkv bW2 bK2 bS2 bL2 bN2 bT2 bR2
        have cW := (bW1.alloc (.cells #[.int .i64 0] 3)).cell
        gi_wp2_with fail
        have bN1 := bN0.alloc (.cells #[.int .i64 0] 3)
        have bR1 := bR.alloc (.cells #[.int .i64 0] 3)
        have bK3 := bK1.alloc (.cells #[.int .i64 0] 3)
        have bW3 := bW1.alloc (.cells #[.int .i64 0] 3)
        have bS3 := bS1.alloc (.cells #[.int .i64 0] 3)
        have bL3 := bL1.alloc (.cells #[.int .i64 0] 3)
        have bM1 := Boxed.new W 3 (.int .i64 0)
        have hK1 : (W.alloc (.cells #[.int .i64 0] 3)).heap[D]? = some (.deferred (some [])) := (Below.heap_alloc W _ D (Array.getElem?_eq_some_iff.1 hK).1).trans hK
        have hDl : D < W.heap.size := (Array.getElem?_eq_some_iff.1 hK).1
        have hB1 : Below w.heap.size w (W.alloc (.cells #[.int .i64 0] 3)) := hB.alloc hB.size _
        have hkX : ∀ X, Keep (fun k => k = W.heap.size) (W.alloc (.cells #[.int .i64 0] 3)) X → (kv = .slice none 0 0 ∧ keptL l = []) ∨ ∃ b off c, kv = .slice (some ⟨b, off, none⟩) (keptL l).length c ∧ b < X.heap.size ∧ ¬ (fun k => k = W.heap.size) b ∧ ∀ j, j < (keptL l).length → X.cell? ⟨b, off + j * 2, none⟩ = some (.int .i32 ((keptL l).getD j (0, 0)).1) ∧ X.cell? ⟨b, off + j * 2 + 1, none⟩ = some (.int .i32 ((keptL l).getD j (0, 0)).2) := fun X hX => by
          rcases hkW with h | ⟨b, c, e1, e2, e3⟩
          · exact .inl h
          · have h0 := (keep_below (O := fun k => k = W.heap.size) ((Below.refl _ W).alloc (Nat.le_refl _) (.cells #[.int .i64 0] 3)))
            have h1 := h0.1
            have h2 := hX.1
            exact .inr ⟨b, 0, c, e1, by omega, by intro h; omega, fun j hj => by
              rw [Nat.zero_add]
              exact ⟨hX.2 _ _ (by intro h; simp only at h; omega) (h0.2 _ _ (by intro h; simp only at h; omega) (e3 j hj).1), hX.2 _ _ (by intro h; simp only at h; omega) (h0.2 _ _ (by intro h; simp only at h; omega) (e3 j hj).2)⟩⟩
        have hszM : (W.alloc (.cells #[.int .i64 0] 3)).heap.size = W.heap.size + 1 := by simp
        generalize hW1 : W.alloc (.cells #[.int .i64 0] 3) = W1 at *
        clear hW1
        clear cW bW1 bK1 bS1 bL1 bN0 bR hkW
        have hseq2 := all_stops Fence.wide 19 trivial rfl (by omega) w1.heap.size (fun k => k = W.heap.size) kv (keptL l) (kept_set l).2.2 (kept_set l).1 W1 (fun o ho => by omega) (by have := bK3.lt; omega) bK3.cell (hkX W1 (keep_refl _ _))
        have hwW := hB1.size
        refine wpIn_rangeFunc_ownH rfl (by omega) (gf := 42) (lb := #[.pointer (some ⟨w1.heap.size, 0, none⟩)]) rfl trivial (enters_of Tryd.func42 (by kernel_rfl) rfl) hseq2 keep_t keep_b (Below.refl _ _) (fun _ => rfl)
          (fun pre X => ((pre.length ≤ 3 ∧ Boxed X W.heap.size 3 (.int .i64 (pre.length : Nat))) ∧ Off (fun k => k = W.heap.size) W1 X) ∧ Below w.heap.size w X)
          (fun c pre X => (c = .ret ∧ ¬ pre <+: runesL (keptL l)) ∨ (((c = .exit 4 ∧ pre.length = 4) ∧ Boxed X W.heap.size 3 (.int .i64 4)) ∧ Off (fun k => k = W.heap.size) W1 X ∧ Below w.heap.size w X))
          (OwnFrom.and (OwnFrom.and (OwnFrom.and (ownFrom_pure _ _) (Own.from (boxed_own _ _ _) _)) (off_own _)) (ownFrom_below (Nat.le_refl _) (by omega)))
          (fun c s X Y row hs hg hr => by
            rcases hs with h | ⟨⟨h1, h2⟩, h4, h5⟩
            · exact .inl h
            · exact .inr ⟨⟨h1, Own.from (boxed_own (β := List Int) W.heap.size 3 (fun _ => .int .i64 4)) _ s X Y row h2 hg hr⟩, off_own _ s X Y row h4 hg hr, ownFrom_below (Nat.le_refl _) (by omega) s X Y row h5 hg hr⟩)
          ⟨⟨⟨by simp, bM1⟩, off_refl _ _⟩, hB1⟩
          (fun x a' X => ∃ Bx, W.heap.size < Bx ∧ Boxed X Bx 21 (.int .i32 x) ∧ a' = { tmps := #[.slice (some ad) l.length cap, .int .u8 leave, .pointer (some ⟨w.heap.size, 0, none⟩), .pointer (some ⟨w.heap.size + 1, 0, none⟩), .pointer (some ⟨w.heap.size + 1 + 1, 0, none⟩), .slice (some ⟨g, 0, none⟩) l.length vc, .pointer (some ⟨w2.heap.size, 0, none⟩), .int .i64 l.length, .pointer (some ⟨wr.heap.size, 0, none⟩), .pointer (some ⟨wr.heap.size + 1, 0, none⟩), undef, .pointer (some ⟨W.heap.size, 0, none⟩), .pointer (some ⟨Bx, 0, none⟩), undef, undef, .slice (some ⟨w.heap.size + 1 + 1 + 1, 0, none⟩) 0 0, .slice (some ad) l.length cap, .slice (some ⟨g, 0, none⟩) l.length vc, .slice (some ⟨g, 0, none⟩) l.length vc, .func (.func 42) #[] #[.pointer (some ⟨w1.heap.size, 0, none⟩)], .func (.func 42) #[] #[.pointer (some ⟨w1.heap.size, 0, none⟩)], .bool false, .int .i64 l.length, .slice (some ⟨g, 0, none⟩) l.length vc, .int .i64 l.length, .bool false, u26, u27, u28, u29, u30, u31, .func (.func 42) #[] #[.pointer (some ⟨w1.heap.size, 0, none⟩)], undef, undef, undef, undef, undef, undef, undef, undef, undef, undef, undef, undef, undef, undef, undef, undef, undef, .func (.func 42) #[] #[.pointer (some ⟨w1.heap.size, 0, none⟩)], .int .i32 x, undef, undef, undef, undef, undef, undef, undef, undef, undef, undef, undef, undef, undef, undef, undef, undef, undef, undef, undef, undef, undef, undef, undef, undef, undef, undef], defers := [] })
          (fun x a' _ X Y row hs hg hr => by obtain ⟨Bx, h1, h2, h3⟩ := hs; exact ⟨Bx, h1, boxed_own Bx 21 (fun (_ : Unit) => Value.int .i32 x) () X Y row h2 hg (fun r e => (hr r e).2), h3⟩)
          ?assign2 ?body2 ?done2 ?stop2
        case assign2 =>
          rintro l0 pre x X K ⟨⟨⟨hp, bM⟩, ho⟩, hBX⟩ hK
          gi_wp2
          exact hK _ _ ((KeepsOthers.alloc _ _).from _) (keep_below ((Below.refl _ X).alloc (Nat.le_refl _) _)) ⟨⟨⟨hp, bM.alloc _⟩, off_t ho (off_below ((Below.refl _ X).alloc (Nat.le_refl _) _))⟩, hBX.alloc hBX.size _⟩ ⟨X.heap.size, bM.lt, Boxed.new X 21 _, rfl⟩
        case body2 =>
          rintro l0 pre x a' X hl0 ⟨r, hr⟩ ⟨⟨⟨hp, bM⟩, ho⟩, hBX⟩ ⟨Bx, hBx, bX, rfl⟩ hlt3
          have bW4 := boxed_offS bW3 (by intro h; omega) ho
          have bK4 := boxed_offS bK3 (by intro h; omega) ho
          have bR4 := boxed_offS bR1 (by intro h; omega) ho
          have cW := bW4.cell
          have hwX := hBX.size
          have hWX := ho.1
          gi_wp2_with fail
          have hseq3 := (all_stops Fence.wide 17 trivial rfl (by omega) w1.heap.size (fun _ => False) kv (keptL l) (kept_set l).2.2 (kept_set l).1 X (fun o h => h.elim) bK4.lt bK4.cell (by
            rcases hkX X (off_keep ho) with h | ⟨b, off, c, h1, h2, _, h3⟩
            · exact .inl h
            · exact .inr ⟨b, off, c, h1, h2, fun h => h, h3⟩)).inRound l0
          refine wpIn_rangeFunc_ownN (l₀ := l0) (r₀ := r) rfl hr (by omega) (gf := 42) (lb := #[.pointer (some ⟨w1.heap.size, 0, none⟩)]) rfl trivial (enters_of Tryd.func42 (by kernel_rfl) rfl) hseq3 keep_t keep_b (Below.refl _ _) (fun _ => rfl)
            (fun pre' Y => (pre' = [] ∧ Below X.heap.size X Y) ∧ KeepsFrom W1.heap.size X Y)
            (fun c pre' Y => ((c = .ret ∧ ∃ b, pre' = [b] ∧ x < b) ∧ KeepsFrom W1.heap.size X Y) ∨ ((c = .exit 6 ∧ Below X.heap.size X Y) ∧ KeepsFrom W1.heap.size X Y))
            (OwnFrom.and (OwnFrom.and (ownFrom_pure _ _) (ownFrom_below (Nat.le_refl _) (Nat.le_refl _))) (ownFrom_keepsFrom (Nat.le_refl _)))
            (fun c s Y Z row hs hg hr => by
              rcases hs with ⟨h1, h2⟩ | ⟨⟨h1, h2⟩, h3⟩
              · exact .inl ⟨h1, ownFrom_keepsFrom (Nat.le_refl _) s Y Z row h2 hg hr⟩
              · exact .inr ⟨⟨h1, ownFrom_below (Nat.le_refl _) (Nat.le_refl _) s Y Z row h2 hg hr⟩, ownFrom_keepsFrom (Nat.le_refl _) s Y Z row h3 hg hr⟩)
            ⟨⟨rfl, Below.refl _ _⟩, KeepsFrom.refl _ _⟩
            (fun y a'' Y => a'' = { tmps := #[.slice (some ad) l.length cap, .int .u8 leave, .pointer (some ⟨w.heap.size, 0, none⟩), .pointer (some ⟨w.heap.size + 1, 0, none⟩), .pointer (some ⟨w.heap.size + 1 + 1, 0, none⟩), .slice (some ⟨g, 0, none⟩) l.length vc, .pointer (some ⟨w2.heap.size, 0, none⟩), .int .i64 l.length, .pointer (some ⟨wr.heap.size, 0, none⟩), .pointer (some ⟨wr.heap.size + 1, 0, none⟩), undef, .pointer (some ⟨W.heap.size, 0, none⟩), .pointer (some ⟨Bx, 0, none⟩), .int .i32 y, undef, .slice (some ⟨w.heap.size + 1 + 1 + 1, 0, none⟩) 0 0, .slice (some ad) l.length cap, .slice (some ⟨g, 0, none⟩) l.length vc, .slice (some ⟨g, 0, none⟩) l.length vc, .func (.func 42) #[] #[.pointer (some ⟨w1.heap.size, 0, none⟩)], .func (.func 42) #[] #[.pointer (some ⟨w1.heap.size, 0, none⟩)], .bool false, .int .i64 l.length, .slice (some ⟨g, 0, none⟩) l.length vc, .int .i64 l.length, .bool false, u26, u27, u28, u29, u30, u31, .func (.func 42) #[] #[.pointer (some ⟨w1.heap.size, 0, none⟩)], undef, undef, undef, undef, undef, undef, undef, undef, undef, undef, undef, undef, undef, undef, undef, undef, undef, .func (.func 42) #[] #[.pointer (some ⟨w1.heap.size, 0, none⟩)], .int .i32 x, .func (.func 42) #[] #[.pointer (some ⟨w1.heap.size, 0, none⟩)], .int .i32 y, undef, undef, undef, undef, undef, undef, undef, undef, undef, undef, undef, undef, undef, undef, undef, undef, undef, undef, undef, undef, undef, undef, undef, undef], defers := [] })
            (fun _ _ _ _ _ _ hs _ _ => hs)
            ?assign3 ?body3 ?done3 ?stop3
          case assign3 =>
            rintro l2 pre' y Y K hi hK
            gi_wp2
            exact hK _ _ (KeepsFrom.refl _ _) (keep_refl _ _) hi rfl
          case body3 =>
            rintro l2 pre' y a'' Y _ _ ⟨⟨rfl, hBY⟩, hKF⟩ rfl _
            have bX2 := boxed_below bX bX.lt hBY
            have cX := bX2.cell
            have bR5 := boxed_below bR4 bR4.lt hBY
            have cR := bR5.cell
            have fR := bR5.frozen
            have hKF' := hKF
            rw [hszM] at hKF'
            by_cases hyx : y > x
            · gi_wp2
              first
                | exact ⟨(KeepsOthers.setCell _ _ _).from _, .inl ⟨⟨rfl, y, rfl, hyx⟩, hKF.trans ((KeepsOthers.setCell _ _ _).from _)⟩⟩
                | exact ⟨(KeepsOthers.setCell _ _ _).from _, .inl ⟨⟨rfl, y, rfl, hyx⟩, hKF'.trans ((KeepsOthers.setCell _ _ _).from _)⟩⟩
            · gi_wp2
              first
                | exact ⟨KeepsFrom.refl _ _, .inr ⟨⟨rfl, hBY⟩, hKF⟩⟩
                | exact ⟨KeepsFrom.refl _ _, .inr ⟨⟨rfl, hBY⟩, hKF'⟩⟩
          case done3 =>
            rintro xs Y hS ⟨⟨rfl, _⟩, _⟩
            rw [← hS] at hlt3
            simp at hlt3
          case stop3 =>
            rintro c pre' Y hpre' (⟨⟨rfl, b, rfl, hb⟩, hkf⟩ | ⟨⟨rfl, hBY⟩, hkf⟩)
            · gi_wp2
              exact ⟨hkf, .inl ⟨rfl, fun h => by have := first_least hpre' h; omega⟩⟩
            · have bM2 := boxed_below bM bM.lt hBY
              have cM := bM2.cell
              have fM := bM2.frozen
              have hoY : Off (fun k => k = W.heap.size) X (Y.setCell ⟨W.heap.size, 0, none⟩ (.int .i64 ((pre.length : Int) + 1))) := off_t (off_below hBY) (off_set Y W.heap.size _ rfl)
              have hbY : Below w.heap.size w (Y.setCell ⟨W.heap.size, 0, none⟩ (.int .i64 ((pre.length : Int) + 1))) := (hBX.trans (below_le hBY hBX.size)).setCell (p := ⟨W.heap.size, 0, none⟩) (by show w.heap.size ≤ W.heap.size; omega) _
              have bM3 := bM2.set (.int .i64 ((pre.length : Int) + 1))
              have cM3 := bM3.cell
              by_cases h3 : (pre.length : Int) + 1 > 3
              · gi_wp2
                exact ⟨hkf.trans ((KeepsOthers.setCell _ _ _).from _), .inr ⟨⟨⟨rfl, by simp; omega⟩, by rw [show (pre.length : Int) + 1 = 4 by omega] at bM3 ⊢; exact bM3⟩, off_t ho hoY, hbY⟩⟩
              · rw [hszM] at hkf
                gi_wp2
                exact ⟨hkf.trans ((KeepsOthers.setCell _ _ _).from _), off_keep hoY, ⟨⟨⟨by simp; omega, by simpa using bM3⟩, off_t ho hoY⟩, hbY⟩⟩
        case done2 =>
          rintro D2 xs X hD2 rfl ⟨⟨⟨hp2, bM⟩, ho⟩, hBX⟩ hK2
          obtain ⟨mv, hmv, bM0⟩ : ∃ mv : Nat, mv = min (runesL (keptL l)).length 4 ∧ Boxed X W.heap.size 3 (.int .i64 mv) := ⟨_, by omega, bM⟩
          clear bM hp2
          have bN5 := boxed_offS bN1 (by intro h; omega) ho
          have bR5 := boxed_offS bR1 (by intro h; omega) ho
          have bS5 := boxed_offS bS3 (by intro h; omega) ho
          have bL5 := boxed_offS bL3 (by intro h; omega) ho
          have hK5 : X.heap[D]? = some (.deferred (some [])) := (ho.2 D (by omega) (by omega)).trans hK1
          have hXW := ho.1
          have hXw := hBX.size
          have HSz := hide (rSize_any (some ad) cap l (by omega) X (rowAt_below (unhide Hrow0) (Nat.le_refl _) hBX))
          have hNs := runes_size l
          have cS := bS5.cell
          clear bK3 bW3 bS3 bL3 bR1 bN1 hkX hseq2 hK1 bM1
          gi_wp2_with fail
          refine ⟨trivial, (callsIn_wide.2 (unhide HSz)).mono ?_⟩
          rintro e X1 ⟨rfl, hb1⟩
          have bN6 := boxed_below bN5 bN5.lt hb1
          have bL6 := boxed_below bL5 bL5.lt hb1
          have bM6 := boxed_below bM0 bM0.lt hb1
          have cN := bN6.cell
          have cL := bL6.cell
          have cM := bM6.cell
          have hX1 := hb1.size
          have HA := hide (awake_any X1)
          have hsv : 0 ≤ sizeV l := by rw [← hNs]; omega
          have q1 : ((nv : Int) == min leave (sizeV l)) = true := by rw [beq_iff_eq, ← hNs]; omega
          have q2 : ((mv : Int) == min (sizeV l) 4) = true := by rw [beq_iff_eq, ← hNs]; omega
          generalize sizeV l = sv at *
          gi_wp2_with fail
          refine ⟨trivial, (callsIn_wide.2 (unhide HA)).mono ?_⟩
          rintro e X2 ⟨rfl, hb2⟩
          have bR6 := boxed_below bR5 bR5.lt hb1
          have bR7 := boxed_below bR6 bR6.lt hb2
          have cR := bR7.cell
          have fR := bR7.frozen
          have hX2 := hb2.size
          have hD2l : D2 < X.heap.size := (Array.getElem?_eq_some_iff.1 hK2).1
          have hK6 : X2.heap[D]? = some (.deferred (some [])) := (hb2.block D (by omega)).trans ((hb1.block D (by omega)).trans hK5)
          have hK7 : X2.heap[D2]? = some (.deferred (some [])) := (hb2.block D2 (by omega)).trans ((hb1.block D2 (by omega)).trans hK2)
          have hK8 : (X2.setCell ⟨w.heap.size + 1 + 1, 0, none⟩ (.bool true)).heap[D2]? = some (.deferred (some [])) := ((grownBy_setCell' X2 (w.heap.size + 1 + 1) (.bool true)).block D2 (by omega) (by intro h; cases h; omega)).trans hK7
          have hK9 : ((X2.setCell ⟨w.heap.size + 1 + 1, 0, none⟩ (.bool true)).putObj D2 (.deferred none)).heap[D]? = some (.deferred (some [])) := ((grownBy_putObj' _ D2 (.deferred none)).block D (by have := (grownBy_setCell' X2 (w.heap.size + 1 + 1) (.bool true)).size; omega) (by intro h; cases h; omega)).trans (((grownBy_setCell' X2 (w.heap.size + 1 + 1) (.bool true)).block D (by omega) (by intro h; cases h; omega)).trans hK6)
          have hB9 : Below w.heap.size w (X2.setCell ⟨w.heap.size + 1 + 1, 0, none⟩ (.bool true)) := (hBX.trans (below_le (hb1.trans (below_le hb2 hX1)) hXw)).setCell (p := ⟨w.heap.size + 1 + 1, 0, none⟩) (by show w.heap.size ≤ w.heap.size + 1 + 1; omega) _
          gi_wp2
          refine ⟨by simp, .inl ⟨_, _, rfl, run_takeDeferred hK8, ?_⟩⟩
          refine ⟨by simp, .inl ⟨_, _, rfl, run_takeDeferred hK9, ?_⟩⟩
          have bF := ((bR7.set (.bool true)).kept (grownBy_putObj' _ D2 (.deferred none)) (by intro h; cases h; omega)).kept (grownBy_putObj' _ D (.deferred none)) (by intro h; cases h; omega)
          have cF := bF.cell
          refine ⟨.bool true, ?_, rfl, ?_⟩
          · have hres : Tryd.f6.results = #[.cell 4 4] := by kernel_rfl
            simp only [results, hres]
            go_simp
          · exact (hB9.trans (belowK_b (w := w) (Nat.le_refl _) _ D2 _ _ (by omega) hK8 rfl rfl)).trans (belowK_b (w := w) (Nat.le_refl _) _ D _ _ (by omega) hK9 rfl rfl)
        case stop2 =>
          rintro D2 c pre X hD2 hpre2 hIx2 hK2
          rcases hIx2 with ⟨_, hno⟩ | ⟨⟨⟨rfl, hpl2⟩, bM⟩, ho, hBX⟩
          · exact absurd hpre2 hno
          · obtain ⟨mv, hmv, bM0⟩ : ∃ mv : Nat, mv = min (runesL (keptL l)).length 4 ∧ Boxed X W.heap.size 3 (.int .i64 mv) := ⟨4, by have := hpre2.length_le; omega, bM⟩
            clear bM hpl2 hpre2
            have bN5 := boxed_offS bN1 (by intro h; omega) ho
            have bR5 := boxed_offS bR1 (by intro h; omega) ho
            have bS5 := boxed_offS bS3 (by intro h; omega) ho
            have bL5 := boxed_offS bL3 (by intro h; omega) ho
            have hK5 : X.heap[D]? = some (.deferred (some [])) := (ho.2 D (by omega) (by omega)).trans hK1
            have hXW := ho.1
            have hXw := hBX.size
            have HSz := hide (rSize_any (some ad) cap l (by omega) X (rowAt_below (unhide Hrow0) (Nat.le_refl _) hBX))
            have hNs := runes_size l
            have cS := bS5.cell
            clear bK3 bW3 bS3 bL3 bR1 bN1 hkX hseq2 hK1 bM1
            gi_wp2_with fail
            refine ⟨trivial, (callsIn_wide.2 (unhide HSz)).mono ?_⟩
            rintro e X1 ⟨rfl, hb1⟩
            have bN6 := boxed_below bN5 bN5.lt hb1
            have bL6 := boxed_below bL5 bL5.lt hb1
            have bM6 := boxed_below bM0 bM0.lt hb1
            have cN := bN6.cell
            have cL := bL6.cell
            have cM := bM6.cell
            have hX1 := hb1.size
            have HA := hide (awake_any X1)
            have hsv : 0 ≤ sizeV l := by rw [← hNs]; omega
            have q1 : ((nv : Int) == min leave (sizeV l)) = true := by rw [beq_iff_eq, ← hNs]; omega
            have q2 : ((mv : Int) == min (sizeV l) 4) = true := by rw [beq_iff_eq, ← hNs]; omega
            generalize sizeV l = sv at *
            gi_wp2_with fail
            refine ⟨trivial, (callsIn_wide.2 (unhide HA)).mono ?_⟩
            rintro e X2 ⟨rfl, hb2⟩
            have bR6 := boxed_below bR5 bR5.lt hb1
            have bR7 := boxed_below bR6 bR6.lt hb2
            have cR := bR7.cell
            have fR := bR7.frozen
            have hX2 := hb2.size
            have hD2l : D2 < X.heap.size := (Array.getElem?_eq_some_iff.1 hK2).1
            have hK6 : X2.heap[D]? = some (.deferred (some [])) := (hb2.block D (by omega)).trans ((hb1.block D (by omega)).trans hK5)
            have hK7 : X2.heap[D2]? = some (.deferred (some [])) := (hb2.block D2 (by omega)).trans ((hb1.block D2 (by omega)).trans hK2)
            have hK8 : (X2.setCell ⟨w.heap.size + 1 + 1, 0, none⟩ (.bool true)).heap[D2]? = some (.deferred (some [])) := ((grownBy_setCell' X2 (w.heap.size + 1 + 1) (.bool true)).block D2 (by omega) (by intro h; cases h; omega)).trans hK7
            have hK9 : ((X2.setCell ⟨w.heap.size + 1 + 1, 0, none⟩ (.bool true)).putObj D2 (.deferred none)).heap[D]? = some (.deferred (some [])) := ((grownBy_putObj' _ D2 (.deferred none)).block D (by have := (grownBy_setCell' X2 (w.heap.size + 1 + 1) (.bool true)).size; omega) (by intro h; cases h; omega)).trans (((grownBy_setCell' X2 (w.heap.size + 1 + 1) (.bool true)).block D (by omega) (by intro h; cases h; omega)).trans hK6)
            have hB9 : Below w.heap.size w (X2.setCell ⟨w.heap.size + 1 + 1, 0, none⟩ (.bool true)) := (hBX.trans (below_le (hb1.trans (below_le hb2 hX1)) hXw)).setCell (p := ⟨w.heap.size + 1 + 1, 0, none⟩) (by show w.heap.size ≤ w.heap.size + 1 + 1; omega) _
            gi_wp2
            refine ⟨by simp, .inl ⟨_, _, rfl, run_takeDeferred hK8, ?_⟩⟩
            refine ⟨by simp, .inl ⟨_, _, rfl, run_takeDeferred hK9, ?_⟩⟩
            have bF := ((bR7.set (.bool true)).kept (grownBy_putObj' _ D2 (.deferred none)) (by intro h; cases h; omega)).kept (grownBy_putObj' _ D (.deferred none)) (by intro h; cases h; omega)
            have cF := bF.cell
            refine ⟨.bool true, ?_, rfl, ?_⟩
            · have hres : Tryd.f6.results = #[.cell 4 4] := by kernel_rfl
              simp only [results, hres]
              go_simp
            · exact (hB9.trans (belowK_b (w := w) (Nat.le_refl _) _ D2 _ _ (by omega) hK8 rfl rfl)).trans (belowK_b (w := w) (Nat.le_refl _) _ D _ _ (by omega) hK9 rfl rfl)
      case stop =>
        rintro D c pre W hD hpre hIx hK
        rcases hIx with ⟨_, hno⟩ | ⟨⟨⟨⟨rfl, hpl⟩, bN⟩, bR⟩, hoff2, hB⟩
        · exact absurd hpre hno
        · obtain ⟨nv, hnv, bN0⟩ : ∃ nv : Nat, nv = min leave.toNat (runesL (keptL l)).length ∧ Boxed W wr.heap.size 3 (.int .i64 nv) := ⟨leave.toNat, by have := hpre.length_le; omega, by rw [Int.toNat_of_nonneg hlv.1]; exact bN⟩
          clear bN hpl hpre
          have bW1 := boxed_offS bW2 (by intro h; omega) hoff2
          have bK1 := boxed_offS bK2 (by intro h; omega) hoff2
          have bS1 := boxed_offS bS2 (by intro h; omega) hoff2
          have bL1 := boxed_offS bL2 (by intro h; omega) hoff2
          have hkW : (kv = .slice none 0 0 ∧ keptL l = []) ∨ ∃ b c, kv = .slice (some ⟨b, 0, none⟩) (keptL l).length c ∧ b < wr.heap.size ∧ ∀ j, j < (keptL l).length → W.cell? ⟨b, j * 2, none⟩ = some (.int .i32 ((keptL l).getD j (0, 0)).1) ∧ W.cell? ⟨b, j * 2 + 1, none⟩ = some (.int .i32 ((keptL l).getD j (0, 0)).2) := by
            rcases hkv with h | ⟨b, c, e1, e2, e3, e4⟩
            · exact .inl h
            · exact .inr ⟨b, c, e1, e3, fun j hj => ⟨(off_keep hoff2).2 _ _ (by intro h; simp only at h; omega) (e4 j hj).1, (off_keep hoff2).2 _ _ (by intro h; simp only at h; omega) (e4 j hj).2⟩⟩
          have hlW : wr.heap.size < W.heap.size := bN0.lt
          clear hseq hkv bW2 bK2 bS2 bL2 bN2 bT2 bR2
          have cW := (bW1.alloc (.cells #[.int .i64 0] 3)).cell
          gi_wp2_with fail
          have bN1 := bN0.alloc (.cells #[.int .i64 0] 3)
          have bR1 := bR.alloc (.cells #[.int .i64 0] 3)
          have bK3 := bK1.alloc (.cells #[.int .i64 0] 3)
          have bW3 := bW1.alloc (.cells #[.int .i64 0] 3)
          have bS3 := bS1.alloc (.cells #[.int .i64 0] 3)
          have bL3 := bL1.alloc (.cells #[.int .i64 0] 3)
          have bM1 := Boxed.new W 3 (.int .i64 0)
          have hK1 : (W.alloc (.cells #[.int .i64 0] 3)).heap[D]? = some (.deferred (some [])) := (Below.heap_alloc W _ D (Array.getElem?_eq_some_iff.1 hK).1).trans hK
          have hDl : D < W.heap.size := (Array.getElem?_eq_some_iff.1 hK).1
          have hB1 : Below w.heap.size w (W.alloc (.cells #[.int .i64 0] 3)) := hB.alloc hB.size _
          have hkX : ∀ X, Keep (fun k => k = W.heap.size) (W.alloc (.cells #[.int .i64 0] 3)) X → (kv = .slice none 0 0 ∧ keptL l = []) ∨ ∃ b off c, kv = .slice (some ⟨b, off, none⟩) (keptL l).length c ∧ b < X.heap.size ∧ ¬ (fun k => k = W.heap.size) b ∧ ∀ j, j < (keptL l).length → X.cell? ⟨b, off + j * 2, none⟩ = some (.int .i32 ((keptL l).getD j (0, 0)).1) ∧ X.cell? ⟨b, off + j * 2 + 1, none⟩ = some (.int .i32 ((keptL l).getD j (0, 0)).2) := fun X hX => by
            rcases hkW with h | ⟨b, c, e1, e2, e3⟩
            · exact .inl h
            · have h0 := (keep_below (O := fun k => k = W.heap.size) ((Below.refl _ W).alloc (Nat.le_refl _) (.cells #[.int .i64 0] 3)))
              have h1 := h0.1
              have h2 := hX.1
              exact .inr ⟨b, 0, c, e1, by omega, by intro h; omega, fun j hj => by
                rw [Nat.zero_add]
                exact ⟨hX.2 _ _ (by intro h; simp only at h; omega) (h0.2 _ _ (by intro h; simp only at h; omega) (e3 j hj).1), hX.2 _ _ (by intro h; simp only at h; omega) (h0.2 _ _ (by intro h; simp only at h; omega) (e3 j hj).2)⟩⟩
          have hszM : (W.alloc (.cells #[.int .i64 0] 3)).heap.size = W.heap.size + 1 := by simp
          generalize hW1 : W.alloc (.cells #[.int .i64 0] 3) = W1 at *
          clear hW1
          clear cW bW1 bK1 bS1 bL1 bN0 bR hkW
          have hseq2 := all_stops Fence.wide 19 trivial rfl (by omega) w1.heap.size (fun k => k = W.heap.size) kv (keptL l) (kept_set l).2.2 (kept_set l).1 W1 (fun o ho => by omega) (by have := bK3.lt; omega) bK3.cell (hkX W1 (keep_refl _ _))
          have hwW := hB1.size
          refine wpIn_rangeFunc_ownH rfl (by omega) (gf := 42) (lb := #[.pointer (some ⟨w1.heap.size, 0, none⟩)]) rfl trivial (enters_of Tryd.func42 (by kernel_rfl) rfl) hseq2 keep_t keep_b (Below.refl _ _) (fun _ => rfl)
            (fun pre X => ((pre.length ≤ 3 ∧ Boxed X W.heap.size 3 (.int .i64 (pre.length : Nat))) ∧ Off (fun k => k = W.heap.size) W1 X) ∧ Below w.heap.size w X)
            (fun c pre X => (c = .ret ∧ ¬ pre <+: runesL (keptL l)) ∨ (((c = .exit 4 ∧ pre.length = 4) ∧ Boxed X W.heap.size 3 (.int .i64 4)) ∧ Off (fun k => k = W.heap.size) W1 X ∧ Below w.heap.size w X))
            (OwnFrom.and (OwnFrom.and (OwnFrom.and (ownFrom_pure _ _) (Own.from (boxed_own _ _ _) _)) (off_own _)) (ownFrom_below (Nat.le_refl _) (by omega)))
            (fun c s X Y row hs hg hr => by
              rcases hs with h | ⟨⟨h1, h2⟩, h4, h5⟩
              · exact .inl h
              · exact .inr ⟨⟨h1, Own.from (boxed_own (β := List Int) W.heap.size 3 (fun _ => .int .i64 4)) _ s X Y row h2 hg hr⟩, off_own _ s X Y row h4 hg hr, ownFrom_below (Nat.le_refl _) (by omega) s X Y row h5 hg hr⟩)
            ⟨⟨⟨by simp, bM1⟩, off_refl _ _⟩, hB1⟩
            (fun x a' X => ∃ Bx, W.heap.size < Bx ∧ Boxed X Bx 21 (.int .i32 x) ∧ a' = { tmps := #[.slice (some ad) l.length cap, .int .u8 leave, .pointer (some ⟨w.heap.size, 0, none⟩), .pointer (some ⟨w.heap.size + 1, 0, none⟩), .pointer (some ⟨w.heap.size + 1 + 1, 0, none⟩), .slice (some ⟨g, 0, none⟩) l.length vc, .pointer (some ⟨w2.heap.size, 0, none⟩), .int .i64 l.length, .pointer (some ⟨wr.heap.size, 0, none⟩), .pointer (some ⟨wr.heap.size + 1, 0, none⟩), undef, .pointer (some ⟨W.heap.size, 0, none⟩), .pointer (some ⟨Bx, 0, none⟩), undef, undef, .slice (some ⟨w.heap.size + 1 + 1 + 1, 0, none⟩) 0 0, .slice (some ad) l.length cap, .slice (some ⟨g, 0, none⟩) l.length vc, .slice (some ⟨g, 0, none⟩) l.length vc, .func (.func 42) #[] #[.pointer (some ⟨w1.heap.size, 0, none⟩)], .func (.func 42) #[] #[.pointer (some ⟨w1.heap.size, 0, none⟩)], .bool false, .int .i64 l.length, .slice (some ⟨g, 0, none⟩) l.length vc, .int .i64 l.length, .bool false, u26, u27, u28, u29, u30, u31, .func (.func 42) #[] #[.pointer (some ⟨w1.heap.size, 0, none⟩)], undef, undef, undef, undef, undef, undef, undef, undef, undef, undef, undef, undef, undef, undef, undef, undef, undef, .func (.func 42) #[] #[.pointer (some ⟨w1.heap.size, 0, none⟩)], .int .i32 x, undef, undef, undef, undef, undef, undef, undef, undef, undef, undef, undef, undef, undef, undef, undef, undef, undef, undef, undef, undef, undef, undef, undef, undef, undef, undef], defers := [] })
            (fun x a' _ X Y row hs hg hr => by obtain ⟨Bx, h1, h2, h3⟩ := hs; exact ⟨Bx, h1, boxed_own Bx 21 (fun (_ : Unit) => Value.int .i32 x) () X Y row h2 hg (fun r e => (hr r e).2), h3⟩)
            ?assign2 ?body2 ?done2 ?stop2
          case assign2 =>
            rintro l0 pre x X K ⟨⟨⟨hp, bM⟩, ho⟩, hBX⟩ hK
            gi_wp2
            exact hK _ _ ((KeepsOthers.alloc _ _).from _) (keep_below ((Below.refl _ X).alloc (Nat.le_refl _) _)) ⟨⟨⟨hp, bM.alloc _⟩, off_t ho (off_below ((Below.refl _ X).alloc (Nat.le_refl _) _))⟩, hBX.alloc hBX.size _⟩ ⟨X.heap.size, bM.lt, Boxed.new X 21 _, rfl⟩
          case body2 =>
            rintro l0 pre x a' X hl0 ⟨r, hr⟩ ⟨⟨⟨hp, bM⟩, ho⟩, hBX⟩ ⟨Bx, hBx, bX, rfl⟩ hlt3
            have bW4 := boxed_offS bW3 (by intro h; omega) ho
            have bK4 := boxed_offS bK3 (by intro h; omega) ho
            have bR4 := boxed_offS bR1 (by intro h; omega) ho
            have cW := bW4.cell
            have hwX := hBX.size
            have hWX := ho.1
            gi_wp2_with fail
            have hseq3 := (all_stops Fence.wide 17 trivial rfl (by omega) w1.heap.size (fun _ => False) kv (keptL l) (kept_set l).2.2 (kept_set l).1 X (fun o h => h.elim) bK4.lt bK4.cell (by
              rcases hkX X (off_keep ho) with h | ⟨b, off, c, h1, h2, _, h3⟩
              · exact .inl h
              · exact .inr ⟨b, off, c, h1, h2, fun h => h, h3⟩)).inRound l0
            refine wpIn_rangeFunc_ownN (l₀ := l0) (r₀ := r) rfl hr (by omega) (gf := 42) (lb := #[.pointer (some ⟨w1.heap.size, 0, none⟩)]) rfl trivial (enters_of Tryd.func42 (by kernel_rfl) rfl) hseq3 keep_t keep_b (Below.refl _ _) (fun _ => rfl)
              (fun pre' Y => (pre' = [] ∧ Below X.heap.size X Y) ∧ KeepsFrom W1.heap.size X Y)
              (fun c pre' Y => ((c = .ret ∧ ∃ b, pre' = [b] ∧ x < b) ∧ KeepsFrom W1.heap.size X Y) ∨ ((c = .exit 6 ∧ Below X.heap.size X Y) ∧ KeepsFrom W1.heap.size X Y))
              (OwnFrom.and (OwnFrom.and (ownFrom_pure _ _) (ownFrom_below (Nat.le_refl _) (Nat.le_refl _))) (ownFrom_keepsFrom (Nat.le_refl _)))
              (fun c s Y Z row hs hg hr => by
                rcases hs with ⟨h1, h2⟩ | ⟨⟨h1, h2⟩, h3⟩
                · exact .inl ⟨h1, ownFrom_keepsFrom (Nat.le_refl _) s Y Z row h2 hg hr⟩
                · exact .inr ⟨⟨h1, ownFrom_below (Nat.le_refl _) (Nat.le_refl _) s Y Z row h2 hg hr⟩, ownFrom_keepsFrom (Nat.le_refl _) s Y Z row h3 hg hr⟩)
              ⟨⟨rfl, Below.refl _ _⟩, KeepsFrom.refl _ _⟩
              (fun y a'' Y => a'' = { tmps := #[.slice (some ad) l.length cap, .int .u8 leave, .pointer (some ⟨w.heap.size, 0, none⟩), .pointer (some ⟨w.heap.size + 1, 0, none⟩), .pointer (some ⟨w.heap.size + 1 + 1, 0, none⟩), .slice (some ⟨g, 0, none⟩) l.length vc, .pointer (some ⟨w2.heap.size, 0, none⟩), .int .i64 l.length, .pointer (some ⟨wr.heap.size, 0, none⟩), .pointer (some ⟨wr.heap.size + 1, 0, none⟩), undef, .pointer (some ⟨W.heap.size, 0, none⟩), .pointer (some ⟨Bx, 0, none⟩), .int .i32 y, undef, .slice (some ⟨w.heap.size + 1 + 1 + 1, 0, none⟩) 0 0, .slice (some ad) l.length cap, .slice (some ⟨g, 0, none⟩) l.length vc, .slice (some ⟨g, 0, none⟩) l.length vc, .func (.func 42) #[] #[.pointer (some ⟨w1.heap.size, 0, none⟩)], .func (.func 42) #[] #[.pointer (some ⟨w1.heap.size, 0, none⟩)], .bool false, .int .i64 l.length, .slice (some ⟨g, 0, none⟩) l.length vc, .int .i64 l.length, .bool false, u26, u27, u28, u29, u30, u31, .func (.func 42) #[] #[.pointer (some ⟨w1.heap.size, 0, none⟩)], undef, undef, undef, undef, undef, undef, undef, undef, undef, undef, undef, undef, undef, undef, undef, undef, undef, .func (.func 42) #[] #[.pointer (some ⟨w1.heap.size, 0, none⟩)], .int .i32 x, .func (.func 42) #[] #[.pointer (some ⟨w1.heap.size, 0, none⟩)], .int .i32 y, undef, undef, undef, undef, undef, undef, undef, undef, undef, undef, undef, undef, undef, undef, undef, undef, undef, undef, undef, undef, undef, undef, undef, undef], defers := [] })
              (fun _ _ _ _ _ _ hs _ _ => hs)
              ?assign3 ?body3 ?done3 ?stop3
            case assign3 =>
              rintro l2 pre' y Y K hi hK
              gi_wp2
              exact hK _ _ (KeepsFrom.refl _ _) (keep_refl _ _) hi rfl
            case body3 =>
              rintro l2 pre' y a'' Y _ _ ⟨⟨rfl, hBY⟩, hKF⟩ rfl _
              have bX2 := boxed_below bX bX.lt hBY
              have cX := bX2.cell
              have bR5 := boxed_below bR4 bR4.lt hBY
              have cR := bR5.cell
              have fR := bR5.frozen
              have hKF' := hKF
              rw [hszM] at hKF'
              by_cases hyx : y > x
              · gi_wp2
                first
                  | exact ⟨(KeepsOthers.setCell _ _ _).from _, .inl ⟨⟨rfl, y, rfl, hyx⟩, hKF.trans ((KeepsOthers.setCell _ _ _).from _)⟩⟩
                  | exact ⟨(KeepsOthers.setCell _ _ _).from _, .inl ⟨⟨rfl, y, rfl, hyx⟩, hKF'.trans ((KeepsOthers.setCell _ _ _).from _)⟩⟩
              · gi_wp2
                first
                  | exact ⟨KeepsFrom.refl _ _, .inr ⟨⟨rfl, hBY⟩, hKF⟩⟩
                  | exact ⟨KeepsFrom.refl _ _, .inr ⟨⟨rfl, hBY⟩, hKF'⟩⟩
            case done3 =>
              rintro xs Y hS ⟨⟨rfl, _⟩, _⟩
              rw [← hS] at hlt3
              simp at hlt3
            case stop3 =>
              rintro c pre' Y hpre' (⟨⟨rfl, b, rfl, hb⟩, hkf⟩ | ⟨⟨rfl, hBY⟩, hkf⟩)
              · gi_wp2
                exact ⟨hkf, .inl ⟨rfl, fun h => by have := first_least hpre' h; omega⟩⟩
              · have bM2 := boxed_below bM bM.lt hBY
                have cM := bM2.cell
                have fM := bM2.frozen
                have hoY : Off (fun k => k = W.heap.size) X (Y.setCell ⟨W.heap.size, 0, none⟩ (.int .i64 ((pre.length : Int) + 1))) := off_t (off_below hBY) (off_set Y W.heap.size _ rfl)
                have hbY : Below w.heap.size w (Y.setCell ⟨W.heap.size, 0, none⟩ (.int .i64 ((pre.length : Int) + 1))) := (hBX.trans (below_le hBY hBX.size)).setCell (p := ⟨W.heap.size, 0, none⟩) (by show w.heap.size ≤ W.heap.size; omega) _
                have bM3 := bM2.set (.int .i64 ((pre.length : Int) + 1))
                have cM3 := bM3.cell
                by_cases h3 : (pre.length : Int) + 1 > 3
                · gi_wp2
                  exact ⟨hkf.trans ((KeepsOthers.setCell _ _ _).from _), .inr ⟨⟨⟨rfl, by simp; omega⟩, by rw [show (pre.length : Int) + 1 = 4 by omega] at bM3 ⊢; exact bM3⟩, off_t ho hoY, hbY⟩⟩
                · rw [hszM] at hkf
                  gi_wp2
                  exact ⟨hkf.trans ((KeepsOthers.setCell _ _ _).from _), off_keep hoY, ⟨⟨⟨by simp; omega, by simpa using bM3⟩, off_t ho hoY⟩, hbY⟩⟩
          case done2 =>
            rintro D2 xs X hD2 rfl ⟨⟨⟨hp2, bM⟩, ho⟩, hBX⟩ hK2
            obtain ⟨mv, hmv, bM0⟩ : ∃ mv : Nat, mv = min (runesL (keptL l)).length 4 ∧ Boxed X W.heap.size 3 (.int .i64 mv) := ⟨_, by omega, bM⟩
            clear bM hp2
            have bN5 := boxed_offS bN1 (by intro h; omega) ho
            have bR5 := boxed_offS bR1 (by intro h; omega) ho
            have bS5 := boxed_offS bS3 (by intro h; omega) ho
            have bL5 := boxed_offS bL3 (by intro h; omega) ho
            have hK5 : X.heap[D]? = some (.deferred (some [])) := (ho.2 D (by omega) (by omega)).trans hK1
            have hXW := ho.1
            have hXw := hBX.size
            have HSz := hide (rSize_any (some ad) cap l (by omega) X (rowAt_below (unhide Hrow0) (Nat.le_refl _) hBX))
            have hNs := runes_size l
            have cS := bS5.cell
            clear bK3 bW3 bS3 bL3 bR1 bN1 hkX hseq2 hK1 bM1
            gi_wp2_with fail
            refine ⟨trivial, (callsIn_wide.2 (unhide HSz)).mono ?_⟩
            rintro e X1 ⟨rfl, hb1⟩
            have bN6 := boxed_below bN5 bN5.lt hb1
            have bL6 := boxed_below bL5 bL5.lt hb1
            have bM6 := boxed_below bM0 bM0.lt hb1
            have cN := bN6.cell
            have cL := bL6.cell
            have cM := bM6.cell
            have hX1 := hb1.size
            have HA := hide (awake_any X1)
            have hsv : 0 ≤ sizeV l := by rw [← hNs]; omega
            have q1 : ((nv : Int) == min leave (sizeV l)) = true := by rw [beq_iff_eq, ← hNs]; omega
            have q2 : ((mv : Int) == min (sizeV l) 4) = true := by rw [beq_iff_eq, ← hNs]; omega
            generalize sizeV l = sv at *
            gi_wp2_with fail
            refine ⟨trivial, (callsIn_wide.2 (unhide HA)).mono ?_⟩
            rintro e X2 ⟨rfl, hb2⟩
            have bR6 := boxed_below bR5 bR5.lt hb1
            have bR7 := boxed_below bR6 bR6.lt hb2
            have cR := bR7.cell
            have fR := bR7.frozen
            have hX2 := hb2.size
            have hD2l : D2 < X.heap.size := (Array.getElem?_eq_some_iff.1 hK2).1
            have hK6 : X2.heap[D]? = some (.deferred (some [])) := (hb2.block D (by omega)).trans ((hb1.block D (by omega)).trans hK5)
            have hK7 : X2.heap[D2]? = some (.deferred (some [])) := (hb2.block D2 (by omega)).trans ((hb1.block D2 (by omega)).trans hK2)
            have hK8 : (X2.setCell ⟨w.heap.size + 1 + 1, 0, none⟩ (.bool true)).heap[D2]? = some (.deferred (some [])) := ((grownBy_setCell' X2 (w.heap.size + 1 + 1) (.bool true)).block D2 (by omega) (by intro h; cases h; omega)).trans hK7
            have hK9 : ((X2.setCell ⟨w.heap.size + 1 + 1, 0, none⟩ (.bool true)).putObj D2 (.deferred none)).heap[D]? = some (.deferred (some [])) := ((grownBy_putObj' _ D2 (.deferred none)).block D (by have := (grownBy_setCell' X2 (w.heap.size + 1 + 1) (.bool true)).size; omega) (by intro h; cases h; omega)).trans (((grownBy_setCell' X2 (w.heap.size + 1 + 1) (.bool true)).block D (by omega) (by intro h; cases h; omega)).trans hK6)
            have hB9 : Below w.heap.size w (X2.setCell ⟨w.heap.size + 1 + 1, 0, none⟩ (.bool true)) := (hBX.trans (below_le (hb1.trans (below_le hb2 hX1)) hXw)).setCell (p := ⟨w.heap.size + 1 + 1, 0, none⟩) (by show w.heap.size ≤ w.heap.size + 1 + 1; omega) _
            gi_wp2
            refine ⟨by simp, .inl ⟨_, _, rfl, run_takeDeferred hK8, ?_⟩⟩
            refine ⟨by simp, .inl ⟨_, _, rfl, run_takeDeferred hK9, ?_⟩⟩
            have bF := ((bR7.set (.bool true)).kept (grownBy_putObj' _ D2 (.deferred none)) (by intro h; cases h; omega)).kept (grownBy_putObj' _ D (.deferred none)) (by intro h; cases h; omega)
            have cF := bF.cell
            refine ⟨.bool true, ?_, rfl, ?_⟩
            · have hres : Tryd.f6.results = #[.cell 4 4] := by kernel_rfl
              simp only [results, hres]
              go_simp
            · exact (hB9.trans (belowK_b (w := w) (Nat.le_refl _) _ D2 _ _ (by omega) hK8 rfl rfl)).trans (belowK_b (w := w) (Nat.le_refl _) _ D _ _ (by omega) hK9 rfl rfl)
          case stop2 =>
            rintro D2 c pre X hD2 hpre2 hIx2 hK2
            rcases hIx2 with ⟨_, hno⟩ | ⟨⟨⟨rfl, hpl2⟩, bM⟩, ho, hBX⟩
            · exact absurd hpre2 hno
            · obtain ⟨mv, hmv, bM0⟩ : ∃ mv : Nat, mv = min (runesL (keptL l)).length 4 ∧ Boxed X W.heap.size 3 (.int .i64 mv) := ⟨4, by have := hpre2.length_le; omega, bM⟩
              clear bM hpl2 hpre2
              have bN5 := boxed_offS bN1 (by intro h; omega) ho
              have bR5 := boxed_offS bR1 (by intro h; omega) ho
              have bS5 := boxed_offS bS3 (by intro h; omega) ho
              have bL5 := boxed_offS bL3 (by intro h; omega) ho
              have hK5 : X.heap[D]? = some (.deferred (some [])) := (ho.2 D (by omega) (by omega)).trans hK1
              have hXW := ho.1
              have hXw := hBX.size
              have HSz := hide (rSize_any (some ad) cap l (by omega) X (rowAt_below (unhide Hrow0) (Nat.le_refl _) hBX))
              have hNs := runes_size l
              have cS := bS5.cell
              clear bK3 bW3 bS3 bL3 bR1 bN1 hkX hseq2 hK1 bM1
              gi_wp2_with fail
              refine ⟨trivial, (callsIn_wide.2 (unhide HSz)).mono ?_⟩
              rintro e X1 ⟨rfl, hb1⟩
              have bN6 := boxed_below bN5 bN5.lt hb1
              have bL6 := boxed_below bL5 bL5.lt hb1
              have bM6 := boxed_below bM0 bM0.lt hb1
              have cN := bN6.cell
              have cL := bL6.cell
              have cM := bM6.cell
              have hX1 := hb1.size
              have HA := hide (awake_any X1)
              have hsv : 0 ≤ sizeV l := by rw [← hNs]; omega
              have q1 : ((nv : Int) == min leave (sizeV l)) = true := by rw [beq_iff_eq, ← hNs]; omega
              have q2 : ((mv : Int) == min (sizeV l) 4) = true := by rw [beq_iff_eq, ← hNs]; omega
              generalize sizeV l = sv at *
              gi_wp2_with fail
              refine ⟨trivial, (callsIn_wide.2 (unhide HA)).mono ?_⟩
              rintro e X2 ⟨rfl, hb2⟩
              have bR6 := boxed_below bR5 bR5.lt hb1
              have bR7 := boxed_below bR6 bR6.lt hb2
              have cR := bR7.cell
              have fR := bR7.frozen
              have hX2 := hb2.size
              have hD2l : D2 < X.heap.size := (Array.getElem?_eq_some_iff.1 hK2).1
              have hK6 : X2.heap[D]? = some (.deferred (some [])) := (hb2.block D (by omega)).trans ((hb1.block D (by omega)).trans hK5)
              have hK7 : X2.heap[D2]? = some (.deferred (some [])) := (hb2.block D2 (by omega)).trans ((hb1.block D2 (by omega)).trans hK2)
              have hK8 : (X2.setCell ⟨w.heap.size + 1 + 1, 0, none⟩ (.bool true)).heap[D2]? = some (.deferred (some [])) := ((grownBy_setCell' X2 (w.heap.size + 1 + 1) (.bool true)).block D2 (by omega) (by intro h; cases h; omega)).trans hK7
              have hK9 : ((X2.setCell ⟨w.heap.size + 1 + 1, 0, none⟩ (.bool true)).putObj D2 (.deferred none)).heap[D]? = some (.deferred (some [])) := ((grownBy_putObj' _ D2 (.deferred none)).block D (by have := (grownBy_setCell' X2 (w.heap.size + 1 + 1) (.bool true)).size; omega) (by intro h; cases h; omega)).trans (((grownBy_setCell' X2 (w.heap.size + 1 + 1) (.bool true)).block D (by omega) (by intro h; cases h; omega)).trans hK6)
              have hB9 : Below w.heap.size w (X2.setCell ⟨w.heap.size + 1 + 1, 0, none⟩ (.bool true)) := (hBX.trans (below_le (hb1.trans (below_le hb2 hX1)) hXw)).setCell (p := ⟨w.heap.size + 1 + 1, 0, none⟩) (by show w.heap.size ≤ w.heap.size + 1 + 1; omega) _
              gi_wp2
              refine ⟨by simp, .inl ⟨_, _, rfl, run_takeDeferred hK8, ?_⟩⟩
              refine ⟨by simp, .inl ⟨_, _, rfl, run_takeDeferred hK9, ?_⟩⟩
              have bF := ((bR7.set (.bool true)).kept (grownBy_putObj' _ D2 (.deferred none)) (by intro h; cases h; omega)).kept (grownBy_putObj' _ D (.deferred none)) (by intro h; cases h; omega)
              have cF := bF.cell
              refine ⟨.bool true, ?_, rfl, ?_⟩
              · have hres : Tryd.f6.results = #[.cell 4 4] := by kernel_rfl
                simp only [results, hres]
                go_simp
              · exact (hB9.trans (belowK_b (w := w) (Nat.le_refl _) _ D2 _ _ (by omega) hK8 rfl rfl)).trans (belowK_b (w := w) (Nat.le_refl _) _ D _ _ (by omega) hK9 rfl rfl)
end Go.Proofs.YtkbhdojgdgiggabDoor

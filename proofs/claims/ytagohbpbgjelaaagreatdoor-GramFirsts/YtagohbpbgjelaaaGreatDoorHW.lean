/- The code's of: with which kinds a row begins. -/
import Derived.Test.YtagohbpbgjelaaaGreatDoorHQ
import Derived.Test.YtagohbpbgjelaaaGreatDoorSP
import Derived.Test.YtagohbpbgjelaaaGreatDoorY1
import Derived.Test.YtagohbpbgjelaaaGreatDoorIA
import Derived.Test.YtagohbpbgjelaaaGreatDoorA5
namespace Go.Proofs.YtagohbpbgjelaaaGreatDoor
open Go.RowKit

/-- With what a row's first symbols begin, all of which can be nothing. -/
def OfI (G : Gm) (row : List Int) (k : Nat) (f : Int → Bool) : Prop := ∀ m, f m = true ↔ 0 ≤ m ∧ ∃ i, i < k ∧ i < row.length ∧ (G.nk : Int) ≤ row.getD i 0 ∧ Fst G (row.getD i 0 - G.nk).toNat m.toNat
def OfPost (G : Gm) (row : List Int) (w : World) (e : Ending) (w' : World) : Prop := ∃ S O f, e = .returned (.tuple #[.pointer (some ⟨S, 0, none⟩), .bool (emptyB G.nk (nullF G) row)]) ∧ SetN w' S O f ∧ (∀ m, f m = true ↔ 0 ≤ m ∧ begB G.nk (nullF G) (fstF G) row m.toNat = true) ∧ Below w.heap.size w w'
theorem of_kind {G : Gm} {row : List Int} {k : Nat} {f : Int → Bool} (h : OfI G row k f) (hk : k < row.length) (he : emptyB G.nk (nullF G) (row.take k) = true) (h0 : 0 ≤ row.getD k 0) (hx : row.getD k 0 < (G.nk : Int)) (m : Int) : addF f (row.getD k 0) m = true ↔ 0 ≤ m ∧ begB G.nk (nullF G) (fstF G) row m.toNat = true := by
  unfold addF
  rw [begB_iff]
  constructor
  · intro h1
    split at h1
    · rename_i e
      subst e
      exact ⟨h0, k, hk, he, .inl ⟨hx, rfl⟩⟩
    · obtain ⟨h2, i, hi, hil, h3, h4⟩ := (h m).1 h1
      refine ⟨h2, i, hil, emptyB_iff.2 (fun x hx => emptyB_iff.1 he x ?_), .inr ⟨h3, (fstF_is _ _ _).2 h4⟩⟩
      exact (List.take_subset_take_left row (by omega)) hx
  · rintro ⟨h2, i, hil, h3, h4⟩
    have hik : i ≤ k := by
      rcases Nat.lt_or_ge k i with hlt | hge
      · have := empty_stop (G := G) hk hlt (.inl hx); rw [h3] at this; cases this
      · exact hge
    rcases h4 with ⟨h4, h5⟩ | ⟨h4, h5⟩
    · by_cases e : i = k
      · subst e; rw [if_pos (by omega)]
      · exfalso
        have hm : row.getD i 0 ∈ row.take k := by
          rw [List.getD_eq_getElem?_getD, List.getElem?_eq_getElem hil]
          exact List.mem_take_iff_getElem.2 ⟨i, by omega, rfl⟩
        have := (emptyB_iff.1 he _ hm).1
        omega
    · have e : i ≠ k := fun e => by subst e; omega
      split
      · rfl
      · exact (h m).2 ⟨h2, i, by omega, hil, h4, (fstF_is _ _ _).1 h5⟩
theorem of_rule {G : Gm} {row : List Int} {k : Nat} {f g : Int → Bool} (h : OfI G row k f) (hk : k < row.length) (hx : (G.nk : Int) ≤ row.getD k 0) (hg : ∀ m, g m = true ↔ 0 ≤ m ∧ Fst G (row.getD k 0 - G.nk).toNat m.toNat) : OfI G row (k + 1) (orF f g) := fun m => by
  unfold orF
  rw [Bool.or_eq_true_iff, h m, hg m]
  constructor
  · rintro (⟨h1, i, h2, h3⟩ | ⟨h1, h2⟩)
    · exact ⟨h1, i, by omega, h3⟩
    · exact ⟨h1, k, by omega, hk, hx, h2⟩
  · rintro ⟨h1, i, h2, h3, h4, h5⟩
    by_cases e : i = k
    · subst e; exact .inr ⟨h1, h5⟩
    · exact .inl ⟨h1, i, by omega, h3, h4, h5⟩
theorem of_stop {G : Gm} {row : List Int} {k : Nat} {f : Int → Bool} (h : OfI G row k f) (he : ∀ i, i < k → emptyB G.nk (nullF G) (row.take i) = true) (hall : ∀ i, i < k → (G.nk : Int) ≤ row.getD i 0) (hs : ∀ i, k ≤ i → i < row.length → emptyB G.nk (nullF G) (row.take i) = false) (m : Int) : f m = true ↔ 0 ≤ m ∧ begB G.nk (nullF G) (fstF G) row m.toNat = true := by
  rw [h m, begB_iff]
  constructor
  · rintro ⟨h1, i, h2, h3, h4, h5⟩; exact ⟨h1, i, h3, he i h2, .inr ⟨h4, (fstF_is _ _ _).2 h5⟩⟩
  · rintro ⟨h1, i, h2, h3, h4⟩
    have hik : i < k := by
      rcases Nat.lt_or_ge i k with hlt | hge
      · exact hlt
      · rw [hs i hge h2] at h3; cases h3
    rcases h4 with ⟨h4, -⟩ | ⟨h4, h5⟩
    · have := hall i hik; omega
    · exact ⟨h1, i, hik, h2, h4, (fstF_is _ _ _).1 h5⟩
set_option maxHeartbeats 2000000 in
set_option maxRecDepth 100000 in
theorem of_any (G : Gm) (hG : GOk G) (ka : Option Addr) (kc gb bb nb sb sc N : Nat) (A : Nat → Nat) (ro : Option Addr) (rowc : Nat) (row : List Int) (hl : row.length ≤ 281474976710656) (hx : symsIn (G.nk + G.nr) row) (w : World) (hgb : gb < w.heap.size) (hc0 : w.cell? ⟨gb, 0, none⟩ = some (.slice ka G.kinds.length kc)) (hbg : BgAt N w G bb nb sb sc gb A) (hrow : NRow w.heap.size w ro row) :
    Calls Tryz.prog 46 #[.pointer (some ⟨bb, 0, none⟩), .slice ro row.length rowc] w fun e w' => OfPost G row w e w' := by
  have hk3 := hG.k3; have hr2 := hG.r2
  unfold Gm.nk at hk3
  unfold Gm.nr at hr2
  have hnot := run_not
  have HS := hide (newSet_any w)
  have Hc0 := hide hc0; have Hrow := hide hrow; have Hx := hide hx; have Hbg := hide hbg
  clear hc0 hrow hx hbg
  go_enter Tryz.func46, Tryz.ntmps46
  go_wp2_with fail
  refine (unhide HS).mono ?_
  rintro e w1 ⟨rfl, hb1, hlt1, hs1⟩
  have Hb1 := hide hb1; have Hs1 := hide hs1
  clear hb1 hs1 HS
  go_wp2
  go_loopw [14] (fun x V => ∃ (k : Nat) (f : Int → Bool) (O : Nat → Prop), x = .int .i64 k ∧ k ≤ row.length ∧ OfI G row k f ∧ emptyB G.nk (nullF G) (row.take k) = true ∧ SetN V w.heap.size O f ∧ (∀ q, O q → w.heap.size ≤ q) ∧ Below w.heap.size w V) (fun x _ => row.length - (intOf x).toNat)
  case atStart => exact ⟨0, fun _ => false, _, rfl, Nat.zero_le _, fun m => ⟨fun h => (by cases h), fun ⟨_, i, h, _⟩ => (by omega)⟩, by simp [emptyB], unhide Hs1, fun q hq => by rw [hq]; exact Nat.le_refl _, unhide Hb1⟩
  case round =>
    clear Hb1 Hs1
    obtain ⟨k, f, O, rfl, hk, hOf, hem, hSt, hO, hb⟩ := hrel
    have hsz := hb.size
    have hbg := bgAt_below (unhide Hbg) hb
    have hpre : ∀ i, i ≤ k → emptyB G.nk (nullF G) (row.take i) = true := fun i hi => emptyB_iff.2 (fun x hx => emptyB_iff.1 hem x ((List.take_subset_take_left row hi) hx))
    have hall : ∀ i, i < k → (G.nk : Int) ≤ row.getD i 0 := fun i hi => (emptyB_iff.1 hem _ (by
      rw [List.getD_eq_getElem?_getD, List.getElem?_eq_getElem (by omega)]
      exact List.mem_take_iff_getElem.2 ⟨i, by omega, rfl⟩)).1
    by_cases hlt : k < row.length
    · have hlt' : (k : Int) < row.length := by omega
      obtain ⟨b, off, rfl, hbl, hc⟩ := nrow_at (nrow_kept hb (unhide Hrow)) hlt
      have hxk := unhide Hx _ (mem_getD hlt)
      unfold Gm.nk Gm.nr at hxk
      have c0 := (hb.cell (p := ⟨gb, 0, none⟩) hgb).trans (unhide Hc0)
      have b0 : wr.cell? ⟨bb, 0, none⟩ = some (.pointer (some ⟨gb, 0, none⟩)) := by unfold World.cell?; rw [hbg.bx]; rfl
      have b1 : wr.cell? ⟨bb, 1, none⟩ = some (.slice (some ⟨nb, 0, none⟩) G.rules.length G.rules.length) := by unfold World.cell?; rw [hbg.bx]; rfl
      have b2 : wr.cell? ⟨bb, 2, none⟩ = some (.slice (some ⟨sb, 0, none⟩) G.rules.length sc) := by unfold World.cell?; rw [hbg.bx]; rfl
      have HR := hide (rule_any gb (row.getD k 0) G.kinds.length ka kc hk3 (by omega) wr c0)
      by_cases hr : (G.kinds.length : Int) ≤ row.getD k 0
      · rw [if_pos hr, decide_eq_true hr] at HR
        obtain ⟨y, hy⟩ : ∃ y : Nat, row.getD k 0 - G.kinds.length = (y : Int) := ⟨(row.getD k 0 - G.kinds.length).toNat, by omega⟩
        have hyn : y < G.rules.length := by omega
        have hyn' : (y : Int) < G.rules.length := by omega
        have ey : (row.getD k 0 - G.nk).toNat = y := by show (row.getD k 0 - (G.kinds.length : Nat)).toNat = y; omega
        rw [hy] at HR
        obtain ⟨OO, rep, C, hsV0, hC⟩ := (unhide Hbg).st
        have hsV := sets_below hsV0 hb
        have sy := (sets_cell hsV hyn).1
        have hgy : ∀ m, C (rep y) m = true ↔ 0 ≤ m ∧ Fst G (row.getD k 0 - G.nk).toNat m.toNat := by rw [ey]; exact hC y hyn
        have hOf2 := of_rule hOf hlt hr hgy
        have HJ := hide (join_n w.heap.size (A (rep y)) O (OO (rep y)) f (C (rep y)) wr hSt (hsV.set _ (hsV.rp y hyn)) (fun q hq ho => by have h1 := setN_lt (hsV0.set _ (hsV0.rp y hyn)) hq; have h2 := hO q ho; omega))
        have ny := hbg.nu.cell hyn
        have hnl := hbg.nu.lt
        obtain ⟨ns, hns⟩ := rowIs_ty hbg.nu
        have Hkp : Hid (∀ V, Fr O wr V → V.cell? ⟨bb, 1, none⟩ = some (.slice (some ⟨nb, 0, none⟩) G.rules.length G.rules.length) ∧ V.cell? ⟨nb, y, none⟩ = some (.bool (nullF G y))) := hide (fun V hV => by
          have e1 : V.heap[bb]? = wr.heap[bb]? := hV.2.1 bb (Array.getElem?_eq_some_iff.1 hbg.bx).1 (fun ho => isSet_not hbg.bx (by decide) (by decide) (hSt.ty _ ho))
          have e2 : V.heap[nb]? = wr.heap[nb]? := hV.2.1 nb hnl (fun ho => isSet_not hns (by decide) (by decide) (hSt.ty _ ho))
          exact ⟨(World.cell?_of_block e1).trans b1, (World.cell?_of_block e2).trans ny⟩)
        have Hnn := hide (fun (hn : nullF G y = true) => empty_next hlt hem hr (by rw [ey]; exact hn))
        have Hstp := hide (fun (hn : nullF G y = false) => of_stop hOf2 (fun i hi => hpre i (by omega)) (fun i hi => by
          by_cases e : i = k
          · subst e; exact hr
          · exact hall i (by omega)) (fun i h1 h2 => empty_stop hlt (by omega) (.inr (by rw [ey]; exact hn))))
        have Hemf := hide (fun (hn : nullF G y = false) => (show emptyB G.nk (nullF G) row = false by
          have h1 := empty_stop (G := G) (row := row) (i := row.length) hlt hlt (.inr (by rw [ey]; exact hn))
          rwa [List.take_length] at h1))
        have HOf2 := hide hOf2; have Hb := hide hb; have HO := hide hO
        clear hOf hem hSt hbg hsV hsV0 hC hgy hOf2 ny hns hnl hpre hall ey hb hO
        generalize hxe : row.getD k 0 = x at *
        generalize A (rep y) = Ay at *
        generalize orF f (C (rep y)) = f2 at *
        go_wp2_with fail
        refine (unhide HR).mono ?_
        rintro e w9 ⟨rfl, rfl⟩
        go_wp2_with fail
        refine (unhide HJ).mono ?_
        rintro e V5 ⟨⟨c5, rfl⟩, hf5, O2, hs5, hO2⟩
        obtain ⟨b15, ny5⟩ := unhide Hkp V5 hf5
        have Hs5 := hide hs5
        have HO5 := hide (show ∀ q, O2 q → w.heap.size ≤ q from fun q hq => (hO2 q hq).elim (unhide HO q) (fun h => by omega))
        have Hb5 := hide ((unhide Hb).trans (fr_below hf5 hsz (unhide HO)))
        clear hs5 hf5 hO2 b1 b2 sy HJ HR c0 b0 hc Hkp
        cases hnu : nullF G y with
        | true =>
          rw [hnu] at ny5
          have Hem2 := hide (unhide Hnn hnu)
          clear Hnn Hstp Hemf
          go_wp2
          go_roundw
          case rel => exact ⟨k + 1, f2, O2, by go_num, by omega, unhide HOf2, unhide Hem2, unhide Hs5, unhide HO5, unhide Hb5⟩
          case measure => simp [intOf]; omega
        | false =>
          rw [hnu] at ny5
          have Hfin := hide (unhide Hstp hnu)
          have Hemf2 := hide (unhide Hemf hnu)
          clear Hnn Hstp Hemf
          go_wp2
          refine bodyPost_ret (v := .tuple #[.pointer (some ⟨w.heap.size, 0, none⟩), .bool false]) ?zz8 rfl ⟨_, _, f2, by rw [unhide Hemf2], unhide Hs5, unhide Hfin, unhide Hb5⟩
          case zz8 => simp [results, Tryz.results46, go_sem]
      · rw [if_neg hr, decide_eq_false hr] at HR
        have hx' : row.getD k 0 < (G.nk : Int) := by show _ < ((G.kinds.length : Nat) : Int); omega
        have Hfin := hide (of_kind hOf hlt hem (by omega) hx')
        have Hemf : Hid (emptyB G.nk (nullF G) row = false) := hide (by
          have h1 := empty_stop (G := G) (row := row) (i := row.length) hlt hlt (.inl hx')
          rwa [List.take_length] at h1)
        have hal : Below wr.heap.size wr (wr.alloc (.cells #[.int .i64 (row.getD k 0)] 3)) := (Below.refl _ _).alloc (Nat.le_refl _) _
        have hnw : (wr.alloc (.cells #[.int .i64 (row.getD k 0)] 3)).heap[wr.heap.size]? = some (.cells #[.int .i64 (row.getD k 0)] 3 (0, 0)) := Go.Deep.blk_alloc_new _ _
        have HAd := hide (add_n w.heap.size O f (row.getD k 0) (by omega) ⟨wr.heap.size, 0, none⟩ 1 _ (setN_below hSt hal) rfl (Array.getElem?_eq_some_iff.1 hnw).1 (by unfold World.cell?; rw [hnw]; rfl) (fun ho => by have := setN_lt hSt ho; have this : wr.heap.size < wr.heap.size := this; omega))
        have HO := hide hO
        have Hb2 := hide (hb.trans (below_le hal hsz))
        have hszA : w.heap.size ≤ (wr.alloc (.cells #[.int .i64 (row.getD k 0)] 3)).heap.size := by have := hal.size; omega
        clear hOf hem hSt hbg hpre hall hal hnw hb hO
        generalize hxe : row.getD k 0 = x at *
        generalize addF f x = f2 at *
        go_wp2_with fail
        refine (unhide HR).mono ?_
        rintro e w9 ⟨rfl, rfl⟩
        go_wp2_with fail
        refine (unhide HAd).mono ?_
        rintro e V5 ⟨⟨c5, rfl⟩, hf5, O2, hs5, -⟩
        have Hs5 := hide hs5
        have Hb5 := hide ((unhide Hb2).trans (fr_below hf5 hszA (unhide HO)))
        clear hs5 hf5
        go_wp2
        refine bodyPost_ret (v := .tuple #[.pointer (some ⟨w.heap.size, 0, none⟩), .bool false]) ?zz7 rfl ⟨_, _, f2, by rw [unhide Hemf], unhide Hs5, unhide Hfin, unhide Hb5⟩
        case zz7 => simp [results, Tryz.results46, go_sem]
    · obtain rfl : k = row.length := by omega
      have Hfin := hide (of_stop hOf (fun i hi => hpre i (by omega)) hall (fun i h1 h2 => by omega))
      rw [List.take_length] at hem
      have HSt := hide hSt; have Hb := hide hb; have Hem := hide hem
      clear hOf hem hSt hb hbg hpre hall
      go_wp2
      refine bodyPost_ret (v := .tuple #[.pointer (some ⟨w.heap.size, 0, none⟩), .bool true]) ?zz9 rfl ⟨_, _, f, by rw [unhide Hem], unhide HSt, unhide Hfin, unhide Hb⟩
      case zz9 => simp [results, Tryz.results46, go_sem]
end Go.Proofs.YtagohbpbgjelaaaGreatDoor

/- The code's First. -/
namespace Go.Proofs.YtagohbpbgjelaaaGreatDoor
open Go.RowKit

theorem smG_ok {G : Gm} (hG : GOk G) : smG G := fun p hp => by have := hG.pr p hp; omega
theorem symsTo_in {n : Nat} {row : List Int} : symsTo n row row.length ↔ symsIn n row := by
  constructor
  · intro h x hx
    obtain ⟨i, hi, rfl⟩ := List.getElem_of_mem hx
    have := h i hi
    rw [List.getD_eq_getElem?_getD, List.getElem?_eq_getElem hi] at this
    exact this
  · intro h i hi
    exact h _ (mem_getD hi)
set_option maxHeartbeats 2000000 in
set_option maxRecDepth 100000 in
theorem firstno11 : FirstNo 11 := fun G hc ka pa ra qa kc pc rc qc ro rn rowc w hin hsm => by
  have hst := gst_new (kc := kc) (pc := pc) (rc := rc) (qc := qc) (Nat.le_refl _) hin 26
  have hb1 : Below w.heap.size w (w.alloc (.cells #[.slice ka G.kinds.length kc, .slice pa G.precs.length pc, .slice ra G.rules.length rc, .slice qa G.prods.length qc, .int .i64 G.start] 26)) := (Below.refl _ _).alloc (Nat.le_refl _) _
  have HM := hide (mayBe_any G ka pa ra qa kc pc rc qc _ (gin_up hin hb1) hsm)
  rw [hc] at HM
  have Hb1 := hide hb1
  have hnot := run_not
  clear hst hb1 hin hsm hc
  go_enter Tryz.func11, Tryz.ntmps11
  go_wp2_with fail
  refine (unhide HM).mono ?_
  rintro e w2 ⟨rfl, hb2⟩
  have Hb2 := hide ((unhide Hb1).trans (below_le hb2 (by simp)))
  clear hb2
  go_wp2
  refine bodyPost_ret (v := .tuple #[.slice none 0 0, .bool false, .int .i64 130]) ?zz9 rfl ⟨rfl, unhide Hb2⟩
  case zz9 => simp [results, Tryz.results11, go_sem]
set_option maxHeartbeats 2000000 in
set_option maxRecDepth 100000 in
theorem firstyes11 : FirstYes 11 := fun G hc ka pa ra qa kc pc rc qc ro rowc row hl hs w hin hrow => by
  have hG := check_ok hc
  have hst := gst_new (kc := kc) (pc := pc) (rc := rc) (qc := qc) (Nat.le_refl _) hin 26
  have hb1 : Below w.heap.size w (w.alloc (.cells #[.slice ka G.kinds.length kc, .slice pa G.precs.length pc, .slice ra G.rules.length rc, .slice qa G.prods.length qc, .int .i64 G.start] 26)) := (Below.refl _ _).alloc (Nat.le_refl _) _
  have HM := hide (mayBe_any G ka pa ra qa kc pc rc qc _ (gin_up hin hb1) (smG_ok hG))
  rw [hc] at HM
  have Hb1 := hide hb1; have Hst := hide hst; have Hin := hide hin; have Hrow := hide hrow; have Hs := hide hs
  have hnot := run_not
  have hs1 : (w.alloc (.cells #[.slice ka G.kinds.length kc, .slice pa G.precs.length pc, .slice ra G.rules.length rc, .slice qa G.prods.length qc, .int .i64 G.start] 26)).heap.size = w.heap.size + 1 := by simp
  clear hst hb1 hin hc hrow hs
  go_enter Tryz.func11, Tryz.ntmps11
  go_wp2_with fail
  generalize w.alloc (.cells #[.slice ka G.kinds.length kc, .slice pa G.precs.length pc, .slice ra G.rules.length rc, .slice qa G.prods.length qc, .int .i64 G.start] 26) = w1 at *
  refine (unhide HM).mono ?_
  rintro e w2 ⟨rfl, hb2⟩
  have hs2 := hb2.size
  have hbw2 := (unhide Hb1).trans (below_le hb2 (by omega))
  have hst2 := gst_kept (below_le hb2 (by omega)) (Nat.le_refl _) (unhide Hst)
  have d0 := hst2.c0; have d1 := hst2.c1; have d2 := hst2.c2; have d3 := hst2.c3; have d4 := hst2.c4
  have hk3 := hG.k3; have hr2 := hG.r2
  unfold Gm.nk at hk3
  unfold Gm.nr at hr2
  have HA := hide (areSymbols_any ka pa ra qa G.kinds.length kc G.precs.length pc G.rules.length rc G.prods.length qc G.start (by omega) ro rowc row hl w.heap.size w2 hbw2.size (nrow_kept hbw2 (unhide Hrow)))
  have hdec : decide (symsTo (G.kinds.length + G.rules.length) row row.length) = true := decide_eq_true (symsTo_in.2 (unhide Hs))
  rw [hdec] at HA
  have Hbw2 := hide hbw2
  have hs2w : w.heap.size + 1 ≤ w2.heap.size := by omega
  clear hb2 hbw2 hst2 HM hdec
  go_wp2_with fail
  refine (unhide HA).mono ?_
  rintro e w3 ⟨rfl, hb3⟩
  have hs3 := hb3.size
  have hbw3 := (unhide Hbw2).trans (below_le hb3 (by omega))
  have e0 := (hb3.cell (p := ⟨w.heap.size, 0, none⟩) (by show w.heap.size < _; omega)).trans d0
  have e1 := (hb3.cell (p := ⟨w.heap.size, 1, none⟩) (by show w.heap.size < _; omega)).trans d1
  have e2 := (hb3.cell (p := ⟨w.heap.size, 2, none⟩) (by show w.heap.size < _; omega)).trans d2
  have e3 := (hb3.cell (p := ⟨w.heap.size, 3, none⟩) (by show w.heap.size < _; omega)).trans d3
  have e4 := (hb3.cell (p := ⟨w.heap.size, 4, none⟩) (by show w.heap.size < _; omega)).trans d4
  have HNG := hide (newGrammar_any G hG ka pa ra qa kc pc rc qc w3 (gin_up (unhide Hin) hbw3))
  have Hbw3 := hide hbw3
  clear hb3 hbw3 d0 d1 d2 d3 d4 HA
  go_wp2_with fail
  refine (unhide HNG).mono ?_
  rintro e w4 ⟨gb, ob, ub, rfl, hg4, hb4⟩
  have hs4 := hb4.size
  have HNB := hide (newBeginnings_any G hG ka pa ra qa kc pc rc qc gb ob ub w4.heap.size w4 (Nat.le_refl _) hg4)
  have Hg4 := hide hg4
  have Hbw4 := hide ((unhide Hbw3).trans (below_le hb4 (by have := (unhide Hbw3).size; omega)))
  clear hg4 hb4 HNG e0 e1 e2 e3 e4
  go_wp2_with fail
  refine (unhide HNB).mono ?_
  rintro e w5 ⟨bb, nb, sb, sc, A, rfl, hbg5, hb5⟩
  have hs5 := hb5.size
  have hbw5 := (unhide Hbw4).trans (below_le hb5 (unhide Hbw4).size)
  have hg5 := gr_kept (unhide Hg4) hb5
  have hgl := hg5.lt
  have HOf := hide (of_any G hG ka kc gb bb nb sb sc _ A ro rowc row hl (unhide Hs) w5 (by omega) (by unfold World.cell?; rw [hg5.box]; rfl) hbg5 (nrow_big hbw5.size (nrow_kept hbw5 (unhide Hrow))))
  have Hbw5 := hide hbw5
  clear hbg5 hb5 hg5 HNB hbw5
  go_wp2_with fail
  refine (unhide HOf).mono ?_
  rintro e w6 ⟨S, O, f, rfl, hs6, hf6, hb6⟩
  have hs6z := hb6.size
  have hbw6 := (unhide Hbw5).trans (below_le hb6 (unhide Hbw5).size)
  have HAl := hide (all_n S O f (begB G.nk (nullF G) (fstF G) row) G.nk hf6 (fun k hk => by
    obtain ⟨i, hi, -, ⟨h1, h2⟩ | ⟨-, h2⟩⟩ := begB_iff.1 hk
    · have h3 := unhide Hs _ (mem_getD hi); omega
    · exact fst_lt hG ((fstF_is _ _ _).1 h2)) w6 hs6 (tb_up (unhide Hin).tab (Nat.le_refl _) hbw6))
  have Hbw6 := hide hbw6
  generalize hem : emptyB G.nk (nullF G) row = em at *
  clear hs6 hf6 hb6 HOf hbw6
  go_wp2_with fail
  refine (unhide HAl).mono ?_
  rintro e w7 ⟨v7, rfl, ho7, hb7⟩
  obtain ⟨va, vc, rfl⟩ := own_form ho7
  obtain ⟨_, _, he7, hn7⟩ := own_nrow ho7
  cases he7
  have Hn7 := hide hn7
  have Hbw7 := hide ((unhide Hbw6).trans (below_le hb7 (unhide Hbw6).size))
  clear ho7 hb7 hn7
  go_wp2
  refine bodyPost_ret (v := .tuple #[.slice va (posL (boolsOf (begB G.nk (nullF G) (fstF G) row) G.nk)).length vc, .bool em, .int .i64 0]) ?zz9 rfl ⟨va, vc, by rw [hem]; rfl, unhide Hn7, unhide Hbw7⟩
  case zz9 => simp [results, Tryz.results11, go_sem]
set_option maxHeartbeats 2000000 in
set_option maxRecDepth 100000 in
theorem firstout11 : FirstOut 11 := fun G hc ka pa ra qa kc pc rc qc ro rowc row hl hs w hin hrow => by
  have hG := check_ok hc
  have hst := gst_new (kc := kc) (pc := pc) (rc := rc) (qc := qc) (Nat.le_refl _) hin 26
  have hb1 : Below w.heap.size w (w.alloc (.cells #[.slice ka G.kinds.length kc, .slice pa G.precs.length pc, .slice ra G.rules.length rc, .slice qa G.prods.length qc, .int .i64 G.start] 26)) := (Below.refl _ _).alloc (Nat.le_refl _) _
  have HM := hide (mayBe_any G ka pa ra qa kc pc rc qc _ (gin_up hin hb1) (smG_ok hG))
  rw [hc] at HM
  have Hb1 := hide hb1; have Hst := hide hst; have Hrow := hide hrow; have Hs := hide hs
  have hnot := run_not
  have hs1 : (w.alloc (.cells #[.slice ka G.kinds.length kc, .slice pa G.precs.length pc, .slice ra G.rules.length rc, .slice qa G.prods.length qc, .int .i64 G.start] 26)).heap.size = w.heap.size + 1 := by simp
  clear hst hb1 hin hc hrow hs
  go_enter Tryz.func11, Tryz.ntmps11
  go_wp2_with fail
  generalize w.alloc (.cells #[.slice ka G.kinds.length kc, .slice pa G.precs.length pc, .slice ra G.rules.length rc, .slice qa G.prods.length qc, .int .i64 G.start] 26) = w1 at *
  refine (unhide HM).mono ?_
  rintro e w2 ⟨rfl, hb2⟩
  have hs2 := hb2.size
  have hbw2 := (unhide Hb1).trans (below_le hb2 (by omega))
  have hst2 := gst_kept (below_le hb2 (by omega)) (Nat.le_refl _) (unhide Hst)
  have d0 := hst2.c0; have d1 := hst2.c1; have d2 := hst2.c2; have d3 := hst2.c3; have d4 := hst2.c4
  have hk3 := hG.k3; have hr2 := hG.r2
  unfold Gm.nk at hk3
  unfold Gm.nr at hr2
  have HA := hide (areSymbols_any ka pa ra qa G.kinds.length kc G.precs.length pc G.rules.length rc G.prods.length qc G.start (by omega) ro rowc row hl w.heap.size w2 hbw2.size (nrow_kept hbw2 (unhide Hrow)))
  have hdec : decide (symsTo (G.kinds.length + G.rules.length) row row.length) = false := decide_eq_false (fun h => unhide Hs (symsTo_in.1 h))
  rw [hdec] at HA
  have Hbw2 := hide hbw2
  have hs2w : w.heap.size + 1 ≤ w2.heap.size := by omega
  clear hb2 hbw2 hst2 HM hdec
  go_wp2_with fail
  refine (unhide HA).mono ?_
  rintro e w3 ⟨rfl, hb3⟩
  have Hbw3 := hide ((unhide Hbw2).trans (below_le hb3 (by omega)))
  clear hb3
  go_wp2
  refine bodyPost_ret (v := .tuple #[.slice none 0 0, .bool false, .int .i64 1]) ?zz9 rfl ⟨rfl, unhide Hbw3⟩
  case zz9 => simp [results, Tryz.results11, go_sem]
theorem first11 : FirstC 11 := firstC_of firstyes11 firstout11 firstno11
end Go.Proofs.YtagohbpbgjelaaaGreatDoor

/- The code's Least. -/
namespace Go.Proofs.YtagohbpbgjelaaaGreatDoor
open Go.RowKit

set_option maxHeartbeats 2000000 in
set_option maxRecDepth 100000 in
theorem leastyes24 : LeastYes 24 := fun G hc ka pa ra qa kc pc rc qc r hr w hin => by
  have hG := check_ok hc
  have hst := gst_new (kc := kc) (pc := pc) (rc := rc) (qc := qc) (Nat.le_refl _) hin 26
  have hb1 : Below w.heap.size w (w.alloc (.cells #[.slice ka G.kinds.length kc, .slice pa G.precs.length pc, .slice ra G.rules.length rc, .slice qa G.prods.length qc, .int .i64 G.start] 26)) := (Below.refl _ _).alloc (Nat.le_refl _) _
  have HM := hide (mayBe_any G ka pa ra qa kc pc rc qc _ (gin_up hin hb1) (smG_ok hG))
  rw [hc] at HM
  have Hb1 := hide hb1; have Hst := hide hst; have Hin := hide hin
  have hnot := run_not
  have hs1 : (w.alloc (.cells #[.slice ka G.kinds.length kc, .slice pa G.precs.length pc, .slice ra G.rules.length rc, .slice qa G.prods.length qc, .int .i64 G.start] 26)).heap.size = w.heap.size + 1 := by simp
  clear hst hb1 hin hc
  go_enter Tryz.func24, Tryz.ntmps24
  go_wp2_with fail
  generalize w.alloc (.cells #[.slice ka G.kinds.length kc, .slice pa G.precs.length pc, .slice ra G.rules.length rc, .slice qa G.prods.length qc, .int .i64 G.start] 26) = w1 at *
  refine (unhide HM).mono ?_
  rintro e w2 ⟨rfl, hb2⟩
  have hs2 := hb2.size
  have hbw2 := (unhide Hb1).trans (below_le hb2 (by omega))
  have hst2 := gst_kept (below_le hb2 (by omega)) (Nat.le_refl _) (unhide Hst)
  have d0 := hst2.c0; have d1 := hst2.c1; have d2 := hst2.c2; have d3 := hst2.c3; have d4 := hst2.c4
  have HA := hide (isRule_any ka pa ra qa G.kinds.length kc G.precs.length pc G.rules.length rc G.prods.length qc G.start (r : Int) w2)
  have hdec : decide (0 ≤ (r : Int) ∧ (r : Int) < G.rules.length) = true := decide_eq_true (by omega)
  rw [hdec] at HA
  have Hbw2 := hide hbw2
  have hs2w : w.heap.size + 1 ≤ w2.heap.size := by omega
  clear hb2 hbw2 hst2 HM hdec
  go_wp2_with fail
  refine (unhide HA).mono ?_
  rintro e w3 ⟨rfl, hb3⟩
  have hs3 := hb3.size
  have hbw3 := (unhide Hbw2).trans (below_le hb3 (by omega))
  have e0 := (hb3.cell (p := ⟨w.heap.size, 0, none⟩) (by show w.heap.size < _; omega)).trans d0
  have e1 := (hb3.cell (p := ⟨w.heap.size, 1, none⟩) (by show w.heap.size < _; omega)).trans d1
  have e2 := (hb3.cell (p := ⟨w.heap.size, 2, none⟩) (by show w.heap.size < _; omega)).trans d2
  have e3 := (hb3.cell (p := ⟨w.heap.size, 3, none⟩) (by show w.heap.size < _; omega)).trans d3
  have e4 := (hb3.cell (p := ⟨w.heap.size, 4, none⟩) (by show w.heap.size < _; omega)).trans d4
  have HNG := hide (newGrammar_any G hG ka pa ra qa kc pc rc qc w3 (gin_up (unhide Hin) hbw3))
  have Hbw3 := hide hbw3
  clear hb3 hbw3 d0 d1 d2 d3 d4 HA
  go_wp2_with fail
  refine (unhide HNG).mono ?_
  rintro e w4 ⟨gb, ob, ub, rfl, hg4, hb4⟩
  have hs4 := hb4.size
  have HLE := hide (leasts_any G hG ka pa ra qa kc pc rc qc gb ob ub w4.heap.size w4 (Nat.le_refl _) hg4)
  have Hbw4 := hide ((unhide Hbw3).trans (below_le hb4 (by have := (unhide Hbw3).size; omega)))
  clear hg4 hb4 HNG e0 e1 e2 e3 e4
  go_wp2_with fail
  refine (unhide HLE).mono ?_
  rintro e w5 ⟨b, L, rfl, hrow, hL, hbb, hb5⟩
  have Hbw5 := hide ((unhide Hbw4).trans (below_le hb5 (unhide Hbw4).size))
  have lc := hrow.cell hr
  have hr' : (r : Int) < G.rules.length := by omega
  have HL := hide hL
  have hlg : L r = -1 ∨ 0 ≤ L r := by
    rcases hL.1 r with h | h
    · exact .inl h
    · exact .inr h.1
  clear hb5 HLE hL hrow
  by_cases hneg : L r = -1
  · go_wp2
    refine bodyPost_ret (v := .tuple #[.int .i64 0, .bool false, .int .i64 0]) ?zz9 rfl ⟨L, unhide HL, by rw [hneg]; rfl, unhide Hbw5⟩
    case zz9 => simp [results, Tryz.results24, go_sem]
  · have hnn : 0 ≤ L r := by omega
    have hmx : max (L r) 0 = L r := by omega
    have hde : decide (0 ≤ L r) = true := decide_eq_true hnn
    have Hend : Hid ((.tuple #[.int .i64 (max (L r) 0), .bool (decide (0 ≤ L r)), .int .i64 0] : Value) = .tuple #[.int .i64 (L r), .bool true, .int .i64 0]) := hide (by rw [hmx, hde])
    clear hmx hde
    go_wp2
    refine bodyPost_ret (v := .tuple #[.int .i64 (L r), .bool true, .int .i64 0]) ?zz9 rfl ⟨L, unhide HL, by rw [unhide Hend], unhide Hbw5⟩
    case zz9 => simp [results, Tryz.results24, go_sem]
end Go.Proofs.YtagohbpbgjelaaaGreatDoor

/- Which productions lead: every one; those whose rules are all marked. -/
namespace Go.Proofs.YtagohbpbgjelaaaGreatDoor
open Go.RowKit

theorem everyProd_any (q : Nat) (w : World) : Calls Tryz.prog 33 (#[.int .i64 (q : Int)] ++ #[]) w fun e w' => e = .returned (.bool true) ∧ w' = w := by
  show Calls Tryz.prog 33 #[.int .i64 (q : Int)] w _
  go_enter Tryz.func33, Tryz.ntmps33
  go_wp2
  go_ret
  exact ⟨rfl, rfl⟩
theorem callF33 : ∀ args W, Sem.run Tryz.prog (callFunc 33 args) W = .ok (.enter 33 args) W := fun _ _ => by simp [callFunc, Tryz.func33, Tryz.f33, go_sem, Result.andThen]
end Go.Proofs.YtagohbpbgjelaaaGreatDoor

/- The code's Look where it is refused, Trim and Lines there; what is reached by every production. -/
namespace Go.Proofs.YtagohbpbgjelaaaGreatDoor
open Go.RowKit

theorem reached33_any (G : Gm) (hG : GOk G) (ka pa ra qa : Option Addr) (kc pc rc qc gb ob ub : Nat) (M : Nat) (w : World) (hM : M ≤ w.heap.size) (hg : GrAt M w G ka kc pa pc ra rc qa qc gb ob ub) :
    Calls Tryz.prog 32 #[.pointer (some ⟨gb, 0, none⟩), .func (.func 33) #[] #[]] w fun e w' => ∃ b : Nat, e = .returned (.slice (some ⟨b, 0, none⟩) G.rules.length G.rules.length) ∧ w'.rowIs b 4 G.rules.length (fun r => .bool (atF G r)) ∧ w.heap.size ≤ b ∧ Below w.heap.size w w' :=
  reached_any G hG ka pa ra qa kc pc rc qc gb ob ub M 33 #[] (fun _ => true) (fun _ => true) (fun _ _ => rfl) callF33 w hM hg (fun W q hq _ => (everyProd_any q W).mono fun e W' ⟨h1, h2⟩ => ⟨h1, by rw [h2]; exact Below.refl _ _⟩)
end Go.Proofs.YtagohbpbgjelaaaGreatDoor

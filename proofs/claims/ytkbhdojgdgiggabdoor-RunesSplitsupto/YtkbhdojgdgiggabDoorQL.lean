/- The law RunesSplits, walked. -/
import Derived.Test.YtkbhdojgdgiggabDoorQK
import Derived.Test.YtkbhdojgdgiggabDoorV4
import Derived.Deep.CutRange
import Derived.Deep.RegionHeld3
import Derived.Deep.DeepCutAuto
namespace Go.Proofs.YtkbhdojgdgiggabDoor
open Go.RowKit

theorem own_someS {w : World} {B e s n c : Nat} {va : Option Addr} {xs : List Value} (h : w.ownsRow B e s (.slice va n c) n xs) (hn : 0 < n) : ∃ g, va = some ⟨g, 0, none⟩ := by
  rcases h.2 with ⟨h1, h2⟩ | ⟨g, cap', cur, h1, _⟩
  · omega
  · simp only [Value.slice.injEq] at h1; exact ⟨g, h1.1⟩
theorem mem_totS {ls : List (List Rng)} {s : List Rng} (h : s ∈ ls) : s.length ≤ tot ls := by
  induction ls with
  | nil => simp at h
  | cons t ls ih =>
    simp only [tot, List.map_cons, List.sum_cons]
    rcases List.mem_cons.1 h with rfl | h
    · omega
    · have := ih h
      unfold tot at this
      omega
theorem cut_zero {ls : List (List Rng)} (h : cutC ls = 0) : chkAll ls = 0 ∧ cutR ls = startsL ls ∧ (startsL ls).length ≤ 2048 := by
  have e : cutR ls = startsL ls := if_pos h
  unfold cutC at h
  by_cases h1 : chkAll ls = 0
  · rw [if_pos h1] at h
    by_cases h2 : (startsL ls).length > 2048
    · rw [if_pos h2] at h; omega
    · exact ⟨h1, e, by omega⟩
  · rw [if_neg h1] at h; exact absurd h h1
def alikeTo (ls : List (List Rng)) (r s : Int) (i : Nat) : Bool := (List.range i).all fun j => hasB (ls.getD j []) r == hasB (ls.getD j []) s
theorem alikeTo_succ (ls : List (List Rng)) (r s : Int) (i : Nat) : alikeTo ls r s (i + 1) = (alikeTo ls r s i && (hasB (ls.getD i []) r == hasB (ls.getD i []) s)) := by
  unfold alikeTo; rw [List.range_succ, List.all_append]; simp
def partTo (ls : List (List Rng)) (d : Int) (k : Nat) : Bool := (List.range k).any fun j => hasB (ls.getD j []) (d - 1) != hasB (ls.getD j []) d
theorem partTo_succ (ls : List (List Rng)) (d : Int) (k : Nat) : partTo ls d (k + 1) = (partTo ls d k || (hasB (ls.getD k []) (d - 1) != hasB (ls.getD k []) d)) := by
  unfold partTo; rw [List.range_succ, List.any_append]; simp
theorem below_drew1 {B : Nat} {w w' : World} (h : Below B w w') : Below B w w'.drew := ⟨h.os, h.tape, h.output, h.size, h.block⟩
theorem below_drewS {B : Nat} {w w' : World} (q : Nat) (h : Below B w w') : Below B w (w'.drewN q) := ⟨h.os, h.tape, h.output, h.size, h.block⟩
/-- One set of those that lie there: its place, and Has of it, wherever one stands. -/
theorem set_has {P : World} {a : Option Addr} {ls : List (List Rng)} (h : SetsAt P a ls) (hl : ∀ s ∈ ls, s.length ≤ 281474976710656) {i : Nat} (hi : i < ls.length) :
    ∃ b off ai ci, a = some ⟨b, off, none⟩ ∧ (∀ X, Below P.heap.size P X → X.cell? ⟨b, off + i, none⟩ = some (.slice ai (ls.getD i []).length ci)) ∧
      ∀ (q : Int) X, Below P.heap.size P X → Calls Tryd.prog 14 #[.slice ai (ls.getD i []).length ci, .int .i32 q] X fun e w' => e = .returned (.bool (hasB (ls.getD i []) q)) ∧ Below P.heap.size P w' ∧ w'.cell? ⟨b, off + i, none⟩ = some (.slice ai (ls.getD i []).length ci) := by
  obtain ⟨b, off, ai, ci, ha, hlt, hc, hr⟩ := setsAt_cell h (Below.refl _ _) hi
  have hx : ∀ X, Below P.heap.size P X → X.cell? ⟨b, off + i, none⟩ = some (.slice ai (ls.getD i []).length ci) := fun X hX => (hX.cell (p := ⟨b, off + i, none⟩) hlt).trans hc
  refine ⟨b, off, ai, ci, ha, hx, fun q X hX => ?_⟩
  have hle : (ls.getD i []).length ≤ 281474976710656 := hl _ (by rw [List.getD_eq_getElem?_getD, List.getElem?_eq_getElem hi]; exact List.getElem_mem _)
  refine (has_any ai ci (ls.getD i []) hle q X (rowAt_below hr (Nat.le_refl _) hX)).mono ?_
  rintro e w' ⟨he, hb⟩
  have hB := hX.trans (below_le hb hX.size)
  exact ⟨he, hB, hx w' hB⟩

set_option maxHeartbeats 16000000 in
set_option maxRecDepth 100000 in
theorem splits_walk (a : Option Addr) (cap : Nat) (ls : List (List Rng)) (hn : ls.length ≤ 281474976710656) (ht : tot ls ≤ 1000000000) (r s : Int) (w : World) (hsets : SetsAt w a ls) :
    Calls Tryd.prog 4 #[.slice a ls.length cap, .int .i32 r, .int .i32 s] w fun e w' => e = .returned (.bool true) ∧ Below w.heap.size w w' := by
  have hl : ∀ s ∈ ls, s.length ≤ 281474976710656 := fun s hs => by have := mem_totS hs; omega
  have H1 := hide (cuts_any a cap ls hn hl (fun _ => by omega) w hsets)
  have Hs := hide hsets
  have Hl := hide hl
  clear hsets hl
  by_cases hgood : cutC ls = 0 ∧ 0 ≤ r ∧ 0 ≤ s ∧ r ≤ 1114111 ∧ s ≤ 1114111
  · obtain ⟨hc0, hr0, hs0, hr1, hs1⟩ := hgood
    obtain ⟨hch, hCR, hC2⟩ := cut_zero hc0
    have HZ := hide (starts_zero ls (sets_isR hch))
    have HUp := hide (sup_pairwise (starts_up ls (sets_isR hch)))
    have HAl := hide (fun hc => alike_of_cls hch hr0 hr1 hs0 hs1 hc)
    have HPt := hide (fun i (hi : i + 1 < (startsL ls).length) => cut_parts hch hi)
    have HMx := hide (fun d (hd : d ∈ startsL ls) => sup_mem (starts_up ls (sets_isR hch)) hd)
    have hpos : 0 < (startsL ls).length := List.length_pos_of_mem ((mem_starts ls 0).2 (by simp [rawL]))
    unfold CutPost at H1
    rw [hc0, hCR] at H1
    have n1 : decide (r < 0) = false := by simp; omega
    have n2 : decide (s < 0) = false := by simp; omega
    have n3 : decide ((1114111 : Int) < r) = false := by simp; omega
    have n4 : decide ((1114111 : Int) < s) = false := by simp; omega
    clear hch hCR hc0
    generalize startsL ls = L at *
    go_enter Tryd.func4, Tryd.ntmps4
    go_wp2_with fail
    refine (unhide H1).mono ?_
    rintro e P ⟨v1, rfl, ho, hb⟩
    obtain ⟨va, vc, rfl⟩ := ownsRow_slice ho
    obtain ⟨g, rfl⟩ := own_someS ho hpos
    have HO := hide ho; have HB := hide hb
    have HsP := hide (setsAt_below (unhide Hs) (Nat.le_refl _) hb)
    clear ho hb H1 Hs
    go_wp2
    go_loopw [9, 10] (fun x y wr => ∃ i : Nat, x = .bool (alikeTo ls r s i) ∧ y = .int .i64 i ∧ i ≤ ls.length ∧ Below P.heap.size P wr) (fun _ y _ => ls.length - (intOf y).toNat)
    case atStart => exact ⟨0, rfl, rfl, by omega, Below.refl _ _⟩
    case round =>
      obtain ⟨i, rfl, rfl, hil, hbel⟩ := hrel
      by_cases hlt : i < ls.length
      · have hlt' : (i : Int) < ls.length := by omega
        obtain ⟨b, off, ai, ci, rfl, hx, hr⟩ := set_has (unhide HsP) (unhide Hl) hlt
        have HR := hide hr; have HX := hide hx
        have hcN := hx wr hbel
        have Hsu := hide (alikeTo_succ ls r s i)
        clear hr hx
        generalize ls.getD i [] = t at *
        generalize alikeTo ls r s i = al at *
        go_upto_region 8 with fail
        go_cut [65] from 47 to 65 (fun x wx => x = .bool (hasB t r != hasB t s) ∧ Below P.heap.size P wx)
        case first =>
          go_region_with (go_at_call 14; refine (unhide HR _ _ (by first | exact hbN | exact below_drew1 hbN | exact hbel | exact below_drew1 hbel)).mono ?_; rintro e XN ⟨rfl, hbN, hcN⟩)
          all_goals
            go_wp2_with fail
            go_meet
            case rel => exact ⟨rfl, hbN⟩
        case rest =>
          clear hbel hcN
          obtain ⟨rfl, hbel⟩ := hcut
          have Hbel := hide hbel
          clear hbel
          by_cases hq : hasB t r = hasB t s
          · have hq' : (hasB t r != hasB t s) = false := by simp [hq]
            have Hsu2 : Hid (alikeTo ls r s (i + 1) = al) := hide (by rw [unhide Hsu, hq]; simp)
            generalize (hasB t r != hasB t s) = bq at *
            subst hq'
            go_wp2
            go_roundw
            case rel => exact ⟨i + 1, by rw [unhide Hsu2], by go_num, by omega, unhide Hbel⟩
            case measure => simp [intOf]; omega
          · have hq' : (hasB t r != hasB t s) = true := by simpa using hq
            have Hsu2 : Hid (alikeTo ls r s (i + 1) = false) := hide (by rw [unhide Hsu, show (hasB t r == hasB t s) = false by simpa using hq]; simp)
            generalize (hasB t r != hasB t s) = bq at *
            subst hq'
            go_wp2
            go_roundw
            case rel => exact ⟨i + 1, by rw [unhide Hsu2], by go_num, by omega, unhide Hbel⟩
            case measure => simp [intOf]; omega
      · have hlt' : ¬ (i : Int) < ls.length := by omega
        obtain rfl : i = ls.length := by omega
        have HC1 := hide (class_any w.heap.size g vc L hpos (unhide HUp) hC2 r wr (ownsRow_below (unhide HO) hbel (Nat.le_refl _)))
        have HC2 := hide (fun X (hX : Below P.heap.size P X) => class_any w.heap.size g vc L hpos (unhide HUp) hC2 s X (ownsRow_below (unhide HO) hX (Nat.le_refl _)))
        have HAl2 : Hid (clsN L r (L.length - 1) = clsN L s (L.length - 1) → alikeTo ls r s ls.length = true) := hide fun hc => by
          unfold alikeTo
          rw [List.all_eq_true]
          intro k hk
          have hk' : k < ls.length := by simpa using hk
          simp only [beq_iff_eq]
          exact unhide HAl hc _ (by rw [List.getD_eq_getElem?_getD, List.getElem?_eq_getElem hk']; exact List.getElem_mem _)
        generalize alikeTo ls r s ls.length = al at *
        generalize clsN L r (L.length - 1) = cn1 at *
        generalize clsN L s (L.length - 1) = cn2 at *
        have hszb := hbel.size
        go_upto_region 10 with fail
        go_cut [76] (fun x wx => x = .bool false ∧ Below P.heap.size P wx)
        case first =>
          go_wp2_with fail
          refine (unhide HC1).mono ?_
          rintro e E1 ⟨rfl, hb1⟩
          have hbE := hbel.trans (below_le hb1 hszb)
          have HC3 := hide (unhide HC2 E1 hbE)
          have HbE := hide hbE
          clear hb1 HC1 HC2 hbE
          go_wp2_with fail
          refine (unhide HC3).mono ?_
          rintro e E2 ⟨rfl, hb2⟩
          have HbE2 := hide ((unhide HbE).trans (below_le hb2 (unhide HbE).size))
          clear hb2 HC3
          by_cases hcn : cn1 = cn2
          · have hcn' : ((cn1 : Int) == (cn2 : Int)) = true := by simp [hcn]
            obtain rfl := unhide HAl2 hcn
            go_wp2_with fail
            go_meet
            case rel => exact ⟨rfl, unhide HbE2⟩
          · have hcn' : ((cn1 : Int) == (cn2 : Int)) = false := by simp; omega
            go_wp2_with fail
            go_meet
            case rel => exact ⟨rfl, unhide HbE2⟩
        case rest =>
          clear hbel hszb HC1 HC2 HAl2
          obtain ⟨rfl, hbel⟩ := hcut
          have Hbel := hide hbel
          clear hbel
          go_wp2
          go_loopw [11] (fun x wr => ∃ i : Nat, x = .int .i64 (i + 1 : Nat) ∧ i + 1 ≤ L.length ∧ Below P.heap.size P wr) (fun x _ => L.length - (intOf x).toNat)
          case atStart => exact ⟨0, rfl, by omega, unhide Hbel⟩
          case round =>
            clear Hbel
            obtain ⟨i, rfl, hiL, hbel⟩ := hrel
            have Hbel := hide hbel
            clear hbel
            by_cases hlt2 : i + 1 < L.length
            · have hlt2' : (i : Int) + 1 < L.length := by omega
              have hge0 : (0 : Int) ≤ (i : Int) + 1 := by omega
              have hPt := unhide HPt i hlt2
              have hd1 := own_cells (unhide HO) (i + 1) hlt2
              have hd0 := own_cells (unhide HO) i (by omega)
              have hgl : g < P.heap.size := ((unhide HO).lt g rfl).2
              have hrise : L.getD i 0 < L.getD (i + 1) 0 := by
                have := (List.pairwise_iff_getElem.1 (unhide HUp)) i (i + 1) (by omega) hlt2 (by omega)
                simpa [List.getElem?_eq_getElem hlt2, List.getElem?_eq_getElem (show i < L.length by omega)] using this
              have hmx := unhide HMx (L.getD (i + 1) 0) (by rw [List.getD_eq_getElem?_getD, List.getElem?_eq_getElem hlt2]; exact List.getElem_mem _)
              have Hd1 := hide hd1; have Hd0 := hide hd0
              have HpT : Hid (partTo ls (L.getD (i + 1) 0) ls.length = true) := hide (by
                obtain ⟨k, hk, hne⟩ := hPt
                unfold partTo
                rw [List.any_eq_true]
                exact ⟨k, by simpa using hk, by simpa using hne⟩)
              clear hPt hd1 hd0
              generalize L.getD (i + 1) 0 = d at *
              generalize L.getD i 0 = d0 at *
              have hwd : IntKind.i32.wrap (d - 1) = d - 1 := IntWalk.i32_in _ ⟨by omega, by omega⟩
              go_wp2
              go_loopw [12, 13] (fun x y wr => ∃ k : Nat, x = .bool (partTo ls d k) ∧ y = .int .i64 k ∧ k ≤ ls.length ∧ Below P.heap.size P wr) (fun _ y _ => ls.length - (intOf y).toNat)
              case atStart => exact ⟨0, rfl, rfl, by omega, unhide Hbel⟩
              case round =>
                clear Hbel
                obtain ⟨k, rfl, rfl, hkl, hbel⟩ := hrel
                by_cases hlt3 : k < ls.length
                · have hlt3' : (k : Int) < ls.length := by omega
                  obtain ⟨b, off, ai, ci, rfl, hx, hr⟩ := set_has (unhide HsP) (unhide Hl) hlt3
                  have HR : Hid (∀ (q : Int) X, Below P.heap.size P X → Calls Tryd.prog 14 #[.slice ai (ls.getD k []).length ci, .int .i32 q] X fun e w' => e = .returned (.bool (hasB (ls.getD k []) q)) ∧ Below P.heap.size P w' ∧ w'.cell? ⟨b, off + k, none⟩ = some (.slice ai (ls.getD k []).length ci) ∧ w'.cell? ⟨g, i + 1, none⟩ = some (.int .i32 d)) := hide fun q X hX => (hr q X hX).mono fun e w' ⟨h1, h2, h3⟩ => ⟨h1, h2, h3, (h2.cell (p := ⟨g, i + 1, none⟩) hgl).trans (unhide Hd1)⟩
                  have hcN := hx wr hbel
                  have hdN : wr.cell? ⟨g, i + 1, none⟩ = some (.int .i32 d) := (hbel.cell (p := ⟨g, i + 1, none⟩) hgl).trans (unhide Hd1)
                  have Hsu := hide (partTo_succ ls d k)
                  clear hr hx
                  generalize ls.getD k [] = t at *
                  generalize partTo ls d k = pt at *
                  go_upto_region 19 with fail
                  go_cut [108] from 83 to 108 (fun x wx => x = .bool (hasB t (d - 1) != hasB t d) ∧ Below P.heap.size P wx)
                  case first =>
                    go_region_held3 (fun w' : World => w'.cell? ⟨b, off + k, none⟩ = some (.slice ai t.length ci) ∧ w'.cell? ⟨g, i + 1, none⟩ = some (.int .i32 d)) (first | exact ⟨hcN, hdN⟩ | go_keep) ((first | (go_at_call 14; refine (unhide HR _ _ (by first | exact hbN | exact below_drew1 hbN | exact hbel | exact below_drew1 hbel)).mono ?_; rintro e XN ⟨rfl, hbN, hcN, hdN⟩)))
                    all_goals
                      go_wp2_with fail
                      go_meet
                      case rel => exact ⟨rfl, hbN⟩
                  case rest =>
                    clear hbel hcN hdN
                    obtain ⟨rfl, hbel⟩ := hcut
                    have Hbel := hide hbel
                    clear hbel
                    by_cases hq : hasB t (d - 1) = hasB t d
                    · have hq' : (hasB t (d - 1) != hasB t d) = false := by simp [hq]
                      have Hsu2 : Hid (partTo ls d (k + 1) = pt) := hide (by rw [unhide Hsu, hq']; simp)
                      generalize (hasB t (d - 1) != hasB t d) = bq at *
                      subst hq'
                      go_wp2
                      go_roundw
                      case rel => exact ⟨k + 1, by rw [unhide Hsu2], by go_num, by omega, unhide Hbel⟩
                      case measure => simp [intOf]; omega
                    · have hq' : (hasB t (d - 1) != hasB t d) = true := by simpa using hq
                      have Hsu2 : Hid (partTo ls d (k + 1) = true) := hide (by rw [unhide Hsu, hq']; simp)
                      generalize (hasB t (d - 1) != hasB t d) = bq at *
                      subst hq'
                      go_wp2
                      go_roundw
                      case rel => exact ⟨k + 1, by rw [unhide Hsu2], by go_num, by omega, unhide Hbel⟩
                      case measure => simp [intOf]; omega
                · have hlt3' : ¬ (k : Int) < ls.length := by omega
                  obtain rfl : k = ls.length := by omega
                  rw [unhide HpT]
                  have x1 : wr.cell? ⟨g, i + 1, none⟩ = some (.int .i32 d) := (hbel.cell (p := ⟨g, i + 1, none⟩) hgl).trans (unhide Hd1)
                  have x0 : wr.cell? ⟨g, i, none⟩ = some (.int .i32 d0) := (hbel.cell (p := ⟨g, i, none⟩) hgl).trans (unhide Hd0)
                  have hge : decide (d ≤ d0) = false := by simp; omega
                  have hi0 : (i : Int) < L.length := by omega
                  have Hbel := hide hbel
                  clear hbel
                  go_wp2
                  go_quiet (fail)
                  go_wp2
                  go_roundw
                  case rel => exact ⟨i + 1, by go_num, by omega, below_drewS nq (unhide Hbel)⟩
                  case measure => simp [intOf]; omega
            · have hlt2' : ¬ (i : Int) + 1 < L.length := by omega
              have x0 : wr.cell? ⟨g, 0, none⟩ = some (.int .i32 0) := by
                have := own_cells (unhide HO) 0 hpos
                obtain ⟨mm, hmm⟩ := unhide HZ
                rw [show L.getD 0 0 = 0 by rw [hmm]; rfl] at this
                exact ((unhide Hbel).cell (p := ⟨g, 0, none⟩) ((unhide HO).lt g rfl).2).trans this
              have hp1 : (1 : Int) ≤ L.length := by omega
              have hp0 : (0 : Int) < L.length := by omega
              have HA := hide (awake_any wr)
              go_wp2_with fail
              refine (unhide HA).mono ?_
              rintro e E ⟨rfl, hbE⟩
              go_wp2
              go_ret
              exact ⟨rfl, (unhide HB).trans (below_le ((unhide Hbel).trans (below_le hbE (unhide Hbel).size)) (unhide HB).size)⟩
  · have hres : ∀ C, Hid (cutC ls = C) → True := fun _ _ => trivial
    by_cases hc0 : cutC ls = 0
    · obtain ⟨hch, hCR, hC2⟩ := cut_zero hc0
      unfold CutPost at H1
      rw [hc0] at H1
      generalize cutR ls = C at *
      have hbad : r < 0 ∨ s < 0 ∨ 1114111 < r ∨ 1114111 < s := by omega
      clear hgood hCR hres
      by_cases b1 : r < 0
      · go_enter Tryd.func4, Tryd.ntmps4
        go_wp2_with fail
        refine (unhide H1).mono ?_
        rintro e P ⟨v1, rfl, ho, hb⟩
        obtain ⟨va, vc, rfl⟩ := ownsRow_slice ho
        have HA := hide (awake_any P)
        have HB := hide hb
        clear ho hb H1
        go_wp2_with fail
        refine (unhide HA).mono ?_
        rintro e E ⟨rfl, hbE⟩
        go_wp2
        go_ret
        exact ⟨rfl, (unhide HB).trans (below_le hbE (unhide HB).size)⟩
      · by_cases b2 : s < 0
        · go_enter Tryd.func4, Tryd.ntmps4
          go_wp2_with fail
          refine (unhide H1).mono ?_
          rintro e P ⟨v1, rfl, ho, hb⟩
          obtain ⟨va, vc, rfl⟩ := ownsRow_slice ho
          have HA := hide (awake_any P)
          have HB := hide hb
          clear ho hb H1
          go_wp2_with fail
          refine (unhide HA).mono ?_
          rintro e E ⟨rfl, hbE⟩
          go_wp2
          go_ret
          exact ⟨rfl, (unhide HB).trans (below_le hbE (unhide HB).size)⟩
        · by_cases b3 : 1114111 < r
          · go_enter Tryd.func4, Tryd.ntmps4
            go_wp2_with fail
            refine (unhide H1).mono ?_
            rintro e P ⟨v1, rfl, ho, hb⟩
            obtain ⟨va, vc, rfl⟩ := ownsRow_slice ho
            have HA := hide (awake_any P)
            have HB := hide hb
            clear ho hb H1
            go_wp2_with fail
            refine (unhide HA).mono ?_
            rintro e E ⟨rfl, hbE⟩
            go_wp2
            go_ret
            exact ⟨rfl, (unhide HB).trans (below_le hbE (unhide HB).size)⟩
          · have b4 : 1114111 < s := by omega
            go_enter Tryd.func4, Tryd.ntmps4
            go_wp2_with fail
            refine (unhide H1).mono ?_
            rintro e P ⟨v1, rfl, ho, hb⟩
            obtain ⟨va, vc, rfl⟩ := ownsRow_slice ho
            have HA := hide (awake_any P)
            have HB := hide hb
            clear ho hb H1
            go_wp2_with fail
            refine (unhide HA).mono ?_
            rintro e E ⟨rfl, hbE⟩
            go_wp2
            go_ret
            exact ⟨rfl, (unhide HB).trans (below_le hbE (unhide HB).size)⟩
    · have hCR : cutR ls = [] := if_neg hc0
      unfold CutPost at H1
      rw [hCR] at H1
      generalize cutC ls = cc at *
      have z1 : (cc != 0) = true := by simpa using hc0
      have z2 : (cc == 0) = false := by simpa using hc0
      clear hgood hCR hres
      go_enter Tryd.func4, Tryd.ntmps4
      go_wp2_with fail
      refine (unhide H1).mono ?_
      rintro e P ⟨v1, rfl, ho, hb⟩
      obtain ⟨va, vc, rfl⟩ := ownsRow_slice ho
      have HA := hide (awake_any P)
      have HB := hide hb
      clear ho hb H1
      go_wp2_with fail
      refine (unhide HA).mono ?_
      rintro e E ⟨rfl, hbE⟩
      go_wp2
      go_ret
      exact ⟨rfl, (unhide HB).trans (below_le hbE (unhide HB).size)⟩
end Go.Proofs.YtkbhdojgdgiggabDoor

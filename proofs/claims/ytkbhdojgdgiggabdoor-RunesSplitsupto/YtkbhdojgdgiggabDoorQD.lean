/- Cuts: what is sorted and compacted is what the document's starts are. -/
import Derived.Test.YtkbhdojgdgiggabDoorQC
namespace Go.Proofs.YtkbhdojgdgiggabDoor
open Go.RowKit Go.Sort

def cut1 (x : Rng) : List Int := if x.2 < 1114111 then [x.1, x.2 + 1] else [x.1]
def cutsL (s : List Rng) : List Int := s.flatMap cut1
def rawL (ls : List (List Rng)) : List Int := 0 :: ls.flatMap cutsL
theorem flatMap_take_succ {α β : Type} (f : α → List β) (l : List α) (k : Nat) (d : α) (hk : k < l.length) : (l.take (k + 1)).flatMap f = (l.take k).flatMap f ++ f (l.getD k d) := by
  rw [List.take_add_one, List.flatMap_append]
  simp [List.getD_eq_getElem?_getD, List.getElem?_eq_getElem hk]
theorem mem_stepL (acc : List Int) (x : Rng) (c : Int) : c ∈ stepL acc x ↔ c ∈ cut1 x ∨ c ∈ acc := by
  unfold stepL cut1
  by_cases h : x.2 < 1114111
  · rw [if_pos h, if_pos h, mem_withL, mem_withL]
    simp only [List.mem_cons, List.not_mem_nil, or_false]
    constructor
    · rintro (h | h | h) <;> simp [h]
    · rintro ((h | h) | h) <;> simp [h]
  · rw [if_neg h, if_neg h, mem_withL]
    simp
theorem mem_steps (s : List Rng) (acc : List Int) (c : Int) : c ∈ s.foldl stepL acc ↔ c ∈ cutsL s ∨ c ∈ acc := by
  induction s generalizing acc with
  | nil => simp [cutsL]
  | cons x s ih =>
    rw [List.foldl_cons, ih, mem_stepL]
    simp only [cutsL, List.flatMap_cons, List.mem_append]
    constructor
    · rintro (h | h | h) <;> simp [h]
    · rintro ((h | h) | h) <;> simp [h]
theorem mem_startsF (ls : List (List Rng)) (acc : List Int) (c : Int) : c ∈ ls.foldl (fun acc s => s.foldl stepL acc) acc ↔ c ∈ ls.flatMap cutsL ∨ c ∈ acc := by
  induction ls generalizing acc with
  | nil => simp
  | cons s ls ih =>
    rw [List.foldl_cons, ih, mem_steps]
    simp only [List.flatMap_cons, List.mem_append]
    constructor
    · rintro (h | h | h) <;> simp [h]
    · rintro ((h | h) | h) <;> simp [h]
theorem mem_starts (ls : List (List Rng)) (c : Int) : c ∈ startsL ls ↔ c ∈ rawL ls := by
  unfold startsL rawL
  rw [mem_startsF]
  simp only [List.mem_cons, List.not_mem_nil, or_false]
  exact or_comm
theorem sup_pairwise {lo : Int} {l : List Int} (h : SUp lo l) : l.Pairwise (· < ·) := by
  induction l generalizing lo with
  | nil => exact List.Pairwise.nil
  | cons c l ih =>
    obtain ⟨h1, h2, h3⟩ := h
    refine List.pairwise_cons.2 ⟨fun d hd => ?_, ih h3⟩
    have := (sup_mem h3 hd).1
    omega
theorem starts_up (ls : List (List Rng)) (hR : ∀ s ∈ ls, ∀ x ∈ s, isR x = true) : SUp 0 (startsL ls) :=
  (starts_inv ls [0] ⟨by omega, by omega, trivial⟩ (by simp) hR).1
theorem cuts_eq (ls : List (List Rng)) (hR : ∀ s ∈ ls, ∀ x ∈ s, isR x = true) (R : Array Int) (hp : R.toList.Perm (rawL ls)) (hs : R.toList.Pairwise (· ≤ ·)) : Lib.compactUpTo R R.size = startsL ls := by
  obtain ⟨h1, h2⟩ := sorted_compact (rawL ls).toArray R hp hs
  exact lt_ext h1 (sup_pairwise (starts_up ls hR)) fun x => by rw [h2, mem_starts]
theorem cut1_length (x : Rng) : 0 < (cut1 x).length ∧ (cut1 x).length ≤ 2 := by unfold cut1; split <;> simp
theorem below_ofB {g B : Nat} {a w w' : World} (h : Below B a w) (ho : OfB g w w') (hB : B ≤ w.heap.size) (hg : B ≤ g) : Below B a w' := h.trans ⟨ho.2.2.1, ho.2.2.2.1, ho.2.2.2.2, ho.1, fun k hk => ho.2.1 k (by omega) (by omega)⟩
theorem rw_of_own {w : World} {B g cap : Nat} {l : List Int} (h : w.ownsRow B 21 1 (.slice (some ⟨g, 0, none⟩) l.length cap) l.length (rc l)) : RW w g cap l.length l.toArray := by
  refine ⟨by simp, ?_⟩
  refine ⟨h.1, ?_⟩
  rcases h.2 with h' | ⟨g', cap', cur, h1, _, h3⟩
  · exact .inl h'
  · simp only [Value.slice.injEq] at h1
    obtain ⟨h1, _, rfl⟩ := h1
    cases h1
    exact .inr ⟨g, cap, cur, rfl, Nat.le_refl _, h3⟩
/-- The error that Cuts tells. -/
def cutC (ls : List (List Rng)) : Int := if chkAll ls = 0 then (if (startsL ls).length > 2048 then 21 else 0) else chkAll ls
/-- The runes that Cuts tells. -/
def cutR (ls : List (List Rng)) : List Int := if cutC ls = 0 then startsL ls else []

set_option maxHeartbeats 8000000 in
set_option maxRecDepth 100000 in
theorem cuts_ok (a : Option Addr) (cap : Nat) (ls : List (List Rng)) (hn : ls.length ≤ 281474976710656) (hl : ∀ s ∈ ls, s.length ≤ 281474976710656) (hT : (2 * tot ls + 2) * 4 ≤ 140737488355328) (hR : ∀ s ∈ ls, ∀ x ∈ s, isR x = true) (hch : chkAll ls = 0) (w : World) (hsets : SetsAt w a ls) :
    Calls Tryd.prog 17 #[.slice a ls.length cap] w fun e w' => ∃ v, e = .returned (.tuple #[v, .int .i64 (cutC ls)]) ∧ w'.ownsRow w.heap.size 21 1 v (cutR ls).length (rc (cutR ls)) ∧ Below w.heap.size w w' := by
  obtain ⟨i0, hi, hz0, hz1, hz2⟩ := info_parts hrune
  have HC := hide (checkAll_any a cap ls hn hl w hsets)
  rw [hch] at HC
  have Hs := hide hsets
  have HR := hide hR
  have HcC : Hid (cutC ls = if (startsL ls).length > 2048 then 21 else 0) := hide (if_pos hch)
  have HRk : Hid (∀ i, i < ls.length → ∀ k, k < (ls.getD i []).length → isR ((ls.getD i []).getD k (0, 0)) = true) := hide fun i hi k hk => by
    refine hR (ls.getD i []) ?_ _ ?_
    · rw [List.getD_eq_getElem?_getD, List.getElem?_eq_getElem hi]; exact List.getElem_mem _
    · generalize ls.getD i [] = s at *
      rw [List.getD_eq_getElem?_getD, List.getElem?_eq_getElem hk]; exact List.getElem_mem _
  clear hsets hR hl hch
  go_enter Tryd.func17, Tryd.ntmps17
  go_wp2_with fail
  refine (unhide HC).mono ?_
  rintro e w1 ⟨rfl, hb1⟩
  have hs1 := hb1.size
  have Hb1 := hide hb1
  clear hb1 HC
  go_wp2
  go_loopw [5, 18] (fun u x wr => ∃ (i : Nat) (acc : List Int), wr.ownsRow w.heap.size 21 1 u acc.length (rc acc) ∧ x = .int .i64 i ∧ i ≤ ls.length ∧ Below w.heap.size w wr ∧ acc = 0 :: (ls.take i).flatMap cutsL ∧ acc.length ≤ 1 + 2 * tot (ls.take i) ∧ 0 < acc.length) (fun _ x _ => ls.length - (intOf x).toNat)
  case atStart =>
    exact ⟨0, [0], World.ownsRow_lit w1 #[.int .i32 0] 1 hs1 (by unfold maxLen; omega) rfl, rfl, by omega, (unhide Hb1).alloc hs1 _, rfl, by simp, by simp⟩
  case round =>
    obtain ⟨i, acc, hown, rfl, hi1, hbel, hacc, hlen, hpos⟩ := hrel
    have hsz := hbel.size
    have Hown := hide hown; have Hbel := hide hbel; have Hacc := hide hacc
    clear hown hbel hacc
    by_cases hil : i < ls.length
    · have hil' : (i : Int) < ls.length := by omega
      have htot := tot_take_succ ls i hil
      have htle := tot_take_le ls (i + 1)
      have Hri := hide (unhide HRk i hil)
      have Hcell := hide (fun wx (hb : Below w.heap.size w wx) => setsAt_cell (unhide Hs) hb hil)
      have Hfold := hide (flatMap_take_succ cutsL ls i [] hil)
      generalize ls.getD i [] = s at *
      have hsl : s.length ≤ tot ls := by omega
      obtain ⟨b, off, ai, ci, rfl, hlt, hcell0, hrow⟩ := unhide Hcell _ (Below.refl _ _)
      have hcell : wr.cell? ⟨b, off + i, none⟩ = some (.slice ai s.length ci) := ((unhide Hbel).cell (p := ⟨b, off + i, none⟩) hlt).trans hcell0
      have Hrow := hide hrow
      clear hrow hcell0 Hcell
      go_wp2
      go_loopw [5, 24] (fun u x wq => ∃ (k : Nat) (acc2 : List Int), wq.ownsRow w.heap.size 21 1 u acc2.length (rc acc2) ∧ x = .int .i64 k ∧ k ≤ s.length ∧ Below w.heap.size w wq ∧ acc2 = acc ++ (s.take k).flatMap cut1 ∧ acc2.length ≤ acc.length + 2 * k ∧ 0 < acc2.length) (fun _ x _ => s.length - (intOf x).toNat)
      case atStart => exact ⟨0, acc, unhide Hown, rfl, by omega, unhide Hbel, by simp, by omega, hpos⟩
      case round =>
        clear hcell
        obtain ⟨k, acc2, hown2, rfl, hk, hbel2, hacc2, hlen2, hpos2⟩ := hrel
        have hsz2 := hbel2.size
        obtain ⟨ua, ucap, rfl⟩ := ownsRow_slice hown2
        have Hown2 := hide hown2; have Hbel2 := hide hbel2; have Hacc2 := hide hacc2
        clear hown2 hbel2 hacc2
        by_cases hkl : k < s.length
        · have hkl' : (k : Int) < s.length := by omega
          obtain ⟨b2, off2, rfl, hlt2, hc⟩ := rowAt_cells (unhide Hrow) (unhide Hbel2) hkl
          have q0 := (hc k hkl).1
          have q1 := (hc k hkl).2
          have hx := unhide Hri k hkl
          have Hst := hide (flatMap_take_succ cut1 s k (0, 0) hkl)
          clear hc
          generalize s.getD k (0, 0) = x at *
          obtain ⟨x, y⟩ := x
          have hxr : 0 ≤ x ∧ x ≤ y ∧ y ≤ 1114111 := by simpa [isR] using hx
          clear hx
          simp only at q0 q1
          have Hown0 := hide (fun o => ((unhide Hown2).alloc (.cells #[.int .i32 x, .int .i32 y] 53)).alloc o)
          go_wp2_with (at_builtin; refine wpList_append_own _ rfl _ _ 35 rfl w.heap.size 21 i0 (.int .i32 0) 1 4 Tryd.underlying35 hi hz0 hz1 hz2 rfl (by decide) _ _ _ rfl (unhide Hown0 _) ⟨wr.heap.size + 1, 0, none⟩ 1 1 [.int .i32 x] rfl rfl ?c1 ?c2 ?c3 ?c4 ?c5 ?_)
          case c1 =>
            have := cell_one_new (wr.alloc (.cells #[.int .i32 x, .int .i32 y] 53)) (.int .i32 x) 21
            simpa using this
          case c2 => intro u hu; simp at hu; subst hu; rfl
          case c3 => unfold maxLen; omega
          case c4 => omega
          case c5 => simp; omega
          intro v' w3 hown' hgrow _
          have hbx := ((unhide Hbel2).alloc hsz2 (.cells #[.int .i32 x, .int .i32 y] 53)).alloc (by simp; omega) (.cells #[.int .i32 x] 21)
          have p1 : w3.cell? ⟨wr.heap.size, 1, none⟩ = some (.int .i32 y) := by
            refine hgrow.cell ?_ (by intro e; have := (unhide Hown2).lt wr.heap.size e.symm; omega)
            exact (World.cell?_alloc_lt _ _ _ (by simp)).trans (World.cell?_alloc_mark wr #[.int .i32 x, .int .i32 y] 53 (0, 0) 1)
          have hb3 := hbx.grown hgrow (by simp; omega) (fun x hx => ((unhide Hown2).lt x hx).1)
          have hsz3 := hb3.size
          have hown3 : w3.ownsRow w.heap.size 21 1 v' (acc2 ++ [x]).length (rc (acc2 ++ [x])) := by rw [rc_append]; simpa [rc] using hown'
          have Hb3 := hide hb3
          obtain ⟨va, vcap, rfl⟩ := ownsRow_slice hown3
          have Hown3 := hide hown3
          clear hbx hgrow hown' hb3 hown3 q0 q1
          by_cases hy : y < 1114111
          · have hwy : IntKind.i32.wrap (y + 1) = y + 1 := IntWalk.i32_in _ ⟨by omega, by omega⟩
            have Hacc3 : Hid (acc2 ++ [x] ++ [y + 1] = acc ++ (s.take (k + 1)).flatMap cut1) := hide (by rw [unhide Hst, ← List.append_assoc, ← unhide Hacc2]; simp [cut1, hy])
            have Hown4 := hide (fun o => (unhide Hown3).alloc o)
            have hl3 : (acc2 ++ [x]).length = acc2.length + 1 := by simp
            clear Hst
            go_wp2_with (at_builtin; refine wpList_append_own _ rfl _ _ 35 rfl w.heap.size 21 i0 (.int .i32 0) 1 4 Tryd.underlying35 hi hz0 hz1 hz2 rfl (by decide) _ _ _ rfl (unhide Hown4 _) ⟨w3.heap.size, 0, none⟩ 1 1 [.int .i32 (y + 1)] rfl rfl ?d1 ?d2 ?d3 ?d4 ?d5 ?_)
            case d1 => exact cell_one_new _ _ _
            case d2 => intro u hu; simp at hu; subst hu; rfl
            case d3 => unfold maxLen; omega
            case d4 => omega
            case d5 => simp; omega
            intro v5 w5 hown5 hgrow5 _
            have hb5 := ((unhide Hb3).alloc hsz3 (.cells #[.int .i32 (y + 1)] 21)).grown hgrow5 (by simp; omega) (fun x hx => ((unhide Hown3).lt x (by cases va with | none => simp [Value.ownBlock] at hx | some q => simpa [Value.ownBlock] using hx)).1)
            have Hown6 : Hid (w5.ownsRow w.heap.size 21 1 v5 (acc2 ++ [x] ++ [y + 1]).length (rc (acc2 ++ [x] ++ [y + 1]))) := hide (by rw [rc_append]; simpa [rc] using hown5)
            have Hb5 := hide hb5
            clear hb5 hown5 hgrow5
            go_wp2
            go_roundw
            case rel => exact ⟨k + 1, acc2 ++ [x] ++ [y + 1], unhide Hown6, by go_num, by omega, unhide Hb5, unhide Hacc3, by simp; omega, by simp⟩
            case measure => simp [intOf]; omega
          · have Hacc3 : Hid (acc2 ++ [x] = acc ++ (s.take (k + 1)).flatMap cut1) := hide (by rw [unhide Hst, ← List.append_assoc, ← unhide Hacc2]; simp [cut1, hy])
            clear Hst
            go_wp2
            go_roundw
            case rel => exact ⟨k + 1, acc2 ++ [x], unhide Hown3, by go_num, by omega, unhide Hb3, unhide Hacc3, by simp; omega, by simp⟩
            case measure => simp [intOf]; omega
        · have hkl' : ¬ (k : Int) < s.length := by omega
          obtain rfl : k = s.length := by omega
          have Hacc3 : Hid (acc2 = 0 :: (ls.take (i + 1)).flatMap cutsL) := hide (by rw [unhide Hacc2, unhide Hfold, unhide Hacc, List.take_length]; rfl)
          go_wp2
          go_roundw
          case rel => exact ⟨i + 1, acc2, unhide Hown2, by go_num, by omega, unhide Hbel2, unhide Hacc3, by omega, hpos2⟩
          case measure => simp [intOf]; omega
    · have hil' : ¬ (i : Int) < ls.length := by omega
      obtain rfl : i = ls.length := by omega
      have hraw : acc = rawL ls := by rw [unhide Hacc, List.take_length]; rfl
      have hlenT : acc.length ≤ 1 + 2 * tot ls := by rw [List.take_length] at hlen; exact hlen
      obtain ⟨g, gc, rfl⟩ := ownsRow_some (unhide Hown) hpos
      have hg := (unhide Hown).lt g rfl
      have HS := hide (sortR_any g gc acc.length acc.toArray (by omega) wr (rw_of_own (unhide Hown)))
      have Hraw := hide hraw
      clear hraw Hacc Hown hlen
      go_wp2_with fail
      refine (unhide HS).mono ?_
      rintro e w4 ⟨⟨v, rfl⟩, R, hrw, hpm, hso, hof⟩
      have hRs := hrw.1
      have hcomp : Lib.compactUpTo R acc.length = startsL ls := by
        rw [← hRs]; exact cuts_eq ls (unhide HR) R (by rw [← unhide Hraw]; exact hpm) hso
      have hc2 := compact_any g gc acc.length R (by omega) w4 hrw
      rw [hcomp] at hc2
      have HC2 := hide hc2
      have hb4 := below_ofB (unhide Hbel) hof hsz hg.1
      have Hb4 := hide hb4
      have hs4 := hof.1
      clear hc2 hrw hpm hso hof hcomp hRs HS hb4
      go_wp2_with fail
      refine (unhide HC2).mono ?_
      rintro e w5 ⟨rfl, hrr, hof5⟩
      have Hrr := hide hrr
      have hs5 := hof5.1
      have Hb5 := hide (below_ofB (unhide Hb4) hof5 (unhide Hb4).size hg.1)
      clear hrr hof5
      by_cases hmax : (startsL ls).length > 2048
      · have hmax' : (2048 : Int) < (startsL ls).length := by omega
        rw [if_pos hmax] at HcC
        go_wp2
        go_ret2
        have hR0 : cutR ls = [] := by unfold cutR; rw [unhide HcC]; rfl
        exact ⟨_, by rw [unhide HcC]; rfl, by rw [hR0]; exact ⟨rfl, .inl ⟨rfl, rfl⟩⟩, unhide Hb5⟩
      · have hmax' : ¬ (2048 : Int) < (startsL ls).length := by omega
        rw [if_neg hmax] at HcC
        go_wp2
        go_ret2
        have hR0 : cutR ls = startsL ls := by unfold cutR; rw [unhide HcC]; rfl
        exact ⟨_, by rw [unhide HcC]; rfl, by rw [hR0]; exact ownsRow_le (unhide Hrr) hg.1, unhide Hb5⟩
end Go.Proofs.YtkbhdojgdgiggabDoor

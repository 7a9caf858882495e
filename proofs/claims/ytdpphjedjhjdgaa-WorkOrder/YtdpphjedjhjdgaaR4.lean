/- The law WorkLists, walked. -/
import Derived.Test.YtdpphjedjhjdgaaR3
import Derived.Test.YtdpphjedjhjdgaaA1
import Derived.WalkSmall
import Derived.Deep.DeepCutAuto
namespace Go.Proofs.Ytdpphjedjhjdgaa
open Go.RowKit Go.Maps

/-- A script: Pop, N, W. -/
abbrev Job := Bool × Int × Int
def job0 : Job := (false, 0, 0)
def wfJ (x : Job) : Prop := (-9223372036854775808 ≤ x.2.1 ∧ x.2.1 ≤ 9223372036854775807) ∧ (-9223372036854775808 ≤ x.2.2 ∧ x.2.2 ≤ 9223372036854775807)
/-- A script lies there. -/
def JRow (w : World) (a : Option Addr) (l : List Job) : Prop := l = [] ∨ ∃ g off, a = some ⟨g, off, none⟩ ∧ g < w.heap.size ∧ ∀ j, j < l.length → w.cell? ⟨g, off + j * 3, none⟩ = some (.bool (l.getD j job0).1) ∧ w.cell? ⟨g, off + j * 3 + 1, none⟩ = some (.int .i64 (l.getD j job0).2.1) ∧ w.cell? ⟨g, off + j * 3 + 2, none⟩ = some (.int .i64 (l.getD j job0).2.2)
theorem jrow_below {w w' : World} {a : Option Addr} {l : List Job} {B : Nat} (h : JRow w a l) (hb : Below B w w') (hB : w.heap.size ≤ B) : JRow w' a l := by
  rcases h with rfl | ⟨g, off, rfl, hlt, hc⟩
  · exact .inl rfl
  · exact .inr ⟨g, off, rfl, Nat.lt_of_lt_of_le hlt hb.size, fun j hj => ⟨(hb.cell (p := ⟨g, off + j * 3, none⟩) (Nat.lt_of_lt_of_le hlt hB)).trans (hc j hj).1, (hb.cell (p := ⟨g, off + j * 3 + 1, none⟩) (Nat.lt_of_lt_of_le hlt hB)).trans (hc j hj).2.1, (hb.cell (p := ⟨g, off + j * 3 + 2, none⟩) (Nat.lt_of_lt_of_le hlt hB)).trans (hc j hj).2.2⟩⟩

theorem winv_drewN {w wr : World} {O : Nat → Prop} {ts : List Tk} {rl : List Pr} {v : Value} (h : WInv w wr O ts rl v) (q : Nat) : WInv w (wr.drewN q) O ts rl v := winv_below h ⟨rfl, rfl, rfl, Nat.le_refl _, fun _ _ => rfl⟩
theorem winv_llen {w wr : World} {O : Nat → Prop} {ts : List Tk} {rl : List Pr} {v : Value} (h : WInv w wr O ts rl v) (q : Nat) :
    Calls Try.prog 13 #[.pointer (some ⟨w.heap.size, 0, none⟩)] (wr.drewN q) fun e w' => e = .returned (.int .i64 rl.length) ∧ w' = wr.drewN q := by
  rw [← winv_len h]
  exact llen_any w.heap.size O ts (wr.drewN q) (winv_drewN h q).lst
theorem rr_mono {w : World} {B B' : Nat} {v : Value} {rl : List Pr} (h : RR w B v rl) (hB : B' ≤ B) : RR w B' v rl := by
  rcases h with h | ⟨h0, h⟩
  · exact .inl h
  · refine .inr ⟨h0, h.1, ?_⟩
    rcases h.2 with h1 | ⟨g, cap, cur, hv, hg, r⟩
    · exact .inl h1
    · exact .inr ⟨g, cap, cur, hv, by omega, r⟩
/-- The two blocks that a Pop's answers are laid in. -/
theorem two_news {w3 : World} {s : Nat} {v v' : Value} {n wt : Int} (h : w3.heap[s + 1]? = some (.cells #[v] 27 (0, 0))) :
    Below w3.heap.size w3 ((w3.alloc (.cells #[v'] 27)).alloc (.cells #[.int .i64 n, .int .i64 wt] 34)) ∧ ((w3.alloc (.cells #[v'] 27)).alloc (.cells #[.int .i64 n, .int .i64 wt] 34)).cell? ⟨w3.heap.size, 0, none⟩ = some v' ∧
    ((w3.alloc (.cells #[v'] 27)).alloc (.cells #[.int .i64 n, .int .i64 wt] 34)).cell? ⟨s + 1, 0, none⟩ = some v ∧ ((w3.alloc (.cells #[v'] 27)).alloc (.cells #[.int .i64 n, .int .i64 wt] 34)).frozen? ⟨s + 1, 0, none⟩ = false ∧
    (∀ u, (((w3.alloc (.cells #[v'] 27)).alloc (.cells #[.int .i64 n, .int .i64 wt] 34)).setCell ⟨s + 1, 0, none⟩ u).cell? ⟨w3.heap.size + 1, 0, none⟩ = some (.int .i64 n)) ∧
    (∀ u, (((w3.alloc (.cells #[v'] 27)).alloc (.cells #[.int .i64 n, .int .i64 wt] 34)).setCell ⟨s + 1, 0, none⟩ u).cell? ⟨w3.heap.size + 1, 1, none⟩ = some (.int .i64 wt)) := by
  have hb : Below w3.heap.size w3 ((w3.alloc (.cells #[v'] 27)).alloc (.cells #[.int .i64 n, .int .i64 wt] 34)) := ((Below.refl _ _).alloc (Nat.le_refl _) _).alloc (by simp) _
  have hlt := lt_of_some h
  have b0 : ((w3.alloc (.cells #[v'] 27)).alloc (.cells #[.int .i64 n, .int .i64 wt] 34)).heap[w3.heap.size]? = some (.cells #[v'] 27 (0, 0)) := (Below.heap_alloc _ _ _ (by simp)).trans (MapKept.heap_alloc w3 _).1
  have b1 : ((w3.alloc (.cells #[v'] 27)).alloc (.cells #[.int .i64 n, .int .i64 wt] 34)).heap[w3.heap.size + 1]? = some (.cells #[.int .i64 n, .int .i64 wt] 34 (0, 0)) := by
    have := (MapKept.heap_alloc (w3.alloc (.cells #[v'] 27)) (.cells #[.int .i64 n, .int .i64 wt] 34)).1
    simpa using this
  have b2 := fun u => (Below.heap_setCell ((w3.alloc (.cells #[v'] 27)).alloc (.cells #[.int .i64 n, .int .i64 wt] 34)) ⟨s + 1, 0, none⟩ u (w3.heap.size + 1) (by simp; omega)).trans b1
  have hx := (hb.block _ hlt).trans h
  exact ⟨hb, cell_block b0 0 _ rfl, cell_block hx 0 _ rfl, frozen_block hx 0, fun u => cell_block (b2 u) 0 _ rfl, fun u => cell_block (b2 u) 1 _ rfl⟩
/-- The block that a Push's answer is laid in. -/
theorem one_new {w3 : World} {s : Nat} {v v' : Value} (h : w3.heap[s + 1]? = some (.cells #[v] 27 (0, 0))) :
    Below w3.heap.size w3 (w3.alloc (.cells #[v'] 27)) ∧ (w3.alloc (.cells #[v'] 27)).cell? ⟨w3.heap.size, 0, none⟩ = some v' ∧ (w3.alloc (.cells #[v'] 27)).cell? ⟨s + 1, 0, none⟩ = some v ∧ (w3.alloc (.cells #[v'] 27)).frozen? ⟨s + 1, 0, none⟩ = false := by
  have hb : Below w3.heap.size w3 (w3.alloc (.cells #[v'] 27)) := (Below.refl _ _).alloc (Nat.le_refl _) _
  have hx := (hb.block _ (lt_of_some h)).trans h
  exact ⟨hb, cell_block (MapKept.heap_alloc w3 _).1 0 _ rfl, cell_block hx 0 _ rfl, frozen_block hx 0⟩
/-- Both lists behind a step. -/
theorem winv_next {w w3 W4 : World} {O : Nat → Prop} {ts : List Tk} {rl : List Pr} {v0 v : Value} (bel : Below w.heap.size w w3) (lst : LstIs w3 w.heap.size O ts) (heap : HeapN ts ts.length) (perm : (ts.map prT).Perm rl) (low : ∀ k, O k → w.heap.size ≤ k)
    (box : w3.heap[w.heap.size + 1]? = some (.cells #[v0] 27 (0, 0))) (nob : ¬ O (w.heap.size + 1)) (row : RR w3 w.heap.size v rl) (nov : ∀ k, v.ownBlock = some k → ¬ O k) (hb : Below w3.heap.size w3 W4) : WInv w (W4.setCell ⟨w.heap.size + 1, 0, none⟩ v) O ts rl v :=
  winv_put (bel.trans (hb.mono bel.size)) (lst_below lst hb) heap perm low ((hb.block _ (lt_of_some box)).trans box) nob (rr_off (O := fun _ => False) row (off_below hb) (fun _ _ h => h)) nov

set_option maxHeartbeats 8000000 in
set_option maxRecDepth 100000 in
theorem lists_walk (a : Option Addr) (c : Nat) (l : List Job) (hl : l.length ≤ maxLen) (hfit : ∀ x ∈ l, wfJ x) (w : World) (hrow : JRow w a l) :
    Calls Try.prog 3 #[.slice a l.length c] w fun e w' => e = .returned (.bool true) ∧ Below w.heap.size w w' := by
  have HA := hide (alive_any ((w.alloc (.cells #[.slice none 0 0, .map none] 74)).alloc (.cells #[.slice none 0 0] 27)))
  have hW0 : WInv w ((w.alloc (.cells #[.slice none 0 0, .map none] 74)).alloc (.cells #[.slice none 0 0] 27)) (fun k => k = w.heap.size) [] [] (.slice none 0 0) := by
    have hb : Below w.heap.size w ((w.alloc (.cells #[.slice none 0 0, .map none] 74)).alloc (.cells #[.slice none 0 0] 27)) := ((Below.refl _ w).alloc (Nat.le_refl _) _).alloc (by simp) _
    refine ⟨hb, lst_below (lst_new w) ((Below.refl _ _).alloc (Nat.le_refl _) _), fun i h1 h2 => by simp at h2, List.Perm.refl _, fun k hk => by omega, ?_, by omega, .inl ⟨rfl, rfl⟩, fun k hk => by simp [Value.ownBlock] at hk⟩
    have := (MapKept.heap_alloc (w.alloc (.cells #[.slice none 0 0, .map none] 74)) (.cells #[.slice none 0 0] 27)).1
    simpa using this
  have HW0 := hide hW0
  clear hW0
  go_enter Try.func3, Try.ntmps3
  go_wp2_with (first | (go_at_call 7; go_in) | (go_at_call 8; refine (unhide HA).mono ?_; rintro e w1 ⟨rfl, hb1⟩))
  have hI0 : ∃ O ts rl v, WInv w w1 O ts rl v := ⟨_, _, _, _, winv_below (unhide HW0) hb1⟩
  clear HA HW0 hb1
  go_loopw [28] (fun x wr => ∃ k : Nat, x = .int .i64 k ∧ k ≤ l.length ∧ ∃ O ts rl v, WInv w wr O ts rl v) (fun x _ => l.length - (intOf x).toNat)
  case atStart => exact ⟨0, rfl, Nat.zero_le _, hI0⟩
  case round =>
    obtain ⟨k, rfl, hk, O, ts, rl, v, hI⟩ := hrel
    clear hI0
    by_cases hlt : k < l.length
    · have hlt' : (k : Int) < l.length := by omega
      have hk9 : (k : Int) < 9223372036854775807 := by unfold maxLen at hl; omega
      have hrow1 := jrow_below hrow hI.bel (Nat.le_refl _)
      rcases id hrow1 with h0 | ⟨g, off, rfl, hgl, hc⟩
      · subst h0; simp at hlt
      obtain ⟨ck0, ck1, ck2⟩ := hc k hlt
      have hs : wfJ (l.getD k job0) := hfit _ (by rw [List.getD_eq_getElem?_getD, List.getElem?_eq_getElem hlt]; exact List.getElem_mem _)
      generalize l.getD k job0 = s at *
      obtain ⟨pp, n, wt⟩ := s
      simp only [wfJ] at ck0 ck1 ck2 hs
      have hI1 : WInv w (wr.alloc (.cells #[.bool pp, .int .i64 n, .int .i64 wt] 30)) O ts rl v := winv_below hI ((Below.refl _ _).alloc (Nat.le_refl _) _)
      have HO := hide hI.lst.lt
      have Hrow := hide hrow; have Hfit := hide hfit; have hwk : IntKind.i64.wrap ((k : Int) + 1) = (k : Int) + 1 := by rw [IntKind.wrap_i64]; omega
      have Hl := hide hl; have Hs := hide hs
      clear hrow hfit hrow1 hc hI hk9 hl hs
      cases pp
      · by_cases hn : 0 ≤ n ∧ n < 1048576
        · have HP := hide (push_any w.heap.size O ts n wt hn (unhide Hs).2 hI1.heap (wr.alloc (.cells #[.bool false, .int .i64 n, .int .i64 wt] 30)) hI1.lst)
          have HR := hide (fun w2 (h : RR w2 w.heap.size v rl) => refPush_any v rl (winv_bound hI1) n wt hn w.heap.size w2 h)
          rw [winv_fst hI1 n] at HR
          generalize (!decide (n ∈ ts.map Tk.n)) = bb at *
          have HI1 := hide hI1
          clear hI1 hn
          go_wp2_with fail
          refine (unhide HP).mono ?_
          rintro e w2 ⟨rfl, ho2, ts', O', hl2, hh2, hp2, hO2⟩
          have h1 := unhide HI1
          have hr2 : RR w2 w.heap.size v rl := rr_off h1.row ho2 h1.nov
          have hbox2 : w2.heap[w.heap.size + 1]? = some (.cells #[v] 27 (0, 0)) := (ho2.block _ (lt_of_some h1.box) h1.nob).trans h1.box
          have hb2 : Below w.heap.size w w2 := h1.bel.trans (off_to ho2 h1.low h1.bel.size)
          have htb : w2.heap[wr.heap.size]? = some (.cells #[.bool false, .int .i64 n, .int .i64 wt] 30 (0, 0)) := (ho2.block _ (by simp) (fun h => by have := unhide HO _ h; omega)).trans (MapKept.heap_alloc wr _).1
          have z1 := cell_block htb 1 _ rfl
          have z2 := cell_block htb 2 _ rfl
          have hbs := lt_of_some h1.box
          have nob' : ¬ O' (w.heap.size + 1) := fun h => by rcases hO2 _ h with h | h; exact h1.nob h; omega
          have low' : ∀ k, O' k → w.heap.size ≤ k := fun k h => by rcases hO2 _ h with h | h; exact h1.low k h; have := h1.bel.size; omega
          have perm' := hp2.trans (pushR_perm h1.perm (by rw [fst_map]; exact h1.lst.apart) n wt)
          have HR2 := hide (unhide HR w2 hr2)
          have x2 := cell_block hbox2 0 _ rfl
          obtain ⟨va, vc, rfl⟩ := rr_form hr2
          have Hst := hide (And.intro hl2 (And.intro hh2 (And.intro perm' (And.intro low' (And.intro nob' (And.intro hbox2 hb2))))))
          clear HP HR HI1 h1 hl2 hh2 hp2 perm' low' nob' hbox2 hb2 hr2 ho2 htb hO2 hbs
          go_wp2_with fail
          refine (unhide HR2).mono ?_
          rintro e w3 ⟨v', rfl, hr3, hb3⟩
          obtain ⟨hl2, hh2, perm', low', nob', hbox2, hb2⟩ := unhide Hst
          have hbox3 := (hb3.block _ (lt_of_some hbox2)).trans hbox2
          obtain ⟨va', vc', rfl⟩ := rr_form hr3
          have HN : Hid (∀ W4, Below w3.heap.size w3 W4 → WInv w (W4.setCell ⟨w.heap.size + 1, 0, none⟩ (.slice va' (pushR rl n wt).length vc')) O' ts' (pushR rl n wt) (.slice va' (pushR rl n wt).length vc')) := hide (fun W4 hW => winv_next (hb2.trans (hb3.mono hb2.size)) (lst_below hl2 hb3) hh2 perm' low' hbox3 nob' (rr_mono hr3 hb2.size) (fun j hj hO => by have := (rr_lt hr3 j hj).1; have := hl2.lt j hO; omega) hW)
          have Hbox3 := hide hbox3
          clear Hst hl2 hh2 perm' low' nob' hbox2 hb2 hr3 hb3 hbox3 HR2 x2 z1 z2
          generalize (pushR rl n wt) = rl' at *
          go_upto_region 16 with fail
          obtain ⟨hb4, a0, a1, a2⟩ := one_new (v' := .slice va' rl'.length vc') (unhide Hbox3)
          generalize w3.alloc (.cells #[.slice va' rl'.length vc'] 27) = W4 at *
          have Hb4 := hide hb4
          clear hb4
          go_upto_region 17 with fail
          have hI5 := unhide HN W4 (unhide Hb4)
          generalize W4.setCell ⟨w.heap.size + 1, 0, none⟩ (.slice va' rl'.length vc') = W5 at *
          have HL := hide (winv_llen hI5)
          have x5 := cell_block hI5.box 0 _ rfl
          have HI5 := hide hI5
          clear hI5 a0 a1 a2 HN Hb4 Hbox3
          go_wp2
          go_quiet ((go_at_call 13; exact Calls.quiet_of_same (unhide HL _)))
          go_wp2
          go_roundw
          case rel => exact ⟨k + 1, congrArg (Value.int .i64) (by omega), by omega, _, _, _, _, winv_drewN (unhide HI5) _⟩
          case measure => simp [intOf]; omega
        · have HP := hide (push_wrong w.heap.size n wt hn (wr.alloc (.cells #[.bool false, .int .i64 n, .int .i64 wt] 30)))
          obtain ⟨va, vc, rfl⟩ := rr_form hI1.row
          have HR := hide (refPush_wrong va rl.length vc n wt hn (wr.alloc (.cells #[.bool false, .int .i64 n, .int .i64 wt] 30)))
          have x0 := cell_block hI1.box 0 _ rfl
          have HI1 := hide hI1
          clear hI1 hn
          go_wp2_with fail
          refine (unhide HP).mono ?_
          rintro e w2 ⟨rfl, hw⟩
          obtain rfl := hw.symm
          go_wp2_with fail
          refine (unhide HR).mono ?_
          rintro e w3 ⟨rfl, hb3⟩
          have hI3 := winv_below (unhide HI1) hb3
          have Hbox3 := hide hI3.box
          have HN : Hid (∀ W4, Below w3.heap.size w3 W4 → WInv w (W4.setCell ⟨w.heap.size + 1, 0, none⟩ (.slice va rl.length vc)) O ts rl (.slice va rl.length vc)) := hide (fun W4 hW => winv_next hI3.bel hI3.lst hI3.heap hI3.perm hI3.low hI3.box hI3.nob hI3.row hI3.nov hW)
          clear hI3 HI1 hb3 HP HR x0
          go_upto_region 16 with fail
          obtain ⟨hb4, a0, a1, a2⟩ := one_new (v' := .slice va rl.length vc) (unhide Hbox3)
          generalize w3.alloc (.cells #[.slice va rl.length vc] 27) = W4 at *
          have Hb4 := hide hb4
          clear hb4
          go_upto_region 17 with fail
          have hI5 := unhide HN W4 (unhide Hb4)
          generalize W4.setCell ⟨w.heap.size + 1, 0, none⟩ (.slice va rl.length vc) = W5 at *
          have HL := hide (winv_llen hI5)
          have x5 := cell_block hI5.box 0 _ rfl
          have HI5 := hide hI5
          clear hI5 a0 a1 a2 HN Hb4 Hbox3
          go_wp2
          go_quiet ((go_at_call 13; exact Calls.quiet_of_same (unhide HL _)))
          go_wp2
          go_roundw
          case rel => exact ⟨k + 1, congrArg (Value.int .i64) (by omega), by omega, _, _, _, _, winv_drewN (unhide HI5) _⟩
          case measure => simp [intOf]; omega
      · by_cases h0 : ts = []
        · subst h0
          obtain rfl : rl = [] := List.eq_nil_of_length_eq_zero (by rw [← winv_len hI1]; rfl)
          obtain rfl : v = .slice none 0 0 := by
            rcases hI1.row with ⟨-, h⟩ | ⟨h, -⟩
            · exact h
            · simp at h
          have HP := hide (pop_none w.heap.size O (wr.alloc (.cells #[.bool true, .int .i64 n, .int .i64 wt] 30)) hI1.lst)
          have HR := hide (refPop_nil (wr.alloc (.cells #[.bool true, .int .i64 n, .int .i64 wt] 30)))
          have x0 := cell_block hI1.box 0 _ rfl
          have HI1 := hide hI1
          clear hI1
          go_wp2_with fail
          refine (unhide HP).mono ?_
          rintro e w2 ⟨rfl, hw⟩
          obtain rfl := hw.symm
          go_wp2_with fail
          refine (unhide HR).mono ?_
          rintro e w3 ⟨rfl, hb3⟩
          have hI3 := winv_below (unhide HI1) hb3
          have HI3 := hide hI3
          clear hI3 HI1 hb3 HP HR x0
          go_upto_region 11 with fail
          obtain ⟨hb4, a0, a1, a2, a3, a4⟩ := two_news (v' := .slice none 0 0) (n := 0) (wt := 0) (unhide HI3).box
          generalize (w3.alloc (.cells #[.slice none 0 0] 27)).alloc (.cells #[.int .i64 0, .int .i64 0] 34) = W4 at *
          have Hb4 := hide hb4
          clear hb4
          go_upto_region 12 with fail
          have hI5 : WInv w (W4.setCell ⟨w.heap.size + 1, 0, none⟩ (.slice none 0 0)) O [] [] (.slice none 0 0) := by
            have h := unhide HI3
            exact winv_next h.bel h.lst h.heap h.perm h.low h.box h.nob h.row h.nov (unhide Hb4)
          have y0 := a3 (.slice none 0 0)
          have y1 := a4 (.slice none 0 0)
          generalize W4.setCell ⟨w.heap.size + 1, 0, none⟩ (.slice none 0 0) = W5 at *
          have HL := hide (winv_llen hI5)
          have x5 := cell_block hI5.box 0 _ rfl
          have HI5 := hide hI5
          clear hI5 a0 a1 a2 a3 a4 HI3 Hb4
          go_wp2
          go_quiet ((go_at_call 13; exact Calls.quiet_of_same (unhide HL _)))
          go_wp2
          go_roundw
          case rel => exact ⟨k + 1, congrArg (Value.int .i64) (by omega), by omega, _, _, _, _, winv_drewN (unhide HI5) _⟩
          case measure => simp [intOf]; omega
        · have hpos : 0 < ts.length := by
            cases ts with
            | nil => exact absurd rfl h0
            | cons a l => simp
          have HP := hide (pop_any w.heap.size O ts hpos hI1.heap (wr.alloc (.cells #[.bool true, .int .i64 n, .int .i64 wt] 30)) hI1.lst)
          have HR := hide (fun w2 (h : RR w2 w.heap.size v rl) => refPop_any v rl (winv_bound hI1) w.heap.size w2 h)
          have hne : ¬ rl = [] := fun e => by have := winv_len hI1; rw [e] at this; simp at this; exact h0 this
          have HI1 := hide hI1
          clear hI1
          go_wp2_with fail
          refine (unhide HP).mono ?_
          rintro e w2 ⟨rest, t, rfl, ho2, hl2, hh2, hp2, hm2⟩
          have h1 := unhide HI1
          have hr2 : RR w2 w.heap.size v rl := rr_off h1.row ho2 h1.nov
          have hbox2 : w2.heap[w.heap.size + 1]? = some (.cells #[v] 27 (0, 0)) := (ho2.block _ (lt_of_some h1.box) h1.nob).trans h1.box
          have hb2 : Below w.heap.size w w2 := h1.bel.trans (off_to ho2 h1.low h1.bel.size)
          have HR2 := hide (unhide HR w2 hr2)
          have x2 := cell_block hbox2 0 _ rfl
          obtain ⟨va, vc, rfl⟩ := rr_form hr2
          have Hst := hide (And.intro h1 (And.intro hl2 (And.intro hh2 (And.intro hp2 (And.intro hm2 (And.intro hbox2 hb2))))))
          clear HP HR HI1 h1 hl2 hh2 hp2 hm2 hbox2 hb2 hr2 ho2
          go_wp2_with fail
          refine (unhide HR2).mono ?_
          rintro e w3 (⟨h, -⟩ | ⟨k', v', hmin, he, hr3, hb3⟩)
          · exact absurd h hne
          obtain ⟨h1, hl2, hh2, hp2, hm2, hbox2, hb2⟩ := unhide Hst
          obtain ⟨hpe, hper⟩ := pops_same h1.perm hp2 hm2 hmin
          rw [hpe] at he
          simp only [prT] at he
          subst he
          have hbox3 := (hb3.block _ (lt_of_some hbox2)).trans hbox2
          obtain ⟨va', vc', rfl⟩ := rr_form hr3
          have HN : Hid (∀ W4, Below w3.heap.size w3 W4 → WInv w (W4.setCell ⟨w.heap.size + 1, 0, none⟩ (.slice va' (rl.eraseIdx k').length vc')) O rest (rl.eraseIdx k') (.slice va' (rl.eraseIdx k').length vc')) := hide (fun W4 hW => winv_next (hb2.trans (hb3.mono hb2.size)) (lst_below hl2 hb3) hh2 hper h1.low hbox3 h1.nob (rr_mono hr3 hb2.size) (fun j hj hO => by have := (rr_lt hr3 j hj).1; have := hl2.lt j hO; omega) hW)
          have Hbox3 := hide hbox3
          clear Hst h1 hl2 hh2 hp2 hm2 hbox2 hb2 hpe hper hr3 hb3 hmin hbox3 HR2 x2
          generalize (rl.eraseIdx k') = rl' at *
          obtain ⟨tb, tn, tw⟩ := t
          simp only
          go_upto_region 11 with fail
          obtain ⟨hb4, a0, a1, a2, a3, a4⟩ := two_news (v' := .slice va' rl'.length vc') (n := tn) (wt := tw) (unhide Hbox3)
          generalize (w3.alloc (.cells #[.slice va' rl'.length vc'] 27)).alloc (.cells #[.int .i64 tn, .int .i64 tw] 34) = W4 at *
          have Hb4 := hide hb4
          clear hb4
          go_upto_region 12 with fail
          have hI5 := unhide HN W4 (unhide Hb4)
          have y0 := a3 (.slice va' rl'.length vc')
          have y1 := a4 (.slice va' rl'.length vc')
          generalize W4.setCell ⟨w.heap.size + 1, 0, none⟩ (.slice va' rl'.length vc') = W5 at *
          have HL := hide (winv_llen hI5)
          have x5 := cell_block hI5.box 0 _ rfl
          have HI5 := hide hI5
          clear hI5 a0 a1 a2 a3 a4 HN Hb4 Hbox3
          go_wp2
          go_quiet ((go_at_call 13; exact Calls.quiet_of_same (unhide HL _)))
          go_wp2
          go_roundw
          case rel => exact ⟨k + 1, congrArg (Value.int .i64) (by omega), by omega, _, _, _, _, winv_drewN (unhide HI5) _⟩
          case measure => simp [intOf]; omega
    · obtain rfl : k = l.length := by omega
      have hlt' : ¬ ((l.length : Int) < l.length) := by omega
      obtain ⟨va, vc, rfl⟩ := rr_form hI.row
      have HL := hide (winv_llen hI)
      have x5 := cell_block hI.box 0 _ rfl
      have Hb := hide hI.bel
      clear hI hrow hfit hl
      go_wp2
      go_quiet ((go_at_call 13; exact Calls.quiet_of_same (unhide HL _)))
      go_wp2
      go_ret
      exact ⟨rfl, below_drewN (unhide Hb) _⟩
end Go.Proofs.Ytdpphjedjhjdgaa

/- The law WorkPairs, walked. -/
import Derived.Test.YtdpphjedjhjdgaaQ3
import Derived.ChangeKeysEq
import Derived.Laws.StructEq
import Derived.WalkSmall
namespace Go.Proofs.Ytdpphjedjhjdgaa
open Go.RowKit Go.Maps

/-- A row of pairs lies there. -/
def PRow (w : World) (a : Option Addr) (l : List Pr) : Prop := l = [] ∨ ∃ g off, a = some ⟨g, off, none⟩ ∧ g < w.heap.size ∧ ∀ j, j < l.length → w.cell? ⟨g, off + j * 2, none⟩ = some (.int .i64 (l.getD j (0, 0)).1) ∧ w.cell? ⟨g, off + j * 2 + 1, none⟩ = some (.int .i64 (l.getD j (0, 0)).2)
theorem prow_below {w w' : World} {a : Option Addr} {l : List Pr} {B : Nat} (h : PRow w a l) (hb : Below B w w') (hB : w.heap.size ≤ B) : PRow w' a l := by
  rcases h with rfl | ⟨g, off, rfl, hlt, hc⟩
  · exact .inl rfl
  · exact .inr ⟨g, off, rfl, Nat.lt_of_lt_of_le hlt hb.size, fun j hj => ⟨(hb.cell (p := ⟨g, off + j * 2, none⟩) (Nat.lt_of_lt_of_le hlt hB)).trans (hc j hj).1, (hb.cell (p := ⟨g, off + j * 2 + 1, none⟩) (Nat.lt_of_lt_of_le hlt hB)).trans (hc j hj).2⟩⟩
def addP (ks : List Pr) (s : Pr) : List Pr := if s ∈ ks then ks else ks ++ [s]
def ddP (l : List Pr) : List Pr := l.foldl addP []
theorem ddP_succ (l : List Pr) (k : Nat) (hk : k < l.length) : ddP (l.take (k + 1)) = addP (ddP (l.take k)) (l.getD k (0, 0)) := by
  unfold ddP
  rw [List.take_add_one, List.getElem?_eq_getElem hk, List.foldl_append, List.getD_eq_getElem?_getD, List.getElem?_eq_getElem hk]; rfl
theorem ddP_length (l : List Pr) (k : Nat) (hk : k ≤ l.length) : (ddP (l.take k)).length ≤ k := by
  induction k with
  | zero => simp [ddP]
  | succ k ih =>
    rw [ddP_succ l k (by omega)]
    have := ih (by omega)
    unfold addP; split
    · omega
    · simp; omega
theorem ddP_mem (l : List Pr) (x : Pr) (k : Nat) (hk : k ≤ l.length) : x ∈ ddP (l.take k) ↔ ∃ t, t < k ∧ l.getD t (0, 0) = x := by
  induction k with
  | zero => simp [ddP]
  | succ k ih =>
    rw [ddP_succ l k (by omega)]
    have ih := ih (by omega)
    have h1 : x ∈ addP (ddP (l.take k)) (l.getD k (0, 0)) ↔ x ∈ ddP (l.take k) ∨ x = l.getD k (0, 0) := by
      unfold addP; split
      · rename_i h; constructor
        · exact .inl
        · rintro (h' | h'); exact h'; rw [h']; exact h
      · simp
    rw [h1, ih]
    constructor
    · rintro (⟨t, h, e⟩ | e)
      · exact ⟨t, by omega, e⟩
      · exact ⟨k, by omega, e.symm⟩
    · rintro ⟨t, h, e⟩
      by_cases ht : t = k
      · subst ht; exact .inr e.symm
      · exact .inl ⟨t, by omega, e⟩

theorem lits2 (x : Pr) (hx : wfP x) : (List.range 2).mapM (fun i => Try.prog.keyLits (139 + 1) 3 ((#[Value.int .i64 x.1, .int .i64 x.2].toList.drop (i * Try.prog.cellsOf 3)).take (Try.prog.cellsOf 3))) = some [[.int .i64 x.1], [.int .i64 x.2]] := by
  have c3 : Try.prog.cellsOf 3 = 1 := by kernel_rfl
  rw [c3]
  show [0, 1].mapM (fun i => Try.prog.keyLits (139 + 1) 3 (([Value.int .i64 x.1, .int .i64 x.2].drop (i * 1)).take 1)) = _
  rw [List.mapM_cons, List.mapM_cons, List.mapM_nil]
  rw [show Try.prog.keyLits (139 + 1) 3 (([Value.int .i64 x.1, .int .i64 x.2].drop (0 * 1)).take 1) = some [.int .i64 x.1] from lit3 139 x.1 (WalkArith.wf_i64 hx.1), show Try.prog.keyLits (139 + 1) 3 (([Value.int .i64 x.1, .int .i64 x.2].drop (1 * 1)).take 1) = some [.int .i64 x.2] from lit3 139 x.2 (WalkArith.wf_i64 hx.2)]
  rfl
theorem hint : (Try.prog.info? 3).map (fun i => (i.zero, i.size, i.bytes)) = some (some (.int .i64 0), 1, 8) := by kernel_rfl
theorem eql65 (x y : Pr) (hx : wfP x) (hy : wfP y) (w : World) : (binOp .eql 65 (.agg #[.int .i64 x.1, .int .i64 x.2]) (.agg #[.int .i64 y.1, .int .i64 y.2])).run Try.prog w = .ok (.bool (decide (x = y))) w := by
  obtain ⟨i0, hi, -⟩ := info_parts hint
  obtain ⟨r, hr, hiff⟩ := run_eqItems_plain (P := Try.prog) w 9998 (e := 3) (by kernel_rfl) #[.int .i64 x.1, .int .i64 x.2] #[.int .i64 y.1, .int .i64 y.2] (List.range 2) _ _ (lits2 x hx) (lits2 y hy)
  rw [run_eql_struct, show (10000 : Nat) = 9999 + 1 from rfl, run_equalIn_array w 9999 _ _ Try.underlying65 hi, show (9999 : Nat) = 9998 + 1 from rfl, hr]
  show Result.ok (Value.bool r) w = _
  have e : r = decide (x = y) := by
    rw [Bool.eq_iff_iff, hiff]
    obtain ⟨x1, x2⟩ := x
    obtain ⟨y1, y2⟩ := y
    simp
  rw [e]
theorem atP_any (B : Nat) (O : Nat → Prop) (ks : List Pr) (s : Pr) (hs : wfP s) (hn : ks.length < 1048576) (base : Nat) (w : World) (h : IdxP w B O ks) (hO : ∀ k, O k → base ≤ k) (hb : base ≤ w.heap.size) :
    Calls Try.prog 25 #[.pointer (some ⟨B, 0, none⟩), .agg #[.int .i64 s.1, .int .i64 s.2]] w fun e w' => e = .returned (.tuple #[.int .i64 (posP (addP ks s) s), .bool (decide (s ∉ ks)), .int .i64 0]) ∧ Below base w w' ∧ Off O w w' ∧ ∃ O', IdxP w' B O' (addP ks s) ∧ ∀ k, O' k → base ≤ k := by
  by_cases hm : s ∈ ks
  · rw [show addP ks s = ks by simp [addP, hm], show decide (s ∉ ks) = false by simpa using hm]
    exact (atP_old B O ks s hs hm w h).mono fun e w' ⟨he, hb'⟩ => ⟨he, hb'.mono hb, off_below hb', O, idxP_below h hb', hO⟩
  · rw [show addP ks s = ks ++ [s] by simp [addP, hm], show decide (s ∉ ks) = true by simpa using hm, show posP (ks ++ [s]) s = ks.length by unfold posP; rw [if_pos (by simp)]; simp [List.idxOf_append, hm]]
    refine (atP_new B O ks s hs hm hn w h).mono fun e w' ⟨he, ho, hx⟩ => ⟨he, off_to ho hO hb, ho, _, hx, ?_⟩
    rintro j (h | h)
    · exact hO j h
    · omega

set_option maxHeartbeats 8000000 in
set_option maxRecDepth 100000 in
theorem pairs_walk (a : Option Addr) (c : Nat) (l : List Pr) (hl : l.length ≤ 1048576) (hfit : ∀ x ∈ l, wfP x) (w : World) (hrow : PRow w a l) :
    Calls Try.prog 6 #[.slice a l.length c] w fun e w' => e = .returned (.bool true) ∧ Below w.heap.size w w' := by
  have HA := hide (alive_any (w.alloc (.cells #[.slice none 0 0, .map none] 100)))
  have hb0 : Below w.heap.size w (w.alloc (.cells #[.slice none 0 0, .map none] 100)) := (Below.refl _ _).alloc (Nat.le_refl _) _
  have Hb0 := hide hb0
  clear hb0
  go_enter Try.func6, Try.ntmps6
  go_wp2_with (first | (go_at_call 24; go_in) | (go_at_call 8; refine (unhide HA).mono ?_; rintro e w1 ⟨rfl, hb1⟩))
  have hI0 : ∃ O, IdxP w1 w.heap.size O [] ∧ ∀ k, O k → w.heap.size ≤ k := ⟨_, idxP_below (idxP_new w) hb1, fun k hk => by omega⟩
  have hB1 : Below w.heap.size w w1 := (unhide Hb0).trans (hb1.mono (by simp))
  clear HA Hb0 hb1
  go_loopw [22] (fun x wr => ∃ k : Nat, x = .int .i64 k ∧ k ≤ l.length ∧ Below w.heap.size w wr ∧ ∃ O, IdxP wr w.heap.size O (ddP (l.take k)) ∧ ∀ k, O k → w.heap.size ≤ k) (fun x _ => l.length - (intOf x).toNat)
  case atStart => exact ⟨0, rfl, Nat.zero_le _, hB1, hI0⟩
  case round =>
    obtain ⟨k, rfl, hk, hbel, O, hI, hO⟩ := hrel
    by_cases hlt : k < l.length
    · have hlt' : (k : Int) < l.length := by omega
      have hrow1 := prow_below hrow hbel (Nat.le_refl _)
      rcases id hrow1 with h0 | ⟨g, off, rfl, hgl, hc⟩
      · subst h0; simp at hlt
      obtain ⟨ck0, ck1⟩ := hc k hlt
      have hs : wfP (l.getD k (0, 0)) := hfit _ (by rw [List.getD_eq_getElem?_getD, List.getElem?_eq_getElem hlt]; exact List.getElem_mem _)
      have Hdd := hide (ddP_succ l k hlt)
      have Hmem := hide (ddP_mem l (l.getD k (0, 0)) k hk)
      have hdl := ddP_length l k hk
      have hbz := hbel.size
      have HAt := hide (fun W (hW : Below wr.heap.size wr W) => atP_any w.heap.size O (ddP (l.take k)) (l.getD k (0, 0)) hs (by omega) w.heap.size W (idxP_below hI hW) hO (by have := hW.size; omega))
      have HOl := hide hI.lt
      have Hbel := hide hbel
      have Hrow := hide hrow
      have Hfit := hide hfit
      have Hcell := hide hc
      clear hc hI hO hI0 hrow1 hbel hrow hfit hB1
      generalize ddP (l.take k) = ks at *
      generalize hsx : l.getD k (0, 0) = s at *
      have Hsx := hide hsx
      clear hsx
      go_wp2_with fail
      refine (unhide HAt _ ((Below.refl _ _).alloc (Nat.le_refl _) _)).mono ?_
      rintro e w2 ⟨rfl, hb2, ho2, hI2⟩
      have hbw2 : Below w.heap.size w w2 := ((unhide Hbel).alloc hbz _).trans hb2
      have hnO : ¬ O wr.heap.size := fun h => by have := unhide HOl _ h; omega
      have hx0 : w2.cell? ⟨wr.heap.size, 0, none⟩ = some (.int .i64 s.1) := (off_cell ho2 (p := ⟨wr.heap.size, 0, none⟩) (by simp) hnO).trans (World.cell?_alloc_mark wr #[.int .i64 s.1, .int .i64 s.2] 65 (0, 0) 0)
      have hx1 : w2.cell? ⟨wr.heap.size, 1, none⟩ = some (.int .i64 s.2) := (off_cell ho2 (p := ⟨wr.heap.size, 1, none⟩) (by simp) hnO).trans (World.cell?_alloc_mark wr #[.int .i64 s.1, .int .i64 s.2] 65 (0, 0) 1)
      obtain ⟨O1, hI1, -⟩ := id hI2
      have HF := hide (fun q => findP_any w.heap.size O1 (addP ks s) s hs (w2.drewN q) (idxP_off (O' := fun _ => False) hI1 (off_drewN (off_refl _ _) q) (fun _ _ h => h)))
      clear hI1
      rw [show decide (s ∈ addP ks s) = true by unfold addP; split <;> simp_all] at HF
      have HI2 := hide hI2
      have Hbw2 := hide hbw2
      have Hc2 : Hid (∀ j, j < l.length → w2.cell? ⟨g, off + j * 2, none⟩ = some (.int .i64 (l.getD j (0, 0)).1) ∧ w2.cell? ⟨g, off + j * 2 + 1, none⟩ = some (.int .i64 (l.getD j (0, 0)).2)) := hide (fun j hj => by
        rcases prow_below (unhide Hrow) hbw2 (Nat.le_refl _) with h0 | ⟨g', off', e, -, hc'⟩
        · subst h0; simp at hj
        · simp only [Option.some.injEq, Addr.mk.injEq, and_true] at e
          obtain ⟨rfl, rfl⟩ := e
          exact hc' j hj)
      clear hb2 ho2 hI2 hbw2 HAt hnO Hbel Hcell HOl ck0 ck1
      have hk1 : (k : Int) ≤ 1048576 := by omega
      generalize posP (addP ks s) s = p at *
      go_wp2
      go_loopw [10, 9] (fun x y W => ∃ (m f q : Nat), x = .int .i64 ((m : Int) - 1) ∧ y = .int .i64 f ∧ m ≤ k ∧ f ≤ k ∧ l.getD f (0, 0) = s ∧ (f = k → ∀ t, m ≤ t → t < k → l.getD t (0, 0) ≠ s) ∧ W = w2.drewN q) (fun x _ _ => (intOf x + 1).toNat)
      case atStart => exact ⟨k, k, 0, rfl, rfl, Nat.le_refl _, Nat.le_refl _, unhide Hsx, fun _ t h1 h2 => by omega, rfl⟩
      case round =>
        obtain ⟨m, f, q, rfl, rfl, hm, hf, hfs, hnot, rfl⟩ := hrel
        by_cases hm0 : 0 < m
        · obtain ⟨n, rfl⟩ : ∃ n, m = n + 1 := ⟨m - 1, by omega⟩
          have hg0 : (0 : Int) ≤ n := by omega
          have hsub : ((n + 1 : Nat) : Int) - 1 = n := by omega
          obtain ⟨d0, d1⟩ := unhide Hc2 n (by omega)
          have hnl : (n : Int) < l.length := by omega
          have hwn : wfP (l.getD n (0, 0)) := unhide Hfit _ (by rw [List.getD_eq_getElem?_getD, List.getElem?_eq_getElem (by omega)]; exact List.getElem_mem _)
          have qe := fun w => eql65 (l.getD n (0, 0)) s hwn hs w
          have Hfs := hide hfs; have Hnot := hide hnot
          have HnA : Hid (l.getD n (0, 0) ≠ s → f = k → ∀ t, n ≤ t → t < k → l.getD t (0, 0) ≠ s) := hide (fun hne hfk t h1 h2 => by
            by_cases ht : t = n
            · subst ht; exact hne
            · exact hnot hfk t (by omega) h2)
          have HnB : Hid (l.getD n (0, 0) = s → l.getD n (0, 0) = s) := hide id
          clear hfs hnot hwn
          cases hb : decide (l.getD n (0, 0) = s)
          · rw [hb] at qe
            have Hne := hide (unhide HnA (of_decide_eq_false hb))
            clear hb HnA HnB
            generalize l.getD n (0, 0) = z at *
            go_wp2
            go_quiet (fail)
            go_wp2
            go_roundw
            case rel => exact ⟨n, f, _, rfl, rfl, by omega, hf, unhide Hfs, unhide Hne, rfl⟩
            case measure => simp [intOf]
          · rw [hb] at qe
            have Heq := hide (unhide HnB (of_decide_eq_true hb))
            clear hb HnA HnB
            generalize hz : l.getD n (0, 0) = z at *
            have Hz := hide hz
            clear hz
            go_wp2
            go_quiet (fail)
            go_wp2
            go_roundw
            case rel => exact ⟨n, n, _, rfl, congrArg (Value.int .i64) hsub, by omega, by omega, (unhide Hz).trans (unhide Heq), fun h => by omega, rfl⟩
            case measure => simp [intOf]
        · obtain rfl : m = 0 := by omega
          have hge : ¬ (0 : Int) ≤ ((0 : Nat) : Int) - 1 := by omega
          obtain ⟨d0, d1⟩ := unhide Hc2 f (by omega)
          rw [hfs] at d0 d1
          have hfl : (f : Int) < l.length := by omega
          have HF1 := hide (unhide HF q)
          by_cases hfk : f = k
          · have hd : decide (¬ s ∈ ks) = true := by
              rw [decide_eq_true_eq]
              intro hmem
              obtain ⟨t, h1, h2⟩ := (unhide Hmem).1 hmem
              exact hnot hfk t (by omega) h1 h2
            have hd' : decide (s ∈ ks) = false := by simpa using hd
            subst hfk
            clear hfs hnot HF hm hf
            go_wp2_with fail
            refine (unhide HF1).mono ?_
            rintro e w3 ⟨rfl, hb3⟩
            have Hb3 := hide hb3
            clear hb3 HF1
            go_wp2
            go_roundw
            case rel =>
              obtain ⟨O', hI', hO'⟩ := unhide HI2
              refine ⟨f + 1, by go_num, by omega, (below_drewN (unhide Hbw2) q).trans ((unhide Hb3).mono (unhide Hbw2).size), O', ?_, hO'⟩
              rw [unhide Hdd]
              exact idxP_below (w := w2.drewN q) (idxP_off (O' := fun _ => False) hI' (off_drewN (off_refl _ _) q) (fun _ _ h => h)) (unhide Hb3)
            case measure => simp [intOf]; omega
          · have hd : decide (¬ s ∈ ks) = false := by
              rw [decide_eq_false_iff_not, Classical.not_not]
              exact (unhide Hmem).2 ⟨f, by omega, hfs⟩
            have hd' : decide (s ∈ ks) = true := by simpa using hd
            have hne : ((f : Int) == k) = false := by simp; omega
            clear hfs hnot HF hm
            go_wp2_with fail
            refine (unhide HF1).mono ?_
            rintro e w3 ⟨rfl, hb3⟩
            have Hb3 := hide hb3
            clear hb3 HF1
            go_wp2
            go_roundw
            case rel =>
              obtain ⟨O', hI', hO'⟩ := unhide HI2
              refine ⟨k + 1, by go_num, by omega, (below_drewN (unhide Hbw2) q).trans ((unhide Hb3).mono (unhide Hbw2).size), O', ?_, hO'⟩
              rw [unhide Hdd]
              exact idxP_below (w := w2.drewN q) (idxP_off (O' := fun _ => False) hI' (off_drewN (off_refl _ _) q) (fun _ _ h => h)) (unhide Hb3)
            case measure => simp [intOf]; omega
    · obtain rfl : k = l.length := by omega
      have hlt' : ¬ ((l.length : Int) < l.length) := by omega
      have Hb := hide hbel
      clear hI hrow hfit hI0
      go_wp2
      go_ret
      exact ⟨rfl, unhide Hb⟩
end Go.Proofs.Ytdpphjedjhjdgaa

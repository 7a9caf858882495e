/- The code's Least. -/
import Derived.Test.YtagohbpbgjelaaaGreatDoorIA
import Derived.Test.YtagohbpbgjelaaaGreatDoorHQ
namespace Go.Proofs.YtagohbpbgjelaaaGreatDoor
open Go.RowKit

set_option maxHeartbeats 2000000 in
set_option maxRecDepth 100000 in
theorem leastno24 : LeastNo 24 := fun G hc ka pa ra qa kc pc rc qc rule w hin hsm => by
  have hst := gst_new (kc := kc) (pc := pc) (rc := rc) (qc := qc) (Nat.le_refl _) hin 26
  have hb1 : Below w.heap.size w (w.alloc (.cells #[.slice ka G.kinds.length kc, .slice pa G.precs.length pc, .slice ra G.rules.length rc, .slice qa G.prods.length qc, .int .i64 G.start] 26)) := (Below.refl _ _).alloc (Nat.le_refl _) _
  have HM := hide (mayBe_any G ka pa ra qa kc pc rc qc _ (gin_up hin hb1) hsm)
  rw [hc] at HM
  have Hb1 := hide hb1
  have hnot := run_not
  clear hst hb1 hin hsm hc
  go_enter Tryz.func24, Tryz.ntmps24
  go_wp2_with fail
  refine (unhide HM).mono ?_
  rintro e w2 ⟨rfl, hb2⟩
  have Hb2 := hide ((unhide Hb1).trans (below_le hb2 (by simp)))
  clear hb2
  go_wp2
  refine bodyPost_ret (v := .tuple #[.int .i64 0, .bool false, .int .i64 130]) ?zz9 rfl ⟨rfl, unhide Hb2⟩
  case zz9 => simp [results, Tryz.results24, go_sem]
set_option maxHeartbeats 2000000 in
set_option maxRecDepth 100000 in
theorem leastout24 : LeastOut 24 := fun G hc ka pa ra qa kc pc rc qc rule hr w hin => by
  have hG := check_ok hc
  have hst := gst_new (kc := kc) (pc := pc) (rc := rc) (qc := qc) (Nat.le_refl _) hin 26
  have hb1 : Below w.heap.size w (w.alloc (.cells #[.slice ka G.kinds.length kc, .slice pa G.precs.length pc, .slice ra G.rules.length rc, .slice qa G.prods.length qc, .int .i64 G.start] 26)) := (Below.refl _ _).alloc (Nat.le_refl _) _
  have HM := hide (mayBe_any G ka pa ra qa kc pc rc qc _ (gin_up hin hb1) (smG_ok hG))
  rw [hc] at HM
  have Hb1 := hide hb1; have Hst := hide hst
  have hnot := run_not
  have hs1 : (w.alloc (.cells #[.slice ka G.kinds.length kc, .slice pa G.precs.length pc, .slice ra G.rules.length rc, .slice qa G.prods.length qc, .int .i64 G.start] 26)).heap.size = w.heap.size + 1 := by simp
  clear hst hb1 hin hc
  go_enter Tryz.func24, Tryz.ntmps24
  go_wp2_with fail
  generalize w.alloc (.cells #[.slice ka G.kinds.length kc, .slice pa G.precs.length pc, .slice ra G.rules.length rc, .slice qa G.prods.length qc, .int .i64 G.start] 26) = w1 at *
  refine (unhide HM).mono ?_
  rintro e w2 ⟨rfl, hb2⟩
  have hs2 := hb2.size
  have hbw2 := (unhide Hb1).trans (below_le hb2 (by omega))
  have hst2 := gst_kept (below_le hb2 (by omega)) (Nat.le_refl _) (unhide Hst)
  have d0 := hst2.c0; have d1 := hst2.c1; have d2 := hst2.c2; have d3 := hst2.c3; have d4 := hst2.c4
  have HA := hide (isRule_any ka pa ra qa G.kinds.length kc G.precs.length pc G.rules.length rc G.prods.length qc G.start rule w2)
  have hdec : decide (0 ≤ rule ∧ rule < G.rules.length) = false := decide_eq_false (by omega)
  rw [hdec] at HA
  have Hbw2 := hide hbw2
  have hs2w : w.heap.size + 1 ≤ w2.heap.size := by omega
  clear hb2 hbw2 hst2 HM hdec
  go_wp2_with fail
  refine (unhide HA).mono ?_
  rintro e w3 ⟨rfl, hb3⟩
  have Hbw3 := hide ((unhide Hbw2).trans (below_le hb3 (by omega)))
  clear hb3
  go_wp2
  refine bodyPost_ret (v := .tuple #[.int .i64 0, .bool false, .int .i64 1]) ?zz9 rfl ⟨rfl, unhide Hbw3⟩
  case zz9 => simp [results, Tryz.results24, go_sem]
set_option maxHeartbeats 2000000 in
set_option maxRecDepth 100000 in
theorem leastyes24 : LeastYes 24 := fun G hc ka pa ra qa kc pc rc qc r hr w hin => by
  have hG := check_ok hc
  have hst := gst_new (kc := kc) (pc := pc) (rc := rc) (qc := qc) (Nat.le_refl _) hin 26
  have hb1 : Below w.heap.size w (w.alloc (.cells #[.slice ka G.kinds.length kc, .slice pa G.precs.length pc, .slice ra G.rules.length rc, .slice qa G.prods.length qc, .int .i64 G.start] 26)) := (Below.refl _ _).alloc (Nat.le_refl _) _
  have HM := hide (mayBe_any G ka pa ra qa kc pc rc qc _ (gin_up hin hb1) (smG_ok hG))
  rw [hc] at HM
  have Hb1 := hide hb1; have Hst := hide hst; have Hin := hide hin
  have hnot := run_not
  have hs1 : (w.alloc (.cells #[.slice ka G.kinds.length kc, .slice pa G.precs.length pc, .slice ra G.rules.length rc, .slice qa G.prods.length qc, .int .i64 G.start] 26)).heap.size = w.heap.size + 1 := by simp
  clear hst hb1 hin hc
  go_enter Tryz.func24, Tryz.ntmps24
  go_wp2_with fail
  generalize w.alloc (.cells #[.slice ka G.kinds.length kc, .slice pa G.precs.length pc, .slice ra G.rules.length rc, .slice qa G.prods.length qc, .int .i64 G.start] 26) = w1 at *
  refine (unhide HM).mono ?_
  rintro e w2 ⟨rfl, hb2⟩
  have hs2 := hb2.size
  have hbw2 := (unhide Hb1).trans (below_le hb2 (by omega))
  have hst2 := gst_kept (below_le hb2 (by omega)) (Nat.le_refl _) (unhide Hst)
  have d0 := hst2.c0; have d1 := hst2.c1; have d2 := hst2.c2; have d3 := hst2.c3; have d4 := hst2.c4
  have HA := hide (isRule_any ka pa ra qa G.kinds.length kc G.precs.length pc G.rules.length rc G.prods.length qc G.start (r : Int) w2)
  have hdec : decide (0 ≤ (r : Int) ∧ (r : Int) < G.rules.length) = true := decide_eq_true (by omega)
  rw [hdec] at HA
  have Hbw2 := hide hbw2
  have hs2w : w.heap.size + 1 ≤ w2.heap.size := by omega
  clear hb2 hbw2 hst2 HM hdec
  go_wp2_with fail
  refine (unhide HA).mono ?_
  rintro e w3 ⟨rfl, hb3⟩
  have hs3 := hb3.size
  have hbw3 := (unhide Hbw2).trans (below_le hb3 (by omega))
  have e0 := (hb3.cell (p := ⟨w.heap.size, 0, none⟩) (by show w.heap.size < _; omega)).trans d0
  have e1 := (hb3.cell (p := ⟨w.heap.size, 1, none⟩) (by show w.heap.size < _; omega)).trans d1
  have e2 := (hb3.cell (p := ⟨w.heap.size, 2, none⟩) (by show w.heap.size < _; omega)).trans d2
  have e3 := (hb3.cell (p := ⟨w.heap.size, 3, none⟩) (by show w.heap.size < _; omega)).trans d3
  have e4 := (hb3.cell (p := ⟨w.heap.size, 4, none⟩) (by show w.heap.size < _; omega)).trans d4
  have HNG := hide (newGrammar_any G hG ka pa ra qa kc pc rc qc w3 (gin_up (unhide Hin) hbw3))
  have Hbw3 := hide hbw3
  clear hb3 hbw3 d0 d1 d2 d3 d4 HA
  go_wp2_with fail
  refine (unhide HNG).mono ?_
  rintro e w4 ⟨gb, ob, ub, rfl, hg4, hb4⟩
  have hs4 := hb4.size
  have HLE := hide (leasts_any G hG ka pa ra qa kc pc rc qc gb ob ub w4.heap.size w4 (Nat.le_refl _) hg4)
  have Hbw4 := hide ((unhide Hbw3).trans (below_le hb4 (by have := (unhide Hbw3).size; omega)))
  clear hg4 hb4 HNG e0 e1 e2 e3 e4
  go_wp2_with fail
  refine (unhide HLE).mono ?_
  rintro e w5 ⟨b, L, rfl, hrow, hL, hbb, hb5⟩
  have Hbw5 := hide ((unhide Hbw4).trans (below_le hb5 (unhide Hbw4).size))
  have lc := hrow.cell hr
  have hr' : (r : Int) < G.rules.length := by omega
  have HL := hide hL
  have hlg : L r = -1 ∨ 0 ≤ L r := by
    rcases hL.1 r with h | h
    · exact .inl h
    · exact .inr h.1
  clear hb5 HLE hL hrow
  by_cases hneg : L r = -1
  · go_wp2
    refine bodyPost_ret (v := .tuple #[.int .i64 0, .bool false, .int .i64 0]) ?zz9 rfl ⟨L, unhide HL, by rw [hneg]; rfl, unhide Hbw5⟩
    case zz9 => simp [results, Tryz.results24, go_sem]
  · have hnn : 0 ≤ L r := by omega
    have hmx : max (L r) 0 = L r := by omega
    have hde : decide (0 ≤ L r) = true := decide_eq_true hnn
    have Hend : Hid ((.tuple #[.int .i64 (max (L r) 0), .bool (decide (0 ≤ L r)), .int .i64 0] : Value) = .tuple #[.int .i64 (L r), .bool true, .int .i64 0]) := hide (by rw [hmx, hde])
    clear hmx hde
    go_wp2
    refine bodyPost_ret (v := .tuple #[.int .i64 (L r), .bool true, .int .i64 0]) ?zz9 rfl ⟨L, unhide HL, by rw [unhide Hend], unhide Hbw5⟩
    case zz9 => simp [results, Tryz.results24, go_sem]
theorem least24 : LeastC 24 := leastC_of leastyes24 leastout24 leastno24
end Go.Proofs.YtagohbpbgjelaaaGreatDoor

/- The code's length of a row. -/
namespace Go.Proofs.YtagohbpbgjelaaaGreatDoor
open Go.RowKit

/-- What a row's rules have, summed up. -/
def smA (L : Nat → Int) : List Nat → Int
  | [] => 0
  | x :: l => L x + smA L l
theorem smA_append (L : Nat → Int) : ∀ (a b : List Nat), smA L (a ++ b) = smA L a + smA L b
  | [], b => by simp [smA]
  | x :: a, b => by show L x + smA L (a ++ b) = (L x + smA L a) + smA L b; rw [smA_append L a b]; omega
theorem smA_bound {L : Nat → Int} (h : ∀ x, -1 ≤ L x ∧ L x ≤ 65537) : ∀ (l : List Nat), -(l.length : Int) ≤ smA L l ∧ smA L l ≤ 65537 * l.length
  | [] => by simp [smA]
  | x :: l => by
    have := smA_bound h l
    have := h x
    show -((x :: l).length : Int) ≤ L x + smA L l ∧ L x + smA L l ≤ 65537 * ((x :: l).length : Int)
    rw [List.length_cons]
    push_cast
    omega
theorem smA_fd {L : Nat → Int} : ∀ (l : List Nat), (∀ x, x ∈ l → 0 ≤ L x) → smA L l = sumL L l
  | [], _ => rfl
  | x :: l, h => by
    have h1 := smA_fd l (fun y hy => h y (by simp [hy]))
    have h2 := h x (by simp)
    show L x + smA L l = sumL L (x :: l)
    unfold sumL
    rw [if_pos h2, h1]
set_option maxHeartbeats 2000000 in
set_option maxRecDepth 100000 in
theorem length_any (gb : Nat) (nk n : Nat) (ka : Option Addr) (kc : Nat) (hnk : nk ≤ 1024) (hn : n ≤ 1048576) (ro : Option Addr) (rowc : Nat) (row : List Int) (hl : row.length ≤ 64) (hx : ∀ x, x ∈ row → 0 ≤ x ∧ x < nk + n) (bb : Nat) (L : Nat → Int) (hL : ∀ x, -1 ≤ L x ∧ L x ≤ 65537) (w : World) (c0 : w.cell? ⟨gb, 0, none⟩ = some (.slice ka nk kc)) (hgb : gb < w.heap.size) (hrow : NRow w.heap.size w ro row) (hb : w.rowIs bb 3 n (fun r => .int .i64 (L r))) :
    Calls Tryz.prog 112 #[.pointer (some ⟨gb, 0, none⟩), .slice ro row.length rowc, .slice (some ⟨bb, 0, none⟩) n n] w fun e w' => e = .returned (.int .i64 ((row.length : Int) - (rulesL nk row).length + smA L ((rulesL nk row).map Int.toNat))) ∧ Below w.heap.size w w' := by
  have HR := hide (rulesOf_any gb nk ka kc hnk ro rowc row (by omega) (fun x h => by have := hx x h; omega) w c0 hgb hrow)
  have hrlen := rulesL_len (nk := nk) row
  have Hin : Hid (∀ x, x ∈ rulesL nk row → 0 ≤ x ∧ x < n) := hide (fun x h => by
    have h1 : ∃ y, y ∈ row ∧ (nk : Int) ≤ y ∧ x = y - nk := by
      clear hrlen HR hrow hl
      induction row with
      | nil => cases h
      | cons y row ih =>
        rw [rulesL_cons, List.mem_append] at h
        rcases h with h | h
        · by_cases hk : (nk : Int) ≤ y
          · rw [if_pos hk] at h
            exact ⟨y, by simp, hk, by simpa using h⟩
          · rw [if_neg hk] at h; cases h
        · obtain ⟨z, h1, h2⟩ := ih (fun x hx' => hx x (by simp [hx'])) h
          exact ⟨z, by simp [h1], h2⟩
    obtain ⟨y, h1, h2, h3⟩ := h1
    have := hx y h1
    omega)
  have Hb := hide hb; have HL := hide hL
  have hwr : IntKind.i64.wrap ((row.length : Int) - (rulesL nk row).length) = (row.length : Int) - (rulesL nk row).length := by rw [IntKind.wrap_i64]; omega
  clear hrow c0 hb hL hx
  generalize hrs : rulesL nk row = rs at *
  go_enter Tryz.func112, Tryz.ntmps112
  go_wp2_with fail
  refine (unhide HR).mono ?_
  rintro e w2 ⟨v2, rfl, ho2, hb2⟩
  obtain ⟨va, vc, rfl⟩ := own_form ho2
  obtain ⟨_, _, he2, hn2⟩ := own_nrow ho2
  cases he2
  have Hn2 := hide hn2; have Hb2 := hide hb2
  have hrow2 := hide ((unhide Hb).of_block (hb2.block _ (unhide Hb).lt))
  clear ho2 hn2 hb2 HR Hb
  go_wp2_with fail
  go_wp2
  go_loopw [8, 21] (fun u x W => ∃ i : Nat, x = .int .i64 i ∧ i ≤ rs.length ∧ u = .int .i64 ((row.length : Int) - rs.length + smA L ((rs.take i).map Int.toNat)) ∧ W = w2) (fun _ x _ => rs.length - (intOf x).toNat)
  case atStart => exact ⟨0, rfl, Nat.zero_le _, by simp [smA], rfl⟩
  case round =>
    obtain ⟨i, rfl, hi, rfl, rfl⟩ := hrel
    by_cases hil : i < rs.length
    · have hil' : (i : Int) < rs.length := by omega
      obtain ⟨b9, o9, rfl, hb9, hc9⟩ := nrow_at (unhide Hn2) (k := i) hil
      have hin := unhide Hin _ (mem_getD hil)
      have etk : rs.take (i + 1) = rs.take i ++ [rs.getD i 0] := by rw [List.take_add_one, List.getD_eq_getElem?_getD, List.getElem?_eq_getElem hil]; rfl
      have esm : smA L ((rs.take (i + 1)).map Int.toNat) = smA L ((rs.take i).map Int.toNat) + L (rs.getD i 0).toNat := by
        rw [etk, List.map_append, smA_append]
        simp [smA]
      have hbd := smA_bound (unhide HL) ((rs.take i).map Int.toNat)
      have hlen : ((rs.take i).map Int.toNat).length ≤ 64 := by rw [List.length_map, List.length_take]; omega
      have hbl := unhide HL (rs.getD i 0).toNat
      generalize smA L ((rs.take i).map Int.toNat) = sa at *
      generalize rs.getD i 0 = x at *
      obtain ⟨r, rfl⟩ : ∃ r : Nat, x = (r : Int) := ⟨x.toNat, by omega⟩
      rw [Int.toNat_natCast] at esm hbl
      have hr : r < n := by omega
      have lc := (unhide hrow2).cell hr
      have hwr2 : IntKind.i64.wrap ((row.length : Int) - rs.length + sa + L r) = (row.length : Int) - rs.length + (sa + L r) := by rw [IntKind.wrap_i64]; omega
      clear etk hwr hbd
      go_wp2
      go_roundw
      case rel => exact ⟨i + 1, by go_num, by omega, by rw [esm], trivial⟩
      case measure => simp [intOf]; omega
    · obtain rfl : i = rs.length := by omega
      rw [List.take_length]
      clear hwr
      go_wp2
      go_ret
      exact ⟨rfl, unhide Hb2⟩
end Go.Proofs.YtagohbpbgjelaaaGreatDoor

/- The code's shortest: which productions make shortest rows. -/
namespace Go.Proofs.YtagohbpbgjelaaaGreatDoor
open Go.RowKit

/-- A production's length by the lengths of its rules. -/
def lnN (G : Gm) (L : Nat → Int) (q : Nat) : Int := kcN G q + smA L (rlN G q)
/-- What is marked of the first k productions. -/
structure ShI (G : Gm) (L : Nat → Int) (B : Nat) (w W : World) (mb : Nat) (k : Nat) (ml : List Int) : Prop where
  len : ml.length = G.prods.length
  own : W.ownsRow B 3 1 (.slice (some ⟨mb, 0, none⟩) G.prods.length G.prods.length) G.prods.length (vints ml)
  at_ : ∀ q, q < G.prods.length → atZ ml q = if q < k ∧ lnN G L q ≠ L (lfN G q) then -1 else ((rlN G q).length : Int)
  bl : Below B w W
theorem shi_below {G : Gm} {L : Nat → Int} {B : Nat} {w W W' : World} {mb k : Nat} {ml : List Int} (h : ShI G L B w W mb k ml) (hB : B ≤ W.heap.size) (hb : Below W.heap.size W W') : ShI G L B w W' mb k ml :=
  ⟨h.len, own_blkB h.own hb, h.at_, h.bl.trans (below_le hb hB)⟩
theorem shi_same {G : Gm} {L : Nat → Int} {B : Nat} {w W : World} {mb k : Nat} {ml : List Int} (h : ShI G L B w W mb k ml) (he : lnN G L k = L (lfN G k)) : ShI G L B w W mb (k + 1) ml :=
  ⟨h.len, h.own, fun q hq => by
    rw [h.at_ q hq]
    by_cases e : q = k
    · subst e; rw [if_neg (by rintro ⟨h1, h2⟩; omega), if_neg (by rintro ⟨h1, h2⟩; exact h2 he)]
    · by_cases e2 : q < k
      · have : q < k + 1 := by omega
        simp [e2, this]
      · have : ¬ q < k + 1 := by omega
        simp [e2, this], h.bl⟩
theorem shi_mark {G : Gm} {L : Nat → Int} {B : Nat} {w W : World} {mb k : Nat} {ml : List Int} (h : ShI G L B w W mb k ml) (hk : k < G.prods.length) (he : lnN G L k ≠ L (lfN G k)) : ShI G L B w (W.setCell ⟨mb, k, none⟩ (.int .i64 (-1))) mb (k + 1) (ml.set k (-1)) :=
  ⟨by rw [List.length_set]; exact h.len, own_store h.own k (-1), fun q hq => by
    have hset : atZ (ml.set k (-1)) q = if q = k then -1 else atZ ml q := by
      unfold atZ
      rw [List.getD_eq_getElem?_getD, List.getElem?_set]
      by_cases e : k = q
      · subst e; rw [if_pos rfl, if_pos (by rw [h.len]; exact hk), if_pos rfl]; rfl
      · rw [if_neg e, if_neg (fun h => e h.symm), ← List.getD_eq_getElem?_getD]
    rw [hset]
    by_cases e : q = k
    · subst e; rw [if_pos rfl, if_pos ⟨by omega, he⟩]
    · rw [if_neg e, h.at_ q hq]
      by_cases e2 : q < k
      · have : q < k + 1 := by omega
        simp [e2, this]
      · have : ¬ q < k + 1 := by omega
        simp [e2, this], h.bl.setCell (h.own.lt mb rfl).1 _⟩
def ShortPost (G : Gm) (L : Nat → Int) (w : World) (e : Ending) (w' : World) : Prop :=
  ∃ (b n : Nat) (c : Nat → Int) (el : Nat → Bool), e = .returned (.slice (some ⟨b, 0, none⟩) G.rules.length G.rules.length) ∧ w'.rowIs b 3 G.rules.length (fun r => .int .i64 (c r)) ∧ c = stN (lfN G) (rlN G) el G.prods.length n ∧ stT (lfN G) (rlN G) el G.prods.length c = c ∧ (∀ q, q < G.prods.length → el q = decide (lnN G L q = L (lfN G q))) ∧ w.heap.size ≤ b ∧ Below w.heap.size w w'
set_option maxHeartbeats 2000000 in
set_option maxRecDepth 100000 in
theorem shortest_any (G : Gm) (hG : GOk G) (ka pa ra qa : Option Addr) (kc pc rc qc gb ob ub : Nat) (M : Nat) (bb : Nat) (L : Nat → Int) (hL : ∀ x, -1 ≤ L x ∧ L x ≤ 65537) (w : World) (hM : M ≤ w.heap.size) (hg : GrAt M w G ka kc pa pc ra rc qa qc gb ob ub) (hb : w.rowIs bb 3 G.rules.length (fun r => .int .i64 (L r))) :
    Calls Tryz.prog 69 #[.pointer (some ⟨gb, 0, none⟩), .slice (some ⟨bb, 0, none⟩) G.rules.length G.rules.length] w (ShortPost G L w) := by
  have HR := hide (ruleCounts_any G hG ka pa ra qa kc pc rc qc gb ob ub M w hM hg)
  have c3 : w.cell? ⟨gb, 3, none⟩ = some (.slice qa G.prods.length qc) := by unfold World.cell?; rw [hg.box]; rfl
  have hgl : gb < w.heap.size := by have := hg.lt; omega
  have hr1 := hG.r1; have hr2 := hG.r2; have hps := hG.ps; have hk3 := hG.k3
  unfold Gm.nr at hr1 hr2
  unfold Gm.nk at hk3
  have Hg := hide hg; have Hb := hide hb; have HL := hide hL
  clear hg hb hL
  go_enter Tryz.func69, Tryz.ntmps69
  go_wp2_with fail
  refine (unhide HR).mono ?_
  rintro e w2 ⟨mb, ml, rfl, hml, hmv, hown, hb2⟩
  have hs2 := hb2.size
  have d3 := (hb2.cell (p := ⟨gb, 3, none⟩) hgl).trans c3
  have Hst : Hid (ShI G L w.heap.size w w2 mb 0 ml) := hide ⟨hml, by rw [← hml] at hown ⊢; exact hown, fun q hq => by rw [hmv q hq, if_neg (by rintro ⟨h, -⟩; omega)], hb2⟩
  clear HR hml hmv hown hb2 c3
  go_wp2_with fail
  go_wp2
  go_loopw [16] (fun x W => ∃ (k : Nat) (ml : List Int), x = .int .i64 k ∧ k ≤ G.prods.length ∧ ShI G L w.heap.size w W mb k ml) (fun x _ => G.prods.length - (intOf x).toNat)
  case atStart => exact ⟨0, ml, rfl, Nat.zero_le _, unhide Hst⟩
  case round =>
    clear Hst
    obtain ⟨k, ml, rfl, hk, hI⟩ := hrel
    have hszv : w.heap.size ≤ wr.heap.size := hI.bl.size
    by_cases hlt : k < G.prods.length
    · have hlt' : (k : Int) < G.prods.length := by omega
      have hgr := gr_kept (unhide Hg) (below_le hI.bl hM)
      obtain ⟨b, off, rfl, hbB, rr, rrc, x3, x4, x5, x6, n6, c6, hrr, -, q0, q1, q2, q3, q4, q5, q6⟩ := qrow_at hgr.gin.prods hlt
      have hpl := hG.pl _ (mem_getP hlt)
      have hpr := hG.pr _ (mem_getP hlt)
      have hpy := hG.py _ (mem_getP hlt)
      have eln : lnN G L k = ((G.prods.getD k pd0).right.length : Int) - (rulesL G.kinds.length (G.prods.getD k pd0).right).length + smA L ((rulesL G.kinds.length (G.prods.getD k pd0).right).map Int.toNat) := by
        unfold lnN kcN rlN
        rw [List.length_map]
      have elf : lfN G k = (G.prods.getD k pd0).left.toNat := rfl
      generalize G.prods.getD k pd0 = p at *
      obtain ⟨pl, prt, plv, pac⟩ := p
      simp only at q0 q1 q2 hpl hpr hpy eln elf hrr
      obtain ⟨l, rfl⟩ : ∃ l : Nat, pl = (l : Int) := ⟨pl.toNat, by omega⟩
      rw [Int.toNat_natCast] at elf
      have hl' : l < G.rules.length := by have := hpl.2; unfold Gm.nr at this; omega
      have hl'' : (l : Int) < G.rules.length := by omega
      obtain ⟨W2, hW2⟩ : ∃ W2, W2 = wr.alloc (.cells #[.int .i64 (l : Int), .slice rr prt.length rrc, .int .i64 plv, .int .i64 x3, .int .i64 x4, .string x5, .slice x6 n6 c6] 89) := ⟨_, rfl⟩
      have hb2 : Below wr.heap.size wr W2 := by rw [hW2]; exact (Below.refl _ _).alloc (Nat.le_refl _) _
      have hpb : W2.heap[wr.heap.size]? = some (.cells #[.int .i64 (l : Int), .slice rr prt.length rrc, .int .i64 plv, .int .i64 x3, .int .i64 x4, .string x5, .slice x6 n6 c6] 89) := by rw [hW2]; exact Go.Deep.blk_alloc_new _ _
      have hs22 := hb2.size
      have hpbl : wr.heap.size < W2.heap.size := (Array.getElem?_eq_some_iff.1 hpb).1
      have hI2 := shi_below hI hszv hb2
      have hgr2 := gr_kept hgr (below_le hb2 (by omega))
      have c0 : W2.cell? ⟨gb, 0, none⟩ = some (.slice ka G.kinds.length kc) := by unfold World.cell?; rw [hgr2.box]; rfl
      have p1 : W2.cell? ⟨wr.heap.size, 1, none⟩ = some (.slice rr prt.length rrc) := by unfold World.cell?; rw [hpb]; rfl
      have p0 : W2.cell? ⟨wr.heap.size, 0, none⟩ = some (.int .i64 (l : Int)) := by unfold World.cell?; rw [hpb]; rfl
      have hrow2 := ((unhide Hb).of_block (hI.bl.block _ (unhide Hb).lt)).of_block (hb2.block _ (by have := (unhide Hb).lt; omega))
      have hbl2 := hrow2.lt
      have HS : Hid (∀ V, Below W2.heap.size W2 V → V.cell? ⟨wr.heap.size, 1, none⟩ = some (.slice rr prt.length rrc) ∧ V.cell? ⟨wr.heap.size, 0, none⟩ = some (.int .i64 (l : Int)) ∧ V.cell? ⟨bb, l, none⟩ = some (.int .i64 (L l))) := hide (fun V hV => ⟨(hV.cell (p := ⟨wr.heap.size, 1, none⟩) hpbl).trans p1, (hV.cell (p := ⟨wr.heap.size, 0, none⟩) hpbl).trans p0, (hrow2.of_block (hV.block _ hbl2)).cell hl'⟩)
      have HC : Hid (∀ V, Below W2.heap.size W2 V → Calls Tryz.prog 112 #[.pointer (some ⟨gb, 0, none⟩), .slice rr prt.length rrc, .slice (some ⟨bb, 0, none⟩) G.rules.length G.rules.length] V fun e w' => e = .returned (.int .i64 (lnN G L k)) ∧ Below W2.heap.size W2 w') := hide (fun V hV => by
        have hsv := hV.size
        refine (length_any gb G.kinds.length G.rules.length ka kc (by omega) (by omega) rr rrc prt hpr (fun x hx => by have := hpy x hx; unfold Gm.nk Gm.nr at this; omega) bb L (unhide HL) V ((hV.cell (p := ⟨gb, 0, none⟩) (by show gb < _; omega)).trans c0) (by omega) (nrow_big hsv (nrow_kept hV (nrow_big (by omega) (nrow_kept (below_le hb2 (by omega)) hrr)))) (hrow2.of_block (hV.block _ hbl2))).mono ?_
        rintro e w' ⟨rfl, hb'⟩
        exact ⟨by rw [eln], hV.trans (below_le hb' hsv)⟩)
      have HI2 := hide hI2
      have hmk : ∀ V, Below W2.heap.size W2 V → V.cell? ⟨mb, k, none⟩ = some (.int .i64 (atZ ml k)) := fun V hV => by
        have h2 := (shi_below hI2 (by omega) hV).own
        rw [h2.cellAt k (by omega)]
        unfold vints atZ
        rw [List.getElem?_map, List.getD_eq_getElem?_getD, List.getElem?_eq_getElem (by rw [hI2.len]; exact hlt)]
        rfl
      have Hmk := hide hmk
      have hs2z : w.heap.size ≤ W2.heap.size := by omega
      clear hI hI2 hgr hgr2 hrr hpb hrow2 hmk p0 p1 c0 eln
      go_wp2_with fail
      rw [← hW2]
      clear hW2 hb2 q0 q1 q2 q3 q4 q5 q6
      generalize hpbe : wr.heap.size = pb at *
      have hS : Below W2.heap.size W2 W2 := Below.refl _ _
      go_cut [31] (fun v W => v = .bool (decide (¬ lnN G L k = L l)) ∧ Below W2.heap.size W2 W)
      case first =>
        go_region_held3 (fun V : World => V.cell? ⟨pb, 1, none⟩ = some (.slice rr prt.length rrc) ∧ V.cell? ⟨pb, 0, none⟩ = some (.int .i64 (l : Int)) ∧ V.cell? ⟨bb, l, none⟩ = some (.int .i64 (L l)))
          (first | exact unhide HS _ hS | exact unhide HS _ hS.drew | fail)
          (first
            | (go_at_call 112; refine (unhide HC _ (by first | exact hS | exact hS.drew)).mono ?_; rintro e W3 ⟨rfl, hS⟩)
            | fail)
        all_goals
          go_wp2_with fail
          go_meet
          exact ⟨by by_cases e : lnN G L k = L l <;> simp [e], hS⟩
      case rest =>
        obtain ⟨rfl, hbc⟩ := hcut
        have hI3 := shi_below (unhide HI2) hs2z hbc
        have hmk := unhide Hmk _ hbc
        by_cases he : lnN G L k = L l
        · have hI4 := hide (shi_same hI3 (by rw [elf]; exact he))
          clear hI3 HC HS hmk Hmk HI2
          go_wp2
          go_roundw
          case rel => exact ⟨k + 1, ml, by go_num, by omega, unhide hI4⟩
          case measure => simp [intOf]; omega
        · have hI4 := hide (shi_mark hI3 hlt (by rw [elf]; exact he))
          have hfz := hI3.own.frozenAt k
          clear hI3 HC HS Hmk HI2
          go_wp2
          go_roundw
          case rel => exact ⟨k + 1, _, by go_num, by omega, unhide hI4⟩
          case measure => simp [intOf]; omega
    · obtain rfl : k = G.prods.length := by omega
      have hrl : ∀ q, q < G.prods.length → (rlN G q).length ≤ 64 := fun q hq => by
        have h4 := rlN_len G q
        have h5 := hG.pr _ (mem_getP hq)
        omega
      have hown := hI.own
      have hown' : wr.ownsRow w.heap.size 3 1 (.slice (some ⟨mb, 0, none⟩) G.prods.length G.prods.length) ml.length (vints ml) := by rw [hI.len]; exact hown
      have hmbb : w.heap.size ≤ mb := (hown.lt mb rfl).1
      have HRo := hide (rounds_any G hG ka pa ra qa kc pc rc qc gb ob ub M (.slice (some ⟨mb, 0, none⟩) G.prods.length G.prods.length) ml hI.len (fun q hq => by
        rw [hI.at_ q hq]
        split
        · exact .inr (.inr (by decide))
        · exact .inl rfl) (fun q => by
        by_cases hq : q < G.prods.length
        · rw [hI.at_ q hq]; have := hrl q hq; split <;> omega
        · have : atZ ml q = 0 := by unfold atZ; rw [List.getD_eq_getElem?_getD, List.getElem?_eq_none (by rw [hI.len]; omega)]; rfl
          omega) wr (by omega) (gr_kept (unhide Hg) (below_le hI.bl hM)) (own_base hown' hM))
      have Hel : Hid (∀ q, q < G.prods.length → decide (atZ ml q = (rlN G q).length) = decide (lnN G L q = L (lfN G q))) := hide (fun q hq => by
        rw [hI.at_ q hq]
        by_cases e : lnN G L q = L (lfN G q)
        · rw [if_neg (by rintro ⟨-, h⟩; exact h e)]; simp [e]
        · rw [if_pos ⟨hq, e⟩]
          simp [e])
      have Hbl := hide hI.bl
      clear hI hown hown'
      go_wp2_with fail
      refine (unhide HRo).mono ?_
      rintro e w3 ⟨b3, n, c, rfl, hrow3, hc, hs, hbl3, hfr3⟩
      have Hend : Hid (ShortPost G L w (.returned (.slice (some ⟨b3, 0, none⟩) G.rules.length G.rules.length)) w3) := hide ⟨b3, n, c, _, rfl, hrow3, hc, hs, unhide Hel, by omega, (unhide Hbl).trans (fr_below hfr3 hszv (fun k hk => by simp [Value.ownBlock] at hk; omega))⟩
      clear hrow3 hc hs hfr3
      go_wp2
      go_ret
      exact unhide Hend
end Go.Proofs.YtagohbpbgjelaaaGreatDoor

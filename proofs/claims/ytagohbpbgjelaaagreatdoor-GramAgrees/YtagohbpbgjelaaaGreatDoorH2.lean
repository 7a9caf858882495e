/- The document's spelled. -/
import Derived.Test.YtagohbpbgjelaaaGreatDoorA4
import Derived.Test.YtagohbpbgjelaaaGreatDoorA5
import Derived.Laws.AppendOwnNone
import Derived.Test.YtagohbpbgjelaaaGreatDoorP0
import Derived.Test.YtagohbpbgjelaaaGreatDoorY1
namespace Go.Proofs.YtagohbpbgjelaaaGreatDoor
open Go.RowKit

set_option maxRecDepth 100000 in
theorem vints_app (a b : List Int) : vints (a ++ b) = vints a ++ vints b := by simp [vints]
end Go.Proofs.YtagohbpbgjelaaaGreatDoor

/- Plain words for Trim; rows and boxes that lie side by side. -/
namespace Go.Proofs.YtagohbpbgjelaaaGreatDoor
open Go.RowKit

/-! ### Side by side -/
set_option maxRecDepth 100000 in
theorem bx_below {W W' : World} {b : Nat} {o : Obj} (h : W.heap[b]? = some o) (hb : Below W.heap.size W W') : W'.heap[b]? = some o := (hb.block _ (Array.getElem?_eq_some_iff.1 h).1).trans h
set_option maxRecDepth 100000 in
theorem one_new {W : World} {b t : Nat} {x : Value} (h : W.heap[b]? = some (.cells #[x] t)) {j : Nat} {u : Value} (hu : [x][j]? = some u) : W.cell? (Addr.add ⟨b, 0, none⟩ j) = some u := by
  rcases j with _ | j
  · cases hu
    rw [addr_add0]
    unfold World.cell?
    rw [h]
    rfl
  · simp at hu
set_option maxRecDepth 100000 in
theorem own_frN {W W' : World} {b e B s n : Nat} {v : Value} {xs : List Value} (h' : W.ownsRow B e s v n xs) (hf : Fr (· = b) W W') (hb : b < B) : W'.ownsRow B e s v n xs := by
  refine ⟨h'.1, ?_⟩
  rcases h'.2 with h0 | ⟨g, cap, cur, hv, h1, h2, rest⟩
  · exact .inl h0
  · exact .inr ⟨g, cap, cur, hv, h1, (hf.2.1 g (Array.getElem?_eq_some_iff.1 h2).1 (fun e => by have e : g = b := e; omega)).trans h2, rest⟩
/-! ### Productions that are being made -/
end Go.Proofs.YtagohbpbgjelaaaGreatDoor

/- Plain mathematics: a trimmed grammar. -/
namespace Go.Proofs.YtagohbpbgjelaaaGreatDoor
open Go.RowKit

/-! ### Shortest rows exist -/
set_option maxRecDepth 100000 in
open Classical in
theorem least_ex (G : Gm) : ∃ f, LeastIs G f := by
  have key : ∀ r, ∃ v : Int, (v = -1 ∧ ¬ ∃ n, Lng G r n) ∨ (Lng G r v ∧ ∀ n, Lng G r n → v ≤ n) := by
    intro r
    by_cases h : ∃ n, Lng G r n
    · obtain ⟨n, hn⟩ := h
      have hP : ∃ m : Nat, Lng G r (m : Int) := ⟨n.toNat, by have := lng_bd hn; rw [Int.toNat_of_nonneg this.1]; exact hn⟩
      obtain ⟨m, hm, hmin⟩ : ∃ m : Nat, Lng G r (m : Int) ∧ ∀ k : Nat, Lng G r (k : Int) → m ≤ k := by
        obtain ⟨m0, hm0⟩ := hP
        induction m0 using Nat.strongRecOn with
        | _ m0 ih =>
          by_cases hx : ∃ k : Nat, k < m0 ∧ Lng G r (k : Int)
          · obtain ⟨k, hk, hl⟩ := hx
            exact ih k hk hl
          · exact ⟨m0, hm0, fun k hk => by
              rcases Nat.lt_or_ge k m0 with h | h
              · exact absurd ⟨k, h, hk⟩ hx
              · exact h⟩
      refine ⟨(m : Int), .inr ⟨hm, fun k hk => ?_⟩⟩
      have hb := lng_bd hk
      have := hmin k.toNat (by rw [Int.toNat_of_nonneg hb.1]; exact hk)
      omega
    · exact ⟨-1, .inl ⟨rfl, h⟩⟩
  refine ⟨fun r => Classical.choose (key r), fun r => ?_, fun r n hn => ?_⟩
  · rcases Classical.choose_spec (key r) with h | h
    · exact .inl h.1
    · have := lng_bd h.1
      exact .inr ⟨this.1, this.2, h.1⟩
  · rcases Classical.choose_spec (key r) with h | h
    · exact absurd ⟨n, hn⟩ h.2
    · exact ⟨(lng_bd h.1).1, h.2 n hn⟩
/-! ### New numbers -/
/-! ### What is kept -/
/-! ### All is of use -/
end Go.Proofs.YtagohbpbgjelaaaGreatDoor

/- The law GramFirsts, walked. -/
namespace Go.Proofs.YtagohbpbgjelaaaGreatDoor
open Go.RowKit

set_option maxHeartbeats 1000000 in
set_option maxRecDepth 100000 in
theorem rHas_any (a : Option Addr) (c : Nat) (l : List Int) (n : Int) (hl : l.length ≤ 281474976710656) (w : World) (h : NRow w.heap.size w a l) :
    Calls Tryz.prog 28 #[.slice a l.length c, .int .i64 n] w fun e w' => e = .returned (.bool (decide (n ∈ l))) ∧ ∃ q, w' = w.drewN q := by
  have H := hide h
  clear h
  obtain ⟨R, hR⟩ : ∃ R, Hid (decide (n ∈ l) = R) := ⟨_, hide rfl⟩
  rw [unhide hR]
  go_enter Tryz.func28, Tryz.ntmps28
  go_wp2
  go_loopw [5] (fun x wr => ∃ k : Nat, x = .int .i64 k ∧ k ≤ l.length ∧ ¬ n ∈ l.take k ∧ ∃ q, wr = w.drewN q) (fun x _ => l.length - (intOf x).toNat)
  case atStart => exact ⟨0, rfl, Nat.zero_le _, by simp, 0, rfl⟩
  case round =>
    obtain ⟨k, rfl, hk, hnm, q, rfl⟩ := hrel
    by_cases hlt : k < l.length
    · have hlt' : (k : Int) < l.length := by omega
      obtain ⟨b1, o1, rfl, hb1, c1⟩ := nrow_at (unhide H) hlt
      have d1 : (w.drewN q).cell? ⟨b1, o1 + k, none⟩ = some (.int .i64 (l.getD k 0)) := c1
      have hmem := mem_getD hlt
      have Hsn := hide (take_snoc l k 0 hlt)
      have Hnm := hide hnm; have Hmem := hide hmem
      clear c1 hnm hmem
      generalize l.getD k 0 = y at *
      generalize hW : w.drewN q = W at *
      by_cases hy : y = n
      · subst hy
        have Ht : Hid (R = true) := hide (by rw [← unhide hR, decide_eq_true_eq]; exact unhide Hmem)
        go_wp2
        all_goals first
          | (go_quiet (fail); go_wp2; go_ret; rw [unhide Ht]; exact ⟨rfl, q + nq, by rw [← hW, World.drewN_drewN]⟩)
          | (go_ret; rw [unhide Ht]; exact ⟨rfl, q, hW.symm⟩)
      · have hy' : (y == n) = false := by rw [beq_eq_false_iff_ne]; exact hy
        have Hn2 : Hid (¬ n ∈ l.take (k + 1)) := hide (by
          rw [unhide Hsn, List.mem_append]
          rintro (h | h)
          · exact unhide Hnm h
          · simp at h; exact hy h.symm)
        clear hy
        go_wp2
        all_goals first
          | (go_quiet (fail); go_wp2; go_roundw; (case rel => exact ⟨k + 1, by go_num, by omega, unhide Hn2, q + nq, by rw [← hW, World.drewN_drewN]⟩); (case measure => simp [intOf]; omega))
          | (go_roundw; (case rel => exact ⟨k + 1, by go_num, by omega, unhide Hn2, q, hW.symm⟩); (case measure => simp [intOf]; omega))
    · obtain rfl : k = l.length := by omega
      have Ht : Hid (R = false) := hide (by rw [← unhide hR, decide_eq_false_iff_not]; rw [List.take_length] at hnm; exact hnm)
      clear hnm
      go_wp2
      go_ret
      rw [unhide Ht]
      exact ⟨rfl, q, rfl⟩

set_option maxRecDepth 100000 in
theorem nrow_one (w : World) (x : Int) : NRow (w.alloc (.cells #[.int .i64 x] 3)).heap.size (w.alloc (.cells #[.int .i64 x] 3)) (some ⟨w.heap.size, 0, none⟩) [x] := by
  refine .inr ⟨w.heap.size, 0, rfl, by simp, fun j hj => ?_⟩
  obtain rfl : j = 0 := by simp at hj; omega
  exact new1 _ _ _ 0 _ rfl

end Go.Proofs.YtagohbpbgjelaaaGreatDoor

/- The document's Row. -/
namespace Go.Proofs.YtagohbpbgjelaaaGreatDoor
open Go.RowKit

open Classical in
/-- After which round all is chosen. -/
noncomputable def chN (G : Gm) : Nat := if h : ∃ n, chR G (lstF G) (chS G (lstF G) n) = chS G (lstF G) n then Classical.choose h else 0
noncomputable def chF (G : Gm) : Nat → Int := chS G (lstF G) (chN G)
set_option maxRecDepth 100000 in
theorem chF_is {G : Gm} {c : Nat → Int} (h : ChosenIs G (lstF G) c) : c = chF G ∧ ChosenIs G (lstF G) (chF G) := by
  have h' : ChosenIs G (lstF G) (chF G) := by
    obtain ⟨n, rfl, hf⟩ := h
    have hx : ∃ n, chR G (lstF G) (chS G (lstF G) n) = chS G (lstF G) n := ⟨n, hf⟩
    refine ⟨chN G, rfl, ?_⟩
    unfold chF chN
    rw [dif_pos hx]
    exact Classical.choose_spec hx
  exact ⟨chosen_uniq h h', h'⟩
/-- A rule's shortest row. -/
noncomputable def rowOf (G : Gm) (r : Nat) : List Int := splF G (lstF G) (chF G) (chN G + 1) ((G.kinds.length : Int) + r)
noncomputable def rwV (G : Gm) (rule : Int) : Int := if lsV G rule = 0 then (if lsB G rule = true then (if 65537 ≤ lsN G rule then 3 else 0) else 8) else lsV G rule
noncomputable def rwL (G : Gm) (rule : Int) : List Int := if rwV G rule = 0 then rowOf G rule.toNat else []
def RowC (fn : Nat) : Prop := ∀ (G : Gm) (ka pa ra qa : Option Addr) (kc pc rc qc : Nat) (rule : Int) (w : World) (_ : GIn w.heap.size w G ka pa ra qa) (_ : smG G), Calls Tryz.prog fn #[gV G ka pa ra qa kc pc rc qc, .int .i64 rule] w fun e w' =>
  ∃ a c, e = .returned (.tuple #[.slice a (rwL G rule).length c, .int .i64 (rwV G rule)]) ∧ NRow w'.heap.size w' a (rwL G rule) ∧ (rwL G rule).length ≤ 65536 ∧ Below w.heap.size w w'

end Go.Proofs.YtagohbpbgjelaaaGreatDoor

/- Plain mathematics: what is told of a rule in several ways agrees. -/
namespace Go.Proofs.YtagohbpbgjelaaaGreatDoor
open Go.RowKit

set_option maxRecDepth 100000 in
theorem chTo_neg {G : Gm} {f was : Nat → Int} {r : Nat} : ∀ k, ¬ 0 ≤ chTo G f was k r → chTo G f was k r = was r
  | 0, _ => rfl
  | k + 1, h => by
    unfold chTo at h ⊢
    split at h
    · rename_i hs
      rw [if_pos hs]
      unfold updI at h ⊢
      split at h
      · omega
      · rename_i e
        rw [if_neg e]
        exact chTo_neg k h
    · rename_i hs
      rw [if_neg hs]
      exact chTo_neg k h
set_option maxRecDepth 100000 in
theorem chosen_ex (G : Gm) (f : Nat → Int) : ∃ n, chR G f (chS G f n) = chS G f n := by
  apply Classical.byContradiction
  intro hne
  have hno : ∀ n, ∃ r, chR G f (chS G f n) r ≠ chS G f n r := fun n => by
    apply Classical.byContradiction
    intro h
    refine hne ⟨n, funext fun r => ?_⟩
    apply Classical.byContradiction
    intro h2
    exact h ⟨r, h2⟩
  have step : ∀ n, cntF (fun i => decide (0 ≤ chS G f (n + 1) (G.prods.getD i pd0).left.toNat)) G.prods.length < cntF (fun i => decide (0 ≤ chS G f n (G.prods.getD i pd0).left.toNat)) G.prods.length := by
    intro n
    obtain ⟨r, hr⟩ := hno n
    by_cases h0 : 0 ≤ chTo G f (chS G f n) G.prods.length r
    · rcases chTo_what G.prods.length h0 with ⟨h1, h2⟩ | ⟨i, hi, h1, h2, h3⟩
      · exact absurd h2 hr
      · refine cntF_lt _ (fun j _ hj => ?_) i hi ?_ ?_
        · rw [decide_eq_true_eq] at hj ⊢
          rw [chS_mono hj 1]; exact hj
        · rw [decide_eq_false_iff_not, h2]
          intro hw
          exact hr (chTo_was hw _)
        · rw [decide_eq_true_eq, h2]
          exact h0
    · exact absurd (chTo_neg _ h0) hr
  have all : ∀ n, cntF (fun i => decide (0 ≤ chS G f n (G.prods.getD i pd0).left.toNat)) G.prods.length + n ≤ cntF (fun i => decide (0 ≤ chS G f 0 (G.prods.getD i pd0).left.toNat)) G.prods.length := by
    intro n
    induction n with
    | zero => exact Nat.le_refl _
    | succ n ih => have := step n; omega
  have := all (cntF (fun i => decide (0 ≤ chS G f 0 (G.prods.getD i pd0).left.toNat)) G.prods.length + 1)
  omega
set_option maxRecDepth 100000 in
theorem beg_one {G : Gm} {r : Nat} : begB G.nk (nullF G) (fstF G) [((G.nk : Nat) : Int) + r] = fstF G r := by
  funext k
  rw [Bool.eq_iff_iff, begB_iff]
  constructor
  · rintro ⟨i, hi, -, h⟩
    obtain rfl : i = 0 := by simp at hi; omega
    rcases h with h | h
    · have : ((G.nk : Nat) : Int) + r < G.nk := h.1
      omega
    · have h2 : fstF G (((G.nk : Nat) : Int) + r - G.nk).toNat k = true := h.2
      rw [show (((G.nk : Nat) : Int) + r - G.nk).toNat = r by omega] at h2
      exact h2
  · intro h
    refine ⟨0, by simp, rfl, .inr ⟨?_, ?_⟩⟩
    · show ((G.nk : Nat) : Int) ≤ ((G.nk : Nat) : Int) + r
      omega
    · show fstF G (((G.nk : Nat) : Int) + r - G.nk).toNat k = true
      rw [show (((G.nk : Nat) : Int) + r - G.nk).toNat = r by omega]
      exact h
noncomputable def fsR (G : Gm) (r : Nat) : List Int := posL (boolsOf (fstF G r) G.nk)
/-- What is told of a rule. -/
structure AG (G : Gm) (r : Nat) (v : Int) : Prop where
  ln : lsN G r = max v 0
  lb : lsB G r = decide (0 ≤ v)
  lv : lsV G r = 0
  null : nullF G r = decide (v = 0)
  prd : prdF G r = decide (0 ≤ v)
  r8 : v < 0 → rwV G r = 8
  r3 : 65537 ≤ v → rwV G r = 3
  r0 : 0 ≤ v → v ≤ 65536 → rwV G r = 0 ∧ ((rwL G r).length : Int) = v
  rf : 0 < v → v ≤ 65536 → (rwL G r).getD 0 0 ∈ fsR G r
  fv : fsV G [((G.kinds.length : Nat) : Int) + r] = 0
  fe : fsE G [((G.kinds.length : Nat) : Int) + r] = nullF G r
  fl : fsL G [((G.kinds.length : Nat) : Int) + r] = fsR G r
set_option maxRecDepth 100000 in
theorem ag_of {G : Gm} (hc : checkB G = true) {r : Nat} (hr : r < G.rules.length) : AG G r (lstF G r) := by
  have hG := check_ok hc
  obtain ⟨f, hf⟩ := least_ex G
  have hlf := lstF_is hf
  rw [hlf]
  have hin : ¬ ((r : Int) < 0 ∨ (G.rules.length : Int) ≤ (r : Int)) := by omega
  have eN : lsN G r = max (f r) 0 := by unfold lsN; rw [hc, if_pos rfl, if_neg hin, hlf, Int.toNat_natCast]
  have eB : lsB G r = decide (0 ≤ f r) := by unfold lsB; rw [hc, if_pos rfl, if_neg hin, hlf, Int.toNat_natCast]
  have eV : lsV G r = 0 := by unfold lsV; rw [hc, if_pos rfl, if_neg hin]
  have hsy : symsIn (G.kinds.length + G.rules.length) [((G.kinds.length : Nat) : Int) + r] := by
    intro x hx
    have hx : x = ((G.kinds.length : Nat) : Int) + r := by simpa using hx
    have := hG.k2
    unfold Gm.nk at this
    omega
  obtain ⟨n0, hn0⟩ := chosen_ex G (lstF G)
  have hch := (chF_is (G := G) ⟨n0, rfl, hn0⟩).2
  have hag := agree_of hch
  have hrow : 0 ≤ f r → f r ≤ 65536 → rwV G r = 0 := fun h1 h2 => by
    unfold rwV
    rw [if_pos eV, eB, decide_eq_true h1, if_pos rfl, eN, if_neg (by omega)]
  have hhas : 0 ≤ f r → HasC G (lstF G) (chN G) (((G.kinds.length : Nat) : Int) + r) := fun h1 => by
    right
    show 0 ≤ chS G (lstF G) (chN G) (((G.kinds.length : Nat) : Int) + r - ((G.kinds.length : Nat) : Int)).toNat
    rw [show (((G.kinds.length : Nat) : Int) + r - ((G.kinds.length : Nat) : Int)).toNat = r by omega]
    obtain ⟨n, e, hfix⟩ := hch
    have hf' : LeastIs G (lstF G) := by rw [hlf]; exact hf
    have := chosen_all hf' hfix (f r).toNat r (by rw [hlf]; omega)
    exact this
  have hln : lnX G.nk (lstF G) (((G.kinds.length : Nat) : Int) + r) = f r := by
    unfold lnX
    rw [if_pos (by unfold Gm.nk; omega), hlf]
    unfold Gm.nk
    rw [show (((G.kinds.length : Nat) : Int) + r - ((G.kinds.length : Nat) : Int)).toNat = r by omega]
  have hlen : 0 ≤ f r → f r ≤ 65536 → ((rwL G r).length : Int) = f r := fun h1 h2 => by
    unfold rwL
    rw [if_pos (hrow h1 h2), Int.toNat_natCast]
    have := splF_len hag (chN G) _ (hhas h1) (by rw [hln]; exact h2)
    rw [hln] at this
    exact this
  refine ⟨eN, eB, eV, null_least hf r, prd_least hf r, fun h => ?_, fun h => ?_, fun h1 h2 => ⟨hrow h1 h2, hlen h1 h2⟩, fun h1 h2 => ?_, ?_, ?_, ?_⟩
  · unfold rwV
    rw [if_pos eV, eB, decide_eq_false (by omega)]; rfl
  · unfold rwV
    rw [if_pos eV, eB, decide_eq_true (by omega), if_pos rfl, eN, if_pos (by omega)]
  · have hl := hlen (by omega) h2
    have hL : rwL G r = rowOf G r := by unfold rwL; rw [if_pos (hrow (by omega) h2), Int.toNat_natCast]
    rw [hL] at hl ⊢
    cases e : rowOf G r with
    | nil => rw [e] at hl; simp at hl; omega
    | cons y ys =>
      have hf' : LeastIs G (lstF G) := by rw [hlf]; exact hf
      obtain ⟨b1, b2, b3⟩ := spl_first hG hf' hag (chN G) _ (by have := hG.k2; unfold Gm.nk at this; omega) (hhas (by omega)) y ys e
      have hb := beg_one (G := G) (r := r)
      unfold Gm.nk at hb b1
      rw [hb] at b1
      show y ∈ fsR G r
      unfold fsR
      rw [mem_posL]
      exact ⟨y.toNat, by omega, by omega, b1⟩
  · unfold fsV
    rw [if_pos hc, if_pos hsy]
  · unfold fsE
    rw [if_pos ⟨hc, hsy⟩]
    show ([((G.kinds.length : Nat) : Int) + r].all fun x => decide ((G.nk : Int) ≤ x) && nullF G (x - G.nk).toNat) = nullF G r
    unfold Gm.nk
    simp only [List.all_cons, List.all_nil, Bool.and_true]
    rw [decide_eq_true (by omega), Bool.true_and, show (((G.kinds.length : Nat) : Int) + r - ((G.kinds.length : Nat) : Int)).toNat = r by omega]
  · unfold fsL
    rw [if_pos ⟨hc, hsy⟩]
    unfold begL fsR
    rw [show begB G.nk (nullF G) (fstF G) [((G.kinds.length : Nat) : Int) + r] = fstF G r from beg_one]
end Go.Proofs.YtagohbpbgjelaaaGreatDoor

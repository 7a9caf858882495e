/- Pools: a new pool. (and what it leads to) -/
import Derived.Test.YtkimhfajfbcdmaaGreatDoorQE
import Derived.Laws.MakeOwn
import Derived.Laws.EntriesVeiled
import Derived.Laws.OwnMore
import Derived.Lib.SliceRun
/- Pools: a new pool. -/
namespace Go.Proofs.YtkimhfajfbcdmaaGreatDoor
open Go.RowKit Go.Maps

variable {av : Nat → Prop}

theorem make16 (w : World) : ∃ mc : Array Value, mc.size = 16 * 6 ∧ (Instr.makeSlice 55 (.int .i64 0) (.int .i64 16)).run Tryz.prog w = .ok (.slice (some ⟨w.heap.size, 0, none⟩) 0 16) (w.alloc (.cells mc 65)) := by
  obtain ⟨i0, hi, hz0, hz1, hz2⟩ := info_parts hnode
  refine ⟨_, ?_, run_makeSlice w 55 65 i0 _ Tryz.underlying55 hi hz0 .i64 .i64 0 16 (by decide) (by decide) (by rw [hz1]; decide) (by rw [hz2]; decide) (by decide)⟩
  rw [size_madeCells, hz1]
  rfl
/-- The three that every pool has. -/
def base3 : List Ab := [⟨0, [], [], 1, 1, false⟩, ⟨1, [], [], 1, 1, true⟩, ⟨6, [], [0], 2, 2, true⟩]
theorem base3_put : putL (putL (putL [] 0 [] []) 1 [] []) 6 [] [0] = base3 := by kernel_rfl
theorem base3_len1 : (putL [] 0 [] []).length = 1 := by kernel_rfl
theorem base3_len2 : (putL (putL [] 0 [] []) 1 [] []).length = 2 := by kernel_rfl
def freshW (w : World) (mc : Array Value) (ov : Value) : World := (((w.alloc (.cells mc 65)).alloc (.map #[] 0)).alloc (.map #[] 0)).alloc (.cells #[.slice (some ⟨w.heap.size, 0, none⟩) 0 16, .map (some (w.heap.size + 1)), .slice none 0 0, .map (some (w.heap.size + 1 + 1)), ov, .int .i64 0] 61)
theorem fresh_below (w : World) (mc : Array Value) (ov : Value) : Below w.heap.size w (freshW w mc ov) := ((((Below.refl _ w).alloc (Nat.le_refl _) _).alloc (by simp) _).alloc (by simp; omega) _).alloc (by simp; omega) _
theorem pool_fresh (w : World) (mc : Array Value) (ov : Value) (hmc : mc.size = 16 * 6) : Pool (fun _ => False) (freshW w mc ov) w.heap.size (w.heap.size + 1 + 1 + 1) (w.heap.size + 1) (w.heap.size + 1 + 1) [] ov 0 0 (.map []) := by
  have hn : (w.alloc (.cells mc 65)).ownsRow w.heap.size 65 6 (.slice (some ⟨w.heap.size, 0, none⟩) 0 16) 0 [] := World.ownsRow_made w mc 16 (Nat.le_refl _) (by unfold maxLen; omega) hmc
  have h1 := World.ownsMap_made (H := Unit) (w.alloc (.cells mc 65)) Tryz.prog 9 (plainElem Tryz.prog 3)
  have h2 := World.ownsMap_made (H := Unit) ((w.alloc (.cells mc 65)).alloc (.map #[] 0)) Tryz.prog 102 (plainElem Tryz.prog 3)
  simp only [World.size_alloc] at h1 h2
  refine ⟨by omega, by omega, by omega, by omega, ⟨by simp [keysA], by simp, by simp, by simp, by simp, by simp⟩, h2.alloc _, [], w.heap.size, 16, .slice none 0 0, [], .map [], ?_⟩
  refine ⟨rfl, ?_, ((hn.alloc _).alloc _).alloc _, World.ownsRow_nil _ _ _ _, (h1.alloc _).alloc _, fun s => ⟨by simp [keysA]; rfl, by simp [keysA, posB]; rfl⟩, by simp⟩
  have := (MapKept.heap_alloc (((w.alloc (.cells mc 65)).alloc (.map #[] 0)).alloc (.map #[] 0)) (.cells #[.slice (some ⟨w.heap.size, 0, none⟩) 0 16, .map (some (w.heap.size + 1)), .slice none 0 0, .map (some (w.heap.size + 1 + 1)), ov, .int .i64 0] 61)).1
  simp only [World.size_alloc] at this
  exact this
def cmpV (pb : Nat) : Value := .func (.func 25) #[.pointer (some ⟨pb, 0, none⟩)] #[]
set_option maxHeartbeats 4000000 in
set_option maxRecDepth 100000 in
theorem newPool_any (w : World) :
    Calls Tryz.prog 11 #[] w fun e' w' => ∃ pb mb sb, e' = .returned (.pointer (some ⟨pb, 0, none⟩)) ∧ Pool (fun _ => False) w' w.heap.size pb mb sb base3 (cmpV pb) 0 0 (.map []) ∧ Below w.heap.size w w' := by
  have hmf : ∀ (fn : Fn) (first cap : Array Value) (w : World), (Instr.makeFunc fn first cap).run Tryz.prog w = .ok (.func fn first cap) w := fun _ _ _ _ => rfl
  have qk := fun w : World => run_makeMap (P := Tryz.prog) 56 w
  have qs := fun w : World => run_makeMap (P := Tryz.prog) 57 w
  obtain ⟨mc, hmc, hmk⟩ := make16 w
  have hP1 := pool_fresh w mc (cmpV (w.heap.size + 1 + 1 + 1)) hmc
  have hf : Fr w.heap.size (w.heap.size + 1) (w.heap.size + 1 + 1) w (freshW w mc (cmpV (w.heap.size + 1 + 1 + 1))) := fr_below (fresh_below w mc _)
  have hB1 := hf.size
  have HP1 := hide hP1; have Hf := hide hf
  clear hP1 hf hmc
  unfold freshW cmpV at HP1 Hf hB1
  go_enter Tryz.func11, Tryz.ntmps11
  go_wp2_with fail
  refine (put_any _ w.heap.size (w.heap.size + 1 + 1 + 1) (w.heap.size + 1) (w.heap.size + 1 + 1) [] _ 0 0 (.map []) (unhide HP1) hB1 0 none none 0 0 [] [] (by simp) (by simp) (rrow_nil _ _) (nrow_nil _ _) (held_none _ _ _ _) (held_none _ _ _ _) (by simp) (by simp) (by simp) (by simp)).mono ?_
  rintro e1 W1 ⟨rfl, hp1, hf1⟩
  have hfa := fr_t (unhide Hf) hf1
  have hB2 := hfa.size
  have Hp1 := hide hp1; have Hfa := hide hfa
  clear hp1 hf1 hfa HP1 Hf hB1 hmk
  go_wp2_with fail
  refine (put_any W1 w.heap.size (w.heap.size + 1 + 1 + 1) (w.heap.size + 1) (w.heap.size + 1 + 1) _ _ 0 0 (.map []) (unhide Hp1) hB2 1 none none 0 0 [] [] (by simp) (by simp) (rrow_nil _ _) (nrow_nil _ _) (held_none _ _ _ _) (held_none _ _ _ _) (by simp) (by simp) (by simp) (by rw [base3_len1]; decide)).mono ?_
  rintro e1 W2 ⟨rfl, hp2, hf2⟩
  have hb2 : Below W2.heap.size W2 (W2.alloc (.cells #[.int .i64 0] 3)) := (Below.refl _ _).alloc (Nat.le_refl _) _
  have hfb := fr_t (unhide Hfa) hf2
  have hfc := fr_t hfb (fr_below hb2)
  have hB3 := hfc.size
  have hp2' := pool_below hp2 hb2
  have hbx : (W2.alloc (.cells #[.int .i64 0] 3)).heap[W2.heap.size]? = some (.cells #[.int .i64 0] 3 (0, 0)) := (MapKept.heap_alloc W2 _).1
  have HPut := hide (put_any _ w.heap.size (w.heap.size + 1 + 1 + 1) (w.heap.size + 1) (w.heap.size + 1 + 1) _ _ 0 0 (.map []) hp2' hB3 6 none (some ⟨W2.heap.size, 0, none⟩) 0 1 [] [0] (by simp) (by simp) (rrow_nil _ _) (nrow_one hbx) (held_none _ _ _ _) (held_new _ _ _ hbx (fun h => h) 0) (fun j hj => by
      obtain rfl : j = 0 := by simp at hj; omega
      rw [base3_len2]; simp) (by simp) (by simp) (by rw [base3_len2]; decide))
  have Hfc := hide hfc
  clear hp2 hf2 hfb hfc hp2' hbx Hp1 Hfa hB2 hB3 hb2
  go_wp2_with fail
  refine (unhide HPut).mono ?_
  rintro e1 W3 ⟨rfl, hp3, hf3⟩
  have hfd := fr_t (unhide Hfc) hf3
  rw [base3_put] at hp3
  have Hp3 := hide hp3; have Hfd := hide hfd
  clear hp3 hf3 hfd HPut Hfc
  go_wp2
  go_ret
  exact ⟨_, _, _, rfl, unhide Hp3, fr_base (unhide Hfd) (Nat.le_refl _)⟩
end Go.Proofs.YtkimhfajfbcdmaaGreatDoor

/- Expressions in memory; a row of ranges is copied. -/
namespace Go.Proofs.YtkimhfajfbcdmaaGreatDoor
open Go.RowKit Go.Maps

variable {av : Nat → Prop}

def encR (x : Rg) : List Value := [.int .i32 x.1, .int .i32 x.2]
def flatR (l : List Rg) : List Value := l.flatMap encR
theorem flatR_cons (x : Rg) (l : List Rg) : flatR (x :: l) = .int .i32 x.1 :: .int .i32 x.2 :: flatR l := rfl
theorem flatR_length (l : List Rg) : (flatR l).length = l.length * 2 := by
  induction l with
  | nil => rfl
  | cons x l ih => rw [flatR_cons]; simp [ih]; omega
theorem flatR_at (l : List Rg) (j : Nat) (hj : j < l.length) : (flatR l)[j * 2]? = some (.int .i32 (l.getD j (0, 0)).1) ∧ (flatR l)[j * 2 + 1]? = some (.int .i32 (l.getD j (0, 0)).2) := by
  induction l generalizing j with
  | nil => simp at hj
  | cons x l ih =>
    rw [flatR_cons]
    cases j with
    | zero => simp
    | succ j =>
      have := ih j (by simpa using hj)
      rw [show (j + 1) * 2 = j * 2 + 1 + 1 by omega]
      simpa using this
theorem flatR_one (l : List Rg) : ∀ u ∈ flatR l, u.oneCell' = true := by
  intro u hu
  simp only [flatR, List.mem_flatMap, encR] at hu
  obtain ⟨x, _, hx⟩ := hu
  simp at hx
  rcases hx with rfl | rfl <;> rfl
theorem hrange : (Tryz.prog.info? 45).map (fun i => (i.zero, i.size, i.bytes)) = some (some (.agg #[.int .i32 0, .int .i32 0]), 2, 8) := by kernel_rfl
theorem rrow_own {w : World} {B : Nat} {l : List Rg} {a : Option Addr} {cap : Nat} (h : w.ownsRow B 45 2 (.slice a l.length cap) l.length (flatR l)) : RRow w a l ∧ ∀ x, a = some x → B ≤ x.block ∧ x.block < w.heap.size := by
  refine ⟨?_, fun x hx => row_lt h (by rw [hx]; rfl)⟩
  by_cases h0 : l = []
  · exact .inl h0
  · have hn : 0 < l.length := List.length_pos_iff.2 h0
    obtain ⟨g, cap', hv, -, hlt, -⟩ := own_pos h hn
    simp only [Value.slice.injEq, true_and] at hv
    obtain ⟨rfl, rfl⟩ := hv
    refine .inr ⟨g, 0, rfl, hlt, fun j hj => ?_⟩
    have f := flatR_at l j hj
    have hl := flatR_length l
    rw [Nat.zero_add]
    exact ⟨(h.cellAt _ (by omega)).trans f.1, (h.cellAt _ (by omega)).trans f.2⟩
set_option maxHeartbeats 1000000 in
set_option maxRecDepth 100000 in
theorem clone_any (a : Option Addr) (cap : Nat) (l : List Rg) (hl : l.length * 8 ≤ 140737488355328) (w : World) (hrow : RRow w a l) :
    Calls Tryz.prog 46 #[.slice a l.length cap] w fun e w' => ∃ b c, e = .returned (.slice b l.length c) ∧ w'.ownsRow w.heap.size 45 2 (.slice b l.length c) l.length (flatR l) ∧ Below w.heap.size w w' := by
  obtain ⟨i0, hi, hz0, hz1, hz2⟩ := info_parts hrange
  have q22 : ∀ (w : World) (a : Option Addr) (n c n' c' : Nat), (binOp .eql 22 (.slice a n c) (.slice none n' c')).run Tryz.prog w = .ok (.bool a.isNone) w := fun w a n c n' c' => Lib.run_eql_slice_nil w _ _ a n c n' c' Tryz.underlying22
  cases a with
  | none =>
    have h0 : l = [] := by
      rcases hrow with h | ⟨b, off, h, _⟩
      · exact h
      · cases h
    subst h0
    go_enter Tryz.func46, Tryz.ntmps46
    go_wp2
    go_ret
    exact ⟨_, _, rfl, ⟨rfl, .inl ⟨rfl, rfl⟩⟩, Below.refl _ _⟩
  | some ad =>
    have Hc : Hid (∀ (o : Obj) j u, (flatR l)[j]? = some u → (w.alloc o).cell? (ad.add j) = some u) := hide fun o j u hj => by
      rcases hrow with rfl | ⟨b, off, h, hlt, hc⟩
      · simp [flatR] at hj
      · cases h
        have hj2 : j < l.length * 2 := by
          have := (List.getElem?_eq_some_iff.1 hj).1
          rwa [flatR_length] at this
        have e : (⟨b, off, none⟩ : Addr).add j = ⟨b, off + j, none⟩ := by unfold Addr.add; split <;> simp_all
        rw [e, World.cell?_alloc_lt _ _ _ hlt]
        have f := flatR_at l (j / 2) (by omega)
        have g := hc (j / 2) (by omega)
        have h2 : j % 2 = 0 ∨ j % 2 = 1 := by omega
        rcases h2 with h2 | h2
        · rw [show j / 2 * 2 = j by omega] at f g
          rw [f.1] at hj; cases hj; exact g.1
        · rw [show off + j / 2 * 2 + 1 = off + j by omega] at g
          rw [show j / 2 * 2 + 1 = j by omega] at f
          rw [f.2] at hj; cases hj; exact g.2
    clear hrow
    go_enter Tryz.func46, Tryz.ntmps46
    go_wp2_with (at_builtin; refine wpList_append_own _ rfl _ _ 22 rfl w.heap.size 45 i0 (.agg #[.int .i32 0, .int .i32 0]) 2 8 Tryz.underlying22 hi hz0 hz1 hz2 rfl (by decide) _ _ _ rfl (World.ownsRow_made w #[] 0 (Nat.le_refl _) (Nat.zero_le _) (by simp)) ad l.length cap (flatR l) rfl ?qc1 ?qc2 ?qc3 ?qc4 ?qc5 ?qc6 ?_)
    case qc1 => exact flatR_length l
    case qc2 => exact unhide Hc _
    case qc3 => exact flatR_one l
    case qc4 => unfold maxLen; omega
    case qc5 => omega
    case qc6 => simp
    intro v' w1 hown hgrow hnil
    obtain ⟨b, c, rfl⟩ := own_form hown
    go_wp2
    go_ret
    refine ⟨b, c, by simp, by simpa using hown, ?_⟩
    exact ((Below.refl _ w).alloc (Nat.le_refl _) _).grown hgrow (by simp) (by intro k hk; simp [Value.ownBlock] at hk; omega)

/-- An expression. -/
inductive Rx where
  | mk (kind : Int) (set : List Rg) (kids : List Rx)
mutual
/-- An expression lies in memory, in blocks of a kind. -/
def RxAt (Q : Nat → Prop) (w : World) : Rx → Value → Value → Value → Prop
  | .mk k s ks, v0, v1, v2 => v0 = .int .i64 k ∧ (∃ sa sc, v1 = .slice sa s.length sc ∧ RRow w sa s ∧ (s = [] ∨ ∀ x, sa = some x → Q x.block)) ∧
      ∃ ka kc vs, v2 = .slice ka ks.length kc ∧ RxTs Q w ks vs ∧ (ks = [] ∨ ∃ g off, ka = some ⟨g, off, none⟩ ∧ Q g ∧ g < w.heap.size ∧ ∀ j u, vs[j]? = some u → w.cell? ⟨g, off + j, none⟩ = some u)
def RxTs (Q : Nat → Prop) (w : World) : List Rx → List Value → Prop
  | [], vs => vs = []
  | t :: ts, vs => ∃ u0 u1 u2 rest, vs = u0 :: u1 :: u2 :: rest ∧ RxAt Q w t u0 u1 u2 ∧ RxTs Q w ts rest
end
mutual
theorem rxAt_kept {Q Q' : Nat → Prop} {w w' : World} (hs : w.heap.size ≤ w'.heap.size) (hk : ∀ k, Q k → k < w.heap.size → w'.heap[k]? = w.heap[k]?) (hQ : ∀ k, Q k → k < w.heap.size → Q' k) : ∀ (t : Rx) (v0 v1 v2 : Value), RxAt Q w t v0 v1 v2 → RxAt Q' w' t v0 v1 v2
  | .mk k s ks, v0, v1, v2, h => by
    unfold RxAt at h ⊢
    obtain ⟨h0, ⟨sa, sc, h1, hr, hq⟩, ka, kc, vs, h2, hts, hc⟩ := h
    have hset : RRow w' sa s ∧ (s = [] ∨ ∀ x, sa = some x → Q' x.block) := by
      rcases hr with h | ⟨g, off, rfl, hlt, hcs⟩
      · exact ⟨.inl h, .inl h⟩
      · rcases hq with h | h
        · exact ⟨.inl h, .inl h⟩
        · have hb := hk g (h _ rfl) hlt
          exact ⟨.inr ⟨g, off, rfl, by omega, fun j hj => ⟨(World.cell?_of_block (a := ⟨g, off + j * 2, none⟩) hb).trans (hcs j hj).1, (World.cell?_of_block (a := ⟨g, off + j * 2 + 1, none⟩) hb).trans (hcs j hj).2⟩⟩, .inr (fun x hx => by cases hx; exact hQ _ (h _ rfl) hlt)⟩
    refine ⟨h0, ⟨sa, sc, h1, hset⟩, ka, kc, vs, h2, rxTs_kept hs hk hQ ks vs hts, ?_⟩
    · rcases hc with h | ⟨g, off, rfl, hq1, hlt, hcs⟩
      · exact .inl h
      · have hb := hk g hq1 hlt
        exact .inr ⟨g, off, rfl, hQ _ hq1 hlt, by omega, fun j u hj => (World.cell?_of_block (a := ⟨g, off + j, none⟩) hb).trans (hcs j u hj)⟩
theorem rxTs_kept {Q Q' : Nat → Prop} {w w' : World} (hs : w.heap.size ≤ w'.heap.size) (hk : ∀ k, Q k → k < w.heap.size → w'.heap[k]? = w.heap[k]?) (hQ : ∀ k, Q k → k < w.heap.size → Q' k) : ∀ (ts : List Rx) (vs : List Value), RxTs Q w ts vs → RxTs Q' w' ts vs
  | [], vs, h => by unfold RxTs at h ⊢; exact h
  | t :: ts, vs, h => by
    unfold RxTs at h ⊢
    obtain ⟨u0, u1, u2, rest, h0, h1, h2⟩ := h
    exact ⟨u0, u1, u2, rest, h0, rxAt_kept hs hk hQ t u0 u1 u2 h1, rxTs_kept hs hk hQ ts rest h2⟩
end
theorem rxTs_append {Q : Nat → Prop} {w : World} : ∀ (ts us : List Rx) (vs xs : List Value), RxTs Q w ts vs → RxTs Q w us xs → RxTs Q w (ts ++ us) (vs ++ xs)
  | [], us, vs, xs, h, k => by unfold RxTs at h; subst h; exact k
  | t :: ts, us, vs, xs, h, k => by
    rw [List.cons_append]
    unfold RxTs at h ⊢
    obtain ⟨u0, u1, u2, rest, rfl, h1, h2⟩ := h
    exact ⟨u0, u1, u2, rest ++ xs, rfl, h1, rxTs_append ts us rest xs h2 k⟩
theorem rxTs_len {Q : Nat → Prop} {w : World} : ∀ (ts : List Rx) (vs : List Value), RxTs Q w ts vs → vs.length = ts.length * 3
  | [], vs, h => by unfold RxTs at h; subst h; rfl
  | t :: ts, vs, h => by
    unfold RxTs at h
    obtain ⟨u0, u1, u2, rest, rfl, h1, h2⟩ := h
    have := rxTs_len ts rest h2
    simp only [List.length_cons]; omega
theorem rxAt_one {Q : Nat → Prop} {w : World} {t : Rx} {v0 v1 v2 : Value} (h : RxAt Q w t v0 v1 v2) : v0.oneCell' = true ∧ v1.oneCell' = true ∧ v2.oneCell' = true := by
  cases t
  unfold RxAt at h
  obtain ⟨rfl, ⟨sa, sc, rfl, -⟩, ka, kc, vs, rfl, -⟩ := h
  exact ⟨rfl, rfl, rfl⟩
/-- What has a number, written out. -/
def treeF (L : List Ab) : Nat → Nat → Rx
  | 0, x => .mk (L.getD x ab0).kind (L.getD x ab0).set []
  | n + 1, x => .mk (L.getD x ab0).kind (L.getD x ab0).set ((kidsA L x).map fun k => treeF L n k.toNat)
def treeA (L : List Ab) (x : Nat) : Rx := treeF L (x + 1) x
theorem rowA_lt {L : List Ab} (hw : WfA L) (h2 : 2 ≤ L.length) : ∀ (n : Nat) (x : Int), rowM x ≤ n → 0 ≤ x → x.toNat < L.length → ∀ k ∈ rowA L x, 0 ≤ k ∧ k ≤ x ∧ (k = x → (L.getD x.toNat ab0).kind ≠ 3) := by
  intro n
  induction n with
  | zero =>
    intro x hn h0 hx
    have h1 : x = 1 := by
      by_cases h : x = 1
      · exact h
      · unfold rowM at hn; rw [if_neg h] at hn; omega
    subst h1
    simp [rowA_one]
  | succ n ih =>
    intro x hn h0 hx k hk
    by_cases h1 : x = 1
    · subst h1; simp [rowA_one] at hk
    · have hf := first_ok hw h2 h0 hx
      have hlt := hf.2.2.2 h1
      rw [rowA_step hw h2 h0 hx h1] at hk
      have hm : L.getD x.toNat ab0 ∈ L := by rw [List.getD_eq_getElem?_getD, List.getElem?_eq_getElem hx]; exact List.getElem_mem _
      have hg : L[x.toNat]? = some (L.getD x.toNat ab0) := by rw [List.getD_eq_getElem?_getD, List.getElem?_eq_getElem hx]; rfl
      by_cases h3 : (L.getD x.toNat ab0).kind = 3
      · have hl := (hw.form _ hm).1 h3
        have hk2 := hw.kids _ _ hg
        have k0 := hk2 ((L.getD x.toNat ab0).kids.getD 0 0) (by rw [List.getD_eq_getElem?_getD (l := (L.getD x.toNat ab0).kids), List.getElem?_eq_getElem (by omega)]; exact List.getElem_mem _)
        have k1 := hk2 ((L.getD x.toNat ab0).kids.getD 1 0) (by rw [List.getD_eq_getElem?_getD (l := (L.getD x.toNat ab0).kids), List.getElem?_eq_getElem (by omega)]; exact List.getElem_mem _)
        have e1 : firstX L x = ((L.getD x.toNat ab0).kids.getD 0 0, (L.getD x.toNat ab0).kids.getD 1 0) := if_pos h3
        rw [e1] at hk hf hlt
        simp only [List.mem_cons] at hk hf hlt
        rcases hk with rfl | hk
        · exact ⟨k0.1, by omega, fun e => by omega⟩
        · have := ih _ (by omega) hf.2.1 hf.2.2.1 k hk
          exact ⟨this.1, by omega, fun e => by omega⟩
      · have e1 : firstX L x = (x, 1) := if_neg h3
        rw [e1, rowA_one] at hk
        simp only [List.mem_cons, List.not_mem_nil, or_false] at hk
        subst hk
        exact ⟨h0, Int.le_refl _, fun _ => h3⟩
theorem kidsA_lt {L : List Ab} (hw : WfA L) (h2 : 2 ≤ L.length) {x : Nat} (hx : x < L.length) : ∀ k ∈ kidsA L x, 0 ≤ k ∧ k.toNat < x := by
  intro k hk
  unfold kidsA at hk
  by_cases h3 : (L.getD x ab0).kind = 3
  · rw [if_pos h3] at hk
    have := rowA_lt hw h2 _ (x : Int) (Nat.le_refl _) (by omega) (by omega) k hk
    rw [Int.toNat_natCast] at this
    refine ⟨this.1, ?_⟩
    have hne : k ≠ x := fun e => this.2.2 e h3
    omega
  · rw [if_neg h3] at hk
    have hg : L[x]? = some (L.getD x ab0) := by rw [List.getD_eq_getElem?_getD, List.getElem?_eq_getElem hx]; rfl
    exact hw.kids _ _ hg k hk
theorem treeF_more {L : List Ab} (hw : WfA L) (h2 : 2 ≤ L.length) : ∀ (n m x : Nat), x < L.length → x < n → x < m → treeF L n x = treeF L m x := by
  intro n
  induction n with
  | zero => intro m x _ h; omega
  | succ n ih =>
    intro m x hx hn hm
    cases m with
    | zero => omega
    | succ m =>
      simp only [treeF]
      congr 1
      refine List.map_congr_left fun k hk => ?_
      have := kidsA_lt hw h2 hx k hk
      exact ih m k.toNat (by omega) (by omega) (by omega)
theorem treeA_eq {L : List Ab} (hw : WfA L) (h2 : 2 ≤ L.length) {x : Nat} (hx : x < L.length) : treeA L x = .mk (L.getD x ab0).kind (L.getD x ab0).set ((kidsA L x).map fun k => treeA L k.toNat) := by
  unfold treeA
  rw [treeF]
  congr 1
  refine List.map_congr_left fun k hk => ?_
  have := kidsA_lt hw h2 hx k hk
  exact treeF_more hw h2 _ _ _ (by omega) (by omega) (by omega)
end Go.Proofs.YtkimhfajfbcdmaaGreatDoor

/- Expressions in memory; a row of ranges is copied. (and what it leads to) -/
import Derived.Test.YtkimhfajfbcdmaaGreatDoorGC
import Derived.Laws.OwnMore
import Derived.Lib.SliceRun
import Derived.Test.YtkimhfajfbcdmaaGreatDoorQF
/- Expressions in memory; a row of ranges is copied. -/
namespace Go.Proofs.YtkimhfajfbcdmaaGreatDoor
open Go.RowKit Go.Maps

variable {av : Nat → Prop}

def encR (x : Rg) : List Value := [.int .i32 x.1, .int .i32 x.2]
def flatR (l : List Rg) : List Value := l.flatMap encR
theorem flatR_cons (x : Rg) (l : List Rg) : flatR (x :: l) = .int .i32 x.1 :: .int .i32 x.2 :: flatR l := rfl
theorem flatR_length (l : List Rg) : (flatR l).length = l.length * 2 := by
  induction l with
  | nil => rfl
  | cons x l ih => rw [flatR_cons]; simp [ih]; omega
theorem flatR_at (l : List Rg) (j : Nat) (hj : j < l.length) : (flatR l)[j * 2]? = some (.int .i32 (l.getD j (0, 0)).1) ∧ (flatR l)[j * 2 + 1]? = some (.int .i32 (l.getD j (0, 0)).2) := by
  induction l generalizing j with
  | nil => simp at hj
  | cons x l ih =>
    rw [flatR_cons]
    cases j with
    | zero => simp
    | succ j =>
      have := ih j (by simpa using hj)
      rw [show (j + 1) * 2 = j * 2 + 1 + 1 by omega]
      simpa using this
theorem flatR_one (l : List Rg) : ∀ u ∈ flatR l, u.oneCell' = true := by
  intro u hu
  simp only [flatR, List.mem_flatMap, encR] at hu
  obtain ⟨x, _, hx⟩ := hu
  simp at hx
  rcases hx with rfl | rfl <;> rfl
theorem hrange : (Tryz.prog.info? 45).map (fun i => (i.zero, i.size, i.bytes)) = some (some (.agg #[.int .i32 0, .int .i32 0]), 2, 8) := by kernel_rfl
theorem rrow_own {w : World} {B : Nat} {l : List Rg} {a : Option Addr} {cap : Nat} (h : w.ownsRow B 45 2 (.slice a l.length cap) l.length (flatR l)) : RRow w a l ∧ ∀ x, a = some x → B ≤ x.block ∧ x.block < w.heap.size := by
  refine ⟨?_, fun x hx => row_lt h (by rw [hx]; rfl)⟩
  by_cases h0 : l = []
  · exact .inl h0
  · have hn : 0 < l.length := List.length_pos_iff.2 h0
    obtain ⟨g, cap', hv, -, hlt, -⟩ := own_pos h hn
    simp only [Value.slice.injEq, true_and] at hv
    obtain ⟨rfl, rfl⟩ := hv
    refine .inr ⟨g, 0, rfl, hlt, fun j hj => ?_⟩
    have f := flatR_at l j hj
    have hl := flatR_length l
    rw [Nat.zero_add]
    exact ⟨(h.cellAt _ (by omega)).trans f.1, (h.cellAt _ (by omega)).trans f.2⟩
set_option maxHeartbeats 1000000 in
set_option maxRecDepth 100000 in
theorem clone_any (a : Option Addr) (cap : Nat) (l : List Rg) (hl : l.length * 8 ≤ 140737488355328) (w : World) (hrow : RRow w a l) :
    Calls Tryz.prog 46 #[.slice a l.length cap] w fun e w' => ∃ b c, e = .returned (.slice b l.length c) ∧ w'.ownsRow w.heap.size 45 2 (.slice b l.length c) l.length (flatR l) ∧ Below w.heap.size w w' := by
  obtain ⟨i0, hi, hz0, hz1, hz2⟩ := info_parts hrange
  have q22 : ∀ (w : World) (a : Option Addr) (n c n' c' : Nat), (binOp .eql 22 (.slice a n c) (.slice none n' c')).run Tryz.prog w = .ok (.bool a.isNone) w := fun w a n c n' c' => Lib.run_eql_slice_nil w _ _ a n c n' c' Tryz.underlying22
  cases a with
  | none =>
    have h0 : l = [] := by
      rcases hrow with h | ⟨b, off, h, _⟩
      · exact h
      · cases h
    subst h0
    go_enter Tryz.func46, Tryz.ntmps46
    go_wp2
    go_ret
    exact ⟨_, _, rfl, ⟨rfl, .inl ⟨rfl, rfl⟩⟩, Below.refl _ _⟩
  | some ad =>
    have Hc : Hid (∀ (o : Obj) j u, (flatR l)[j]? = some u → (w.alloc o).cell? (ad.add j) = some u) := hide fun o j u hj => by
      rcases hrow with rfl | ⟨b, off, h, hlt, hc⟩
      · simp [flatR] at hj
      · cases h
        have hj2 : j < l.length * 2 := by
          have := (List.getElem?_eq_some_iff.1 hj).1
          rwa [flatR_length] at this
        have e : (⟨b, off, none⟩ : Addr).add j = ⟨b, off + j, none⟩ := by unfold Addr.add; split <;> simp_all
        rw [e, World.cell?_alloc_lt _ _ _ hlt]
        have f := flatR_at l (j / 2) (by omega)
        have g := hc (j / 2) (by omega)
        have h2 : j % 2 = 0 ∨ j % 2 = 1 := by omega
        rcases h2 with h2 | h2
        · rw [show j / 2 * 2 = j by omega] at f g
          rw [f.1] at hj; cases hj; exact g.1
        · rw [show off + j / 2 * 2 + 1 = off + j by omega] at g
          rw [show j / 2 * 2 + 1 = j by omega] at f
          rw [f.2] at hj; cases hj; exact g.2
    clear hrow
    go_enter Tryz.func46, Tryz.ntmps46
    go_wp2_with (at_builtin; refine wpList_append_own _ rfl _ _ 22 rfl w.heap.size 45 i0 (.agg #[.int .i32 0, .int .i32 0]) 2 8 Tryz.underlying22 hi hz0 hz1 hz2 rfl (by decide) _ _ _ rfl (World.ownsRow_made w #[] 0 (Nat.le_refl _) (Nat.zero_le _) (by simp)) ad l.length cap (flatR l) rfl ?qc1 ?qc2 ?qc3 ?qc4 ?qc5 ?qc6 ?_)
    case qc1 => exact flatR_length l
    case qc2 => exact unhide Hc _
    case qc3 => exact flatR_one l
    case qc4 => unfold maxLen; omega
    case qc5 => omega
    case qc6 => simp
    intro v' w1 hown hgrow hnil
    obtain ⟨b, c, rfl⟩ := own_form hown
    go_wp2
    go_ret
    refine ⟨b, c, by simp, by simpa using hown, ?_⟩
    exact ((Below.refl _ w).alloc (Nat.le_refl _) _).grown hgrow (by simp) (by intro k hk; simp [Value.ownBlock] at hk; omega)

/-- An expression. -/
inductive Rx where
  | mk (kind : Int) (set : List Rg) (kids : List Rx)
mutual
/-- An expression lies in memory, in blocks of a kind. -/
def RxAt (Q : Nat → Prop) (w : World) : Rx → Value → Value → Value → Prop
  | .mk k s ks, v0, v1, v2 => v0 = .int .i64 k ∧ (∃ sa sc, v1 = .slice sa s.length sc ∧ RRow w sa s ∧ (s = [] ∨ ∀ x, sa = some x → Q x.block)) ∧
      ∃ ka kc vs, v2 = .slice ka ks.length kc ∧ RxTs Q w ks vs ∧ (ks = [] ∨ ∃ g off, ka = some ⟨g, off, none⟩ ∧ Q g ∧ g < w.heap.size ∧ ∀ j u, vs[j]? = some u → w.cell? ⟨g, off + j, none⟩ = some u)
def RxTs (Q : Nat → Prop) (w : World) : List Rx → List Value → Prop
  | [], vs => vs = []
  | t :: ts, vs => ∃ u0 u1 u2 rest, vs = u0 :: u1 :: u2 :: rest ∧ RxAt Q w t u0 u1 u2 ∧ RxTs Q w ts rest
end
mutual
theorem rxAt_kept {Q Q' : Nat → Prop} {w w' : World} (hs : w.heap.size ≤ w'.heap.size) (hk : ∀ k, Q k → k < w.heap.size → w'.heap[k]? = w.heap[k]?) (hQ : ∀ k, Q k → k < w.heap.size → Q' k) : ∀ (t : Rx) (v0 v1 v2 : Value), RxAt Q w t v0 v1 v2 → RxAt Q' w' t v0 v1 v2
  | .mk k s ks, v0, v1, v2, h => by
    unfold RxAt at h ⊢
    obtain ⟨h0, ⟨sa, sc, h1, hr, hq⟩, ka, kc, vs, h2, hts, hc⟩ := h
    have hset : RRow w' sa s ∧ (s = [] ∨ ∀ x, sa = some x → Q' x.block) := by
      rcases hr with h | ⟨g, off, rfl, hlt, hcs⟩
      · exact ⟨.inl h, .inl h⟩
      · rcases hq with h | h
        · exact ⟨.inl h, .inl h⟩
        · have hb := hk g (h _ rfl) hlt
          exact ⟨.inr ⟨g, off, rfl, by omega, fun j hj => ⟨(World.cell?_of_block (a := ⟨g, off + j * 2, none⟩) hb).trans (hcs j hj).1, (World.cell?_of_block (a := ⟨g, off + j * 2 + 1, none⟩) hb).trans (hcs j hj).2⟩⟩, .inr (fun x hx => by cases hx; exact hQ _ (h _ rfl) hlt)⟩
    refine ⟨h0, ⟨sa, sc, h1, hset⟩, ka, kc, vs, h2, rxTs_kept hs hk hQ ks vs hts, ?_⟩
    · rcases hc with h | ⟨g, off, rfl, hq1, hlt, hcs⟩
      · exact .inl h
      · have hb := hk g hq1 hlt
        exact .inr ⟨g, off, rfl, hQ _ hq1 hlt, by omega, fun j u hj => (World.cell?_of_block (a := ⟨g, off + j, none⟩) hb).trans (hcs j u hj)⟩
theorem rxTs_kept {Q Q' : Nat → Prop} {w w' : World} (hs : w.heap.size ≤ w'.heap.size) (hk : ∀ k, Q k → k < w.heap.size → w'.heap[k]? = w.heap[k]?) (hQ : ∀ k, Q k → k < w.heap.size → Q' k) : ∀ (ts : List Rx) (vs : List Value), RxTs Q w ts vs → RxTs Q' w' ts vs
  | [], vs, h => by unfold RxTs at h ⊢; exact h
  | t :: ts, vs, h => by
    unfold RxTs at h ⊢
    obtain ⟨u0, u1, u2, rest, h0, h1, h2⟩ := h
    exact ⟨u0, u1, u2, rest, h0, rxAt_kept hs hk hQ t u0 u1 u2 h1, rxTs_kept hs hk hQ ts rest h2⟩
end
theorem rxTs_append {Q : Nat → Prop} {w : World} : ∀ (ts us : List Rx) (vs xs : List Value), RxTs Q w ts vs → RxTs Q w us xs → RxTs Q w (ts ++ us) (vs ++ xs)
  | [], us, vs, xs, h, k => by unfold RxTs at h; subst h; exact k
  | t :: ts, us, vs, xs, h, k => by
    rw [List.cons_append]
    unfold RxTs at h ⊢
    obtain ⟨u0, u1, u2, rest, rfl, h1, h2⟩ := h
    exact ⟨u0, u1, u2, rest ++ xs, rfl, h1, rxTs_append ts us rest xs h2 k⟩
theorem rxTs_len {Q : Nat → Prop} {w : World} : ∀ (ts : List Rx) (vs : List Value), RxTs Q w ts vs → vs.length = ts.length * 3
  | [], vs, h => by unfold RxTs at h; subst h; rfl
  | t :: ts, vs, h => by
    unfold RxTs at h
    obtain ⟨u0, u1, u2, rest, rfl, h1, h2⟩ := h
    have := rxTs_len ts rest h2
    simp only [List.length_cons]; omega
theorem rxAt_one {Q : Nat → Prop} {w : World} {t : Rx} {v0 v1 v2 : Value} (h : RxAt Q w t v0 v1 v2) : v0.oneCell' = true ∧ v1.oneCell' = true ∧ v2.oneCell' = true := by
  cases t
  unfold RxAt at h
  obtain ⟨rfl, ⟨sa, sc, rfl, -⟩, ka, kc, vs, rfl, -⟩ := h
  exact ⟨rfl, rfl, rfl⟩
/-- What has a number, written out. -/
def treeF (L : List Ab) : Nat → Nat → Rx
  | 0, x => .mk (L.getD x ab0).kind (L.getD x ab0).set []
  | n + 1, x => .mk (L.getD x ab0).kind (L.getD x ab0).set ((kidsA L x).map fun k => treeF L n k.toNat)
def treeA (L : List Ab) (x : Nat) : Rx := treeF L (x + 1) x
theorem rowA_lt {L : List Ab} (hw : WfA L) (h2 : 2 ≤ L.length) : ∀ (n : Nat) (x : Int), rowM x ≤ n → 0 ≤ x → x.toNat < L.length → ∀ k ∈ rowA L x, 0 ≤ k ∧ k ≤ x ∧ (k = x → (L.getD x.toNat ab0).kind ≠ 3) := by
  intro n
  induction n with
  | zero =>
    intro x hn h0 hx
    have h1 : x = 1 := by
      by_cases h : x = 1
      · exact h
      · unfold rowM at hn; rw [if_neg h] at hn; omega
    subst h1
    simp [rowA_one]
  | succ n ih =>
    intro x hn h0 hx k hk
    by_cases h1 : x = 1
    · subst h1; simp [rowA_one] at hk
    · have hf := first_ok hw h2 h0 hx
      have hlt := hf.2.2.2 h1
      rw [rowA_step hw h2 h0 hx h1] at hk
      have hm : L.getD x.toNat ab0 ∈ L := by rw [List.getD_eq_getElem?_getD, List.getElem?_eq_getElem hx]; exact List.getElem_mem _
      have hg : L[x.toNat]? = some (L.getD x.toNat ab0) := by rw [List.getD_eq_getElem?_getD, List.getElem?_eq_getElem hx]; rfl
      by_cases h3 : (L.getD x.toNat ab0).kind = 3
      · have hl := (hw.form _ hm).1 h3
        have hk2 := hw.kids _ _ hg
        have k0 := hk2 ((L.getD x.toNat ab0).kids.getD 0 0) (by rw [List.getD_eq_getElem?_getD (l := (L.getD x.toNat ab0).kids), List.getElem?_eq_getElem (by omega)]; exact List.getElem_mem _)
        have k1 := hk2 ((L.getD x.toNat ab0).kids.getD 1 0) (by rw [List.getD_eq_getElem?_getD (l := (L.getD x.toNat ab0).kids), List.getElem?_eq_getElem (by omega)]; exact List.getElem_mem _)
        have e1 : firstX L x = ((L.getD x.toNat ab0).kids.getD 0 0, (L.getD x.toNat ab0).kids.getD 1 0) := if_pos h3
        rw [e1] at hk hf hlt
        simp only [List.mem_cons] at hk hf hlt
        rcases hk with rfl | hk
        · exact ⟨k0.1, by omega, fun e => by omega⟩
        · have := ih _ (by omega) hf.2.1 hf.2.2.1 k hk
          exact ⟨this.1, by omega, fun e => by omega⟩
      · have e1 : firstX L x = (x, 1) := if_neg h3
        rw [e1, rowA_one] at hk
        simp only [List.mem_cons, List.not_mem_nil, or_false] at hk
        subst hk
        exact ⟨h0, Int.le_refl _, fun _ => h3⟩
theorem kidsA_lt {L : List Ab} (hw : WfA L) (h2 : 2 ≤ L.length) {x : Nat} (hx : x < L.length) : ∀ k ∈ kidsA L x, 0 ≤ k ∧ k.toNat < x := by
  intro k hk
  unfold kidsA at hk
  by_cases h3 : (L.getD x ab0).kind = 3
  · rw [if_pos h3] at hk
    have := rowA_lt hw h2 _ (x : Int) (Nat.le_refl _) (by omega) (by omega) k hk
    rw [Int.toNat_natCast] at this
    refine ⟨this.1, ?_⟩
    have hne : k ≠ x := fun e => this.2.2 e h3
    omega
  · rw [if_neg h3] at hk
    have hg : L[x]? = some (L.getD x ab0) := by rw [List.getD_eq_getElem?_getD, List.getElem?_eq_getElem hx]; rfl
    exact hw.kids _ _ hg k hk
theorem treeF_more {L : List Ab} (hw : WfA L) (h2 : 2 ≤ L.length) : ∀ (n m x : Nat), x < L.length → x < n → x < m → treeF L n x = treeF L m x := by
  intro n
  induction n with
  | zero => intro m x _ h; omega
  | succ n ih =>
    intro m x hx hn hm
    cases m with
    | zero => omega
    | succ m =>
      simp only [treeF]
      congr 1
      refine List.map_congr_left fun k hk => ?_
      have := kidsA_lt hw h2 hx k hk
      exact ih m k.toNat (by omega) (by omega) (by omega)
theorem treeA_eq {L : List Ab} (hw : WfA L) (h2 : 2 ≤ L.length) {x : Nat} (hx : x < L.length) : treeA L x = .mk (L.getD x ab0).kind (L.getD x ab0).set ((kidsA L x).map fun k => treeA L k.toNat) := by
  unfold treeA
  rw [treeF]
  congr 1
  refine List.map_congr_left fun k hk => ?_
  have := kidsA_lt hw h2 hx k hk
  exact treeF_more hw h2 _ _ _ (by omega) (by omega) (by omega)
end Go.Proofs.YtkimhfajfbcdmaaGreatDoor

/- Expressions in memory: room. -/
namespace Go.Proofs.YtkimhfajfbcdmaaGreatDoor
open Go.RowKit Go.Maps

def rx0 : Rx := .mk 0 [] []
theorem rxTs_get {Q : Nat → Prop} {w : World} : ∀ (ts : List Rx) (vs : List Value), RxTs Q w ts vs → ∀ i, i < ts.length → ∃ u0 u1 u2, vs[i * 3]? = some u0 ∧ vs[i * 3 + 1]? = some u1 ∧ vs[i * 3 + 2]? = some u2 ∧ RxAt Q w (ts.getD i rx0) u0 u1 u2
  | [], _, _, i, hi => by simp at hi
  | t :: ts, vs, h, i, hi => by
    unfold RxTs at h
    obtain ⟨u0, u1, u2, rest, rfl, h1, h2⟩ := h
    cases i with
    | zero => exact ⟨u0, u1, u2, rfl, rfl, rfl, h1⟩
    | succ i =>
      obtain ⟨x0, x1, x2, e0, e1, e2, hx⟩ := rxTs_get ts rest h2 i (by simpa using hi)
      exact ⟨x0, x1, x2, by rw [show (i + 1) * 3 = i * 3 + 1 + 1 + 1 by omega]; exact e0, by rw [show (i + 1) * 3 + 1 = i * 3 + 1 + 1 + 1 + 1 by omega]; exact e1, by rw [show (i + 1) * 3 + 2 = i * 3 + 2 + 1 + 1 + 1 by omega]; exact e2, hx⟩
theorem rxAt_formQ {Q : Nat → Prop} {w : World} {t : Rx} {v0 v1 v2 : Value} (h : RxAt Q w t v0 v1 v2) : ∃ (k : Int) (s1 : Option Addr) (n1 c1 : Nat) (s2 : Option Addr) (n2 c2 : Nat), v0 = .int .i64 k ∧ v1 = .slice s1 n1 c1 ∧ v2 = .slice s2 n2 c2 := by
  cases t
  unfold RxAt at h
  obtain ⟨rfl, ⟨sa, sc, rfl, -⟩, ka, kc, vs, rfl, -⟩ := h
  exact ⟨_, _, _, _, _, _, _, rfl, rfl, rfl⟩
mutual
/-- No row of it is longer than a row can be. -/
def RxSm : Rx → Prop
  | .mk _ s ks => s.length ≤ 281474976710656 ∧ ks.length ≤ 281474976710656 ∧ RxSms ks
def RxSms : List Rx → Prop
  | [] => True
  | t :: ts => RxSm t ∧ RxSms ts
end
theorem rxSms_get : ∀ (ts : List Rx), RxSms ts → ∀ i, i < ts.length → RxSm (ts.getD i rx0)
  | [], _, i, hi => by simp at hi
  | t :: ts, h, i, hi => by
    unfold RxSms at h
    cases i with
    | zero => exact h.1
    | succ i => exact rxSms_get ts h.2 i (by simpa using hi)
mutual
/-- How many parts are left. -/
def roomA : Rx → Int → Nat → Int
  | .mk _ s ks, p, lv => if lv = 0 then -1 else roomL ks (p - (1 + s.length)) (lv - 1)
def roomL : List Rx → Int → Nat → Int
  | [], p, _ => p
  | t :: ts, p, lv => if p < 0 then p else roomL ts (roomA t p lv) lv
end
mutual
theorem room_bd : ∀ (t : Rx) (p : Int) (lv : Nat), RxSm t → 0 ≤ p → p ≤ 4096 → -281474976710657 ≤ roomA t p lv ∧ roomA t p lv ≤ 4096
  | .mk _ s ks, p, lv, h, h0, h1 => by
    unfold RxSm at h
    unfold roomA
    split
    · omega
    · exact roomL_bd ks _ _ h.2.2 (by omega) (by omega)
theorem roomL_bd : ∀ (ts : List Rx) (p : Int) (lv : Nat), RxSms ts → -281474976710657 ≤ p → p ≤ 4096 → -281474976710657 ≤ roomL ts p lv ∧ roomL ts p lv ≤ 4096
  | [], p, lv, h, h0, h1 => by unfold roomL; exact ⟨h0, h1⟩
  | t :: ts, p, lv, h, h0, h1 => by
    unfold RxSms at h
    unfold roomL
    split
    · exact ⟨h0, h1⟩
    · have := room_bd t p lv h.1 (by omega) h1
      exact roomL_bd ts _ lv h.2 this.1 this.2
end
theorem roomL_neg (ts : List Rx) (p : Int) (lv : Nat) (h : p < 0) : roomL ts p lv = p := by
  cases ts with
  | nil => rfl
  | cons t ts => unfold roomL; rw [if_pos h]
theorem roomL_cons (t : Rx) (ts : List Rx) (p : Int) (lv : Nat) : roomL (t :: ts) p lv = if p < 0 then p else roomL ts (roomA t p lv) lv := by rw [roomL]
theorem drop_getD {ks : List Rx} {i : Nat} (hi : i < ks.length) : ks.drop i = ks.getD i rx0 :: ks.drop (i + 1) := by
  rw [List.drop_eq_getElem_cons hi, List.getD_eq_getElem?_getD, List.getElem?_eq_getElem hi]
  rfl
set_option maxHeartbeats 2000000 in
set_option maxRecDepth 100000 in
theorem room_any (Q : Nat → Prop) (lv : Nat) : lv ≤ 64 → ∀ (t : Rx) (w : World) (v0 v1 v2 : Value) (p : Int), RxAt Q w t v0 v1 v2 → RxSm t → 0 ≤ p → p ≤ 4096 →
    Calls Tryz.prog 76 #[.agg #[v0, v1, v2], .int .i64 p, .int .i64 lv] w fun e w' => e = .returned (.int .i64 (roomA t p lv)) ∧ Below w.heap.size w w' := by
  induction lv with
  | zero =>
    rintro - ⟨k, s, ks⟩ w v0 v1 v2 p hR hS hp0 hp1
    unfold RxAt at hR
    obtain ⟨rfl, ⟨sa, sc, rfl, -⟩, ka, kc, vs, rfl, -⟩ := hR
    unfold RxSm at hS
    obtain ⟨hs1, hs2, -⟩ := hS
    have HX : Hid (roomA (.mk k s ks) p 0 = -1) := hide (by unfold roomA; rfl)
    go_enter Tryz.func76, Tryz.ntmps76
    go_wp2
    go_ret
    exact ⟨by rw [unhide HX]; rfl, (Below.refl _ _).alloc (Nat.le_refl _) _⟩
  | succ lv ih =>
    rintro hlv ⟨k, s, ks⟩ w v0 v1 v2 p hR hS hp0 hp1
    have ih := ih (by omega)
    unfold RxAt at hR
    obtain ⟨rfl, ⟨sa, sc, rfl, -⟩, ka, kc, vs, rfl, hts, hkc⟩ := hR
    unfold RxSm at hS
    obtain ⟨hs1, hs2, hs3⟩ := hS
    have HX : Hid (roomA (.mk k s ks) p (lv + 1) = roomL ks (p - (1 + s.length)) lv) := hide (by unfold roomA; rfl)
    have Hih := hide ih; have Hts := hide hts; have Hkc := hide hkc; have Hs3 := hide hs3
    clear ih hts hkc hs3
    obtain ⟨LV, hLV⟩ : ∃ LV : Int, LV = ((lv + 1 : Nat) : Int) := ⟨_, rfl⟩
    rw [← hLV, unhide HX]
    have hL1 : LV - 1 = (lv : Int) := by omega
    have hL0 : (LV == 0) = false := by rw [beq_eq_false_iff_ne]; omega
    have hL2 : 1 ≤ LV ∧ LV ≤ 64 := by omega
    clear hLV HX
    go_enter Tryz.func76, Tryz.ntmps76
    go_wp2
    go_loopw [20, 1] (fun iv pv wr => ∃ (i : Nat) (q : Int), iv = .int .i64 i ∧ pv = .int .i64 q ∧ i ≤ ks.length ∧ -281474976710657 ≤ q ∧ q ≤ 4096 ∧ roomL (ks.drop i) q lv = roomL ks (p - (1 + s.length)) lv ∧ Below w.heap.size w wr) (fun iv _ _ => ks.length - (intOf iv).toNat)
    case atStart => exact ⟨0, p - (1 + s.length), rfl, by go_num, Nat.zero_le _, by omega, by omega, rfl, (Below.refl _ _).alloc (Nat.le_refl _) _⟩
    case round =>
      obtain ⟨i, q, rfl, rfl, hi, hq0, hq1, hrl, hb⟩ := hrel
      by_cases hlt : i < ks.length
      · have hlt' : (i : Int) < ks.length := by omega
        obtain ⟨u0, u1, u2, e0, e1, e2, hu⟩ := rxTs_get ks vs (unhide Hts) i hlt
        have hsm := rxSms_get ks (unhide Hs3) i hlt
        rcases unhide Hkc with h | ⟨g, off, rfl, hqg, hgl, hcs⟩
        · rw [h] at hlt; simp at hlt
        have hgb := hb.block g hgl
        have c0 := (World.cell?_of_block (a := ⟨g, off + i * 3, none⟩) hgb).trans (hcs _ _ e0)
        have c1 := (World.cell?_of_block (a := ⟨g, off + i * 3 + 1, none⟩) hgb).trans (hcs _ _ e1)
        have c2 := (World.cell?_of_block (a := ⟨g, off + i * 3 + 2, none⟩) hgb).trans (hcs _ _ e2)
        have hdr := drop_getD hlt
        obtain ⟨uk, us1, un1, uc1, us2, un2, uc2, rfl, rfl, rfl⟩ := rxAt_formQ hu
        have hu' : RxAt Q (wr.alloc (.cells #[.int .i64 uk, .slice us1 un1 uc1, .slice us2 un2 uc2] 26)) (ks.getD i rx0) (.int .i64 uk) (.slice us1 un1 uc1) (.slice us2 un2 uc2) := rxAt_kept (Nat.le_trans hb.size (by simp)) (fun k _ hk => ((Below.heap_alloc wr _ k (Nat.lt_of_lt_of_le hk hb.size))).trans (hb.block k hk)) (fun k hk _ => hk) _ _ _ _ hu
        have hb2 : Below w.heap.size w (wr.alloc (.cells #[.int .i64 uk, .slice us1 un1 uc1, .slice us2 un2 uc2] 26)) := hb.alloc hb.size _
        rw [hdr] at hrl
        have Hb2 := hide hb2
        clear hb hgb e0 e1 e2 hu hcs hdr hb2 hqg
        by_cases hneg : q < 0
        · rw [roomL_neg _ _ _ hneg] at hrl
          have Hrl := hide hrl
          clear hrl hu' hsm
          go_wp2
          go_ret
          exact ⟨by rw [← unhide Hrl]; rfl, unhide Hb2⟩
        · have hnegd : decide (q < 0) = false := by simpa using hneg
          rw [roomL_cons, if_neg hneg] at hrl
          have hbd := room_bd _ q lv hsm (by omega) hq1
          have HC := hide (unhide Hih (ks.getD i rx0) _ _ _ _ q hu' hsm (by omega) hq1)
          generalize roomA (ks.getD i rx0) q lv = q2 at *
          have Hrl := hide hrl
          clear hrl hu' hsm hneg
          go_wp2_with fail
          refine (unhide HC).mono ?_
          rintro e3 w3 ⟨rfl, hb3⟩
          have Hb3 := hide ((unhide Hb2).trans (below_le hb3 (unhide Hb2).size))
          clear hb3
          go_wp2
          go_roundw
          case rel => exact ⟨i + 1, q2, by go_num, rfl, by omega, hbd.1, hbd.2, unhide Hrl, unhide Hb3⟩
          case measure => simp [intOf]; omega
      · obtain rfl : i = ks.length := by omega
        have hlt' : ¬ ((ks.length : Int) < ks.length) := by omega
        rw [List.drop_length] at hrl
        have Hrl := hide hrl
        have Hb := hide hb
        clear hrl hb
        go_wp2
        go_ret
        exact ⟨by rw [← unhide Hrl]; rfl, unhide Hb⟩
end Go.Proofs.YtkimhfajfbcdmaaGreatDoor

/- Expressions in memory: formed. -/
namespace Go.Proofs.YtkimhfajfbcdmaaGreatDoor
open Go.RowKit Go.Maps

def fitX (k : Int) (n : Nat) : Bool := if k = 0 ∨ k = 1 then n == 0 else if k = 3 ∨ k = 4 ∨ k = 5 then decide (0 < n) else if k = 6 ∨ k = 7 then n == 1 else false
mutual
/-- It has the fields that its kind has, and all in it. -/
def formA : Rx → Bool
  | .mk k s ks => if k = 2 then ks.isEmpty && (checkV s == 0) else fitX k ks.length && s.isEmpty && formL ks
def formL : List Rx → Bool
  | [] => true
  | t :: ts => formA t && formL ts
end
theorem formL_take {ks : List Rx} {i : Nat} (hi : i < ks.length) : formL (ks.take (i + 1)) = (formL (ks.take i) && formA (ks.getD i rx0)) := by
  induction ks generalizing i with
  | nil => simp at hi
  | cons t ts ih =>
    cases i with
    | zero => simp [formL]
    | succ i =>
      have := ih (i := i) (by simpa using hi)
      simp only [List.take_succ_cons, formL, this, Bool.and_assoc]
      rfl
theorem formL_bad {ks : List Rx} {i : Nat} (hi : i < ks.length) (h : formA (ks.getD i rx0) = false) : formL ks = false := by
  induction ks generalizing i with
  | nil => simp at hi
  | cons t ts ih =>
    cases i with
    | zero =>
      have h' : formA t = false := h
      simp [formL, h']
    | succ i =>
      have := ih (i := i) (by simpa using hi) h
      simp [formL, this]
theorem sizeOf_kid {k : Int} {s : List Rg} {ks : List Rx} {i : Nat} (hi : i < ks.length) : SizeOf.sizeOf (ks.getD i rx0) < SizeOf.sizeOf (Rx.mk k s ks) := by
  have hm : ks.getD i rx0 ∈ ks := by rw [List.getD_eq_getElem?_getD, List.getElem?_eq_getElem hi]; exact List.getElem_mem _
  have := List.sizeOf_lt_of_mem hm
  rw [Rx.mk.sizeOf_spec]
  omega
/-- What formed says of kids, wherever it is asked. -/
def KidsForm (Q : Nat → Prop) (ks : List Rx) : Prop := ∀ i, i < ks.length → ∀ (W : World) (u0 u1 u2 : Value), RxAt Q W (ks.getD i rx0) u0 u1 u2 → Calls Tryz.prog 77 #[.agg #[u0, u1, u2]] W fun e w' => e = .returned (.bool (formA (ks.getD i rx0))) ∧ Below W.heap.size W w'
set_option maxRecDepth 100000 in
theorem kid_any (t : Rx) (W : World) (k : Int) (s1 : Option Addr) (n1 c1 : Nat) (s2 : Option Addr) (n2 c2 : Nat) (h : ∀ W', Below W.heap.size W W' → Calls Tryz.prog 77 #[.agg #[.int .i64 k, .slice s1 n1 c1, .slice s2 n2 c2]] W' fun e w' => e = .returned (.bool (formA t)) ∧ Below W'.heap.size W' w') :
    Calls Tryz.prog 88 #[.agg #[.int .i64 k, .slice s1 n1 c1, .slice s2 n2 c2]] W fun e w' => e = .returned (.bool (!formA t)) ∧ Below W.heap.size W w' := by
  generalize formA t = z at *
  have H := hide h
  clear h
  go_enter Tryz.func88, Tryz.ntmps88
  go_wp2_with fail
  refine (unhide H _ ((Below.refl _ _).alloc (Nat.le_refl _) _)).mono ?_
  rintro e2 w2 ⟨rfl, hb2⟩
  have Hb2 := hide (((Below.refl W.heap.size W).alloc (Nat.le_refl _) _).trans (below_le hb2 (by simp)))
  clear hb2
  go_wp2
  go_ret
  exact ⟨rfl, unhide Hb2⟩
set_option maxHeartbeats 2000000 in
set_option maxRecDepth 100000 in
theorem indexK_any (Q : Nat → Prop) (ks : List Rx) (hks : ks.length ≤ 281474976710656) (w : World) (ka : Option Addr) (kc : Nat) (vs : List Value) (hts : RxTs Q w ks vs) (hkc : ks = [] ∨ ∃ g off, ka = some ⟨g, off, none⟩ ∧ Q g ∧ g < w.heap.size ∧ ∀ j u, vs[j]? = some u → w.cell? ⟨g, off + j, none⟩ = some u) (hF : KidsForm Q ks) :
    Calls Tryz.prog 98 #[.slice ka ks.length kc, .func (.func 88) #[] #[]] w fun e w' => (∃ r : Int, e = .returned (.int .i64 r) ∧ (0 ≤ r ↔ formL ks = false)) ∧ Below w.heap.size w w' := by
  have Hts := hide hts; have Hkc := hide hkc; have HF := hide hF
  clear hts hkc hF
  go_enter Tryz.func98, Tryz.ntmps98
  go_wp2
  go_loopw [8] (fun iv wr => ∃ i : Nat, iv = .int .i64 i ∧ i ≤ ks.length ∧ formL (ks.take i) = true ∧ Below w.heap.size w wr) (fun iv _ => ks.length - (intOf iv).toNat)
  case atStart => exact ⟨0, rfl, Nat.zero_le _, by simp [formL], Below.refl _ _⟩
  case round =>
    obtain ⟨i, rfl, hi, hft, hb⟩ := hrel
    by_cases hlt : i < ks.length
    · have hlt' : (i : Int) < ks.length := by omega
      obtain ⟨u0, u1, u2, e0, e1, e2, hu⟩ := rxTs_get ks vs (unhide Hts) i hlt
      rcases unhide Hkc with h | ⟨g, off, rfl, hqg, hgl, hcs⟩
      · rw [h] at hlt; simp at hlt
      have hgb := hb.block g hgl
      have c0 := (World.cell?_of_block (a := ⟨g, off + i * 3, none⟩) hgb).trans (hcs _ _ e0)
      have c1 := (World.cell?_of_block (a := ⟨g, off + i * 3 + 1, none⟩) hgb).trans (hcs _ _ e1)
      have c2 := (World.cell?_of_block (a := ⟨g, off + i * 3 + 2, none⟩) hgb).trans (hcs _ _ e2)
      obtain ⟨uk, us1, un1, uc1, us2, un2, uc2, rfl, rfl, rfl⟩ := rxAt_formQ hu
      have HK := hide (kid_any (ks.getD i rx0) wr uk us1 un1 uc1 us2 un2 uc2 (fun W' hb' => unhide HF i hlt W' _ _ _ (rxAt_kept (Nat.le_trans hb.size hb'.size) (fun k _ hk => (hb'.block k (Nat.lt_of_lt_of_le hk hb.size)).trans (hb.block k hk)) (fun k hk _ => hk) _ _ _ _ hu)))
      have Hft : Hid (formL (ks.take (i + 1)) = formA (ks.getD i rx0)) := hide (by rw [formL_take hlt, hft, Bool.true_and])
      have Hbad := hide (formL_bad hlt)
      have Hb := hide hb
      clear hb hgb e0 e1 e2 hu hcs hqg hft
      generalize formA (ks.getD i rx0) = z at *
      cases z with
      | true =>
        go_wp2_with fail
        refine (unhide HK).mono ?_
        rintro e3 w3 ⟨rfl, hb3⟩
        have Hb3 := hide ((unhide Hb).trans (below_le hb3 (unhide Hb).size))
        clear hb3
        go_wp2
        go_roundw
        case rel => exact ⟨i + 1, by go_num, by omega, unhide Hft, unhide Hb3⟩
        case measure => simp [intOf]; omega
      | false =>
        go_wp2_with fail
        refine (unhide HK).mono ?_
        rintro e3 w3 ⟨rfl, hb3⟩
        have Hb3 := hide ((unhide Hb).trans (below_le hb3 (unhide Hb).size))
        clear hb3
        go_wp2
        go_ret
        exact ⟨⟨_, rfl, by simpa using unhide Hbad⟩, unhide Hb3⟩
    · obtain rfl : i = ks.length := by omega
      have hlt' : ¬ ((ks.length : Int) < ks.length) := by omega
      rw [List.take_length] at hft
      have Hft := hide hft
      have Hb := hide hb
      clear hft hb
      go_wp2
      go_ret
      exact ⟨⟨_, rfl, by simp [unhide Hft]⟩, unhide Hb⟩
set_option maxRecDepth 100000 in
theorem containsK_any (Q : Nat → Prop) (ks : List Rx) (hks : ks.length ≤ 281474976710656) (w : World) (ka : Option Addr) (kc : Nat) (vs : List Value) (hts : RxTs Q w ks vs) (hkc : ks = [] ∨ ∃ g off, ka = some ⟨g, off, none⟩ ∧ Q g ∧ g < w.heap.size ∧ ∀ j u, vs[j]? = some u → w.cell? ⟨g, off + j, none⟩ = some u) (hF : KidsForm Q ks) :
    Calls Tryz.prog 87 #[.slice ka ks.length kc, .func (.func 88) #[] #[]] w fun e w' => e = .returned (.bool (!formL ks)) ∧ Below w.heap.size w w' := by
  have HI := hide (indexK_any Q ks hks w ka kc vs hts hkc hF)
  clear hts hkc hF
  go_enter Tryz.func87, Tryz.ntmps87
  go_wp2_with fail
  refine (unhide HI).mono ?_
  rintro e2 w2 ⟨⟨r, rfl, hr⟩, hb2⟩
  have Hb2 := hide hb2
  clear hb2
  have H0 : Hid (decide (0 ≤ r) = !formL ks) := hide (by
    cases h : formL ks with
    | true => simp [h] at hr ⊢; exact hr
    | false => simp [h] at hr ⊢; exact hr)
  clear hr
  go_wp2
  go_ret
  exact ⟨congrArg (fun b => Ending.returned (.bool b)) (unhide H0), unhide Hb2⟩
end Go.Proofs.YtkimhfajfbcdmaaGreatDoor

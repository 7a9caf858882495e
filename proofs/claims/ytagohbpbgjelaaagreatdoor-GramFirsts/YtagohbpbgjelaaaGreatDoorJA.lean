/- What follows rules: which kinds and which rules stand where they end, from a place of a production on. -/
import Derived.Test.YtagohbpbgjelaaaGreatDoorGX
import Derived.Test.YtagohbpbgjelaaaGreatDoorA5
namespace Go.Proofs.YtagohbpbgjelaaaGreatDoor
open Go.RowKit

/-- A rule stands there, in a production that is of use, and a kind may begin what stands behind it. -/
def FlS (G : Gm) (q i r : Nat) (m : Int) : Prop := q < G.prods.length ∧ atF G (lhs G q) = true ∧ i < (rhs G q).length ∧ (G.nk : Int) ≤ (rhs G q).getD i 0 ∧ ((rhs G q).getD i 0 - G.nk).toNat = r ∧ 0 ≤ m ∧ begB G.nk (nullF G) (fstF G) ((rhs G q).drop (i + 1)) m.toNat = true
/-- A rule stands there, and all that stands behind it can be nothing. -/
def FlW (G : Gm) (q i r y : Nat) : Prop := q < G.prods.length ∧ atF G (lhs G q) = true ∧ i < (rhs G q).length ∧ (G.nk : Int) ≤ (rhs G q).getD i 0 ∧ ((rhs G q).getD i 0 - G.nk).toNat = r ∧ emptyB G.nk (nullF G) ((rhs G q).drop (i + 1)) = true ∧ lhs G q = y
structure FlI (G : Gm) (P : Nat → Nat → Prop) (n : Nat) (C : Nat → Int → Bool) (W : Nat → List Nat) : Prop where
  c : ∀ r m, C r m = true ↔ (r = G.start.toNat ∧ m = 0) ∨ ∃ q i, P q i ∧ FlS G q i r m
  w : ∀ r y, y ∈ W r ↔ ∃ q i, P q i ∧ FlW G q i r y
  l : ∀ r, (W r).length ≤ n
/-- All places of the first productions, and those of one from a place on. -/
def Dn (k j q i : Nat) : Prop := q < k ∨ q = k ∧ j ≤ i
theorem fl_mono {G : Gm} {P P' : Nat → Nat → Prop} {n n' : Nat} {C : Nat → Int → Bool} {W : Nat → List Nat} (h : FlI G P n C W) (hn : n ≤ n') (hp : ∀ q i, i < (rhs G q).length → atF G (lhs G q) = true → (P q i ↔ P' q i)) : FlI G P' n' C W := by
  refine ⟨fun r m => ?_, fun r y => ?_, fun r => Nat.le_trans (h.l r) hn⟩
  · rw [h.c r m]
    refine or_congr Iff.rfl ⟨?_, ?_⟩
    · rintro ⟨q, i, h1, h2⟩; exact ⟨q, i, (hp q i h2.2.2.1 h2.2.1).1 h1, h2⟩
    · rintro ⟨q, i, h1, h2⟩; exact ⟨q, i, (hp q i h2.2.2.1 h2.2.1).2 h1, h2⟩
  · rw [h.w r y]
    constructor
    · rintro ⟨q, i, h1, h2⟩; exact ⟨q, i, (hp q i h2.2.2.1 h2.2.1).1 h1, h2⟩
    · rintro ⟨q, i, h1, h2⟩; exact ⟨q, i, (hp q i h2.2.2.1 h2.2.1).2 h1, h2⟩
theorem fl_start (G : Gm) : FlI G (fun q _ => q < 0) 0 (upC (fun _ _ => false) G.start.toNat (addF (fun _ => false) 0)) (fun _ => []) := by
  refine ⟨fun r m => ?_, fun r y => ⟨fun h => (by cases h), fun ⟨q, i, h, _⟩ => (by omega)⟩, fun r => by simp⟩
  constructor
  · intro h
    by_cases e : r = G.start.toNat
    · subst e
      rw [upC_self] at h
      unfold addF at h
      by_cases e2 : m = 0
      · exact .inl ⟨rfl, e2⟩
      · rw [if_neg e2] at h; cases h
    · rw [upC_ne e] at h; cases h
  · rintro (⟨rfl, rfl⟩ | ⟨q, i, h, _⟩)
    · rw [upC_self]; rfl
    · omega
/-- A production begins, from its end; one that is not reached is passed over; one is done. -/
theorem fl_open {G : Gm} {k n : Nat} {C : Nat → Int → Bool} {W : Nat → List Nat} (h : FlI G (fun q _ => q < k) n C W) : FlI G (Dn k (rhs G k).length) n C W :=
  fl_mono h (Nat.le_refl _) (fun q i hi _ => ⟨.inl, fun h1 => h1.elim id (fun ⟨e, h2⟩ => by subst e; omega)⟩)
theorem fl_shut {G : Gm} {k n n' : Nat} {C : Nat → Int → Bool} {W : Nat → List Nat} (h : FlI G (Dn k 0) n C W) (hn : n ≤ n') : FlI G (fun q _ => q < k + 1) n' C W :=
  fl_mono h hn (fun q i _ _ => ⟨fun h1 => by unfold Dn at h1; omega, fun h1 => by unfold Dn; omega⟩)
theorem fl_pass {G : Gm} {k n n' : Nat} {C : Nat → Int → Bool} {W : Nat → List Nat} (h : FlI G (fun q _ => q < k) n C W) (hn : n ≤ n') (hr : atF G (lhs G k) = false) : FlI G (fun q _ => q < k + 1) n' C W :=
  fl_mono h hn (fun q i _ ha => ⟨fun h1 => by omega, fun h1 => by
    by_cases e : q = k
    · subst e; rw [hr] at ha; cases ha
    · omega⟩)
theorem dn_pred {k j q i : Nat} : Dn k j q i ↔ Dn k (j + 1) q i ∨ q = k ∧ i = j := by unfold Dn; omega
/-- What stands behind a place: with what it begins, and whether it can be nothing. -/
def BeI (G : Gm) (row : List Int) (j : Nat) (D : Int → Bool) (em : Bool) : Prop := (∀ m, D m = true ↔ 0 ≤ m ∧ begB G.nk (nullF G) (fstF G) (row.drop j) m.toNat = true) ∧ em = emptyB G.nk (nullF G) (row.drop j)
theorem be_end (G : Gm) (row : List Int) : BeI G row row.length (fun _ => false) true := by
  refine ⟨fun m => ?_, ?_⟩
  · rw [List.drop_length]; simp [begB]
  · rw [List.drop_length]; rfl
theorem drop_at {row : List Int} {j : Nat} (hj : j < row.length) : row.drop j = row.getD j 0 :: row.drop (j + 1) := by
  rw [List.drop_eq_getElem_cons hj, List.getD_eq_getElem?_getD, List.getElem?_eq_getElem hj]; rfl
theorem beg_kind {G : Gm} {x : Int} (h0 : 0 ≤ x) (hx : x < (G.nk : Int)) (k : Nat) : begB G.nk (nullF G) (fstF G) [x] k = true ↔ x = k := by
  rw [begB_iff]
  constructor
  · rintro ⟨i, hi, -, h⟩
    have : i = 0 := by simp at hi; omega
    subst this
    rcases h with ⟨-, h⟩ | ⟨h, -⟩
    · have h : k = x.toNat := h
      omega
    · have h : (G.nk : Int) ≤ x := h
      omega
  · intro e
    refine ⟨0, by simp, by simp [emptyB], .inl ⟨hx, ?_⟩⟩
    show k = x.toNat
    omega
theorem beg_rule {G : Gm} {x : Int} (hx : (G.nk : Int) ≤ x) (k : Nat) : begB G.nk (nullF G) (fstF G) [x] k = true ↔ Fst G (x - G.nk).toNat k := by
  rw [begB_iff, ← fstF_is]
  constructor
  · rintro ⟨i, hi, -, h⟩
    have : i = 0 := by simp at hi; omega
    subst this
    rcases h with ⟨h, -⟩ | ⟨-, h⟩
    · have h : x < (G.nk : Int) := h
      omega
    · exact h
  · intro h
    exact ⟨0, by simp, by simp [emptyB], .inr ⟨hx, h⟩⟩
theorem be_kind {G : Gm} {row : List Int} {j : Nat} (hj : j < row.length) (h0 : 0 ≤ row.getD j 0) (hx : row.getD j 0 < (G.nk : Int)) : BeI G row j (addF (fun _ => false) (row.getD j 0)) false := by
  have he : emptyB G.nk (nullF G) [row.getD j 0] = false := by
    unfold emptyB
    simp only [List.all_cons, List.all_nil, Bool.and_true, Bool.and_eq_false_iff, decide_eq_false_iff_not]
    exact .inl (by omega)
  refine ⟨fun m => ?_, ?_⟩
  · rw [drop_at hj, begB_cons, he]
    simp only [Bool.false_and, Bool.or_false]
    rw [beg_kind h0 hx]
    unfold addF
    by_cases e : m = row.getD j 0
    · rw [if_pos e]; exact ⟨fun _ => ⟨by omega, by omega⟩, fun _ => rfl⟩
    · rw [if_neg e]; exact ⟨fun h => (by cases h), fun ⟨h1, h2⟩ => by omega⟩
  · rw [drop_at hj, emptyB_cons, he]; rfl
theorem be_rule {G : Gm} {row : List Int} {j : Nat} {D F : Int → Bool} {em : Bool} (h : BeI G row (j + 1) D em) (hj : j < row.length) (hx : (G.nk : Int) ≤ row.getD j 0) (hn : nullF G (row.getD j 0 - G.nk).toNat = true) (hF : ∀ m, F m = true ↔ 0 ≤ m ∧ Fst G (row.getD j 0 - G.nk).toNat m.toNat) : BeI G row j (orF D F) em := by
  have he : emptyB G.nk (nullF G) [row.getD j 0] = true := by
    unfold emptyB
    simp only [List.all_cons, List.all_nil, Bool.and_true, Bool.and_eq_true, decide_eq_true_eq]
    exact ⟨hx, hn⟩
  refine ⟨fun m => ?_, ?_⟩
  · rw [drop_at hj, begB_cons, he]
    simp only [Bool.true_and, Bool.or_eq_true]
    rw [beg_rule hx]
    unfold orF
    rw [Bool.or_eq_true, h.1 m, hF m]
    constructor
    · rintro (⟨a, b⟩ | ⟨a, b⟩)
      · exact ⟨a, .inr b⟩
      · exact ⟨a, .inl b⟩
    · rintro ⟨a, b | b⟩
      · exact .inr ⟨a, b⟩
      · exact .inl ⟨a, b⟩
  · rw [drop_at hj, emptyB_cons, he, h.2]; rfl
theorem be_firm {G : Gm} {row : List Int} {j : Nat} {F : Int → Bool} (hj : j < row.length) (hx : (G.nk : Int) ≤ row.getD j 0) (hn : nullF G (row.getD j 0 - G.nk).toNat = false) (hF : ∀ m, F m = true ↔ 0 ≤ m ∧ Fst G (row.getD j 0 - G.nk).toNat m.toNat) : BeI G row j (orF (fun _ => false) F) false := by
  have he : emptyB G.nk (nullF G) [row.getD j 0] = false := by
    unfold emptyB
    simp only [List.all_cons, List.all_nil, Bool.and_true, Bool.and_eq_false_iff, decide_eq_false_iff_not]
    exact .inr hn
  refine ⟨fun m => ?_, ?_⟩
  · rw [drop_at hj, begB_cons, he]
    simp only [Bool.false_and, Bool.or_false]
    rw [beg_rule hx]
    unfold orF
    rw [Bool.false_or]
    exact hF m
  · rw [drop_at hj, emptyB_cons, he]; rfl
/-- A kind has nothing behind it. -/
theorem fl_kind {G : Gm} {k j n : Nat} {C : Nat → Int → Bool} {W : Nat → List Nat} (h : FlI G (Dn k (j + 1)) n C W) (hx : (rhs G k).getD j 0 < (G.nk : Int)) : FlI G (Dn k j) n C W := by
  refine ⟨fun r m => ?_, fun r y => ?_, h.l⟩
  · rw [h.c r m]
    refine or_congr Iff.rfl ⟨?_, ?_⟩
    · rintro ⟨q, i, h1, h2⟩; exact ⟨q, i, dn_pred.2 (.inl h1), h2⟩
    · rintro ⟨q, i, h1, h2⟩
      rcases dn_pred.1 h1 with h1 | ⟨rfl, rfl⟩
      · exact ⟨q, i, h1, h2⟩
      · have := h2.2.2.2.1; omega
  · rw [h.w r y]
    constructor
    · rintro ⟨q, i, h1, h2⟩; exact ⟨q, i, dn_pred.2 (.inl h1), h2⟩
    · rintro ⟨q, i, h1, h2⟩
      rcases dn_pred.1 h1 with h1 | ⟨rfl, rfl⟩
      · exact ⟨q, i, h1, h2⟩
      · have := h2.2.2.2.1; omega
/-- A rule has. -/
theorem fl_rule {G : Gm} {k j n : Nat} {C : Nat → Int → Bool} {W : Nat → List Nat} {D : Int → Bool} {em : Bool} (h : FlI G (Dn k (j + 1)) n C W) (hk : k < G.prods.length) (ha : atF G (lhs G k) = true) (hj : j < (rhs G k).length) (hx : (G.nk : Int) ≤ (rhs G k).getD j 0) (hD : BeI G (rhs G k) (j + 1) D em) {y : Nat} (hy : ((rhs G k).getD j 0 - G.nk).toNat = y) :
    FlI G (Dn k j) (n + 1) (upC C y (orF (C y) D)) (if em then upW W y (lhs G k) else W) := by
  refine ⟨fun r m => ?_, fun r z => ?_, fun r => ?_⟩
  · have key : upC C y (orF (C y) D) r m = true ↔ C r m = true ∨ FlS G k j r m := by
      by_cases e : r = y
      · subst e
        rw [upC_self]
        unfold orF
        rw [Bool.or_eq_true, hD.1 m]
        refine or_congr Iff.rfl ⟨fun ⟨h1, h2⟩ => ⟨hk, ha, hj, hx, hy, h1, h2⟩, fun h1 => ⟨h1.2.2.2.2.2.1, h1.2.2.2.2.2.2⟩⟩
      · rw [upC_ne e]; exact ⟨.inl, fun h1 => h1.elim id (fun h2 => absurd (h2.2.2.2.2.1.symm.trans hy) e)⟩
    rw [key, h.c r m]
    constructor
    · rintro ((h1 | ⟨q, i, h1, h2⟩) | h2)
      · exact .inl h1
      · exact .inr ⟨q, i, dn_pred.2 (.inl h1), h2⟩
      · exact .inr ⟨k, j, dn_pred.2 (.inr ⟨rfl, rfl⟩), h2⟩
    · rintro (h1 | ⟨q, i, h1, h2⟩)
      · exact .inl (.inl h1)
      · rcases dn_pred.1 h1 with h1 | ⟨rfl, rfl⟩
        · exact .inl (.inr ⟨q, i, h1, h2⟩)
        · exact .inr h2
  · have key : z ∈ (if em then upW W y (lhs G k) else W) r ↔ z ∈ W r ∨ FlW G k j r z := by
      have he := hD.2
      cases em with
      | true =>
        rw [if_pos rfl, upW_mem]
        refine or_congr Iff.rfl ⟨fun ⟨h1, h2⟩ => ⟨hk, ha, hj, hx, hy.trans h1.symm, he.symm, h2.symm⟩, fun h1 => ⟨h1.2.2.2.2.1.symm.trans hy, h1.2.2.2.2.2.2.symm⟩⟩
      | false =>
        rw [if_neg (by simp)]
        exact ⟨.inl, fun h1 => h1.elim id (fun h2 => by have := h2.2.2.2.2.2.1; rw [← he] at this; cases this)⟩
    rw [key, h.w r z]
    constructor
    · rintro (⟨q, i, h1, h2⟩ | h2)
      · exact ⟨q, i, dn_pred.2 (.inl h1), h2⟩
      · exact ⟨k, j, dn_pred.2 (.inr ⟨rfl, rfl⟩), h2⟩
    · rintro ⟨q, i, h1, h2⟩
      rcases dn_pred.1 h1 with h1 | ⟨rfl, rfl⟩
      · exact .inl ⟨q, i, h1, h2⟩
      · exact .inr h2
  · have := h.l r
    cases em with
    | true => rw [if_pos rfl]; have := upW_len W y (lhs G k) r; omega
    | false => rw [if_neg (by simp)]; omega
theorem beg_lt {G : Gm} (hG : GOk G) {row : List Int} (hr : symsIn (G.nk + G.nr) row) {k : Nat} (h : begB G.nk (nullF G) (fstF G) row k = true) : k < G.nk := by
  obtain ⟨i, hi, -, h⟩ := begB_iff.1 h
  have := hr _ (mem_getD hi)
  rcases h with ⟨h1, h2⟩ | ⟨-, h2⟩
  · omega
  · exact fst_lt hG ((fstF_is _ _ _).1 h2)
/-- The kinds of all to which a rule leads are those that follow it. -/
theorem fl_end {G : Gm} (hG : GOk G) {n : Nat} {C : Nat → Int → Bool} {W : Nat → List Nat} (h : FlI G (fun q _ => q < G.prods.length) n C W) (r : Nat) (m : Int) : Uw W C r m ↔ 0 ≤ m ∧ Flw G r m.toNat := by
  constructor
  · rintro ⟨y, h1, h2⟩
    induction h1 with
    | refl x =>
      rcases (h.c _ _).1 h2 with ⟨rfl, rfl⟩ | ⟨q, i, -, hq, ha, hi, hx, rfl, h0, hb⟩
      · exact ⟨Int.le_refl _, .start⟩
      · exact ⟨h0, .first _ (mem_getP hq) ha i hi hx _ (beg_lt hG (fun z hz => hG.py _ (mem_getP hq) z (List.mem_of_mem_drop hz)) hb) hb⟩
    | step x y z hy _ ih =>
      obtain ⟨q, i, -, hq, ha, hi, hx, rfl, he, rfl⟩ := (h.w _ _).1 hy
      obtain ⟨h3, h4⟩ := ih h2
      exact ⟨h3, .behind _ (mem_getP hq) ha i hi hx he _ h4⟩
  · rintro ⟨h0, h1⟩
    obtain ⟨k, rfl⟩ := Int.eq_ofNat_of_zero_le h0
    rw [Int.toNat_natCast] at h1
    clear h0
    induction h1 with
    | start => exact ⟨_, .refl _, (h.c _ _).2 (.inl ⟨rfl, rfl⟩)⟩
    | first p hp hr i hi hx k hk hb =>
      obtain ⟨q, hq, rfl⟩ := ex_getP hp
      exact ⟨_, .refl _, (h.c _ _).2 (.inr ⟨q, i, hq, hq, hr, hi, hx, rfl, by omega, by rw [Int.toNat_natCast]; exact hb⟩)⟩
    | behind p hp hr i hi hx he k _ ih =>
      obtain ⟨q, hq, rfl⟩ := ex_getP hp
      obtain ⟨y, h3, h4⟩ := ih
      exact ⟨y, .step _ _ _ ((h.w _ _).2 ⟨q, i, hq, hq, hr, hi, hx, rfl, he, rfl⟩) h3, h4⟩
end Go.Proofs.YtagohbpbgjelaaaGreatDoor

/- The code's next: the rules to which a rule leads by one production. -/
namespace Go.Proofs.YtagohbpbgjelaaaGreatDoor
open Go.RowKit

/-- The rules of a rule's productions, of those that lead, up to one of them. -/
def nxtL (G : Gm) (ok : Nat → Bool) (l : List Nat) : List Int := l.flatMap fun q => if ok q then rulesL G.nk (G.prods.getD q pd0).right else []
def ownN (G : Gm) (r : Nat) : List Nat := (List.range G.prods.length).filter fun i => decide ((G.prods.getD i pd0).left.toNat = r)
theorem ownN_is (G : Gm) (r : Nat) : ownTo G G.prods.length r = castL (ownN G r) := rfl
theorem nxtL_snoc (G : Gm) (ok : Nat → Bool) (l : List Nat) (k : Nat) (h : k < l.length) : nxtL G ok (l.take (k + 1)) = nxtL G ok (l.take k) ++ (if ok (l.getD k 0) then rulesL G.nk (G.prods.getD (l.getD k 0) pd0).right else []) := by
  unfold nxtL
  have e : l.take (k + 1) = l.take k ++ [l.getD k 0] := by rw [List.take_add_one, List.getD_eq_getElem?_getD, List.getElem?_eq_getElem h]; rfl
  rw [e, List.flatMap_append]
  simp
theorem nxtL_len (G : Gm) (hG : GOk G) (ok : Nat → Bool) (l : List Nat) (hl : ∀ q, q ∈ l → q < G.prods.length) : (nxtL G ok l).length ≤ 64 * l.length := by
  induction l with
  | nil => simp [nxtL]
  | cons q l ih =>
    have h1 := ih (fun x hx => hl x (List.mem_cons_of_mem _ hx))
    have h2 := hG.pr _ (mem_getP (hl q List.mem_cons_self))
    have h3 := rulesL_len (nk := G.nk) (G.prods.getD q pd0).right
    have e : nxtL G ok (q :: l) = (if ok q then rulesL G.nk (G.prods.getD q pd0).right else []) ++ nxtL G ok l := by simp [nxtL]
    rw [e, List.length_append, List.length_cons]
    by_cases hq : ok q = true
    · rw [if_pos hq]; omega
    · rw [if_neg hq]; simp; omega
theorem ownN_mem {G : Gm} {r q : Nat} (h : q ∈ ownN G r) : q < G.prods.length := by unfold ownN at h; simp at h; exact h.1
theorem ownN_len (G : Gm) (r : Nat) : (ownN G r).length ≤ G.prods.length := by unfold ownN; have := List.length_filter_le (fun i => decide ((G.prods.getD i pd0).left.toNat = r)) (List.range G.prods.length); simpa using this
set_option maxHeartbeats 1000000 in
set_option maxRecDepth 100000 in
theorem next_any (G : Gm) (hG : GOk G) (ka pa ra qa : Option Addr) (kc pc rc qc gb ob ub : Nat) (M : Nat) (F : Nat) (cap : Array Value) (ok : Nat → Bool) (hcf : ∀ args W, Sem.run Tryz.prog (callFunc F args) W = .ok (.enter F args) W) (r : Nat) (hr : r < G.rules.length) (w : World) (hM : M ≤ w.heap.size) (hg : GrAt M w G ka kc pa pc ra rc qa qc gb ob ub)
    (hF : ∀ W q, q < G.prods.length → Below w.heap.size w W → Calls Tryz.prog F (#[.int .i64 (q : Nat)] ++ cap) W fun e W' => e = .returned (.bool (ok q)) ∧ Below W.heap.size W W') :
    Calls Tryz.prog 84 #[.pointer (some ⟨gb, 0, none⟩), .int .i64 (r : Int), .func (.func F) #[] cap] w fun e w' => ∃ v, e = .returned v ∧ w'.ownsRow w.heap.size 3 1 v (nxtL G ok (ownN G r)).length (vints (nxtL G ok (ownN G r))) ∧ Below w.heap.size w w' := by
  obtain ⟨i3, hi3, hz30, hz31, hz32⟩ := info_parts info3
  have hps := hG.ps
  have hr2 := hG.r2
  unfold Gm.nr at hr2
  have c5 : w.cell? ⟨gb, 5, none⟩ = some (.slice (some ⟨ob, 0, none⟩) G.rules.length G.rules.length) := by unfold World.cell?; rw [hg.box]; rfl
  obtain ⟨Oo, hto, -⟩ := hg.own
  obtain ⟨xa, xc, tco, hxn⟩ := tab_at hto hr
  rw [ownN_is] at tco hxn
  rw [castL_len] at tco
  have hr' : (r : Int) < G.rules.length := by omega
  have Hg := hide hg; have HF := hide hF
  clear hg hF
  go_enter Tryz.func84, Tryz.ntmps84
  go_wp2
  go_loopw [7, 18] (fun u x W => ∃ k : Nat, x = .int .i64 k ∧ k ≤ (ownN G r).length ∧ W.ownsRow w.heap.size 3 1 u (nxtL G ok ((ownN G r).take k)).length (vints (nxtL G ok ((ownN G r).take k))) ∧ Below w.heap.size w W) (fun _ x _ => (ownN G r).length - (intOf x).toNat)
  case atStart => exact ⟨0, rfl, Nat.zero_le _, World.ownsRow_nil _ _ _ _, Below.refl _ _⟩
  case round =>
    obtain ⟨k, rfl, hk, hown, hb⟩ := hrel
    obtain ⟨ua, uc, rfl⟩ := own_form hown
    have hsz := hb.size
    have hgr := gr_kept (unhide Hg) (below_le hb hM)
    have hlen := nxtL_len G hG ok ((ownN G r).take k) (fun q hq => ownN_mem (List.mem_of_mem_take hq))
    have hon := ownN_len G r
    rw [List.length_take] at hlen
    by_cases hlt : k < (ownN G r).length
    · have hlt' : (k : Int) < (ownN G r).length := by omega
      have hq := ownN_mem (G := G) (r := r) (show (ownN G r).getD k 0 ∈ ownN G r by rw [List.getD_eq_getElem?_getD, List.getElem?_eq_getElem hlt]; exact List.getElem_mem hlt)
      have hxr := nrow_up hxn hb
      obtain ⟨xb, xo, rfl, hxb, hxe⟩ := nrow_at hxr (k := k) (by rw [castL_len]; exact hlt)
      rw [castL_get hlt] at hxe
      have Hs := hide (nxtL_snoc G ok (ownN G r) k hlt)
      have HC := hide ((unhide HF) wr ((ownN G r).getD k 0) hq hb)
      have hacc : (nxtL G ok ((ownN G r).take k)).length ≤ 262144 := by omega
      have Hown := hide hown; have Hb := hide hb; have Hgr := hide hgr
      generalize (ownN G r).getD k 0 = q at *
      generalize nxtL G ok ((ownN G r).take k) = acc at *
      clear hxr hxn tco hto hown hb hgr hlen
      go_wp2_with fail
      refine (unhide HC).mono ?_
      rintro e w2 ⟨rfl, hb2⟩
      have hs2 := hb2.size
      have hown2 := own_below (unhide Hown) hb2
      have hbb := (unhide Hb).trans (below_le hb2 hsz)
      by_cases hk2 : ok q = true
      · rw [hk2]
        have hgr2 := gr_kept (unhide Hgr) (below_le hb2 (by omega))
        obtain ⟨pb, off, rfl, hbB, rr, rrc, x3, x4, x5, x6, n6, c6, hrr, -, q0, q1, q2, q3, q4, q5, q6⟩ := qrow_at hgr2.gin.prods hq
        have hgb : gb < w2.heap.size := by have := hgr2.lt; omega
        have c0 : w2.cell? ⟨gb, 0, none⟩ = some (.slice ka G.kinds.length kc) := by unfold World.cell?; rw [hgr2.box]; rfl
        have c3 : w2.cell? ⟨gb, 3, none⟩ = some (.slice (some ⟨pb, off, none⟩) G.prods.length qc) := by unfold World.cell?; rw [hgr2.box]; rfl
        have hq' : (q : Int) < G.prods.length := by omega
        have hpr := hG.pr _ (mem_getP hq)
        have hpy := hG.py _ (mem_getP hq)
        have hrl := rulesL_len (nk := G.nk) (G.prods.getD q pd0).right
        rw [hk2, if_pos rfl] at Hs
        generalize G.prods.getD q pd0 = p at *
        obtain ⟨pl, prt, plv, pac⟩ := p
        simp only at q0 q1 q2 Hs hpr hpy hrl hrr
        have Hown2 := hide hown2; have Hbb := hide hbb
        have hb0 : pb < w2.heap.size := by omega
        have Hrl := hide (rulesOf_any gb G.kinds.length ka kc hG.k3 rr rrc prt (by omega) (fun x hx => by have := hpy x hx; have := hG.k3; have := hG.r2; unfold Gm.nk Gm.nr at *; omega) w2 c0 hgb (nrow_big (by omega) hrr))
        clear hgr2 hrr hown2 hbb hpy
        go_wp2_with fail
        refine (unhide Hrl).mono ?_
        rintro e w5 ⟨v5, rfl, how5, hb5⟩
        have hs5 := hb5.size
        have ho5 := own_below (unhide Hown2) hb5
        have hbb5 := (unhide Hbb).trans (below_le hb5 (by omega))
        obtain ⟨va, vc, rfl⟩ := own_form how5
        obtain ⟨_, _, he5, hn5⟩ := own_nrow how5
        cases he5
        have Ho5 := hide ho5; have Hbb5 := hide hbb5
        have hrl' : (rulesL G.kinds.length prt).length ≤ 64 := by unfold Gm.nk at hrl; omega
        rcases hn5 with h | ⟨b5, o5, rfl, h2, h3⟩
        · have Ho3 := hide (show w5.ownsRow w.heap.size 3 1 (.slice ua acc.length uc) (nxtL G ok ((ownN G r).take (k + 1))).length (vints (nxtL G ok ((ownN G r).take (k + 1)))) by rw [unhide Hs, show rulesL G.nk prt = [] from h]; simpa using ho5)
          rw [h] at how5 ⊢
          clear ho5 hbb5
          rcases how5.2 with ⟨h1, -⟩ | ⟨g5, cap5, x5', h1, h2⟩
          · cases h1
            go_wp2_with (at_builtin; refine wpList_append_own_none rfl _ _ 27 rfl w.heap.size 3 i3 1 Tryz.underlying27 hi3 _ _ _ rfl (unhide Ho3) rfl ?_)
            go_wp2
            go_roundw
            case rel => exact ⟨k + 1, by go_num, by omega, unhide Ho3, unhide Hbb5⟩
            case measure => simp [intOf]; omega
          · cases h1
            go_wp2_with (at_builtin; refine wpList_append_own _ rfl _ _ 27 rfl w.heap.size 3 i3 (.int .i64 0) 1 8 Tryz.underlying27 hi3 hz30 hz31 hz32 rfl (by decide) _ _ _ rfl (unhide Ho5) ⟨g5, 0, none⟩ 0 _ [] rfl rfl (by simp) (by simp) (by unfold maxLen; omega) (by omega) (by omega) ?_)
            intro v' W3 hown' hgrow _
            have Hb3 := hide ((unhide Hbb5).grown hgrow (by omega) (fun j hj => ((unhide Ho5).lt j hj).1))
            have Ho3' := hide (show W3.ownsRow w.heap.size 3 1 v' (nxtL G ok ((ownN G r).take (k + 1))).length (vints (nxtL G ok ((ownN G r).take (k + 1)))) by rw [unhide Hs, show rulesL G.nk prt = [] from h]; simpa using hown')
            clear hown' hgrow
            go_wp2
            go_roundw
            case rel => exact ⟨k + 1, by go_num, by omega, unhide Ho3', unhide Hb3⟩
            case measure => simp [intOf]; omega
        · have Hnw := hide (show ∀ j u, (vints (rulesL G.kinds.length prt))[j]? = some u → w5.cell? (Addr.add ⟨b5, o5, none⟩ j) = some u by
            intro j u hu
            unfold vints at hu
            rw [List.getElem?_map] at hu
            obtain ⟨x, hx, rfl⟩ := Option.map_eq_some_iff.1 hu
            have hj := (List.getElem?_eq_some_iff.1 hx).1
            rw [show Addr.add ⟨b5, o5, none⟩ j = ⟨b5, o5 + j, none⟩ by cases j <;> simp [Addr.add], h3 j hj, List.getD_eq_getElem?_getD, hx]
            rfl)
          clear h3 how5 ho5 hbb5
          generalize rulesL G.kinds.length prt = rl at *
          go_wp2_with (at_builtin; refine wpList_append_own _ rfl _ _ 27 rfl w.heap.size 3 i3 (.int .i64 0) 1 8 Tryz.underlying27 hi3 hz30 hz31 hz32 rfl (by decide) _ _ _ rfl (unhide Ho5) ⟨b5, o5, none⟩ rl.length vc (vints rl) rfl (by rw [vints_len, Nat.mul_one]) (unhide Hnw) (vints_one _) (by unfold maxLen; omega) (by omega) (by omega) ?_)
          intro v' W3 hown' hgrow _
          have Hb3 := hide ((unhide Hbb5).grown hgrow (by omega) (fun j hj => ((unhide Ho5).lt j hj).1))
          have Ho3 := hide (show W3.ownsRow w.heap.size 3 1 v' (nxtL G ok ((ownN G r).take (k + 1))).length (vints (nxtL G ok ((ownN G r).take (k + 1)))) by rw [unhide Hs, List.length_append, vints_app]; exact hown')
          clear hown' hgrow
          go_wp2
          go_roundw
          case rel => exact ⟨k + 1, by go_num, by omega, unhide Ho3, unhide Hb3⟩
          case measure => simp [intOf]; omega
      · have hk3 : ok q = false := by simpa using hk2
        rw [hk3]
        rw [hk3] at Hs
        have Ho3 := hide (show w2.ownsRow w.heap.size 3 1 (.slice ua acc.length uc) (nxtL G ok ((ownN G r).take (k + 1))).length (vints (nxtL G ok ((ownN G r).take (k + 1)))) by rw [unhide Hs]; simpa using hown2)
        have Hb3 := hide hbb
        clear hown2 hbb
        go_wp2
        go_roundw
        case rel => exact ⟨k + 1, by go_num, by omega, unhide Ho3, unhide Hb3⟩
        case measure => simp [intOf]; omega
    · obtain rfl : k = (ownN G r).length := by omega
      rw [List.take_of_length_le (Nat.le_refl _)] at hown ⊢
      have Hown := hide hown; have Hb := hide hb
      clear hown hb hgr hxn tco
      go_wp2
      go_ret
      exact ⟨_, rfl, unhide Hown, unhide Hb⟩
end Go.Proofs.YtagohbpbgjelaaaGreatDoor

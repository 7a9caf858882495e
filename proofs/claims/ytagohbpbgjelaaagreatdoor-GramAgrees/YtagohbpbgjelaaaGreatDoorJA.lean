/- What follows rules: which kinds and which rules stand where they end, from a place of a production on. -/
import Derived.Test.YtagohbpbgjelaaaGreatDoorGX
import Derived.Test.YtagohbpbgjelaaaGreatDoorA5
import Derived.Test.YtagohbpbgjelaaaGreatDoorY1
import Derived.Test.YtagohbpbgjelaaaGreatDoorSP
import Derived.Test.YtagohbpbgjelaaaGreatDoorHQ
import Derived.Test.YtagohbpbgjelaaaGreatDoorGJ
namespace Go.Proofs.YtagohbpbgjelaaaGreatDoor
open Go.RowKit

/-- A rule stands there, in a production that is of use, and a kind may begin what stands behind it. -/
def FlS (G : Gm) (q i r : Nat) (m : Int) : Prop := q < G.prods.length ∧ atF G (lhs G q) = true ∧ i < (rhs G q).length ∧ (G.nk : Int) ≤ (rhs G q).getD i 0 ∧ ((rhs G q).getD i 0 - G.nk).toNat = r ∧ 0 ≤ m ∧ begB G.nk (nullF G) (fstF G) ((rhs G q).drop (i + 1)) m.toNat = true
/-- A rule stands there, and all that stands behind it can be nothing. -/
def FlW (G : Gm) (q i r y : Nat) : Prop := q < G.prods.length ∧ atF G (lhs G q) = true ∧ i < (rhs G q).length ∧ (G.nk : Int) ≤ (rhs G q).getD i 0 ∧ ((rhs G q).getD i 0 - G.nk).toNat = r ∧ emptyB G.nk (nullF G) ((rhs G q).drop (i + 1)) = true ∧ lhs G q = y
structure FlI (G : Gm) (P : Nat → Nat → Prop) (n : Nat) (C : Nat → Int → Bool) (W : Nat → List Nat) : Prop where
  c : ∀ r m, C r m = true ↔ (r = G.start.toNat ∧ m = 0) ∨ ∃ q i, P q i ∧ FlS G q i r m
  w : ∀ r y, y ∈ W r ↔ ∃ q i, P q i ∧ FlW G q i r y
  l : ∀ r, (W r).length ≤ n
/-- All places of the first productions, and those of one from a place on. -/
def Dn (k j q i : Nat) : Prop := q < k ∨ q = k ∧ j ≤ i
theorem fl_mono {G : Gm} {P P' : Nat → Nat → Prop} {n n' : Nat} {C : Nat → Int → Bool} {W : Nat → List Nat} (h : FlI G P n C W) (hn : n ≤ n') (hp : ∀ q i, i < (rhs G q).length → atF G (lhs G q) = true → (P q i ↔ P' q i)) : FlI G P' n' C W := by
  refine ⟨fun r m => ?_, fun r y => ?_, fun r => Nat.le_trans (h.l r) hn⟩
  · rw [h.c r m]
    refine or_congr Iff.rfl ⟨?_, ?_⟩
    · rintro ⟨q, i, h1, h2⟩; exact ⟨q, i, (hp q i h2.2.2.1 h2.2.1).1 h1, h2⟩
    · rintro ⟨q, i, h1, h2⟩; exact ⟨q, i, (hp q i h2.2.2.1 h2.2.1).2 h1, h2⟩
  · rw [h.w r y]
    constructor
    · rintro ⟨q, i, h1, h2⟩; exact ⟨q, i, (hp q i h2.2.2.1 h2.2.1).1 h1, h2⟩
    · rintro ⟨q, i, h1, h2⟩; exact ⟨q, i, (hp q i h2.2.2.1 h2.2.1).2 h1, h2⟩
theorem fl_start (G : Gm) : FlI G (fun q _ => q < 0) 0 (upC (fun _ _ => false) G.start.toNat (addF (fun _ => false) 0)) (fun _ => []) := by
  refine ⟨fun r m => ?_, fun r y => ⟨fun h => (by cases h), fun ⟨q, i, h, _⟩ => (by omega)⟩, fun r => by simp⟩
  constructor
  · intro h
    by_cases e : r = G.start.toNat
    · subst e
      rw [upC_self] at h
      unfold addF at h
      by_cases e2 : m = 0
      · exact .inl ⟨rfl, e2⟩
      · rw [if_neg e2] at h; cases h
    · rw [upC_ne e] at h; cases h
  · rintro (⟨rfl, rfl⟩ | ⟨q, i, h, _⟩)
    · rw [upC_self]; rfl
    · omega
/-- A production begins, from its end; one that is not reached is passed over; one is done. -/
theorem fl_open {G : Gm} {k n : Nat} {C : Nat → Int → Bool} {W : Nat → List Nat} (h : FlI G (fun q _ => q < k) n C W) : FlI G (Dn k (rhs G k).length) n C W :=
  fl_mono h (Nat.le_refl _) (fun q i hi _ => ⟨.inl, fun h1 => h1.elim id (fun ⟨e, h2⟩ => by subst e; omega)⟩)
theorem fl_shut {G : Gm} {k n n' : Nat} {C : Nat → Int → Bool} {W : Nat → List Nat} (h : FlI G (Dn k 0) n C W) (hn : n ≤ n') : FlI G (fun q _ => q < k + 1) n' C W :=
  fl_mono h hn (fun q i _ _ => ⟨fun h1 => by unfold Dn at h1; omega, fun h1 => by unfold Dn; omega⟩)
theorem fl_pass {G : Gm} {k n n' : Nat} {C : Nat → Int → Bool} {W : Nat → List Nat} (h : FlI G (fun q _ => q < k) n C W) (hn : n ≤ n') (hr : atF G (lhs G k) = false) : FlI G (fun q _ => q < k + 1) n' C W :=
  fl_mono h hn (fun q i _ ha => ⟨fun h1 => by omega, fun h1 => by
    by_cases e : q = k
    · subst e; rw [hr] at ha; cases ha
    · omega⟩)
theorem dn_pred {k j q i : Nat} : Dn k j q i ↔ Dn k (j + 1) q i ∨ q = k ∧ i = j := by unfold Dn; omega
/-- What stands behind a place: with what it begins, and whether it can be nothing. -/
def BeI (G : Gm) (row : List Int) (j : Nat) (D : Int → Bool) (em : Bool) : Prop := (∀ m, D m = true ↔ 0 ≤ m ∧ begB G.nk (nullF G) (fstF G) (row.drop j) m.toNat = true) ∧ em = emptyB G.nk (nullF G) (row.drop j)
theorem be_end (G : Gm) (row : List Int) : BeI G row row.length (fun _ => false) true := by
  refine ⟨fun m => ?_, ?_⟩
  · rw [List.drop_length]; simp [begB]
  · rw [List.drop_length]; rfl
theorem drop_at {row : List Int} {j : Nat} (hj : j < row.length) : row.drop j = row.getD j 0 :: row.drop (j + 1) := by
  rw [List.drop_eq_getElem_cons hj, List.getD_eq_getElem?_getD, List.getElem?_eq_getElem hj]; rfl
theorem beg_kind {G : Gm} {x : Int} (h0 : 0 ≤ x) (hx : x < (G.nk : Int)) (k : Nat) : begB G.nk (nullF G) (fstF G) [x] k = true ↔ x = k := by
  rw [begB_iff]
  constructor
  · rintro ⟨i, hi, -, h⟩
    have : i = 0 := by simp at hi; omega
    subst this
    rcases h with ⟨-, h⟩ | ⟨h, -⟩
    · have h : k = x.toNat := h
      omega
    · have h : (G.nk : Int) ≤ x := h
      omega
  · intro e
    refine ⟨0, by simp, by simp [emptyB], .inl ⟨hx, ?_⟩⟩
    show k = x.toNat
    omega
theorem beg_rule {G : Gm} {x : Int} (hx : (G.nk : Int) ≤ x) (k : Nat) : begB G.nk (nullF G) (fstF G) [x] k = true ↔ Fst G (x - G.nk).toNat k := by
  rw [begB_iff, ← fstF_is]
  constructor
  · rintro ⟨i, hi, -, h⟩
    have : i = 0 := by simp at hi; omega
    subst this
    rcases h with ⟨h, -⟩ | ⟨-, h⟩
    · have h : x < (G.nk : Int) := h
      omega
    · exact h
  · intro h
    exact ⟨0, by simp, by simp [emptyB], .inr ⟨hx, h⟩⟩
theorem be_kind {G : Gm} {row : List Int} {j : Nat} (hj : j < row.length) (h0 : 0 ≤ row.getD j 0) (hx : row.getD j 0 < (G.nk : Int)) : BeI G row j (addF (fun _ => false) (row.getD j 0)) false := by
  have he : emptyB G.nk (nullF G) [row.getD j 0] = false := by
    unfold emptyB
    simp only [List.all_cons, List.all_nil, Bool.and_true, Bool.and_eq_false_iff, decide_eq_false_iff_not]
    exact .inl (by omega)
  refine ⟨fun m => ?_, ?_⟩
  · rw [drop_at hj, begB_cons, he]
    simp only [Bool.false_and, Bool.or_false]
    rw [beg_kind h0 hx]
    unfold addF
    by_cases e : m = row.getD j 0
    · rw [if_pos e]; exact ⟨fun _ => ⟨by omega, by omega⟩, fun _ => rfl⟩
    · rw [if_neg e]; exact ⟨fun h => (by cases h), fun ⟨h1, h2⟩ => by omega⟩
  · rw [drop_at hj, emptyB_cons, he]; rfl
theorem be_rule {G : Gm} {row : List Int} {j : Nat} {D F : Int → Bool} {em : Bool} (h : BeI G row (j + 1) D em) (hj : j < row.length) (hx : (G.nk : Int) ≤ row.getD j 0) (hn : nullF G (row.getD j 0 - G.nk).toNat = true) (hF : ∀ m, F m = true ↔ 0 ≤ m ∧ Fst G (row.getD j 0 - G.nk).toNat m.toNat) : BeI G row j (orF D F) em := by
  have he : emptyB G.nk (nullF G) [row.getD j 0] = true := by
    unfold emptyB
    simp only [List.all_cons, List.all_nil, Bool.and_true, Bool.and_eq_true, decide_eq_true_eq]
    exact ⟨hx, hn⟩
  refine ⟨fun m => ?_, ?_⟩
  · rw [drop_at hj, begB_cons, he]
    simp only [Bool.true_and, Bool.or_eq_true]
    rw [beg_rule hx]
    unfold orF
    rw [Bool.or_eq_true, h.1 m, hF m]
    constructor
    · rintro (⟨a, b⟩ | ⟨a, b⟩)
      · exact ⟨a, .inr b⟩
      · exact ⟨a, .inl b⟩
    · rintro ⟨a, b | b⟩
      · exact .inr ⟨a, b⟩
      · exact .inl ⟨a, b⟩
  · rw [drop_at hj, emptyB_cons, he, h.2]; rfl
theorem be_firm {G : Gm} {row : List Int} {j : Nat} {F : Int → Bool} (hj : j < row.length) (hx : (G.nk : Int) ≤ row.getD j 0) (hn : nullF G (row.getD j 0 - G.nk).toNat = false) (hF : ∀ m, F m = true ↔ 0 ≤ m ∧ Fst G (row.getD j 0 - G.nk).toNat m.toNat) : BeI G row j (orF (fun _ => false) F) false := by
  have he : emptyB G.nk (nullF G) [row.getD j 0] = false := by
    unfold emptyB
    simp only [List.all_cons, List.all_nil, Bool.and_true, Bool.and_eq_false_iff, decide_eq_false_iff_not]
    exact .inr hn
  refine ⟨fun m => ?_, ?_⟩
  · rw [drop_at hj, begB_cons, he]
    simp only [Bool.false_and, Bool.or_false]
    rw [beg_rule hx]
    unfold orF
    rw [Bool.false_or]
    exact hF m
  · rw [drop_at hj, emptyB_cons, he]; rfl
/-- A kind has nothing behind it. -/
theorem fl_kind {G : Gm} {k j n : Nat} {C : Nat → Int → Bool} {W : Nat → List Nat} (h : FlI G (Dn k (j + 1)) n C W) (hx : (rhs G k).getD j 0 < (G.nk : Int)) : FlI G (Dn k j) n C W := by
  refine ⟨fun r m => ?_, fun r y => ?_, h.l⟩
  · rw [h.c r m]
    refine or_congr Iff.rfl ⟨?_, ?_⟩
    · rintro ⟨q, i, h1, h2⟩; exact ⟨q, i, dn_pred.2 (.inl h1), h2⟩
    · rintro ⟨q, i, h1, h2⟩
      rcases dn_pred.1 h1 with h1 | ⟨rfl, rfl⟩
      · exact ⟨q, i, h1, h2⟩
      · have := h2.2.2.2.1; omega
  · rw [h.w r y]
    constructor
    · rintro ⟨q, i, h1, h2⟩; exact ⟨q, i, dn_pred.2 (.inl h1), h2⟩
    · rintro ⟨q, i, h1, h2⟩
      rcases dn_pred.1 h1 with h1 | ⟨rfl, rfl⟩
      · exact ⟨q, i, h1, h2⟩
      · have := h2.2.2.2.1; omega
/-- A rule has. -/
theorem fl_rule {G : Gm} {k j n : Nat} {C : Nat → Int → Bool} {W : Nat → List Nat} {D : Int → Bool} {em : Bool} (h : FlI G (Dn k (j + 1)) n C W) (hk : k < G.prods.length) (ha : atF G (lhs G k) = true) (hj : j < (rhs G k).length) (hx : (G.nk : Int) ≤ (rhs G k).getD j 0) (hD : BeI G (rhs G k) (j + 1) D em) {y : Nat} (hy : ((rhs G k).getD j 0 - G.nk).toNat = y) :
    FlI G (Dn k j) (n + 1) (upC C y (orF (C y) D)) (if em then upW W y (lhs G k) else W) := by
  refine ⟨fun r m => ?_, fun r z => ?_, fun r => ?_⟩
  · have key : upC C y (orF (C y) D) r m = true ↔ C r m = true ∨ FlS G k j r m := by
      by_cases e : r = y
      · subst e
        rw [upC_self]
        unfold orF
        rw [Bool.or_eq_true, hD.1 m]
        refine or_congr Iff.rfl ⟨fun ⟨h1, h2⟩ => ⟨hk, ha, hj, hx, hy, h1, h2⟩, fun h1 => ⟨h1.2.2.2.2.2.1, h1.2.2.2.2.2.2⟩⟩
      · rw [upC_ne e]; exact ⟨.inl, fun h1 => h1.elim id (fun h2 => absurd (h2.2.2.2.2.1.symm.trans hy) e)⟩
    rw [key, h.c r m]
    constructor
    · rintro ((h1 | ⟨q, i, h1, h2⟩) | h2)
      · exact .inl h1
      · exact .inr ⟨q, i, dn_pred.2 (.inl h1), h2⟩
      · exact .inr ⟨k, j, dn_pred.2 (.inr ⟨rfl, rfl⟩), h2⟩
    · rintro (h1 | ⟨q, i, h1, h2⟩)
      · exact .inl (.inl h1)
      · rcases dn_pred.1 h1 with h1 | ⟨rfl, rfl⟩
        · exact .inl (.inr ⟨q, i, h1, h2⟩)
        · exact .inr h2
  · have key : z ∈ (if em then upW W y (lhs G k) else W) r ↔ z ∈ W r ∨ FlW G k j r z := by
      have he := hD.2
      cases em with
      | true =>
        rw [if_pos rfl, upW_mem]
        refine or_congr Iff.rfl ⟨fun ⟨h1, h2⟩ => ⟨hk, ha, hj, hx, hy.trans h1.symm, he.symm, h2.symm⟩, fun h1 => ⟨h1.2.2.2.2.1.symm.trans hy, h1.2.2.2.2.2.2.symm⟩⟩
      | false =>
        rw [if_neg (by simp)]
        exact ⟨.inl, fun h1 => h1.elim id (fun h2 => by have := h2.2.2.2.2.2.1; rw [← he] at this; cases this)⟩
    rw [key, h.w r z]
    constructor
    · rintro (⟨q, i, h1, h2⟩ | h2)
      · exact ⟨q, i, dn_pred.2 (.inl h1), h2⟩
      · exact ⟨k, j, dn_pred.2 (.inr ⟨rfl, rfl⟩), h2⟩
    · rintro ⟨q, i, h1, h2⟩
      rcases dn_pred.1 h1 with h1 | ⟨rfl, rfl⟩
      · exact .inl ⟨q, i, h1, h2⟩
      · exact .inr h2
  · have := h.l r
    cases em with
    | true => rw [if_pos rfl]; have := upW_len W y (lhs G k) r; omega
    | false => rw [if_neg (by simp)]; omega
theorem beg_lt {G : Gm} (hG : GOk G) {row : List Int} (hr : symsIn (G.nk + G.nr) row) {k : Nat} (h : begB G.nk (nullF G) (fstF G) row k = true) : k < G.nk := by
  obtain ⟨i, hi, -, h⟩ := begB_iff.1 h
  have := hr _ (mem_getD hi)
  rcases h with ⟨h1, h2⟩ | ⟨-, h2⟩
  · omega
  · exact fst_lt hG ((fstF_is _ _ _).1 h2)
/-- The kinds of all to which a rule leads are those that follow it. -/
theorem fl_end {G : Gm} (hG : GOk G) {n : Nat} {C : Nat → Int → Bool} {W : Nat → List Nat} (h : FlI G (fun q _ => q < G.prods.length) n C W) (r : Nat) (m : Int) : Uw W C r m ↔ 0 ≤ m ∧ Flw G r m.toNat := by
  constructor
  · rintro ⟨y, h1, h2⟩
    induction h1 with
    | refl x =>
      rcases (h.c _ _).1 h2 with ⟨rfl, rfl⟩ | ⟨q, i, -, hq, ha, hi, hx, rfl, h0, hb⟩
      · exact ⟨Int.le_refl _, .start⟩
      · exact ⟨h0, .first _ (mem_getP hq) ha i hi hx _ (beg_lt hG (fun z hz => hG.py _ (mem_getP hq) z (List.mem_of_mem_drop hz)) hb) hb⟩
    | step x y z hy _ ih =>
      obtain ⟨q, i, -, hq, ha, hi, hx, rfl, he, rfl⟩ := (h.w _ _).1 hy
      obtain ⟨h3, h4⟩ := ih h2
      exact ⟨h3, .behind _ (mem_getP hq) ha i hi hx he _ h4⟩
  · rintro ⟨h0, h1⟩
    obtain ⟨k, rfl⟩ := Int.eq_ofNat_of_zero_le h0
    rw [Int.toNat_natCast] at h1
    clear h0
    induction h1 with
    | start => exact ⟨_, .refl _, (h.c _ _).2 (.inl ⟨rfl, rfl⟩)⟩
    | first p hp hr i hi hx k hk hb =>
      obtain ⟨q, hq, rfl⟩ := ex_getP hp
      exact ⟨_, .refl _, (h.c _ _).2 (.inr ⟨q, i, hq, hq, hr, hi, hx, rfl, by omega, by rw [Int.toNat_natCast]; exact hb⟩)⟩
    | behind p hp hr i hi hx he k _ ih =>
      obtain ⟨q, hq, rfl⟩ := ex_getP hp
      obtain ⟨y, h3, h4⟩ := ih
      exact ⟨y, .step _ _ _ ((h.w _ _).2 ⟨q, i, hq, hq, hr, hi, hx, rfl, he, rfl⟩) h3, h4⟩
end Go.Proofs.YtagohbpbgjelaaaGreatDoor

/- The code's leasts: how long shortest rows are. -/
namespace Go.Proofs.YtagohbpbgjelaaaGreatDoor
open Go.RowKit

theorem newList_any (w : World) : Calls Tryz.prog 106 #[] w fun e w' => e = .returned (.pointer (some ⟨w.heap.size, 0, none⟩)) ∧ w' = w.alloc (.cells #[.slice none 0 0, .map none] 191) := by
  go_enter Tryz.func106, Tryz.ntmps106
  go_wp2
  go_ret
  exact ⟨rfl, rfl⟩
/-- What the search for lengths has made, as it lies. -/
structure LsAt (B : Nat) (w V : World) (n np bb mb sb tb : Nat) (L su : Nat → Int) (ml : List Int) (O : Nat → Prop) (H : Nat → Option Int) : Prop where
  ls : V.rowIs bb 3 n (fun r => .int .i64 (L r))
  ms : V.ownsRow B 3 1 (.slice (some ⟨mb, 0, none⟩) np np) ml.length (vints ml)
  mln : ml.length = np
  sm : V.rowIs sb 3 np (fun q => .int .i64 (su q))
  td : LstH V tb O H
  o1 : ¬ O bb
  o2 : ¬ O mb
  o3 : ¬ O sb
  n1 : bb ≠ mb
  n2 : bb ≠ sb
  n3 : mb ≠ sb
  ob : ∀ k, O k → B ≤ k
  b1 : B ≤ bb
  b2 : B ≤ mb
  b3 : B ≤ sb
  bl : Below B w V
section
variable {B : Nat} {w V V' : World} {n np bb mb sb tb : Nat} {L su : Nat → Int} {ml : List Int} {O : Nat → Prop} {H : Nat → Option Int}
theorem lsAt_below (h : LsAt B w V n np bb mb sb tb L su ml O H) (hB : B ≤ V.heap.size) (hb : Below V.heap.size V V') : LsAt B w V' n np bb mb sb tb L su ml O H :=
  ⟨h.ls.of_block (hb.block _ h.ls.lt), own_blkB h.ms hb, h.mln, h.sm.of_block (hb.block _ h.sm.lt), lstH_off h.td hb, h.o1, h.o2, h.o3, h.n1, h.n2, h.n3, h.ob, h.b1, h.b2, h.b3, h.bl.trans (below_le hb hB)⟩
theorem lsAt_push (h : LsAt B w V n np bb mb sb tb L su ml O H) (hB : B ≤ V.heap.size) {O' : Nat → Prop} {H' : Nat → Option Int} (hf : Fr O V V') (ht : LstH V' tb O' H') (hO : ∀ k, O' k → O k ∨ V.heap.size ≤ k) : LsAt B w V' n np bb mb sb tb L su ml O' H' := by
  have h1 := h.ls.lt
  have h2 := h.sm.lt
  have h3 := (h.ms.lt mb rfl).2
  refine ⟨h.ls.of_block (hf.2.1 _ h1 h.o1), own_blk h.ms (fun k hk => ?_), h.mln, h.sm.of_block (hf.2.1 _ h2 h.o3), ht, fun ho => (hO _ ho).elim h.o1 (by omega), fun ho => (hO _ ho).elim h.o2 (by omega), fun ho => (hO _ ho).elim h.o3 (by omega), h.n1, h.n2, h.n3, fun k hk => (hO k hk).elim (h.ob k) (by omega), h.b1, h.b2, h.b3, h.bl.trans (fr_below hf hB h.ob)⟩
  have e : mb = k := by simpa [Value.ownBlock] using hk
  subst e
  exact hf.2.1 _ h3 h.o2
theorem lstH_set {b o : Nat} {v : Value} (h : LstH V tb O H) (hn : ¬ O b) : LstH (V.setCell ⟨b, o, none⟩ v) tb O H := by
  obtain ⟨ts, h1, h2, h3⟩ := h
  refine ⟨ts, Wk.lst_off h1 (O' := (· = b)) (Wk.off_set (O := (· = b)) (p := ⟨b, o, none⟩) (Wk.off_refl _ _) (.inl rfl) _) (fun k hk e => hn (by have e : k = b := e; rw [← e]; exact hk)), h2, h3⟩
theorem lsAt_ls (h : LsAt B w V n np bb mb sb tb L su ml O H) (r : Nat) (v : Int) : LsAt B w (V.setCell ⟨bb, r, none⟩ (.int .i64 v)) n np bb mb sb tb (upZ L r v) su ml O H :=
  ⟨(h.ls.set r _).congr (fun q _ => by unfold upZ; split <;> rfl), own_set h.ms (by simp [Value.ownBlock]; exact fun e => h.n1 e.symm), h.mln, h.sm.of_block (heap_other V (fun e => h.n2 e.symm)), lstH_set h.td h.o1, h.o1, h.o2, h.o3, h.n1, h.n2, h.n3, h.ob, h.b1, h.b2, h.b3, h.bl.setCell h.b1 _⟩
theorem lsAt_sm (h : LsAt B w V n np bb mb sb tb L su ml O H) (q : Nat) (v : Int) : LsAt B w (V.setCell ⟨sb, q, none⟩ (.int .i64 v)) n np bb mb sb tb L (upZ su q v) ml O H :=
  ⟨h.ls.of_block (heap_other V h.n2), own_set h.ms (by simp [Value.ownBlock]; exact h.n3), h.mln, (h.sm.set q _).congr (fun q _ => by unfold upZ; split <;> rfl), lstH_set h.td h.o3, h.o1, h.o2, h.o3, h.n1, h.n2, h.n3, h.ob, h.b1, h.b2, h.b3, h.bl.setCell h.b3 _⟩
end
/-- Two rows were made, one of them counts. -/
structure RcM (w W : World) (np mb sb : Nat) (ml : List Int) : Prop where
  ms : W.ownsRow w.heap.size 3 1 (.slice (some ⟨mb, 0, none⟩) np np) ml.length (vints ml)
  sm : W.rowIs sb 3 np (fun _ => .int .i64 0)
  ne : mb ≠ sb
  lo : w.heap.size ≤ sb
  bl : Below w.heap.size w W
theorem rcm_a {w W3 : World} {np mb : Nat} {ml : List Int} (ho : W3.ownsRow w.heap.size 3 1 (.slice (some ⟨mb, 0, none⟩) np np) ml.length (vints ml)) (hb : Below w.heap.size w W3) : RcM w (W3.alloc (.cells (madeCells #[.int .i64 0] np) 3)) np mb W3.heap.size ml := by
  have hs := hb.size
  have h1 := (ho.lt mb rfl).2
  exact ⟨ho.alloc _, World.rowIs_made _ _ _ _, by omega, by omega, hb.alloc hs _⟩
theorem rcm_b {w W3 : World} {np mb : Nat} {ml : List Int} (ho : W3.ownsRow (w.alloc (.cells (madeCells #[.int .i64 0] np) 3)).heap.size 3 1 (.slice (some ⟨mb, 0, none⟩) np np) ml.length (vints ml)) (hb : Below (w.alloc (.cells (madeCells #[.int .i64 0] np) 3)).heap.size (w.alloc (.cells (madeCells #[.int .i64 0] np) 3)) W3) : RcM w W3 np mb w.heap.size ml := by
  have hs : (w.alloc (.cells (madeCells #[.int .i64 0] np) 3)).heap.size = w.heap.size + 1 := by simp
  have h1 := (ho.lt mb rfl).1
  have hr := World.rowIs_made w (.int .i64 0) np 3
  exact ⟨own_base ho (by omega), hr.of_block (hb.block _ (by omega)), by omega, Nat.le_refl _, ((Below.refl _ _).alloc (Nat.le_refl _) _).trans (below_le hb (by omega))⟩
/-- The productions without rules that are still to be laid in. -/
def remK (G : Gm) (k : Nat) : List Nat := ((List.range G.prods.length).drop k).filter fun q => decide (rlN G q = [])
theorem remK_step (G : Gm) (k : Nat) (hk : k < G.prods.length) : remK G k = if rlN G k = [] then k :: remK G (k + 1) else remK G (k + 1) := by
  unfold remK
  rw [List.drop_eq_getElem_cons (by simpa using hk), List.getElem_range, List.filter_cons]
  simp
theorem remK_end (G : Gm) : remK G G.prods.length = [] := by
  unfold remK
  rw [List.drop_eq_nil_of_le (by simp)]
  rfl
theorem ls_first {G : Gm} {k : Nat} {H : Nat → Option Int} (hk : k < G.prods.length) (h : LsI G (fun _ => -1) (fun q => (rlN G q).length) (kcN G) H (remK G k)) (hkc : kcN G k ≤ 65537) : LsI G (fun _ => -1) (fun q => (rlN G q).length) (kcN G) (if (rlN G k).length = 0 then pushH H (lfQ G k) (kcN G k) else H) (remK G (k + 1)) := by
  rw [remK_step G k hk] at h
  by_cases e : rlN G k = []
  · rw [if_pos e] at h
    rw [if_pos (by rw [e]; rfl)]
    have := kinv_push h (by decide)
    rw [show min (kcN G k) 65537 = kcN G k by omega] at this
    exact this
  · rw [if_neg e] at h
    rw [if_neg (fun h0 => e (List.eq_nil_of_length_eq_zero h0))]
    exact h
theorem sumL_le {L : Nat → Int} : ∀ (l : List Nat), (∀ x, L x ≤ 65537) → sumL L l ≤ 65537 * l.length
  | [], _ => by simp [sumL]
  | x :: l, h => by
    have := sumL_le l h
    have := h x
    unfold sumL
    rw [List.length_cons]
    push_cast
    split <;> omega
theorem rlN_len (G : Gm) (q : Nat) : (rlN G q).length ≤ (G.prods.getD q pd0).right.length := by unfold rlN; rw [List.length_map]; exact rulesL_len _
theorem ls_su {G : Gm} (hG : GOk G) {L mi su : Nat → Int} {H : Nat → Option Int} {rem : List Nat} (h : LsI G L mi su H rem) {q : Nat} (hq : q < G.prods.length) : 0 ≤ su q ∧ su q ≤ 10000000 := by
  have h1 := h.suE q hq
  have h2 := hG.pr _ (mem_getP hq)
  have h3 := rlN_len G q
  have h4 := sumL_le (L := L) (rlN G q) (fun x => by rcases h.lg x with h | h <;> omega)
  have h5 := (sumL_ge L (rlN G q)).1
  have h6 := kcN_nn G q
  have h7 : kcN G q ≤ 64 := by unfold kcN; omega
  have h8 : (65537 : Int) * (rlN G q).length ≤ 65537 * 64 := by omega
  omega
theorem own_raise {w : World} {B B' e s n : Nat} {v : Value} {xs : List Value} (h : w.ownsRow B e s v n xs) (hB : ∀ k, v.ownBlock = some k → B' ≤ k) : w.ownsRow B' e s v n xs := by
  refine ⟨h.1, ?_⟩
  rcases h.2 with h0 | ⟨g, cap, cur, hv, h1, rest⟩
  · exact .inl h0
  · exact .inr ⟨g, cap, cur, hv, hB g (by rw [hv]; rfl), rest⟩
/-- The rows that readyBy told of lie apart from the list. -/
structure RyAt (S : Nat) (V : World) (u : Value) (l : List Nat) (O : Nat → Prop) : Prop where
  own : V.ownsRow S 3 1 u (castL l).length (vints (castL l))
  no : ∀ k, u.ownBlock = some k → ¬ O k
theorem lsAt_rdy {B M : Nat} {w V W : World} {n np bb mb sb tb : Nat} {L su : Nat → Int} {ml : List Int} {O : Nat → Prop} {H : Nat → Option Int} {P : List Nat} {u : Value} (h : LsAt B w V n np bb mb sb tb L su ml O H) (hB : B ≤ V.heap.size) (hr : RdI M V (.slice (some ⟨mb, 0, none⟩) np np) ml P u W) :
    ∃ ml', atZ ml' = dcM P (atZ ml) ∧ LsAt B w W n np bb mb sb tb L su ml' O H ∧ RyAt V.heap.size W u (dcR P (atZ ml)) O := by
  obtain ⟨hrd, ⟨ml', hl', ha', hms'⟩, hf⟩ := hr
  have hne : ∀ k, (Value.slice (some ⟨mb, 0, none⟩) np np).ownBlock = some k → k = mb := fun k hk => by
    have e : mb = k := by simpa [Value.ownBlock] using hk
    exact e.symm
  have hb1 := h.ls.lt
  have hb2 := h.sm.lt
  refine ⟨ml', ha', ⟨h.ls.of_block (hf.2.1 _ hb1 (fun e => h.n1 (hne _ e))), own_raise hms' (fun k hk => by rw [hne k hk]; exact h.b2), hl'.trans h.mln, h.sm.of_block (hf.2.1 _ hb2 (fun e => h.n3 (hne _ e).symm)), ?_, h.o1, h.o2, h.o3, h.n1, h.n2, h.n3, h.ob, h.b1, h.b2, h.b3, h.bl.trans (fr_below hf hB (fun k hk => by rw [hne k hk]; exact h.b2))⟩, ⟨hrd, fun k hk ho => ?_⟩⟩
  · obtain ⟨ts, h1, h2, h3⟩ := h.td
    exact ⟨ts, Wk.lst_off h1 (off_of_fr hf) (fun k hk e => h.o2 (by rw [← hne k e]; exact hk)), h2, h3⟩
  · obtain ⟨ts, h1, h2, h3⟩ := h.td
    have e1 := h1.lt k ho
    have e2 := (hrd.lt k hk).1
    omega
theorem ryAt_push {S : Nat} {V V' : World} {u : Value} {l : List Nat} {O O' : Nat → Prop} (h : RyAt S V u l O) (hf : Fr O V V') (hO : ∀ k, O' k → O k ∨ V.heap.size ≤ k) : RyAt S V' u l O' :=
  ⟨own_blk h.own (fun k hk => hf.2.1 _ (h.own.lt k hk).2 (h.no k hk)), fun k hk ho => (hO k ho).elim (h.no k hk) (by have := (h.own.lt k hk).2; omega)⟩
theorem ryAt_below {S : Nat} {V V' : World} {u : Value} {l : List Nat} {O : Nat → Prop} (h : RyAt S V u l O) (hb : Below V.heap.size V V') : RyAt S V' u l O :=
  ⟨own_blk h.own (fun k hk => hb.block _ (h.own.lt k hk).2), h.no⟩
theorem ls_mi {G : Gm} (hG : GOk G) {L su : Nat → Int} {ml : List Int} {H : Nat → Option Int} {rem : List Nat} (h : LsI G L (atZ ml) su H rem) (hl : ml.length = G.prods.length) : ∀ q, -1048576 ≤ atZ ml q ∧ atZ ml q ≤ 1048576 := fun q => by
  by_cases hq : q < G.prods.length
  · rw [h.miE q hq]
    have h2 : (rlN G q).countP (fd L) ≤ (rlN G q).length := List.countP_le_length
    have h3 := rlN_len G q
    have h5 := hG.pr _ (mem_getP hq)
    omega
  · have : atZ ml q = 0 := by unfold atZ; rw [List.getD_eq_getElem?_getD, List.getElem?_eq_none (by omega)]; rfl
    omega
end Go.Proofs.YtagohbpbgjelaaaGreatDoor

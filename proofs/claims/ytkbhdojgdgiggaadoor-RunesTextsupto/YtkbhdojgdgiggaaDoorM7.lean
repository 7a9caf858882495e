/- Plain mathematics on cuts, and on what is made of sets piece by piece. -/
import Derived.Test.YtkbhdojgdgiggaaDoorM5
namespace Go.Proofs.YtkbhdojgdgiggaaDoor

/-- A rising row with one more. -/
def withL : List Int → Int → List Int
  | [], r => [r]
  | c :: l, r => if c < r then c :: withL l r else if c = r then c :: l else r :: c :: l
theorem withL_eq (l : List Int) (r : Int) (n : Nat) (hn : n ≤ l.length) (h1 : ∀ j, j < n → l.getD j 0 < r) (h2 : n < l.length → ¬ l.getD n 0 < r) :
    withL l r = if n < l.length ∧ l.getD n 0 = r then l else l.take n ++ r :: l.drop n := by
  induction l generalizing n with
  | nil => have : n = 0 := by simpa using hn
           subst this; simp [withL]
  | cons c l ih =>
    cases n with
    | zero =>
      have hc : ¬ c < r := by simpa using h2 (by simp)
      unfold withL
      rw [if_neg hc]
      by_cases e : c = r <;> simp [e]
    | succ n =>
      have hc : c < r := by simpa using h1 0 (by omega)
      have i := ih n (by simpa using hn) (fun j hj => by simpa using h1 (j + 1) (by omega)) (fun h => by simpa using h2 (by simpa using h))
      unfold withL
      rw [if_pos hc, i]
      by_cases e : n < l.length ∧ l.getD n 0 = r
      · rw [if_pos e, if_pos (by simpa using e)]
      · rw [if_neg e, if_neg (by simpa using e)]; simp
theorem mem_withL (l : List Int) (r c : Int) : c ∈ withL l r ↔ c = r ∨ c ∈ l := by
  induction l with
  | nil => simp [withL]
  | cons d l ih =>
    unfold withL
    split
    · rw [List.mem_cons, ih, List.mem_cons]
      constructor
      · rintro (h | h | h) <;> simp [h]
      · rintro (h | h | h) <;> simp [h]
    · split
      · next h => subst h; simp
      · simp
theorem withL_length (l : List Int) (r : Int) : (withL l r).length ≤ l.length + 1 := by
  induction l with
  | nil => simp [withL]
  | cons d l ih =>
    unfold withL
    split
    · simp; exact ih
    · split <;> simp
/-- Runes that rise, each once. -/
def SUp : Int → List Int → Prop
  | _, [] => True
  | lo, c :: l => lo ≤ c ∧ c ≤ 1114111 ∧ SUp (c + 1) l
theorem sup_mono {lo lo' : Int} {l : List Int} (h : SUp lo l) (hl : lo' ≤ lo) : SUp lo' l := by
  cases l with
  | nil => trivial
  | cons x l => exact ⟨by have := h.1; omega, h.2⟩
theorem sup_mem {lo : Int} {l : List Int} (h : SUp lo l) {c : Int} (hc : c ∈ l) : lo ≤ c ∧ c ≤ 1114111 := by
  induction l generalizing lo with
  | nil => simp at hc
  | cons d l ih =>
    obtain ⟨h1, h2, h3⟩ := h
    rw [List.mem_cons] at hc
    rcases hc with rfl | hc
    · exact ⟨h1, h2⟩
    · have := ih h3 hc; omega
theorem sup_withL {lo : Int} {l : List Int} (h : SUp lo l) {r : Int} (h1 : lo ≤ r) (h2 : r ≤ 1114111) : SUp lo (withL l r) := by
  induction l generalizing lo with
  | nil => exact ⟨h1, h2, trivial⟩
  | cons d l ih =>
    obtain ⟨a, b, c⟩ := h
    unfold withL
    split
    · exact ⟨a, b, ih c (by omega)⟩
    · split
      · exact ⟨a, b, c⟩
      · exact ⟨h1, h2, by omega, b, c⟩
/-- One range's beginnings. -/
def stepL (acc : List Int) (x : Rng) : List Int := if x.2 < 1114111 then withL (withL acc x.1) (x.2 + 1) else withL acc x.1
def startsL (ls : List (List Rng)) : List Int := ls.foldl (fun acc s => s.foldl stepL acc) [0]
/-- What cuts know of the ranges so far. -/
def Cutting (cuts : List Int) (s : List Rng) : Prop := ∀ x ∈ s, x.1 ∈ cuts ∧ (x.2 < 1114111 → x.2 + 1 ∈ cuts)
theorem step_inv {acc : List Int} (h : SUp 0 acc) (h0 : (0 : Int) ∈ acc) {x : Rng} (hx : isR x = true) : SUp 0 (stepL acc x) ∧ (0 : Int) ∈ stepL acc x ∧ (∀ c ∈ acc, c ∈ stepL acc x) ∧ Cutting (stepL acc x) [x] ∧ (stepL acc x).length ≤ acc.length + 2 := by
  have hr : 0 ≤ x.1 ∧ x.1 ≤ x.2 ∧ x.2 ≤ 1114111 := by simpa [isR] using hx
  have l1 := withL_length acc x.1
  have l2 := withL_length (withL acc x.1) (x.2 + 1)
  unfold stepL
  split
  · refine ⟨sup_withL (sup_withL h hr.1 (by omega)) (by omega) (by omega), ?_, fun c hc => ?_, ?_, by omega⟩
    · rw [mem_withL, mem_withL]; simp [h0]
    · rw [mem_withL, mem_withL]; simp [hc]
    · intro y hy
      simp at hy; subst hy
      exact ⟨by rw [mem_withL, mem_withL]; simp, fun _ => by rw [mem_withL]; simp⟩
  · refine ⟨sup_withL h hr.1 (by omega), ?_, fun c hc => ?_, ?_, by omega⟩
    · rw [mem_withL]; simp [h0]
    · rw [mem_withL]; simp [hc]
    · intro y hy
      simp at hy; subst hy
      exact ⟨by rw [mem_withL]; simp, fun h => by omega⟩
theorem steps_inv (s : List Rng) (acc : List Int) (h : SUp 0 acc) (h0 : (0 : Int) ∈ acc) (hR : ∀ x ∈ s, isR x = true) : SUp 0 (s.foldl stepL acc) ∧ (0 : Int) ∈ s.foldl stepL acc ∧ (∀ c ∈ acc, c ∈ s.foldl stepL acc) ∧ Cutting (s.foldl stepL acc) s ∧ (s.foldl stepL acc).length ≤ acc.length + 2 * s.length := by
  induction s generalizing acc with
  | nil => exact ⟨h, h0, fun c hc => hc, fun x hx => by simp at hx, by simp⟩
  | cons x s ih =>
    have a := step_inv h h0 (hR x (by simp))
    have b := ih (stepL acc x) a.1 a.2.1 (fun y hy => hR y (by simp [hy]))
    rw [List.foldl_cons]
    refine ⟨b.1, b.2.1, fun c hc => b.2.2.1 c (a.2.2.1 c hc), fun y hy => ?_, by have := a.2.2.2.2; have := b.2.2.2.2; simp only [List.length_cons]; omega⟩
    rw [List.mem_cons] at hy
    rcases hy with rfl | hy
    · have := a.2.2.2.1 y (by simp)
      exact ⟨b.2.2.1 _ this.1, fun h => b.2.2.1 _ (this.2 h)⟩
    · exact b.2.2.2.1 y hy
theorem starts_inv (ls : List (List Rng)) (acc : List Int) (h : SUp 0 acc) (h0 : (0 : Int) ∈ acc) (hR : ∀ s ∈ ls, ∀ x ∈ s, isR x = true) : SUp 0 (ls.foldl (fun acc s => s.foldl stepL acc) acc) ∧ (0 : Int) ∈ ls.foldl (fun acc s => s.foldl stepL acc) acc ∧ (∀ c ∈ acc, c ∈ ls.foldl (fun acc s => s.foldl stepL acc) acc) ∧ ∀ s ∈ ls, Cutting (ls.foldl (fun acc s => s.foldl stepL acc) acc) s := by
  induction ls generalizing acc with
  | nil => exact ⟨h, h0, fun c hc => hc, fun x hx => by simp at hx⟩
  | cons s ls ih =>
    have a := steps_inv s acc h h0 (hR s (by simp))
    have b := ih (s.foldl stepL acc) a.1 a.2.1 (fun y hy => hR y (by simp [hy]))
    rw [List.foldl_cons]
    refine ⟨b.1, b.2.1, fun c hc => b.2.2.1 c (a.2.2.1 c hc), fun y hy => ?_⟩
    rw [List.mem_cons] at hy
    rcases hy with rfl | hy
    · intro x hx
      have := a.2.2.2.1 x hx
      exact ⟨b.2.2.1 _ this.1, fun h => b.2.2.1 _ (this.2 h)⟩
    · exact b.2.2.2 y hy
/-- A test that is alike between neighbouring cuts. -/
def ConstOn (P : Int → Bool) : List Int → Prop
  | [] => True
  | [c] => ∀ r, c ≤ r → r ≤ 1114111 → P r = P c
  | c :: d :: l => (∀ r, c ≤ r → r < d → P r = P c) ∧ ConstOn P (d :: l)
theorem has_alike {s : List Rng} {c r : Int} (h : c ≤ r) (h1 : ∀ x ∈ s, ¬ (c < x.1 ∧ x.1 ≤ r)) (h2 : ∀ x ∈ s, ¬ (c ≤ x.2 ∧ x.2 < r)) : hasB s r = hasB s c := by
  induction s with
  | nil => rfl
  | cons x s ih =>
    rw [hasB_cons, hasB_cons, ih (fun y hy => h1 y (by simp [hy])) (fun y hy => h2 y (by simp [hy]))]
    have a := h1 x (by simp)
    have b := h2 x (by simp)
    congr 1
    rw [Bool.eq_iff_iff]; simp; omega
theorem const_has {ls : List (List Rng)} {P : Int → Bool} (hP : ∀ c r, (∀ s ∈ ls, hasB s r = hasB s c) → P r = P c) (c : Int) (l : List Int) (hs : SUp c (c :: l))
    (hb : ∀ s ∈ ls, ∀ x ∈ s, (c < x.1 → x.1 ∈ l) ∧ (c < x.2 + 1 → x.2 < 1114111 → x.2 + 1 ∈ l)) : ConstOn P (c :: l) := by
  induction l generalizing c with
  | nil =>
    intro r h1 h2
    refine hP c r fun s hs => has_alike h1 (fun x hx hc => ?_) (fun x hx hc => ?_)
    · have := (hb s hs x hx).1 hc.1; simp at this
    · have := (hb s hs x hx).2 (by omega) (by omega); simp at this
  | cons d l ih =>
    have hd : ∀ b ∈ d :: l, d ≤ b := fun b hb => by
      have := sup_mem (l := d :: l) (lo := d) ⟨Int.le_refl _, hs.2.2.2.1, hs.2.2.2.2⟩ hb
      exact this.1
    refine ⟨fun r h1 h2 => ?_, ih d ⟨Int.le_refl _, hs.2.2.2.1, hs.2.2.2.2⟩ fun s hs' x hx => ⟨fun h => ?_, fun h h' => ?_⟩⟩
    · refine hP c r fun s hs1 => has_alike h1 (fun x hx hc => ?_) (fun x hx hc => ?_)
      · have := hd _ ((hb s hs1 x hx).1 hc.1); omega
      · by_cases hm : x.2 < 1114111
        · have := hd _ ((hb s hs1 x hx).2 (by omega) hm); omega
        · have := hs.2.2.2.1; omega
    · have hcd := hs.2.2.1
      have := (hb s hs' x hx).1 (by omega)
      rw [List.mem_cons] at this
      rcases this with e | e
      · omega
      · exact e
    · have hcd := hs.2.2.1
      have := (hb s hs' x hx).2 (by omega) h'
      rw [List.mem_cons] at this
      rcases this with e | e
      · omega
      · exact e
/-- One piece more. -/
def madeStep (acc : List Rng) (c to : Int) : List Rng := match acc.getLast? with
  | some y => if y.2 + 1 = c then acc.dropLast ++ [(y.1, to)] else acc ++ [(c, to)]
  | none => acc ++ [(c, to)]
theorem madeStep_nil (c to : Int) : madeStep [] c to = [(c, to)] := rfl
theorem madeStep_join (pre : List Rng) (y : Rng) (c to : Int) (h : y.2 + 1 = c) : madeStep (pre ++ [y]) c to = pre ++ [(y.1, to)] := by simp [madeStep, h]
theorem madeStep_new (pre : List Rng) (y : Rng) (c to : Int) (h : ¬ y.2 + 1 = c) : madeStep (pre ++ [y]) c to = pre ++ [y] ++ [(c, to)] := by simp [madeStep, h]
/-- Where the piece ends whose next cut is the row's first. -/
def pieceEnd : List Int → Int
  | [] => 1114111
  | d :: _ => d - 1
def madeGo (P : Int → Bool) : List Int → List Rng → List Rng
  | [], acc => acc
  | c :: l, acc => madeGo P l (if P c then madeStep acc c (pieceEnd l) else acc)
def madeL (P : Int → Bool) (cuts : List Int) : List Rng := madeGo P cuts []
theorem made_step (P : Int → Bool) (acc : List Rng) (c to : Int) (hc : 0 ≤ c) (hto : c ≤ to) (hm : to ≤ 1114111) (hup : Up 0 acc) (hhas : ∀ r, hasB acc r = (decide (0 ≤ r ∧ r < c) && P r)) (hp : ∀ r, c ≤ r → r ≤ to → P r = P c) :
    Up 0 (if P c then madeStep acc c to else acc) ∧ ∀ r, hasB (if P c then madeStep acc c to else acc) r = (decide (0 ≤ r ∧ r < to + 1) && P r) := by
  cases hpc : P c
  · refine ⟨hup, fun r => ?_⟩
    show hasB acc r = _
    rw [hhas]
    by_cases h : c ≤ r ∧ r ≤ to
    · rw [hp r h.1 h.2, hpc]; simp
    · congr 1; rw [Bool.eq_iff_iff]; simp; omega
  · have old : ∀ r, hasB acc r = true → r < c := fun r hr => by rw [hhas] at hr; simp at hr; omega
    have fin : ∀ r, (hasB acc r || decide (c ≤ r ∧ r ≤ to)) = (decide (0 ≤ r ∧ r < to + 1) && P r) := fun r => by
      rw [hhas]
      by_cases h : c ≤ r ∧ r ≤ to
      · rw [hp r h.1 h.2, hpc]
        have : 0 ≤ r ∧ r < to + 1 := by omega
        simp [h, this]
      · rw [Bool.eq_iff_iff]; simp
        constructor
        · rintro (h' | h')
          · exact ⟨by omega, h'.2⟩
          · omega
        · rintro h'
          exact .inl ⟨by omega, h'.2⟩
    simp only [if_true]
    rcases List.eq_nil_or_concat acc with rfl | ⟨pre, z, rfl⟩
    · rw [madeStep_nil]
      refine ⟨⟨hc, hto, hm, trivial⟩, fun r => ?_⟩
      rw [← fin, hasB_one, hasB_nil, Bool.false_or]
    · rw [List.concat_eq_append] at *
      have hl := up_last hup
      have hz : z.2 < c := old z.2 (by rw [hasB_append, hasB_one]; simp; right; omega)
      by_cases hj : z.2 + 1 = c
      · rw [madeStep_join _ _ _ _ hj]
        refine ⟨up_grow hup (by omega) hm, fun r => ?_⟩
        rw [← fin, hasB_append, hasB_append, hasB_one, hasB_one, Bool.or_assoc]
        congr 1
        rw [Bool.eq_iff_iff]; simp; omega
      · rw [madeStep_new _ _ _ _ hj]
        refine ⟨up_snoc hup (by simp only; omega) hto hm, fun r => ?_⟩
        rw [← fin, hasB_append (pre ++ [z]), hasB_one]
theorem made_inv (P : Int → Bool) (cuts : List Int) (pos : Int) (acc : List Rng) (hpos : 0 ≤ pos) (hs : SUp pos cuts) (hfirst : (∀ c l, cuts = c :: l → c = pos) ∧ (cuts = [] → pos = 1114112)) (hconst : ConstOn P cuts) (hup : Up 0 acc) (hhas : ∀ r, hasB acc r = (decide (0 ≤ r ∧ r < pos) && P r)) :
    Up 0 (madeGo P cuts acc) ∧ ∀ r, hasB (madeGo P cuts acc) r = (decide (0 ≤ r ∧ r ≤ 1114111) && P r) := by
  induction cuts generalizing pos acc with
  | nil =>
    refine ⟨hup, fun r => ?_⟩
    show hasB acc r = _
    rw [hhas, hfirst.2 rfl]
    congr 1; rw [Bool.eq_iff_iff]; simp; omega
  | cons c l ih =>
    obtain rfl := hfirst.1 c l rfl
    cases l with
    | nil =>
      have st := made_step P acc c 1114111 hpos hs.2.1 (Int.le_refl _) hup hhas (fun r h1 h2 => hconst r h1 h2)
      exact ih 1114112 _ (by omega) trivial ⟨fun c l h => (by cases h), fun _ => rfl⟩ trivial st.1 st.2
    | cons d l =>
      have st := made_step P acc c (d - 1) hpos (by have := hs.2.2.1; omega) (by have := hs.2.2.2.1; omega) hup hhas (fun r h1 h2 => hconst.1 r h1 (by omega))
      exact ih d _ (by have := hs.2.2.1; omega) ⟨Int.le_refl _, hs.2.2.2⟩ ⟨fun c' l' h => by cases h; rfl, fun h => by cases h⟩ hconst.2 st.1 (fun r => by rw [show madeStep acc c (pieceEnd (d :: l)) = madeStep acc c (d - 1) from rfl, st.2 r, Int.sub_add_cancel])
theorem sup_zero {l : List Int} (h : SUp 0 l) (h0 : (0 : Int) ∈ l) : ∃ m, l = 0 :: m := by
  cases l with
  | nil => simp at h0
  | cons c m =>
    rw [List.mem_cons] at h0
    rcases h0 with e | e
    · exact ⟨m, by rw [← e]⟩
    · have := (sup_mem h.2.2 e).1; have := h.1; omega
/-- What is made of sets: it rises, and it has what it should. -/
theorem madeL_inv (ls : List (List Rng)) (hR : ∀ s ∈ ls, ∀ x ∈ s, isR x = true) (P : Int → Bool) (hP : ∀ c r, (∀ s ∈ ls, hasB s r = hasB s c) → P r = P c) :
    Up 0 (madeL P (startsL ls)) ∧ ∀ r, hasB (madeL P (startsL ls)) r = (decide (0 ≤ r ∧ r ≤ 1114111) && P r) := by
  have h := starts_inv ls [0] ⟨Int.le_refl _, by omega, trivial⟩ (by simp) hR
  change SUp 0 (startsL ls) ∧ (0 : Int) ∈ startsL ls ∧ _ ∧ ∀ s ∈ ls, Cutting (startsL ls) s at h
  obtain ⟨m, hm⟩ := sup_zero h.1 h.2.1
  have hc : ConstOn P (startsL ls) := by
    rw [hm]
    refine const_has (ls := ls) hP 0 m (by rw [← hm]; exact h.1) fun s hs x hx => ?_
    have hcut := h.2.2.2 s hs x hx
    rw [hm] at hcut
    refine ⟨fun hlt => ?_, fun hlt hmx => ?_⟩
    · have := hcut.1; rw [List.mem_cons] at this; rcases this with e | e
      · omega
      · exact e
    · have := hcut.2 hmx; rw [List.mem_cons] at this; rcases this with e | e
      · omega
      · exact e
  exact made_inv P (startsL ls) 0 [] (Int.le_refl _) h.1 ⟨fun c l e => by rw [hm] at e; cases e; rfl, fun e => by rw [hm] at e; cases e⟩ hc trivial (fun r => by
    rw [hasB_nil]
    have : ¬ (0 ≤ r ∧ r < 0) := by omega
    simp [this])
end Go.Proofs.YtkbhdojgdgiggaaDoor

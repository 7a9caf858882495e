/- Heaps: what goes up and down leaves a heap. -/
import Derived.Test.YtdpphjedjhjdgaaL8
namespace Go.Proofs.Ytdpphjedjhjdgaa

/-- Not above. -/
def leT (a b : Tk) : Prop := lessT b a = false
theorem leT_iff (a b : Tk) : leT a b ↔ a.wt < b.wt ∨ a.wt = b.wt ∧ a.n ≤ b.n := by
  unfold leT lessT
  rw [Bool.or_eq_false_iff, Bool.and_eq_false_iff]
  simp only [decide_eq_false_iff_not]
  omega
theorem lessT_iff (a b : Tk) : lessT a b = true ↔ a.wt < b.wt ∨ a.wt = b.wt ∧ a.n < b.n := by
  unfold lessT
  rw [Bool.or_eq_true, Bool.and_eq_true]
  simp only [decide_eq_true_eq]
theorem leT_refl (a : Tk) : leT a a := (leT_iff a a).2 (by omega)
theorem leT_trans {a b c : Tk} (h : leT a b) (k : leT b c) : leT a c := by rw [leT_iff] at *; omega
theorem leT_of_less {a b : Tk} (h : lessT a b = true) : leT a b := by rw [lessT_iff] at h; rw [leT_iff]; omega
theorem leT_not {a b : Tk} (h : lessT a b = false) : leT b a := h

def par (i : Nat) : Nat := (i - 1) / 2
theorem par_lt {i : Nat} (h : 0 < i) : par i < i := by unfold par; omega
/-- The first so many are a heap. -/
def HeapN (ts : List Tk) (n : Nat) : Prop := ∀ i, 0 < i → i < n → leT (ts.getD (par i) tk0) (ts.getD i tk0)
/-- A heap but at j, upward. -/
def UpInv (ts : List Tk) (n j : Nat) : Prop := (∀ i, 0 < i → i < n → i ≠ j → leT (ts.getD (par i) tk0) (ts.getD i tk0)) ∧ (∀ i, 0 < i → i < n → par i = j → 0 < j → leT (ts.getD (par j) tk0) (ts.getD i tk0))
/-- A heap but beneath i. -/
def DownInv (ts : List Tk) (n j : Nat) : Prop := (∀ i, 0 < i → i < n → par i ≠ j → leT (ts.getD (par i) tk0) (ts.getD i tk0)) ∧ (∀ i, 0 < i → i < n → par i = j → 0 < j → leT (ts.getD (par j) tk0) (ts.getD i tk0))

theorem sw (ts : List Tk) (i j k : Nat) (hk : k < ts.length) : (swapT ts i j).getD k tk0 = if k = j then ts.getD i tk0 else if k = i then ts.getD j tk0 else ts.getD k tk0 := swapT_at ts i j k hk

theorem up_step {ts : List Tk} {n j : Nat} (hn : n ≤ ts.length) (hj : j < n) (h0 : 0 < j) (h : UpInv ts n j) (hl : lessT (ts.getD j tk0) (ts.getD (par j) tk0) = true) : UpInv (swapT ts (par j) j) n (par j) := by
  have hp := par_lt h0
  refine ⟨fun i hi hin hne => ?_, fun i hi hin hpi hp0 => ?_⟩
  · rw [sw ts (par j) j (par i) (by have := par_lt hi; omega), sw ts (par j) j i (by omega)]
    by_cases h1 : i = j
    · subst h1
      rw [if_neg (by omega), if_pos rfl, if_pos rfl]
      exact leT_of_less hl
    · rw [if_neg h1, if_neg hne]
      by_cases h2 : par i = j
      · rw [if_pos h2]
        exact h.2 i hi hin h2 h0
      · rw [if_neg h2]
        by_cases h3 : par i = par j
        · rw [if_pos h3]
          have := h.1 i hi hin h1
          rw [h3] at this
          exact leT_trans (leT_of_less hl) this
        · rw [if_neg h3]
          exact h.1 i hi hin h1
  · rw [sw ts (par j) j (par (par j)) (by have := par_lt hp0; omega), sw ts (par j) j i (by omega)]
    have hpp := par_lt hp0
    rw [if_neg (by omega), if_neg (by omega)]
    have hup := h.1 (par j) hp0 (by omega) (by omega)
    by_cases h1 : i = j
    · subst h1
      rw [if_pos rfl]
      exact hup
    · rw [if_neg h1, if_neg (by have := par_lt hi; omega)]
      have := h.1 i hi hin h1
      rw [hpi] at this
      exact leT_trans hup this
theorem up_done {ts : List Tk} {n j : Nat} (h : UpInv ts n j) (hd : j = 0 ∨ lessT (ts.getD j tk0) (ts.getD (par j) tk0) = false) : HeapN ts n := by
  intro i hi hin
  by_cases h1 : i = j
  · subst h1
    rcases hd with rfl | hd
    · omega
    · exact leT_not hd
  · exact h.1 i hi hin h1
theorem up_heap (j : Nat) : ∀ (ts : List Tk) (n : Nat), n ≤ ts.length → j < n → UpInv ts n j → HeapN (upL ts j) n := by
  induction j using Nat.strongRecOn with
  | ind j ih =>
    intro ts n hn hj h
    rw [upL_eq]
    by_cases h0 : j = 0
    · rw [if_pos h0]; exact up_done h (.inl h0)
    · rw [if_neg h0]
      cases hl : lessT (ts.getD j tk0) (ts.getD ((j - 1) / 2) tk0)
      · exact up_done h (.inr hl)
      · exact ih ((j - 1) / 2) (by omega) _ n (by rw [swapT_length]; exact hn) (by omega) (up_step hn hj (by omega) h hl)

theorem kid_le {ts : List Tk} {n i : Nat} (h : 2 * i + 1 < n) : par (kidL ts n i) = i ∧ 0 < kidL ts n i ∧ kidL ts n i < n ∧ i < kidL ts n i ∧ ∀ k, 0 < k → k < n → par k = i → leT (ts.getD (kidL ts n i) tk0) (ts.getD k tk0) := by
  have hc := kidL_cases ts n i
  refine ⟨by unfold par; omega, by omega, by omega, by omega, fun k hk hkn hp => ?_⟩
  have hk2 : k = 2 * i + 1 ∨ k = 2 * i + 2 := by unfold par at hp; omega
  unfold kidL
  split
  · rename_i hq
    rcases hk2 with rfl | rfl
    · exact leT_of_less hq.2
    · exact leT_refl _
  · rename_i hq
    rcases hk2 with rfl | rfl
    · exact leT_refl _
    · cases hb : lessT (ts.getD (2 * i + 2) tk0) (ts.getD (2 * i + 1) tk0)
      · exact leT_not hb
      · exact absurd ⟨hkn, hb⟩ hq
theorem down_step {ts : List Tk} {n i : Nat} (hn : n ≤ ts.length) (hi : 2 * i + 1 < n) (h : DownInv ts n i) (hl : lessT (ts.getD (kidL ts n i) tk0) (ts.getD i tk0) = true) : DownInv (swapT ts i (kidL ts n i)) n (kidL ts n i) := by
  obtain ⟨k1, k2, k3, k4, k5⟩ := kid_le (ts := ts) hi
  generalize kidL ts n i = c at *
  refine ⟨fun k hk hkn hne => ?_, fun k hk hkn hpk _ => ?_⟩
  · have hpl := par_lt hk
    rw [sw ts i c (par k) (by omega), sw ts i c k (by omega), if_neg hne]
    by_cases h1 : k = c
    · subst h1
      rw [if_pos k1, if_pos rfl]
      exact leT_of_less hl
    · rw [if_neg h1]
      by_cases h2 : k = i
      · subst h2
        rw [if_neg (by omega), if_pos rfl]
        exact h.2 c k2 k3 k1 hk
      · rw [if_neg h2]
        by_cases h3 : par k = i
        · rw [if_pos h3]
          exact k5 k hk hkn h3
        · rw [if_neg h3]
          exact h.1 k hk hkn h3
  · have hpl := par_lt hk
    rw [k1, sw ts i c i (by omega), sw ts i c k (by omega), if_neg (by omega), if_pos rfl, if_neg (by omega), if_neg (by omega)]
    have := h.1 k hk hkn (by omega)
    rw [hpk] at this
    exact this
theorem down_done {ts : List Tk} {n i : Nat} (h : DownInv ts n i) (hd : ¬ 2 * i + 1 < n ∨ lessT (ts.getD (kidL ts n i) tk0) (ts.getD i tk0) = false) : HeapN ts n := by
  intro k hk hkn
  by_cases h1 : par k = i
  · have h2 : 2 * i + 1 < n := by unfold par at h1; omega
    rcases hd with hd | hd
    · exact absurd h2 hd
    · rw [h1]
      exact leT_trans (leT_not hd) ((kid_le h2).2.2.2.2 k hk hkn h1)
  · exact h.1 k hk hkn h1
theorem down_heap (f : Nat) : ∀ (ts : List Tk) (n i : Nat), n - i ≤ f → n ≤ ts.length → DownInv ts n i → HeapN (downL ts n i).1 n := by
  induction f with
  | zero =>
    intro ts n i hf hn h
    rw [downL_eq, if_neg (by omega)]
    exact down_done h (.inl (by omega))
  | succ f ih =>
    intro ts n i hf hn h
    rw [downL_eq]
    by_cases h1 : 2 * i + 1 < n
    · rw [if_pos h1]
      cases hl : lessT (ts.getD (kidL ts n i) tk0) (ts.getD i tk0)
      · exact down_done h (.inr hl)
      · have hk := kid_le (ts := ts) h1
        exact ih _ n _ (by omega) (by rw [swapT_length]; exact hn) (down_step hn h1 h hl)
    · rw [if_neg h1]
      exact down_done h (.inl h1)

/-- What goes up or down is there still; what stands behind is left alone. -/
theorem upF_perm (f : Nat) : ∀ (ts : List Tk) (j : Nat), j < ts.length → (upF f ts j).Perm ts := by
  induction f with
  | zero => intro ts j _; exact List.Perm.refl _
  | succ f ih =>
    intro ts j hj
    show (if j = 0 then ts else if lessT (ts.getD j tk0) (ts.getD ((j - 1) / 2) tk0) then upF f (swapT ts ((j - 1) / 2) j) ((j - 1) / 2) else ts).Perm ts
    split
    · exact List.Perm.refl _
    · split
      · exact (ih _ _ (by rw [swapT_length]; omega)).trans (swapT_perm ts _ _ (by omega) hj)
      · exact List.Perm.refl _
theorem upL_perm (ts : List Tk) (j : Nat) (hj : j < ts.length) : (upL ts j).Perm ts := upF_perm _ ts j hj
theorem downF_keeps (f : Nat) : ∀ (ts : List Tk) (n i : Nat), n ≤ ts.length → i < ts.length → (downF f ts n i).1.Perm ts ∧ ∀ k, n ≤ k → k < ts.length → i < n → (downF f ts n i).1.getD k tk0 = ts.getD k tk0 := by
  induction f with
  | zero => intro ts n i _ _; exact ⟨List.Perm.refl _, fun _ _ _ _ => rfl⟩
  | succ f ih =>
    intro ts n i hn hi
    show (if 2 * i + 1 < n then (if lessT (ts.getD (kidL ts n i) tk0) (ts.getD i tk0) then downF f (swapT ts i (kidL ts n i)) n (kidL ts n i) else (ts, i)) else (ts, i)).1.Perm ts ∧ _
    by_cases h1 : 2 * i + 1 < n
    · obtain ⟨-, -, k3, k4, -⟩ := kid_le (ts := ts) h1
      have e : (downF (f + 1) ts n i) = (if 2 * i + 1 < n then (if lessT (ts.getD (kidL ts n i) tk0) (ts.getD i tk0) then downF f (swapT ts i (kidL ts n i)) n (kidL ts n i) else (ts, i)) else (ts, i)) := rfl
      rw [e, if_pos h1]
      cases hl : lessT (ts.getD (kidL ts n i) tk0) (ts.getD i tk0)
      · exact ⟨List.Perm.refl _, fun _ _ _ _ => rfl⟩
      · obtain ⟨p1, p2⟩ := ih (swapT ts i (kidL ts n i)) n (kidL ts n i) (by rw [swapT_length]; exact hn) (by rw [swapT_length]; omega)
        refine ⟨p1.trans (swapT_perm ts _ _ hi (by omega)), fun k hk hkl hin => ?_⟩
        refine (p2 k hk (by rw [swapT_length]; exact hkl) k3).trans ?_
        rw [sw ts i _ k hkl, if_neg (by omega), if_neg (by omega)]
    · have e : (downF (f + 1) ts n i) = (if 2 * i + 1 < n then (if lessT (ts.getD (kidL ts n i) tk0) (ts.getD i tk0) then downF f (swapT ts i (kidL ts n i)) n (kidL ts n i) else (ts, i)) else (ts, i)) := rfl
      rw [e, if_neg h1]
      exact ⟨List.Perm.refl _, fun _ _ _ _ => rfl⟩

/-- The first of a heap is the least. -/
theorem heap_min {ts : List Tk} {n : Nat} (h : HeapN ts n) : ∀ i, i < n → leT (ts.getD 0 tk0) (ts.getD i tk0) := by
  intro i
  induction i using Nat.strongRecOn with
  | ind i ih =>
    intro hi
    by_cases h0 : i = 0
    · subst h0; exact leT_refl _
    · have hp := par_lt (i := i) (by omega)
      exact leT_trans (ih (par i) hp (by omega)) (h i (by omega) hi)

theorem heapN_ext {a b : List Tk} {n : Nat} (h : HeapN a n) (he : ∀ i, i < n → a.getD i tk0 = b.getD i tk0) : HeapN b n := fun i hi hin => by
  rw [← he i hin, ← he (par i) (by have := par_lt hi; omega)]; exact h i hi hin

/-- Push keeps a heap. -/
theorem push_heap {ts : List Tk} (h : HeapN ts ts.length) (t : Tk) : HeapN (upL (ts ++ [t]) ts.length) (ts.length + 1) ∧ (upL (ts ++ [t]) ts.length).Perm (ts ++ [t]) := by
  refine ⟨up_heap ts.length (ts ++ [t]) (ts.length + 1) (by simp) (by omega) ⟨fun i hi hin hne => ?_, fun i hi hin hp _ => ?_⟩, upL_perm _ _ (by simp)⟩
  · have hpl := par_lt hi
    rw [getD_snoc (by simp; omega), getD_snoc (by simp; omega), if_neg (by omega), if_neg hne]
    exact h i hi (by omega)
  · have := par_lt hi; omega

/-- Pop takes the least, and leaves a heap. -/
theorem pop_heap {ts rest : List Tk} {t : Tk} (h : HeapN ts ts.length) (hpos : 0 < ts.length) (hp : popL ts = rest ++ [t]) : HeapN rest rest.length ∧ (rest ++ [t]).Perm ts ∧ ∀ x ∈ ts, leT t x := by
  have hl : rest.length + 1 = ts.length := by
    have := congrArg List.length hp
    unfold popL at this
    rw [downL_length, swapT_length] at this
    simp at this; omega
  have hk := downF_keeps (ts.length - 1 - 0) (swapT ts 0 (ts.length - 1)) (ts.length - 1) 0 (by rw [swapT_length]; omega) (by rw [swapT_length]; omega)
  have hperm : (rest ++ [t]).Perm ts := by
    rw [← hp]; unfold popL downL
    exact hk.1.trans (swapT_perm ts _ _ hpos (by omega))
  have ht : t = ts.getD 0 tk0 := by
    have h1 : (popL ts).getD (ts.length - 1) tk0 = ts.getD 0 tk0 := by
      by_cases h0 : ts.length = 1
      · have e : popL ts = swapT ts 0 (ts.length - 1) := by unfold popL; rw [downL_eq, if_neg (by omega)]
        rw [e, sw ts 0 _ _ (by omega), if_pos rfl]
      · have := hk.2 (ts.length - 1) (Nat.le_refl _) (by rw [swapT_length]; omega) (by omega)
        unfold popL downL
        rw [this, sw ts 0 _ _ (by omega), if_pos rfl]
    rw [hp, getD_snoc (by simp; omega), if_pos (by omega)] at h1
    exact h1
  refine ⟨?_, hperm, fun x hx => ?_⟩
  · have hd : DownInv (swapT ts 0 (ts.length - 1)) (ts.length - 1) 0 := by
      refine ⟨fun i hi hin hne => ?_, fun _ _ _ _ h0 => by omega⟩
      have hpl := par_lt hi
      rw [sw ts 0 _ (par i) (by omega), sw ts 0 _ i (by omega), if_neg (by omega), if_neg (by omega), if_neg (by omega), if_neg (by omega)]
      exact h i hi (by omega)
    have := down_heap (ts.length - 1) _ (ts.length - 1) 0 (by omega) (by rw [swapT_length]; omega) hd
    refine heapN_ext (n := rest.length) (a := (downL (swapT ts 0 (ts.length - 1)) (ts.length - 1) 0).1) (by rw [show ts.length - 1 = rest.length by omega] at *; exact this) (fun i hi => ?_)
    show (popL ts).getD i tk0 = _
    rw [hp, getD_snoc (by simp; omega), if_neg (by omega)]
  · obtain ⟨i, hi, rfl⟩ := List.mem_iff_getElem.1 hx
    rw [ht, ← tkD hi]
    exact heap_min h i hi

/-- A weight made less: down leaves it, up mends it. -/
theorem fix_heap {ts : List Tk} (h : HeapN ts ts.length) (i : Nat) (hi : i < ts.length) (wt : Int) (hw : wt ≤ (ts.getD i tk0).wt) :
    UpInv (ts.set i ⟨(ts.getD i tk0).at_, (ts.getD i tk0).n, wt⟩) ts.length i ∧ ∀ k, 0 < k → k < ts.length → par k = i → leT ⟨(ts.getD i tk0).at_, (ts.getD i tk0).n, wt⟩ (ts.getD k tk0) := by
  have at_ : ∀ k, k < ts.length → (ts.set i ⟨(ts.getD i tk0).at_, (ts.getD i tk0).n, wt⟩).getD k tk0 = if k = i then ⟨(ts.getD i tk0).at_, (ts.getD i tk0).n, wt⟩ else ts.getD k tk0 := fun k hk => by
    rw [tkD (by simpa using hk), List.getElem_set]
    by_cases e : k = i
    · subst e; simp
    · rw [if_neg (fun e' => e e'.symm), if_neg e, tkD hk]
  have hle : leT ⟨(ts.getD i tk0).at_, (ts.getD i tk0).n, wt⟩ (ts.getD i tk0) := by rw [leT_iff]; simp only; omega
  refine ⟨⟨fun k hk hkn hne => ?_, fun k hk hkn hp h0 => ?_⟩, fun k hk hkn hp => ?_⟩
  · have hpl := par_lt hk
    rw [at_ k hkn, at_ (par k) (by omega), if_neg hne]
    have hb := h k hk hkn
    by_cases e : par k = i
    · rw [if_pos e]; rw [e] at hb; exact leT_trans hle hb
    · rw [if_neg e]; exact hb
  · have hpl := par_lt hk
    have hpl2 := par_lt h0
    rw [at_ k hkn, at_ (par i) (by omega), if_neg (by omega), if_neg (by omega)]
    have a := h i h0 hi
    have b := h k hk hkn
    rw [hp] at b
    exact leT_trans a b
  · have b := h k hk hkn
    rw [hp] at b
    exact leT_trans hle b
end Go.Proofs.Ytdpphjedjhjdgaa

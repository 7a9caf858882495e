/- Lists of work, and the document's: what they have in common. -/
import Derived.Test.YtdpphjedjhjdgaaR2
namespace Go.Proofs.Ytdpphjedjhjdgaa
open Go.RowKit Go.Maps

theorem nodup_bound (N : Nat) : ∀ (l : List Int), l.Nodup → (∀ x ∈ l, 0 ≤ x ∧ x < N) → l.length ≤ N := by
  induction N with
  | zero =>
    intro l _ h
    cases l with
    | nil => simp
    | cons a l => have := h a (by simp); omega
  | succ N ih =>
    intro l hn h
    have h1 := ih (l.erase (N : Int)) (hn.erase _) (fun x hx => by
      have h2 := h x (List.mem_of_mem_erase hx)
      have h3 : x ≠ N := fun e => by subst e; exact hn.not_mem_erase hx
      omega)
    have h2 : l.length ≤ (l.erase (N : Int)).length + 1 := by
      rw [List.length_erase]; split <;> omega
    omega

def prT (t : Tk) : Pr := (t.n, t.wt)
/-- One task's weight made less. -/
def upd (n wt : Int) (p : Pr) : Pr := if p.1 = n then (n, min wt p.2) else p
theorem set_upd {l : List Pr} {n wt : Int} {i : Nat} (hn : (l.map (·.1)).Nodup) (hi : i < l.length) (he : (l.getD i (0, 0)).1 = n) : l.set i (n, min wt (l.getD i (0, 0)).2) = l.map (upd n wt) := by
  have hg : l.getD i (0, 0) = l[i] := by rw [List.getD_eq_getElem?_getD, List.getElem?_eq_getElem hi]; rfl
  rw [hg] at he ⊢
  refine List.ext_getElem (by simp) fun j h1 h2 => ?_
  rw [List.getElem_map, List.getElem_set]
  by_cases e : i = j
  · subst e
    rw [if_pos rfl]
    unfold upd
    rw [if_pos he]
  · rw [if_neg e]
    unfold upd
    rw [if_neg]
    intro hc
    apply e
    have hi' : i < (l.map (·.1)).length := by simpa using hi
    have hj' : j < (l.map (·.1)).length := by simpa using h2
    have pw := List.pairwise_iff_getElem.1 hn
    rcases Nat.lt_trichotomy i j with h | h | h
    · exact absurd (by rw [List.getElem_map, List.getElem_map, he, hc]) (pw i j hi' hj' h)
    · exact h
    · exact absurd (by rw [List.getElem_map, List.getElem_map, he, hc]) (pw j i hj' hi' h)
theorem pushR_old {rl : List Pr} {n wt : Int} (hn : (rl.map (·.1)).Nodup) (hm : n ∈ rl.map (·.1)) : pushR rl n wt = rl.map (upd n wt) := by
  unfold pushR
  rw [if_pos hm]
  have hi : (rl.map (·.1)).idxOf n < rl.length := by have := List.idxOf_lt_length_of_mem hm; simpa using this
  refine set_upd hn hi ?_
  rw [List.getD_eq_getElem?_getD, List.getElem?_eq_getElem hi]
  have := List.getElem_idxOf (xs := rl.map (·.1)) (x := n) (by simpa using hi)
  rw [List.getElem_map] at this
  exact this
theorem fst_map (ts : List Tk) : (ts.map prT).map (·.1) = ts.map Tk.n := by rw [List.map_map]; rfl

theorem tks_bound {w : World} {B : Nat} {O : Nat → Prop} {ts : List Tk} (h : LstIs w B O ts) : ts.length ≤ 1048576 := by
  have := nodup_bound 1048576 (ts.map Tk.n) h.apart (fun x hx => by
    obtain ⟨t, ht, rfl⟩ := List.mem_map.1 hx
    have := h.nums t ht
    omega)
  simpa using this
theorem tks_room {w : World} {B : Nat} {O : Nat → Prop} {ts : List Tk} (h : LstIs w B O ts) {n : Int} (hn : 0 ≤ n ∧ n < 1048576) (hnew : n ∉ ts.map Tk.n) : ts.length < 1048576 := by
  have := nodup_bound 1048576 (n :: ts.map Tk.n) (List.nodup_cons.2 ⟨hnew, h.apart⟩) (fun x hx => by
    rcases List.mem_cons.1 hx with rfl | hx
    · omega
    · obtain ⟨t, ht, rfl⟩ := List.mem_map.1 hx
      have := h.nums t ht
      omega)
  simp at this
  omega

/-- Push of a number, new or old. -/
theorem push_any (B : Nat) (O : Nat → Prop) (ts : List Tk) (n wt : Int) (hn : 0 ≤ n ∧ n < 1048576) (hw : -9223372036854775808 ≤ wt ∧ wt ≤ 9223372036854775807) (hh : HeapN ts ts.length) (w : World) (h : LstIs w B O ts) :
    Calls Try.prog 11 #[.pointer (some ⟨B, 0, none⟩), .int .i64 n, .int .i64 wt] w fun e w' => e = .returned (.tuple #[.bool (!decide (n ∈ ts.map Tk.n)), .int .i64 0]) ∧ Off O w w' ∧
      ∃ ts' O', LstIs w' B O' ts' ∧ HeapN ts' ts'.length ∧ (ts'.map prT).Perm (pushR (ts.map prT) n wt) ∧ ∀ k, O' k → O k ∨ w.heap.size ≤ k := by
  by_cases hm : n ∈ ts.map Tk.n
  · rw [show decide (n ∈ ts.map Tk.n) = true by simpa using hm]
    obtain ⟨t, ht, he⟩ := List.mem_map.1 hm
    obtain ⟨i, hi, hti⟩ := List.mem_iff_getElem.1 ht
    have hg : ts.getD i tk0 = t := by rw [tkD hi, hti]
    have key := push_old B O ts i hi (tks_bound h) hh wt hw w h
    rw [hg, he] at key
    have hpu : pushR (ts.map prT) n wt = (ts.map prT).map (upd n wt) := pushR_old (by rw [fst_map]; exact h.apart) (by rw [fst_map]; exact hm)
    have hsu := set_upd (l := ts.map prT) (n := n) (wt := wt) (i := i) (by rw [fst_map]; exact h.apart) (by simpa using hi) (by rw [List.getD_eq_getElem?_getD, List.getElem?_map, List.getElem?_eq_getElem hi, hti]; exact he)
    have hgi : ((ts.map prT).getD i (0, 0)).2 = t.wt := by rw [List.getD_eq_getElem?_getD, List.getElem?_map, List.getElem?_eq_getElem hi, hti]; rfl
    rw [hgi] at hsu
    refine key.mono fun e w' ⟨h1, h2, h3⟩ => ⟨h1, h2, _, O, h3, ?_, ?_, fun k hk => .inl hk⟩
    · split
      · rename_i hlt
        rw [upL_length, lighter_length]
        refine up_heap i (lighter ts i wt) ts.length (by rw [lighter_length]; exact Nat.le_refl _) hi ?_
        have := (fix_heap hh i hi wt (by rw [hg]; omega)).1
        exact this
      · exact hh
    · rw [hpu, ← hsu]
      split
      · rename_i hlt
        rw [show min wt t.wt = wt by omega]
        refine ((upL_perm _ i (by rw [lighter_length]; exact hi)).map prT).trans ?_
        unfold lighter
        rw [List.map_set, hg]
        unfold prT
        rw [he]
      · rename_i hlt
        rw [show min wt t.wt = t.wt by omega]
        have e : (ts.map prT).set i (n, t.wt) = ts.map prT := by
          have : (n, t.wt) = (ts.map prT)[i]'(by simpa using hi) := by rw [List.getElem_map, hti]; unfold prT; rw [he]
          rw [this]
          exact List.set_getElem_self _
        rw [e]
  · rw [show decide (n ∈ ts.map Tk.n) = false by simpa using hm]
    refine (push_new B O ts n wt ⟨hn.1, hn.2, hw.1, hw.2⟩ hm (tks_room h hn hm) w h).mono fun e w' ⟨h1, h2, T, h3⟩ => ⟨h1, h2, _, _, h3, ?_, ?_, fun k hk => ?_⟩
    · rw [upL_length, List.length_append]
      exact (push_heap hh ⟨T, n, wt⟩).1
    · have := ((push_heap hh ⟨T, n, wt⟩).2.map prT)
      refine this.trans ?_
      unfold pushR
      rw [if_neg (by rw [fst_map]; exact hm), List.map_append]
      exact List.Perm.refl _
    · rcases hk with h | h
      · exact .inl h
      · exact .inr h.1

/-- Pop of a list that has some. -/
theorem pop_any (B : Nat) (O : Nat → Prop) (ts : List Tk) (hpos : 0 < ts.length) (hh : HeapN ts ts.length) (w : World) (h : LstIs w B O ts) :
    Calls Try.prog 9 #[.pointer (some ⟨B, 0, none⟩)] w fun e w' => ∃ rest t, e = .returned (.tuple #[.int .i64 t.n, .int .i64 t.wt, .bool true]) ∧ Off O w w' ∧ LstIs w' B O rest ∧ HeapN rest rest.length ∧ (rest ++ [t]).Perm ts ∧ ∀ x ∈ ts, leT t x :=
  (pop_some B O ts hpos (tks_bound h) w h).mono fun e w' ⟨rest, t, h1, h2, h3, h4⟩ => by
    obtain ⟨a, b, c⟩ := pop_heap hh hpos h1
    exact ⟨rest, t, h2, h3, h4, a, b, c⟩

theorem pr_eq {a b : Pr} (h1 : lessP a b = false) (h2 : lessP b a = false) : a = b := by
  rw [lessP_iff] at h1 h2
  obtain ⟨a1, a2⟩ := a
  obtain ⟨b1, b2⟩ := b
  simp only at h1 h2
  have e1 : a1 = b1 := by omega
  have e2 : a2 = b2 := by omega
  rw [e1, e2]
theorem lessT_prT (a b : Tk) : lessP (prT a) (prT b) = lessT a b := rfl
/-- The two take the same task out. -/
theorem pops_same {ts rest : List Tk} {t : Tk} {rl : List Pr} {k : Nat} (hp : (ts.map prT).Perm rl) (hr : (rest ++ [t]).Perm ts) (hl : ∀ x ∈ ts, leT t x) (hm : MinTo rl rl.length k) : rl.getD k (0, 0) = prT t ∧ (rest.map prT).Perm (rl.eraseIdx k) := by
  have hk := hm.1
  have hg : rl.getD k (0, 0) = rl[k] := by rw [List.getD_eq_getElem?_getD, List.getElem?_eq_getElem hk]; rfl
  have htm : t ∈ ts := hr.subset (by simp)
  have ht : prT t ∈ rl := hp.subset (List.mem_map.2 ⟨t, htm, rfl⟩)
  obtain ⟨j, hj, hje⟩ := List.mem_iff_getElem.1 ht
  have h1 := hm.2 j hj
  rw [List.getD_eq_getElem?_getD, List.getElem?_eq_getElem hj] at h1
  obtain ⟨x, hx, hxe⟩ := List.mem_map.1 (hp.symm.subset (List.getElem_mem hk))
  have h2 : lessP (rl.getD k (0, 0)) (prT t) = false := by
    rw [hg, ← hxe]
    exact hl x hx
  have he : rl.getD k (0, 0) = prT t := pr_eq h2 (by rw [← hje]; exact h1)
  refine ⟨he, ?_⟩
  have p1 : (rl[k] :: rl.eraseIdx k).Perm rl := by
    rw [List.eraseIdx_eq_take_drop_succ]
    have e : rl = rl.take k ++ rl[k] :: rl.drop (k + 1) := by rw [← List.drop_eq_getElem_cons hk, List.take_append_drop]
    exact List.Perm.trans List.perm_middle.symm (by rw [← e])
  have p2 : (prT t :: rest.map prT).Perm rl := by
    refine List.Perm.trans ?_ hp
    have := hr.map prT
    rw [List.map_append] at this
    exact (List.perm_append_singleton _ _).symm.trans this
  rw [← hg, he] at p1
  exact (p2.trans p1.symm).cons_inv

/-- Both lists, as they stand in the law. -/
structure WInv (w wr : World) (O : Nat → Prop) (ts : List Tk) (rl : List Pr) (v : Value) : Prop where
  bel : Below w.heap.size w wr
  lst : LstIs wr w.heap.size O ts
  heap : HeapN ts ts.length
  perm : (ts.map prT).Perm rl
  low : ∀ k, O k → w.heap.size ≤ k
  box : wr.heap[w.heap.size + 1]? = some (.cells #[v] 27 (0, 0))
  nob : ¬ O (w.heap.size + 1)
  row : RR wr w.heap.size v rl
  nov : ∀ k, v.ownBlock = some k → ¬ O k
theorem winv_below {w wr w' : World} {O : Nat → Prop} {ts : List Tk} {rl : List Pr} {v : Value} (h : WInv w wr O ts rl v) (hb : Below wr.heap.size wr w') : WInv w w' O ts rl v :=
  ⟨h.bel.trans (hb.mono h.bel.size), lst_below h.lst hb, h.heap, h.perm, h.low, (hb.block _ (lt_of_some h.box)).trans h.box, h.nob, rr_off (O := fun _ => False) h.row (off_below hb) (fun _ _ h => h), h.nov⟩
/-- A store into the box of the document's list. -/
theorem winv_put {w wr : World} {O : Nat → Prop} {ts : List Tk} {rl : List Pr} {v0 v : Value} (bel : Below w.heap.size w wr) (lst : LstIs wr w.heap.size O ts) (heap : HeapN ts ts.length) (perm : (ts.map prT).Perm rl) (low : ∀ k, O k → w.heap.size ≤ k)
    (box : wr.heap[w.heap.size + 1]? = some (.cells #[v0] 27 (0, 0))) (nob : ¬ O (w.heap.size + 1)) (row : RR wr w.heap.size v rl) (nov : ∀ k, v.ownBlock = some k → ¬ O k) : WInv w (wr.setCell ⟨w.heap.size + 1, 0, none⟩ v) O ts rl v := by
  have ho : Off (fun k => k = w.heap.size + 1) wr (wr.setCell ⟨w.heap.size + 1, 0, none⟩ v) := off_set (O := fun k => k = w.heap.size + 1) (off_refl _ _) (p := ⟨w.heap.size + 1, 0, none⟩) (.inl rfl) _
  refine ⟨bel.setCell (p := ⟨w.heap.size + 1, 0, none⟩) (by simp) _, lst_off lst ho (fun k hk e => nob (e ▸ hk)), heap, perm, low, block_set (i := 0) box v, nob, rr_off row ho (fun k hk e => ?_), nov⟩
  rcases row with ⟨rfl, rfl⟩ | ⟨_, h⟩
  · simp [Value.ownBlock] at hk
  · exact row_not box h (by decide) (e ▸ hk)
theorem winv_len {w wr : World} {O : Nat → Prop} {ts : List Tk} {rl : List Pr} {v : Value} (h : WInv w wr O ts rl v) : ts.length = rl.length := by have := h.perm.length_eq; simpa using this
theorem winv_bound {w wr : World} {O : Nat → Prop} {ts : List Tk} {rl : List Pr} {v : Value} (h : WInv w wr O ts rl v) : rl.length ≤ 1048576 := by rw [← winv_len h]; exact tks_bound h.lst
theorem winv_fst {w wr : World} {O : Nat → Prop} {ts : List Tk} {rl : List Pr} {v : Value} (h : WInv w wr O ts rl v) (n : Int) : decide (n ∈ rl.map (·.1)) = decide (n ∈ ts.map Tk.n) := by
  rw [decide_eq_decide, ← fst_map]
  exact ((h.perm.map (·.1)).mem_iff).symm
theorem pushR_perm {a b : List Pr} (h : a.Perm b) (hn : (a.map (·.1)).Nodup) (n wt : Int) : (pushR a n wt).Perm (pushR b n wt) := by
  have hnb : (b.map (·.1)).Nodup := (h.map (·.1)).nodup_iff.1 hn
  by_cases hm : n ∈ a.map (·.1)
  · rw [pushR_old hn hm, pushR_old hnb ((h.map (·.1)).mem_iff.1 hm)]
    exact h.map _
  · unfold pushR
    rw [if_neg hm, if_neg (fun h' => hm ((h.map (·.1)).mem_iff.2 h'))]
    exact h.append_right _
end Go.Proofs.Ytdpphjedjhjdgaa

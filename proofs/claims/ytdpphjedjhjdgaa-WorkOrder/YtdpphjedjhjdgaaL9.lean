/- Lists of work: Push of a number that is in it. -/
import Derived.Test.YtdpphjedjhjdgaaH1
namespace Go.Proofs.Ytdpphjedjhjdgaa
open Go.RowKit Go.Maps

def lighter (ts : List Tk) (i : Nat) (wt : Int) : List Tk := ts.set i ⟨(ts.getD i tk0).at_, (ts.getD i tk0).n, wt⟩
theorem lighter_length (ts : List Tk) (i : Nat) (wt : Int) : (lighter ts i wt).length = ts.length := by simp [lighter]
theorem lighter_at (ts : List Tk) (i : Nat) (wt : Int) (k : Nat) (hk : k < ts.length) : (lighter ts i wt).getD k tk0 = if k = i then ⟨(ts.getD i tk0).at_, (ts.getD i tk0).n, wt⟩ else ts.getD k tk0 := by
  unfold lighter
  rw [tkD (by simpa using hk), List.getElem_set]
  by_cases e : k = i
  · subst e; simp
  · rw [if_neg (fun e' => e e'.symm), if_neg e, tkD hk]
theorem lighter_map {α : Type} (f : Tk → α) (hf : ∀ a n x y, f ⟨a, n, x⟩ = f ⟨a, n, y⟩) (ts : List Tk) (i : Nat) (wt : Int) (hi : i < ts.length) : (lighter ts i wt).map f = ts.map f := by
  unfold lighter
  rw [List.map_set]
  have e : f ⟨(ts.getD i tk0).at_, (ts.getD i tk0).n, wt⟩ = (ts.map f)[i]'(by simpa using hi) := by
    rw [List.getElem_map, tkD hi]
    exact hf _ _ _ _
  rw [e, List.set_getElem_self]
theorem lighter_mem {ts : List Tk} {i : Nat} {wt : Int} {t : Tk} (h : t ∈ lighter ts i wt) (hi : i < ts.length) : ∃ s ∈ ts, t.at_ = s.at_ ∧ t.n = s.n ∧ (t.wt = s.wt ∨ t.wt = wt) := by
  obtain ⟨k, hk, rfl⟩ := List.mem_iff_getElem.1 h
  rw [lighter_length] at hk
  have hm : ts.getD k tk0 ∈ ts := by rw [tkD (ts := ts) hk]; exact List.getElem_mem _
  rw [← tkD (by rw [lighter_length]; exact hk), lighter_at ts i wt k hk]
  by_cases e : k = i
  · subst e; rw [if_pos rfl]
    exact ⟨ts.getD k tk0, hm, rfl, rfl, .inr rfl⟩
  · rw [if_neg e]
    exact ⟨ts.getD k tk0, hm, rfl, rfl, .inl rfl⟩
theorem entry_lighter (ts : List Tk) (i : Nat) (wt : Int) (hi : i < ts.length) (hn : (ts.map Tk.n).Nodup) (n : Int) : entryOf (lighter ts i wt) n = entryOf ts n := by
  have hm := lighter_map Tk.n (fun _ _ _ _ => rfl) ts i wt hi
  by_cases h : n ∈ ts.map Tk.n
  · have h' : n ∈ (lighter ts i wt).map Tk.n := by rw [hm]; exact h
    obtain ⟨t, ht, rfl⟩ := List.mem_map.1 h'
    obtain ⟨s, hs, e1, e2, -⟩ := lighter_mem ht hi
    rw [entry_mem (by rw [hm]; exact hn) ht, e2, entry_mem hn hs, e1]
  · rw [entry_not h, entry_not (by rw [hm]; exact h)]

theorem lst_lighter {w : World} {B : Nat} {O : Nat → Prop} {ts : List Tk} (h : LstIs w B O ts) (i : Nat) (hi : i < ts.length) (wt : Int) (hw : -9223372036854775808 ≤ wt ∧ wt ≤ 9223372036854775807) :
    Off O w (w.setCell ⟨(ts.getD i tk0).at_, 1, none⟩ (.int .i64 wt)) ∧ LstIs (w.setCell ⟨(ts.getD i tk0).at_, 1, none⟩ (.int .i64 wt)) B O (lighter ts i wt) := by
  have hb := (h.tasks i hi).2
  have ho : Off O w (w.setCell ⟨(ts.getD i tk0).at_, 1, none⟩ (.int .i64 wt)) := off_set (off_refl _ _) (p := ⟨(ts.getD i tk0).at_, 1, none⟩) (.inl (h.tasks i hi).1) _
  obtain ⟨sv, mo, hB, hr, hsv, hm⟩ := h.lies
  have n1 := row_not hb hr (by decide)
  have n2 : B ≠ (ts.getD i tk0).at_ := (cells_ne hb hB (by decide)).symm
  refine ⟨ho, h.own, fun k hk => Nat.lt_of_lt_of_le (h.lt k hk) ho.size, fun t ht => ?_, ?_, ?_, fun k hk => ?_, sv, mo, (Below.heap_setCell w ⟨(ts.getD i tk0).at_, 1, none⟩ _ B n2).trans hB, ?_, hsv, ?_⟩
  · obtain ⟨s, hs, e1, e2, e3⟩ := lighter_mem ht hi
    have := h.nums s hs
    rw [e2]
    refine ⟨this.1, this.2.1, ?_⟩
    rcases e3 with e3 | e3 <;> omega
  · rw [lighter_map Tk.n (fun _ _ _ _ => rfl) ts i wt hi]; exact h.apart
  · rw [lighter_map Tk.at_ (fun _ _ _ _ => rfl) ts i wt hi]; exact h.blocks
  · rw [lighter_length] at hk
    rw [lighter_at ts i wt k hk]
    by_cases e : k = i
    · subst e
      rw [if_pos rfl]
      exact ⟨(h.tasks k hk).1, block_set (i := 1) hb (.int .i64 wt)⟩
    · rw [if_neg e]
      exact ⟨(h.tasks k hk).1, (Below.heap_setCell w ⟨(ts.getD i tk0).at_, 1, none⟩ _ _ (fun e' => e (at_inj h.blocks hk hi e'))).trans (h.tasks k hk).2⟩
  · rw [lighter_length, lighter_map ptrV (fun _ _ _ _ => rfl) ts i wt hi]
    exact own_off (O := fun k => k = (ts.getD i tk0).at_) hr (off_set (O := fun k => k = (ts.getD i tk0).at_) (off_refl _ _) (p := ⟨(ts.getD i tk0).at_, 1, none⟩) (.inl rfl) _) (fun k hk e => n1 (e ▸ hk))
  · rcases hm with ⟨rfl, h0⟩ | ⟨mb, D, N, rfl, hO, hN, hmap, hTd, hSz, hD⟩
    · subst h0; simp at hi
    · refine .inr ⟨mb, D, N, rfl, hO, hN, hmap.setCell (a := ⟨(ts.getD i tk0).at_, 1, none⟩) (map_not hb hmap) _, hTd, by rw [lighter_length]; exact hSz, fun n => ?_⟩
      rw [(hD n).1, (hD n).2, entry_lighter ts i wt hi h.apart, lighter_map Tk.n (fun _ _ _ _ => rfl) ts i wt hi]
      exact ⟨rfl, rfl⟩

set_option maxHeartbeats 4000000 in
set_option maxRecDepth 100000 in
theorem fix_any (B : Nat) (O : Nat → Prop) (ts : List Tk) (i : Nat) (hi : i < ts.length) (hlen : ts.length ≤ 1048576) (hd : downL ts ts.length i = (ts, i)) (w : World) (h : LstIs w B O ts) :
    Calls Try.prog 43 #[.iface 78 (.pointer (some ⟨B, 0, none⟩)), .int .i64 i] w fun e w' => e = .returned (.tuple #[]) ∧ Off O w w' ∧ LstIs w' B O (upL ts i) := by
  have HLn := hide (tlen_any B O ts w h)
  have HD := hide (down_any B O ts ts.length i hi (Nat.le_refl _) hlen w h)
  rw [hd, show decide ((i : Int) < ((ts, i) : List Tk × Nat).2) = false by simp] at HD
  have HU := hide (fun w1 hl => up_any B O ts i hi hlen w1 hl)
  clear h hd
  go_enter Try.func43, Try.ntmps43
  go_wp2_with fail
  refine (unhide HLn).mono ?_
  rintro e w1 ⟨rfl, hw⟩
  obtain rfl := hw.symm
  go_wp2_with fail
  refine (unhide HD).mono ?_
  rintro e w1 ⟨rfl, ho1, hs1, hl1⟩
  have HU1 := hide (unhide HU w1 hl1)
  have Ho1 := hide ho1
  clear ho1 hl1 HU HD
  go_wp2_with fail
  refine (unhide HU1).mono ?_
  rintro e w2 ⟨rfl, ho2, hs2, hl2⟩
  have Ho2 := hide ho2; have Hl2 := hide hl2
  clear ho2 hl2 HU1
  go_wp2
  go_end0
  exact ⟨rfl, off_t (unhide Ho1) (unhide Ho2), unhide Hl2⟩

theorem down_still {ts : List Tk} {n i : Nat} (h : ∀ k, 0 < k → k < n → par k = i → leT (ts.getD i tk0) (ts.getD k tk0)) : downL ts n i = (ts, i) := by
  rw [downL_eq]
  by_cases h1 : 2 * i + 1 < n
  · obtain ⟨k1, k2, k3, -⟩ := kid_le (ts := ts) h1
    rw [if_pos h1, if_neg]
    rw [show lessT (ts.getD (kidL ts n i) tk0) (ts.getD i tk0) = false from h _ k2 k3 k1]
    simp
  · rw [if_neg h1]

set_option maxHeartbeats 4000000 in
set_option maxRecDepth 100000 in
theorem lighten_any (B : Nat) (O : Nat → Prop) (ts : List Tk) (i : Nat) (hi : i < ts.length) (hlen : ts.length ≤ 1048576) (hh : HeapN ts ts.length) (wt : Int) (hw : -9223372036854775808 ≤ wt ∧ wt ≤ 9223372036854775807) (w : World) (h : LstIs w B O ts) :
    Calls Try.prog 30 #[.iface 78 (.pointer (some ⟨B, 0, none⟩)), .pointer (some ⟨(ts.getD i tk0).at_, 0, none⟩), .int .i64 wt] w fun e w' => e = .returned (.tuple #[]) ∧ Off O w w' ∧
      LstIs w' B O (if wt < (ts.getD i tk0).wt then upL (lighter ts i wt) i else ts) := by
  obtain ⟨-, a1, a2⟩ := lst_task h i hi
  have f1 : w.frozen? ⟨(ts.getD i tk0).at_, 1, none⟩ = false := frozen_block (h.tasks i hi).2 1
  by_cases hlt : wt < (ts.getD i tk0).wt
  · obtain ⟨ho, hl⟩ := lst_lighter h i hi wt hw
    have hf := (fix_heap hh i hi wt (by omega)).2
    have hds : downL (lighter ts i wt) (lighter ts i wt).length i = (lighter ts i wt, i) := by
      rw [lighter_length]
      refine down_still (fun k hk hkn hp => ?_)
      rw [lighter_at ts i wt i hi, if_pos rfl, lighter_at ts i wt k hkn, if_neg (by have := par_lt hk; omega)]
      exact hf k hk hkn hp
    have HF := hide (fix_any B O (lighter ts i wt) i (by rw [lighter_length]; exact hi) (by rw [lighter_length]; exact hlen) hds _ hl)
    rw [if_pos hlt]
    have Ho := hide ho
    have hi' : (i : Int) < 1048576 := by omega
    clear h hl hds ho hf hh
    generalize (ts.getD i tk0).at_ = T at *
    generalize (ts.getD i tk0).wt = z at *
    go_enter Try.func30, Try.ntmps30
    go_wp2_with (go_at_call 43; refine (unhide HF).mono ?_; rintro e w2 ⟨rfl, ho2, hl2⟩; have Ho2 := hide ho2; have Hl2 := hide hl2; clear ho2 hl2)
    go_end0
    exact ⟨rfl, off_t (unhide Ho) (unhide Ho2), unhide Hl2⟩
  · rw [if_neg hlt]
    have HL := hide h
    clear h hh
    generalize (ts.getD i tk0).at_ = T at *
    generalize (ts.getD i tk0).wt = z at *
    go_enter Try.func30, Try.ntmps30
    go_wp2
    go_end0
    exact ⟨rfl, off_refl _ _, unhide HL⟩

theorem lookup_in {w : World} {B : Nat} {O : Nat → Prop} {ts : List Tk} (h : LstIs w B O ts) {i : Nat} (hi : i < ts.length) : ∃ m, w.cell? ⟨B, 1, none⟩ = some (.map m) ∧ (Instr.lookup 70 (.map m) (.int .i64 (ts.getD i tk0).n) false).run Try.prog w = .ok (.pointer (some ⟨(ts.getD i tk0).at_, 0, none⟩)) w := by
  have hmem : ts.getD i tk0 ∈ ts := by rw [tkD hi]; exact List.getElem_mem _
  have hnum := h.nums _ hmem
  obtain ⟨sv, mo, hB, hr, hsv, hm⟩ := h.lies
  have hk := keyOf_int_mk Try.underlying3 (WalkArith.wf_i64 (n := (ts.getD i tk0).n) (by omega))
  refine ⟨mo, cell_block hB 1 _ rfl, ?_⟩
  rcases hm with ⟨rfl, h0⟩ | ⟨mb, D, N, rfl, hO, hN, hmap, hTd, hSz, hD⟩
  · subst h0; simp at hi
  · obtain ⟨v, ps, hrun, hv⟩ := hmap.lookup law3 Try.underlying70 (zero76 _) (zd := .lit (.int .i64 0)) (zp := []) rfl hk
    rw [(hD _).2, entry_mem h.apart hmem] at hv
    rw [hrun, ptrE_at hv]

set_option maxHeartbeats 4000000 in
set_option maxRecDepth 100000 in
theorem push_old (B : Nat) (O : Nat → Prop) (ts : List Tk) (i : Nat) (hi : i < ts.length) (hlen : ts.length ≤ 1048576) (hh : HeapN ts ts.length) (wt : Int) (hw : -9223372036854775808 ≤ wt ∧ wt ≤ 9223372036854775807) (w : World) (h : LstIs w B O ts) :
    Calls Try.prog 11 #[.pointer (some ⟨B, 0, none⟩), .int .i64 (ts.getD i tk0).n, .int .i64 wt] w fun e w' => e = .returned (.tuple #[.bool false, .int .i64 0]) ∧ Off O w w' ∧
      LstIs w' B O (if wt < (ts.getD i tk0).wt then upL (lighter ts i wt) i else ts) := by
  have hmem : ts.getD i tk0 ∈ ts := by rw [tkD hi]; exact List.getElem_mem _
  have hnum := h.nums _ hmem
  have HN := hide (isNumber_any (ts.getD i tk0).n w)
  rw [show decide (0 ≤ (ts.getD i tk0).n ∧ (ts.getD i tk0).n < 1048576) = true by simpa using ⟨hnum.1, hnum.2.1⟩] at HN
  obtain ⟨m, cm, hq⟩ := lookup_in h hi
  have HL := hide (lighten_any B O ts i hi hlen hh wt hw w h)
  clear h hmem hnum hh
  generalize (if wt < (ts.getD i tk0).wt then upL (lighter ts i wt) i else ts) = ts' at *
  generalize ts.getD i tk0 = t at *
  go_enter Try.func11, Try.ntmps11
  go_wp2_with (first | (go_at_call 29; refine (unhide HN).mono ?_; rintro e w2 ⟨rfl, hw⟩; obtain rfl := hw.symm) | (go_at_call 30; refine (unhide HL).mono ?_; rintro e w2 ⟨rfl, ho2, hl2⟩; have Ho2 := hide ho2; have Hl2 := hide hl2; clear ho2 hl2))
  go_ret2
  exact ⟨rfl, unhide Ho2, unhide Hl2⟩

set_option maxHeartbeats 4000000 in
set_option maxRecDepth 100000 in
theorem push_wrong (B : Nat) (n wt : Int) (hn : ¬ (0 ≤ n ∧ n < 1048576)) (w : World) :
    Calls Try.prog 11 #[.pointer (some ⟨B, 0, none⟩), .int .i64 n, .int .i64 wt] w fun e w' => e = .returned (.tuple #[.bool false, .int .i64 1]) ∧ w' = w := by
  have HN := hide (isNumber_any n w)
  rw [show decide (0 ≤ n ∧ n < 1048576) = false by simpa using hn] at HN
  clear hn
  go_enter Try.func11, Try.ntmps11
  go_wp2_with (go_at_call 29; refine (unhide HN).mono ?_; rintro e w2 ⟨rfl, hw⟩; obtain rfl := hw.symm)
  go_ret2
  exact ⟨rfl, rfl⟩
end Go.Proofs.Ytdpphjedjhjdgaa

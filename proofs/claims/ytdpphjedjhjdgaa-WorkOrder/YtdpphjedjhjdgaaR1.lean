/- The document's list: what it is in memory; its Push. -/
import Derived.Test.YtdpphjedjhjdgaaL9
import Derived.Test.YtdpphjedjhjdgaaQ2
namespace Go.Proofs.Ytdpphjedjhjdgaa
open Go.RowKit Go.Maps

theorem htask : (Try.prog.info? 34).map (fun i => (i.zero, i.size, i.bytes)) = some (some (.agg #[.int .i64 0, .int .i64 0]), 2, 16) := by kernel_rfl
/-- A row of the document's tasks. -/
def RR (w : World) (B : Nat) (v : Value) (rl : List Pr) : Prop := (rl = [] ∧ v = .slice none 0 0) ∨ (0 < rl.length ∧ w.ownsRow B 34 2 v rl.length (flatP rl))
theorem rr_form {w : World} {B : Nat} {v : Value} {rl : List Pr} (h : RR w B v rl) : ∃ a c, v = .slice a rl.length c := by
  rcases h with ⟨rfl, rfl⟩ | ⟨_, h⟩
  · exact ⟨_, _, rfl⟩
  · exact own_form h
theorem rr_lt {w : World} {B : Nat} {v : Value} {rl : List Pr} (h : RR w B v rl) : ∀ k, v.ownBlock = some k → B ≤ k ∧ k < w.heap.size := by
  rcases h with ⟨rfl, rfl⟩ | ⟨_, h⟩
  · intro k hk; simp [Value.ownBlock] at hk
  · intro k hk; exact h.lt k hk
theorem rr_off {O : Nat → Prop} {w w' : World} {B : Nat} {v : Value} {rl : List Pr} (h : RR w B v rl) (ho : Off O w w') (hn : ∀ k, v.ownBlock = some k → ¬ O k) : RR w' B v rl := by
  rcases h with h | ⟨h0, h⟩
  · exact .inl h
  · exact .inr ⟨h0, own_off h ho hn⟩
theorem flatP_cons (b : Pr) (l : List Pr) : flatP (b :: l) = .int .i64 b.1 :: .int .i64 b.2 :: flatP l := rfl
theorem flatP_at (rl : List Pr) : ∀ (k : Nat), k < rl.length → (flatP rl).getD (k * 2) undef = .int .i64 (rl.getD k (0, 0)).1 ∧ (flatP rl).getD (k * 2 + 1) undef = .int .i64 (rl.getD k (0, 0)).2 := by
  induction rl with
  | nil => intro k hk; simp at hk
  | cons b l ih =>
    intro k hk
    rw [flatP_cons]
    cases k with
    | zero => exact ⟨rfl, rfl⟩
    | succ k =>
      have := ih k (by simp at hk; omega)
      rw [show (k + 1) * 2 = k * 2 + 1 + 1 by omega]
      simpa using this
theorem flatP_one (rl : List Pr) : ∀ u ∈ flatP rl, u.oneCell' = true := by
  induction rl with
  | nil => intro u hu; simp [flatP] at hu
  | cons b l ih =>
    intro u hu
    rw [flatP_cons] at hu
    simp only [List.mem_cons] at hu
    rcases hu with rfl | rfl | hu
    · rfl
    · rfl
    · exact ih u hu
theorem flatP_set (rl : List Pr) (x : Int) : ∀ (k : Nat), k < rl.length → (flatP rl).set (k * 2 + 1) (.int .i64 x) = flatP (rl.set k ((rl.getD k (0, 0)).1, x)) := by
  induction rl with
  | nil => intro k hk; simp at hk
  | cons b l ih =>
    intro k hk
    cases k with
    | zero => rfl
    | succ k =>
      have := ih k (by simp at hk; omega)
      rw [show (k + 1) * 2 + 1 = k * 2 + 1 + 1 + 1 by omega, flatP_cons, List.set_cons_succ, List.set_cons_succ, this]
      rfl
theorem rr_cells {w : World} {B g c n : Nat} {rl : List Pr} (h : w.ownsRow B 34 2 (.slice (some ⟨g, 0, none⟩) n c) n (flatP rl)) (k : Nat) (hk : k < rl.length) :
    w.cell? ⟨g, k * 2, none⟩ = some (.int .i64 (rl.getD k (0, 0)).1) ∧ w.cell? ⟨g, k * 2 + 1, none⟩ = some (.int .i64 (rl.getD k (0, 0)).2) := by
  have h1 := own_cell h rfl (k * 2) (by rw [flatP_length]; omega)
  have h2 := own_cell h rfl (k * 2 + 1) (by rw [flatP_length]; omega)
  rw [(flatP_at rl k hk).1] at h1
  rw [(flatP_at rl k hk).2] at h2
  exact ⟨h1, h2⟩

theorem box_set {W : World} {b : Nat} {x : Value} (h : W.heap[b]? = some (.cells #[x] 27 (0, 0))) (v : Value) : (W.setCell ⟨b, 0, none⟩ v).cell? ⟨b, 0, none⟩ = some v := cell_block (block_set (i := 0) h v) 0 _ rfl
/-- The document's Push. -/
def pushR (rl : List Pr) (n wt : Int) : List Pr :=
  if n ∈ rl.map (·.1) then rl.set ((rl.map (·.1)).idxOf n) (n, min wt (rl.getD ((rl.map (·.1)).idxOf n) (0, 0)).2) else rl ++ [(n, wt)]
theorem idx_at {ks : List Int} {s : Int} {i : Nat} (hi : i < ks.length) (hn : s ∉ ks.take i) (he : ks[i] = s) : ks.idxOf s = i ∧ s ∈ ks := by
  have hm : s ∈ ks := he ▸ List.getElem_mem hi
  refine ⟨?_, hm⟩
  conv => lhs; rw [← List.take_append_drop i ks]
  rw [List.idxOf_append, if_neg hn, List.drop_eq_getElem_cons hi, he, List.idxOf_cons_self]
  simp
  omega
theorem pushR_at {rl : List Pr} {n wt : Int} {k : Nat} (hk : k < rl.length) (hn : n ∉ (rl.map (·.1)).take k) (he : (rl.getD k (0, 0)).1 = n) : pushR rl n wt = rl.set k (n, min wt (rl.getD k (0, 0)).2) ∧ n ∈ rl.map (·.1) := by
  have he' : (rl.map (·.1))[k]'(by simpa using hk) = n := by
    rw [List.getElem_map, ← he, List.getD_eq_getElem?_getD, List.getElem?_eq_getElem hk]; rfl
  obtain ⟨h1, h2⟩ := idx_at (by simpa using hk) hn he'
  unfold pushR
  rw [if_pos h2, h1]
  exact ⟨rfl, h2⟩

set_option maxHeartbeats 4000000 in
set_option maxRecDepth 100000 in
theorem refPush_wrong (a : Option Addr) (ln c : Nat) (n wt : Int) (hn : ¬ (0 ≤ n ∧ n < 1048576)) (w : World) :
    Calls Try.prog 12 #[.agg #[.slice a ln c], .int .i64 n, .int .i64 wt] w fun e w' => e = .returned (.tuple #[.agg #[.slice a ln c], .bool false, .int .i64 1]) ∧ Below w.heap.size w w' := by
  have hb : Below w.heap.size w ((w.alloc (.cells #[.slice a ln c] 27)).alloc (.cells #[.slice a ln c] 27)) := ((Below.refl _ w).alloc (Nat.le_refl _) _).alloc (by simp) _
  have Hb := hide hb
  clear hb
  by_cases h0 : n < 0
  · clear hn
    go_enter Try.func12, Try.ntmps12
    go_wp2
    refine bodyPost_ret (v := .tuple #[.agg #[.slice a ln c], .bool false, .int .i64 1]) ?zz1 rfl ⟨rfl, unhide Hb⟩
    simp [results, Try.results12, go_sem]
  · have h1 : (1048576 : Int) ≤ n := by omega
    clear hn
    go_enter Try.func12, Try.ntmps12
    go_wp2
    refine bodyPost_ret (v := .tuple #[.agg #[.slice a ln c], .bool false, .int .i64 1]) ?zz3 rfl ⟨rfl, unhide Hb⟩
    simp [results, Try.results12, go_sem]

set_option maxHeartbeats 8000000 in
set_option maxRecDepth 100000 in
theorem refPush_some (g c : Nat) (rl : List Pr) (hpos : 0 < rl.length) (hlen : rl.length ≤ 1048576) (n wt : Int) (hn : 0 ≤ n ∧ n < 1048576) (B : Nat) (w : World) (hr : w.ownsRow B 34 2 (.slice (some ⟨g, 0, none⟩) rl.length c) rl.length (flatP rl)) :
    Calls Try.prog 12 #[.agg #[.slice (some ⟨g, 0, none⟩) rl.length c], .int .i64 n, .int .i64 wt] w fun e w' => ∃ v', e = .returned (.tuple #[.agg #[v'], .bool (!decide (n ∈ rl.map (·.1))), .int .i64 0]) ∧ RR w' w.heap.size v' (pushR rl n wt) ∧ Below w.heap.size w w' := by
  obtain ⟨i0, hi, hz0, hz1, hz2⟩ := info_parts htask
  have h1 : ¬ n < 0 := by omega
  have h2 : ¬ (1048576 : Int) ≤ n := by omega
  have h3 : n < 1048576 := by omega
  have hgl : g < w.heap.size := (hr.lt g rfl).2
  have hb0 : Below w.heap.size w ((w.alloc (.cells #[.slice (some ⟨g, 0, none⟩) rl.length c] 27)).alloc (.cells #[.slice none 0 0] 27)) := ((Below.refl _ w).alloc (Nat.le_refl _) _).alloc (by simp) _
  have Hr0 := hide (own_off (O := fun _ => False) hr (off_below hb0) (fun _ _ h => h))
  have Hc : Hid (∀ j u, (flatP rl)[j]? = some u → ((w.alloc (.cells #[.slice (some ⟨g, 0, none⟩) rl.length c] 27)).alloc (.cells #[.slice none 0 0] 27)).cell? ((⟨g, 0, none⟩ : Addr).add j) = some u) := hide ((unhide Hr0).cells (g := g) rfl)
  have Hb0 := hide hb0
  have Hf1 := hide (flatP_one rl)
  clear hr hb0 hn
  go_enter Try.func12, Try.ntmps12
  go_wp2_with (at_builtin; refine wpList_append_own _ rfl _ _ 25 rfl w.heap.size 34 i0 (.agg #[.int .i64 0, .int .i64 0]) 2 16 Try.underlying25 hi hz0 hz1 hz2 rfl (by decide) _ 0 [] rfl (World.ownsRow_nil _ _ _ _) ⟨g, 0, none⟩ rl.length c (flatP rl) rfl (flatP_length rl) (unhide Hc) (unhide Hf1) ?d3 ?d4 ?d5 ?_)
  case d3 => unfold maxLen; omega
  case d4 => omega
  case d5 => omega
  intro v1 W1 hown1 hg1 hv1
  have hb1 : Below w.heap.size w W1 := (unhide Hb0).grown hg1 (by simp; omega) (fun k hk => by simp [Value.ownBlock] at hk)
  have hbx : ∀ k, w.heap.size ≤ k → k < w.heap.size + 2 → W1.heap[k]? = ((w.alloc (.cells #[.slice (some ⟨g, 0, none⟩) rl.length c] 27)).alloc (.cells #[.slice none 0 0] 27)).heap[k]? := fun k hk hk2 => hg1.block k (by simp; omega) (fun e => by simp [Value.ownBlock] at e)
  have hbox : W1.heap[w.heap.size + 1]? = some (.cells #[.slice none 0 0] 27 (0, 0)) := by
    rw [hbx _ (by omega) (by omega)]
    have := (MapKept.heap_alloc (w.alloc (.cells #[.slice (some ⟨g, 0, none⟩) rl.length c] 27)) (.cells #[.slice none 0 0] 27)).1
    simpa using this
  obtain ⟨g1, c1, rfl, hg1l, hg1s, hc11, hc12⟩ := own_pos hown1 hpos
  have hne : g1 ≠ w.heap.size + 1 := fun e => row_not hbox hown1 (by decide) (by rw [e]; rfl)
  have Hbox := hide hbox
  have x0 := cell_block hbox 0 _ rfl
  have xf := frozen_block hbox 0
  have Hb1 := hide hb1
  have Ho1 := hide hown1
  clear hown1 hg1 hv1 hbx hbox hb1 Hr0 Hc Hb0 Hf1
  have hs1 := (unhide Hb1).size
  go_wp2
  go_loop [10] (fun x => ∃ k : Nat, x = .int .i64 k ∧ k ≤ rl.length ∧ n ∉ (rl.map (·.1)).take k) (fun x => rl.length - (intOf x).toNat)
  case atStart => exact ⟨0, rfl, Nat.zero_le _, by simp⟩
  case round =>
    obtain ⟨k, rfl, hk, hnot⟩ := hrel
    by_cases hlt : k < rl.length
    · have hlt' : (k : Int) < rl.length := by omega
      obtain ⟨ck0, ck1⟩ := rr_cells (unhide Ho1) k hlt
      have fk : W1.frozen? ⟨g1, k * 2 + 1, none⟩ = false := (unhide Ho1).frozenAt _
      by_cases he : (rl.getD k (0, 0)).1 = n
      · obtain ⟨hp, hm⟩ := pushR_at (wt := wt) hlt hnot he
        have Hm : Hid (decide (n ∈ rl.map (·.1)) = true) := hide (by simpa using hm)
        by_cases hw : wt < (rl.getD k (0, 0)).2
        · have hx : RR ((W1.setCell ⟨g1, k * 2 + 1, none⟩ (.int .i64 wt)).setCell ⟨w.heap.size + 1, 0, none⟩ (.slice (some ⟨g1, 0, none⟩) rl.length c1)) w.heap.size (.slice (some ⟨g1, 0, none⟩) rl.length c1) (pushR rl n wt) ∧ Below w.heap.size w ((W1.setCell ⟨g1, k * 2 + 1, none⟩ (.int .i64 wt)).setCell ⟨w.heap.size + 1, 0, none⟩ (.slice (some ⟨g1, 0, none⟩) rl.length c1)) := by
            have h1 := ((unhide Ho1).stored (k * 2 + 1) (.int .i64 wt)).1
            rw [flatP_set rl wt k hlt, he] at h1
            rw [hp, show min wt (rl.getD k (0, 0)).2 = wt by omega]
            refine ⟨.inr ⟨by simpa using hpos, ?_⟩, ((unhide Hb1).setCell (p := ⟨g1, k * 2 + 1, none⟩) hg1l _).setCell (p := ⟨w.heap.size + 1, 0, none⟩) (by simp) _⟩
            rw [List.length_set]
            exact own_off (O := fun j => j = w.heap.size + 1) h1 (off_set (O := fun j => j = w.heap.size + 1) (off_refl _ _) (p := ⟨w.heap.size + 1, 0, none⟩) (.inl rfl) _) (fun j hj e => by simp only [Value.ownBlock, Option.some.injEq] at hj; omega)
          have rc := box_set ((Below.heap_setCell W1 ⟨g1, k * 2 + 1, none⟩ (.int .i64 wt) (w.heap.size + 1) (fun e => hne e.symm)).trans (unhide Hbox)) (.slice (some ⟨g1, 0, none⟩) rl.length c1)
          have Hrc := hide rc
          have Hx := hide hx
          clear hx hp hm hnot rc
          rw [he] at ck0
          clear he
          generalize (rl.getD k (0, 0)).2 = z at *
          go_wp2
          refine bodyPost_ret (v := .tuple #[.agg #[.slice (some ⟨g1, 0, none⟩) rl.length c1], .bool false, .int .i64 0]) ?zz4 rfl ⟨_, by rw [unhide Hm]; rfl, unhide Hx⟩
          have rc := unhide Hrc
          simp [results, Try.results12, go_sem, rc]
        · have hx : RR (W1.setCell ⟨w.heap.size + 1, 0, none⟩ (.slice (some ⟨g1, 0, none⟩) rl.length c1)) w.heap.size (.slice (some ⟨g1, 0, none⟩) rl.length c1) (pushR rl n wt) ∧ Below w.heap.size w (W1.setCell ⟨w.heap.size + 1, 0, none⟩ (.slice (some ⟨g1, 0, none⟩) rl.length c1)) := by
            have e : rl.set k (n, min wt (rl.getD k (0, 0)).2) = rl := by
              rw [show min wt (rl.getD k (0, 0)).2 = (rl.getD k (0, 0)).2 by omega, ← he, List.getD_eq_getElem?_getD, List.getElem?_eq_getElem hlt]
              exact List.set_getElem_self hlt
            rw [hp, e]
            refine ⟨.inr ⟨hpos, ?_⟩, (unhide Hb1).setCell (p := ⟨w.heap.size + 1, 0, none⟩) (by simp) _⟩
            exact own_off (O := fun j => j = w.heap.size + 1) (unhide Ho1) (off_set (O := fun j => j = w.heap.size + 1) (off_refl _ _) (p := ⟨w.heap.size + 1, 0, none⟩) (.inl rfl) _) (fun j hj e => by simp only [Value.ownBlock, Option.some.injEq] at hj; omega)
          have rc := box_set (unhide Hbox) (.slice (some ⟨g1, 0, none⟩) rl.length c1)
          have Hrc := hide rc
          have Hx := hide hx
          clear hx hp hm hnot rc
          rw [he] at ck0
          clear he
          generalize (rl.getD k (0, 0)).2 = z at *
          go_wp2
          refine bodyPost_ret (v := .tuple #[.agg #[.slice (some ⟨g1, 0, none⟩) rl.length c1], .bool false, .int .i64 0]) ?zz5 rfl ⟨_, by rw [unhide Hm]; rfl, unhide Hx⟩
          have rc := unhide Hrc
          simp [results, Try.results12, go_sem, rc]
      · have hn' : n ∉ (rl.map (·.1)).take (k + 1) := by
          rw [List.take_add_one, List.mem_append]
          rintro (h | h)
          · exact hnot h
          · rw [List.getElem?_map, List.getElem?_eq_getElem hlt] at h
            simp at h
            apply he
            rw [List.getD_eq_getElem?_getD, List.getElem?_eq_getElem hlt]
            exact h.symm
        have hq : ((rl.getD k (0, 0)).1 == n) = false := by simpa using he
        have Hn := hide hn'
        clear hn' hnot he fk ck1
        generalize (rl.getD k (0, 0)).1 = z at *
        go_wp2
        go_round
        case rel => exact ⟨k + 1, by go_num, by omega, unhide Hn⟩
        case measure => simp [intOf]; omega
    · obtain rfl : k = rl.length := by omega
      rw [show rl.length = (rl.map (·.1)).length by simp, List.take_length] at hnot
      have hlt' : ¬ ((rl.length : Int) < rl.length) := by omega
      have hp : pushR rl n wt = rl ++ [(n, wt)] := by unfold pushR; rw [if_neg hnot]
      have Hm : Hid (decide (n ∈ rl.map (·.1)) = false) := hide (by simpa using hnot)
      have Hp := hide hp
      clear hp hnot
      go_wp2_with (at_builtin; refine wpList_append_own _ rfl _ _ 25 rfl w.heap.size 34 i0 (.agg #[.int .i64 0, .int .i64 0]) 2 16 Try.underlying25 hi hz0 hz1 hz2 rfl (by decide) _ _ _ rfl ((unhide Ho1).alloc _) ⟨W1.heap.size, 0, none⟩ 1 1 [.int .i64 n, .int .i64 wt] rfl rfl (World.news_of_block (MapKept.heap_alloc W1 (.cells #[.int .i64 n, .int .i64 wt] 34)).1) (by simp [Value.oneCell']) (by unfold maxLen; omega) (by omega) (by simp; omega) ?_)
      intro v2 W2 hown2 hg2 hv2
      have hb2 : Below w.heap.size w W2 := ((unhide Hb1).alloc hs1 _).grown hg2 (by simp; omega) (fun k hk => by simp [Value.ownBlock] at hk; omega)
      have hbox2 : W2.heap[w.heap.size + 1]? = some (.cells #[.slice none 0 0] 27 (0, 0)) := (hg2.block _ (by simp; have := lt_of_some (unhide Hbox); omega) (fun e => by simp [Value.ownBlock] at e; omega)).trans ((Below.heap_alloc W1 _ _ (lt_of_some (unhide Hbox))).trans (unhide Hbox))
      obtain ⟨g2, c2, rfl, hg2l, hg2s, -⟩ := own_pos hown2 (by omega)
      have hne2 : g2 ≠ w.heap.size + 1 := fun e => row_not hbox2 hown2 (by decide) (by rw [e]; rfl)
      have hx : RR (W2.setCell ⟨w.heap.size + 1, 0, none⟩ (.slice (some ⟨g2, 0, none⟩) (rl.length + 1) c2)) w.heap.size (.slice (some ⟨g2, 0, none⟩) (rl.length + 1) c2) (pushR rl n wt) ∧ Below w.heap.size w (W2.setCell ⟨w.heap.size + 1, 0, none⟩ (.slice (some ⟨g2, 0, none⟩) (rl.length + 1) c2)) := by
        rw [unhide Hp]
        refine ⟨.inr ⟨by simp, ?_⟩, hb2.setCell (p := ⟨w.heap.size + 1, 0, none⟩) (by simp) _⟩
        rw [List.length_append, flatP_append]
        exact own_off (O := fun j => j = w.heap.size + 1) hown2 (off_set (O := fun j => j = w.heap.size + 1) (off_refl _ _) (p := ⟨w.heap.size + 1, 0, none⟩) (.inl rfl) _) (fun j hj e => by simp only [Value.ownBlock, Option.some.injEq] at hj; omega)
      have Hrc := hide (box_set hbox2 (.slice (some ⟨g2, 0, none⟩) (rl.length + 1) c2))
      have x2 := cell_block hbox2 0 _ rfl
      have xf2 := frozen_block hbox2 0
      have Hx := hide hx
      clear hx hown2 hg2 hv2 hb2 hbox2
      go_wp2
      refine bodyPost_ret (v := .tuple #[.agg #[.slice (some ⟨g2, 0, none⟩) (rl.length + 1) c2], .bool true, .int .i64 0]) ?zz6 rfl ⟨_, by rw [unhide Hm]; rfl, unhide Hx⟩
      have rc := unhide Hrc
      simp [results, Try.results12, go_sem, rc]

set_option maxHeartbeats 8000000 in
set_option maxRecDepth 100000 in
theorem refPush_nil (n wt : Int) (hn : 0 ≤ n ∧ n < 1048576) (w : World) :
    Calls Try.prog 12 #[.agg #[.slice none 0 0], .int .i64 n, .int .i64 wt] w fun e w' => ∃ v', e = .returned (.tuple #[.agg #[v'], .bool true, .int .i64 0]) ∧ RR w' w.heap.size v' [(n, wt)] ∧ Below w.heap.size w w' := by
  obtain ⟨i0, hi, hz0, hz1, hz2⟩ := info_parts htask
  have h1 : ¬ n < 0 := by omega
  have h2 : ¬ (1048576 : Int) ≤ n := by omega
  have h3 : n < 1048576 := by omega
  have hb0 : Below w.heap.size w ((w.alloc (.cells #[.slice none 0 0] 27)).alloc (.cells #[.slice none 0 0] 27)) := ((Below.refl _ w).alloc (Nat.le_refl _) _).alloc (by simp) _
  have Hb0 := hide hb0
  have hbox : ((w.alloc (.cells #[.slice none 0 0] 27)).alloc (.cells #[.slice none 0 0] 27)).heap[w.heap.size + 1]? = some (.cells #[.slice none 0 0] 27 (0, 0)) := by
    have := (MapKept.heap_alloc (w.alloc (.cells #[.slice none 0 0] 27)) (.cells #[.slice none 0 0] 27)).1
    simpa using this
  have Hbox := hide hbox
  have Hnw : Hid (∀ j u, [Value.int .i64 n, .int .i64 wt][j]? = some u → (((w.alloc (.cells #[.slice none 0 0] 27)).alloc (.cells #[.slice none 0 0] 27)).alloc (.cells #[.int .i64 n, .int .i64 wt] 34)).cell? ((⟨w.heap.size + 1 + 1, 0, none⟩ : Addr).add j) = some u) := hide (by
    have := World.news_of_block (MapKept.heap_alloc ((w.alloc (.cells #[.slice none 0 0] 27)).alloc (.cells #[.slice none 0 0] 27)) (.cells #[.int .i64 n, .int .i64 wt] 34)).1
    simpa using this)
  clear hb0 hn hbox
  go_enter Try.func12, Try.ntmps12
  go_wp2
  go_loop [10] (fun x => x = .int .i64 0) (fun x => 0)
  case atStart => rfl
  case round =>
    subst hrel
    go_wp2_with (at_builtin; refine wpList_append_own _ rfl _ _ 25 rfl w.heap.size 34 i0 (.agg #[.int .i64 0, .int .i64 0]) 2 16 Try.underlying25 hi hz0 hz1 hz2 rfl (by decide) _ 0 [] rfl (World.ownsRow_nil _ _ _ _) ⟨w.heap.size + 1 + 1, 0, none⟩ 1 1 [.int .i64 n, .int .i64 wt] rfl rfl (unhide Hnw) (by simp [Value.oneCell']) (by decide) (by decide) (by simp; omega) ?_)
    intro v2 W2 hown2 hg2 hv2
    have hb2 : Below w.heap.size w W2 := ((unhide Hb0).alloc (by simp; omega) _).grown hg2 (by simp; omega) (fun k hk => by simp [Value.ownBlock] at hk)
    have hbox2 : W2.heap[w.heap.size + 1]? = some (.cells #[.slice none 0 0] 27 (0, 0)) := (hg2.block _ (by simp) (fun e => by simp [Value.ownBlock] at e)).trans ((Below.heap_alloc _ _ _ (by simp)).trans (unhide Hbox))
    obtain ⟨g2, c2, rfl, hg2l, hg2s, -⟩ := own_pos hown2 (by omega)
    have hne2 : g2 ≠ w.heap.size + 1 := fun e => row_not hbox2 hown2 (by decide) (by rw [e]; rfl)
    have hx : RR (W2.setCell ⟨w.heap.size + 1, 0, none⟩ (.slice (some ⟨g2, 0, none⟩) 1 c2)) w.heap.size (.slice (some ⟨g2, 0, none⟩) 1 c2) [(n, wt)] ∧ Below w.heap.size w (W2.setCell ⟨w.heap.size + 1, 0, none⟩ (.slice (some ⟨g2, 0, none⟩) 1 c2)) := by
      refine ⟨.inr ⟨by simp, ?_⟩, hb2.setCell (p := ⟨w.heap.size + 1, 0, none⟩) (by simp) _⟩
      exact own_off (O := fun j => j = w.heap.size + 1) hown2 (off_set (O := fun j => j = w.heap.size + 1) (off_refl _ _) (p := ⟨w.heap.size + 1, 0, none⟩) (.inl rfl) _) (fun j hj e => by simp only [Value.ownBlock, Option.some.injEq] at hj; omega)
    have Hrc := hide (box_set hbox2 (.slice (some ⟨g2, 0, none⟩) 1 c2))
    have x2 := cell_block hbox2 0 _ rfl
    have xf2 := frozen_block hbox2 0
    have Hx := hide hx
    clear hx hown2 hg2 hv2 hb2 hbox2
    go_wp2
    refine bodyPost_ret (v := .tuple #[.agg #[.slice (some ⟨g2, 0, none⟩) 1 c2], .bool true, .int .i64 0]) ?zz6 rfl ⟨_, rfl, unhide Hx⟩
    have rc := unhide Hrc
    simp [results, Try.results12, go_sem, rc]

theorem refPush_any (v : Value) (rl : List Pr) (hlen : rl.length ≤ 1048576) (n wt : Int) (hn : 0 ≤ n ∧ n < 1048576) (B : Nat) (w : World) (hr : RR w B v rl) :
    Calls Try.prog 12 #[.agg #[v], .int .i64 n, .int .i64 wt] w fun e w' => ∃ v', e = .returned (.tuple #[.agg #[v'], .bool (!decide (n ∈ rl.map (·.1))), .int .i64 0]) ∧ RR w' w.heap.size v' (pushR rl n wt) ∧ Below w.heap.size w w' := by
  rcases hr with ⟨rfl, rfl⟩ | ⟨h0, h⟩
  · exact refPush_nil n wt hn w
  · obtain ⟨g, c, rfl, -⟩ := own_pos h h0
    exact refPush_some g c rl h0 hlen n wt hn B w h
end Go.Proofs.Ytdpphjedjhjdgaa

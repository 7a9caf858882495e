/- Expressions in memory: formed. -/
import Derived.Test.YtkimhfajfbcdmaaGreatDoorQG
namespace Go.Proofs.YtkimhfajfbcdmaaGreatDoor
open Go.RowKit Go.Maps

theorem isEmpty_len {α : Type} (l : List α) : l.isEmpty = decide (l.length = 0) := by cases l <;> simp
set_option maxHeartbeats 2000000 in
set_option maxRecDepth 100000 in
theorem formed_set (Q : Nat → Prop) (s : List Rg) (ks : List Rx) (w : World) (v0 v1 v2 : Value) (hR : RxAt Q w (.mk 2 s ks) v0 v1 v2) (hS : RxSm (.mk 2 s ks)) :
    Calls Tryz.prog 77 #[.agg #[v0, v1, v2]] w fun e w' => e = .returned (.bool (formA (.mk 2 s ks))) ∧ Below w.heap.size w w' := by
  unfold RxAt at hR
  obtain ⟨rfl, ⟨sa, sc, rfl, hsr, -⟩, ka, kc, vs, rfl, hts, hkc⟩ := hR
  unfold RxSm at hS
  obtain ⟨hs1, hs2, -⟩ := hS
  have HX : Hid (formA (.mk 2 s ks) = (decide (ks.length = 0) && (checkV s == 0))) := hide (by unfold formA; rw [if_pos rfl, isEmpty_len])
  have hsr1 : RowAt (w.alloc (.cells #[.int .i64 2, .slice sa s.length sc, .slice ka ks.length kc] 26)) sa s := rowAt_below (B := w.heap.size) hsr (Nat.le_refl _) ((Below.refl _ _).alloc (Nat.le_refl _) _)
  have HC := hide (check_any sa sc s hs1 _ hsr1)
  have Hb0 := hide ((Below.refl w.heap.size w).alloc (Nat.le_refl _) (.cells #[.int .i64 2, .slice sa s.length sc, .slice ka ks.length kc] 26))
  clear hsr hsr1 hts hkc
  generalize checkV s = z at *
  by_cases hk : ks.length = 0
  · have hki : ((ks.length : Int) == 0) = true := by rw [beq_iff_eq]; omega
    rw [decide_eq_true hk, Bool.true_and] at HX
    clear hk
    go_enter Tryz.func77, Tryz.ntmps77
    go_wp2_with fail
    refine (unhide HC).mono ?_
    rintro e2 w2 ⟨rfl, hb2⟩
    have Hb2 := hide ((unhide Hb0).trans (below_le hb2 (unhide Hb0).size))
    clear hb2
    go_wp2
    go_ret
    exact ⟨by rw [unhide HX]; rfl, unhide Hb2⟩
  · have hki : ((ks.length : Int) == 0) = false := by rw [beq_eq_false_iff_ne]; omega
    rw [decide_eq_false hk, Bool.false_and] at HX
    clear hk
    go_enter Tryz.func77, Tryz.ntmps77
    go_wp2_with fail
    go_ret
    exact ⟨by rw [unhide HX]; rfl, unhide Hb0⟩

set_option maxHeartbeats 2000000 in
set_option maxRecDepth 100000 in
theorem formed_0 (Q : Nat → Prop) (s : List Rg) (ks : List Rx) (w : World) (v0 v1 v2 : Value) (hR : RxAt Q w (.mk 0 s ks) v0 v1 v2) (hS : RxSm (.mk 0 s ks)) (hF : KidsForm Q ks) :
    Calls Tryz.prog 77 #[.agg #[v0, v1, v2]] w fun e w' => e = .returned (.bool (formA (.mk 0 s ks))) ∧ Below w.heap.size w w' := by
  unfold RxAt at hR
  obtain ⟨rfl, ⟨sa, sc, rfl, -⟩, ka, kc, vs, rfl, hts, hkc⟩ := hR
  unfold RxSm at hS
  obtain ⟨hs1, hs2, -⟩ := hS
  have hb0 := (Below.refl w.heap.size w).alloc (Nat.le_refl _) (.cells #[.int .i64 0, .slice sa s.length sc, .slice ka ks.length kc] 26)
  have hts1 := rxTs_kept (Q' := Q) hb0.size (fun k _ hk => hb0.block k hk) (fun k hk _ => hk) ks vs hts
  have hkc1 : ks = [] ∨ ∃ g off, ka = some ⟨g, off, none⟩ ∧ Q g ∧ g < (w.alloc (.cells #[.int .i64 0, .slice sa s.length sc, .slice ka ks.length kc] 26)).heap.size ∧ ∀ j u, vs[j]? = some u → (w.alloc (.cells #[.int .i64 0, .slice sa s.length sc, .slice ka ks.length kc] 26)).cell? ⟨g, off + j, none⟩ = some u := by
    rcases hkc with h | ⟨g, off, h1, h2, h3, h4⟩
    · exact .inl h
    · exact .inr ⟨g, off, h1, h2, Nat.lt_of_lt_of_le h3 hb0.size, fun j u hj => (World.cell?_of_block (a := ⟨g, off + j, none⟩) (hb0.block g h3)).trans (h4 j u hj)⟩
  have HC := hide (containsK_any Q ks hs2 _ ka kc vs hts1 hkc1 hF)
  have Hb0 := hide hb0
  have hX : formA (.mk 0 s ks) = (fitX 0 ks.length && decide (s.length = 0) && formL ks) := by unfold formA; rw [if_neg (by decide), isEmpty_len]
  clear hts hts1 hkc hkc1 hF hb0
  by_cases hk : ks.length = 0
  · have hki : ((ks.length : Int) == 0) = true := by rw [beq_iff_eq]; omega
    have hfx : fitX 0 ks.length = true := by simp [fitX, hk]
    rw [hfx, Bool.true_and] at hX
    by_cases hs : s.length = 0
    · rw [decide_eq_true hs, Bool.true_and] at hX
      obtain rfl : s = [] := List.length_eq_zero_iff.1 hs
      have HX := hide hX
      clear hk hs hX hfx
      generalize formL ks = z at *
      go_enter Tryz.func77, Tryz.ntmps77
      go_wp2_with fail
      refine (unhide HC).mono ?_
      rintro e2 w2 ⟨rfl, hb2⟩
      have Hb2 := hide ((unhide Hb0).trans (below_le hb2 (unhide Hb0).size))
      clear hb2
      go_wp2
      go_ret
      exact ⟨by rw [unhide HX]; cases z <;> rfl, unhide Hb2⟩
    · have hsp : 0 < s.length := by omega
      have hsi : (0 : Int) < s.length := by omega
      rw [decide_eq_false hs, Bool.false_and] at hX
      have HX := hide hX
      clear hk hs hX hfx
      go_enter Tryz.func77, Tryz.ntmps77
      go_wp2_with fail
      go_ret
      exact ⟨by rw [unhide HX]; rfl, unhide Hb0⟩
  · have hki : ((ks.length : Int) == 0) = false := by rw [beq_eq_false_iff_ne]; omega
    have hfx : fitX 0 ks.length = false := by simp only [fitX]; simp; intro h; simp [h] at hk
    rw [hfx, Bool.false_and, Bool.false_and] at hX
    have HX := hide hX
    clear hk hX hfx
    go_enter Tryz.func77, Tryz.ntmps77
    go_wp2_with fail
    go_ret
    exact ⟨by rw [unhide HX]; rfl, unhide Hb0⟩

set_option maxHeartbeats 2000000 in
set_option maxRecDepth 100000 in
theorem formed_1 (Q : Nat → Prop) (s : List Rg) (ks : List Rx) (w : World) (v0 v1 v2 : Value) (hR : RxAt Q w (.mk 1 s ks) v0 v1 v2) (hS : RxSm (.mk 1 s ks)) (hF : KidsForm Q ks) :
    Calls Tryz.prog 77 #[.agg #[v0, v1, v2]] w fun e w' => e = .returned (.bool (formA (.mk 1 s ks))) ∧ Below w.heap.size w w' := by
  unfold RxAt at hR
  obtain ⟨rfl, ⟨sa, sc, rfl, -⟩, ka, kc, vs, rfl, hts, hkc⟩ := hR
  unfold RxSm at hS
  obtain ⟨hs1, hs2, -⟩ := hS
  have hb0 := (Below.refl w.heap.size w).alloc (Nat.le_refl _) (.cells #[.int .i64 1, .slice sa s.length sc, .slice ka ks.length kc] 26)
  have hts1 := rxTs_kept (Q' := Q) hb0.size (fun k _ hk => hb0.block k hk) (fun k hk _ => hk) ks vs hts
  have hkc1 : ks = [] ∨ ∃ g off, ka = some ⟨g, off, none⟩ ∧ Q g ∧ g < (w.alloc (.cells #[.int .i64 1, .slice sa s.length sc, .slice ka ks.length kc] 26)).heap.size ∧ ∀ j u, vs[j]? = some u → (w.alloc (.cells #[.int .i64 1, .slice sa s.length sc, .slice ka ks.length kc] 26)).cell? ⟨g, off + j, none⟩ = some u := by
    rcases hkc with h | ⟨g, off, h1, h2, h3, h4⟩
    · exact .inl h
    · exact .inr ⟨g, off, h1, h2, Nat.lt_of_lt_of_le h3 hb0.size, fun j u hj => (World.cell?_of_block (a := ⟨g, off + j, none⟩) (hb0.block g h3)).trans (h4 j u hj)⟩
  have HC := hide (containsK_any Q ks hs2 _ ka kc vs hts1 hkc1 hF)
  have Hb0 := hide hb0
  have hX : formA (.mk 1 s ks) = (fitX 1 ks.length && decide (s.length = 0) && formL ks) := by unfold formA; rw [if_neg (by decide), isEmpty_len]
  clear hts hts1 hkc hkc1 hF hb0
  by_cases hk : ks.length = 0
  · have hki : ((ks.length : Int) == 0) = true := by rw [beq_iff_eq]; omega
    have hfx : fitX 1 ks.length = true := by simp [fitX, hk]
    rw [hfx, Bool.true_and] at hX
    by_cases hs : s.length = 0
    · rw [decide_eq_true hs, Bool.true_and] at hX
      obtain rfl : s = [] := List.length_eq_zero_iff.1 hs
      have HX := hide hX
      clear hk hs hX hfx
      generalize formL ks = z at *
      go_enter Tryz.func77, Tryz.ntmps77
      go_wp2_with fail
      refine (unhide HC).mono ?_
      rintro e2 w2 ⟨rfl, hb2⟩
      have Hb2 := hide ((unhide Hb0).trans (below_le hb2 (unhide Hb0).size))
      clear hb2
      go_wp2
      go_ret
      exact ⟨by rw [unhide HX]; cases z <;> rfl, unhide Hb2⟩
    · have hsp : 0 < s.length := by omega
      have hsi : (0 : Int) < s.length := by omega
      rw [decide_eq_false hs, Bool.false_and] at hX
      have HX := hide hX
      clear hk hs hX hfx
      go_enter Tryz.func77, Tryz.ntmps77
      go_wp2_with fail
      go_ret
      exact ⟨by rw [unhide HX]; rfl, unhide Hb0⟩
  · have hki : ((ks.length : Int) == 0) = false := by rw [beq_eq_false_iff_ne]; omega
    have hfx : fitX 1 ks.length = false := by simp only [fitX]; simp; intro h; simp [h] at hk
    rw [hfx, Bool.false_and, Bool.false_and] at hX
    have HX := hide hX
    clear hk hX hfx
    go_enter Tryz.func77, Tryz.ntmps77
    go_wp2_with fail
    go_ret
    exact ⟨by rw [unhide HX]; rfl, unhide Hb0⟩

set_option maxHeartbeats 2000000 in
set_option maxRecDepth 100000 in
theorem formed_3 (Q : Nat → Prop) (s : List Rg) (ks : List Rx) (w : World) (v0 v1 v2 : Value) (hR : RxAt Q w (.mk 3 s ks) v0 v1 v2) (hS : RxSm (.mk 3 s ks)) (hF : KidsForm Q ks) :
    Calls Tryz.prog 77 #[.agg #[v0, v1, v2]] w fun e w' => e = .returned (.bool (formA (.mk 3 s ks))) ∧ Below w.heap.size w w' := by
  unfold RxAt at hR
  obtain ⟨rfl, ⟨sa, sc, rfl, -⟩, ka, kc, vs, rfl, hts, hkc⟩ := hR
  unfold RxSm at hS
  obtain ⟨hs1, hs2, -⟩ := hS
  have hb0 := (Below.refl w.heap.size w).alloc (Nat.le_refl _) (.cells #[.int .i64 3, .slice sa s.length sc, .slice ka ks.length kc] 26)
  have hts1 := rxTs_kept (Q' := Q) hb0.size (fun k _ hk => hb0.block k hk) (fun k hk _ => hk) ks vs hts
  have hkc1 : ks = [] ∨ ∃ g off, ka = some ⟨g, off, none⟩ ∧ Q g ∧ g < (w.alloc (.cells #[.int .i64 3, .slice sa s.length sc, .slice ka ks.length kc] 26)).heap.size ∧ ∀ j u, vs[j]? = some u → (w.alloc (.cells #[.int .i64 3, .slice sa s.length sc, .slice ka ks.length kc] 26)).cell? ⟨g, off + j, none⟩ = some u := by
    rcases hkc with h | ⟨g, off, h1, h2, h3, h4⟩
    · exact .inl h
    · exact .inr ⟨g, off, h1, h2, Nat.lt_of_lt_of_le h3 hb0.size, fun j u hj => (World.cell?_of_block (a := ⟨g, off + j, none⟩) (hb0.block g h3)).trans (h4 j u hj)⟩
  have HC := hide (containsK_any Q ks hs2 _ ka kc vs hts1 hkc1 hF)
  have Hb0 := hide hb0
  have hX : formA (.mk 3 s ks) = (fitX 3 ks.length && decide (s.length = 0) && formL ks) := by unfold formA; rw [if_neg (by decide), isEmpty_len]
  clear hts hts1 hkc hkc1 hF hb0
  by_cases hk : 0 < ks.length
  · have hki : (0 : Int) < ks.length := by omega
    have hfx : fitX 3 ks.length = true := by simp [fitX, hk]
    rw [hfx, Bool.true_and] at hX
    by_cases hs : s.length = 0
    · rw [decide_eq_true hs, Bool.true_and] at hX
      obtain rfl : s = [] := List.length_eq_zero_iff.1 hs
      have HX := hide hX
      clear hs hX hfx
      generalize formL ks = z at *
      go_enter Tryz.func77, Tryz.ntmps77
      go_wp2_with fail
      refine (unhide HC).mono ?_
      rintro e2 w2 ⟨rfl, hb2⟩
      have Hb2 := hide ((unhide Hb0).trans (below_le hb2 (unhide Hb0).size))
      clear hb2
      go_wp2
      go_ret
      exact ⟨by rw [unhide HX]; cases z <;> rfl, unhide Hb2⟩
    · have hsp : 0 < s.length := by omega
      have hsi : (0 : Int) < s.length := by omega
      rw [decide_eq_false hs, Bool.false_and] at hX
      have HX := hide hX
      clear hs hX hfx
      go_enter Tryz.func77, Tryz.ntmps77
      go_wp2_with fail
      go_ret
      exact ⟨by rw [unhide HX]; rfl, unhide Hb0⟩
  · obtain rfl : ks = [] := List.length_eq_zero_iff.1 (by omega)
    have hfx : fitX 3 ([] : List Rx).length = false := by rfl
    rw [hfx, Bool.false_and, Bool.false_and] at hX
    have HX := hide hX
    clear hX hfx
    go_enter Tryz.func77, Tryz.ntmps77
    go_wp2_with fail
    go_ret
    exact ⟨by rw [unhide HX]; rfl, unhide Hb0⟩

set_option maxHeartbeats 2000000 in
set_option maxRecDepth 100000 in
theorem formed_4 (Q : Nat → Prop) (s : List Rg) (ks : List Rx) (w : World) (v0 v1 v2 : Value) (hR : RxAt Q w (.mk 4 s ks) v0 v1 v2) (hS : RxSm (.mk 4 s ks)) (hF : KidsForm Q ks) :
    Calls Tryz.prog 77 #[.agg #[v0, v1, v2]] w fun e w' => e = .returned (.bool (formA (.mk 4 s ks))) ∧ Below w.heap.size w w' := by
  unfold RxAt at hR
  obtain ⟨rfl, ⟨sa, sc, rfl, -⟩, ka, kc, vs, rfl, hts, hkc⟩ := hR
  unfold RxSm at hS
  obtain ⟨hs1, hs2, -⟩ := hS
  have hb0 := (Below.refl w.heap.size w).alloc (Nat.le_refl _) (.cells #[.int .i64 4, .slice sa s.length sc, .slice ka ks.length kc] 26)
  have hts1 := rxTs_kept (Q' := Q) hb0.size (fun k _ hk => hb0.block k hk) (fun k hk _ => hk) ks vs hts
  have hkc1 : ks = [] ∨ ∃ g off, ka = some ⟨g, off, none⟩ ∧ Q g ∧ g < (w.alloc (.cells #[.int .i64 4, .slice sa s.length sc, .slice ka ks.length kc] 26)).heap.size ∧ ∀ j u, vs[j]? = some u → (w.alloc (.cells #[.int .i64 4, .slice sa s.length sc, .slice ka ks.length kc] 26)).cell? ⟨g, off + j, none⟩ = some u := by
    rcases hkc with h | ⟨g, off, h1, h2, h3, h4⟩
    · exact .inl h
    · exact .inr ⟨g, off, h1, h2, Nat.lt_of_lt_of_le h3 hb0.size, fun j u hj => (World.cell?_of_block (a := ⟨g, off + j, none⟩) (hb0.block g h3)).trans (h4 j u hj)⟩
  have HC := hide (containsK_any Q ks hs2 _ ka kc vs hts1 hkc1 hF)
  have Hb0 := hide hb0
  have hX : formA (.mk 4 s ks) = (fitX 4 ks.length && decide (s.length = 0) && formL ks) := by unfold formA; rw [if_neg (by decide), isEmpty_len]
  clear hts hts1 hkc hkc1 hF hb0
  by_cases hk : 0 < ks.length
  · have hki : (0 : Int) < ks.length := by omega
    have hfx : fitX 4 ks.length = true := by simp [fitX, hk]
    rw [hfx, Bool.true_and] at hX
    by_cases hs : s.length = 0
    · rw [decide_eq_true hs, Bool.true_and] at hX
      obtain rfl : s = [] := List.length_eq_zero_iff.1 hs
      have HX := hide hX
      clear hs hX hfx
      generalize formL ks = z at *
      go_enter Tryz.func77, Tryz.ntmps77
      go_wp2_with fail
      refine (unhide HC).mono ?_
      rintro e2 w2 ⟨rfl, hb2⟩
      have Hb2 := hide ((unhide Hb0).trans (below_le hb2 (unhide Hb0).size))
      clear hb2
      go_wp2
      go_ret
      exact ⟨by rw [unhide HX]; cases z <;> rfl, unhide Hb2⟩
    · have hsp : 0 < s.length := by omega
      have hsi : (0 : Int) < s.length := by omega
      rw [decide_eq_false hs, Bool.false_and] at hX
      have HX := hide hX
      clear hs hX hfx
      go_enter Tryz.func77, Tryz.ntmps77
      go_wp2_with fail
      go_ret
      exact ⟨by rw [unhide HX]; rfl, unhide Hb0⟩
  · obtain rfl : ks = [] := List.length_eq_zero_iff.1 (by omega)
    have hfx : fitX 4 ([] : List Rx).length = false := by rfl
    rw [hfx, Bool.false_and, Bool.false_and] at hX
    have HX := hide hX
    clear hX hfx
    go_enter Tryz.func77, Tryz.ntmps77
    go_wp2_with fail
    go_ret
    exact ⟨by rw [unhide HX]; rfl, unhide Hb0⟩

set_option maxHeartbeats 2000000 in
set_option maxRecDepth 100000 in
theorem formed_5 (Q : Nat → Prop) (s : List Rg) (ks : List Rx) (w : World) (v0 v1 v2 : Value) (hR : RxAt Q w (.mk 5 s ks) v0 v1 v2) (hS : RxSm (.mk 5 s ks)) (hF : KidsForm Q ks) :
    Calls Tryz.prog 77 #[.agg #[v0, v1, v2]] w fun e w' => e = .returned (.bool (formA (.mk 5 s ks))) ∧ Below w.heap.size w w' := by
  unfold RxAt at hR
  obtain ⟨rfl, ⟨sa, sc, rfl, -⟩, ka, kc, vs, rfl, hts, hkc⟩ := hR
  unfold RxSm at hS
  obtain ⟨hs1, hs2, -⟩ := hS
  have hb0 := (Below.refl w.heap.size w).alloc (Nat.le_refl _) (.cells #[.int .i64 5, .slice sa s.length sc, .slice ka ks.length kc] 26)
  have hts1 := rxTs_kept (Q' := Q) hb0.size (fun k _ hk => hb0.block k hk) (fun k hk _ => hk) ks vs hts
  have hkc1 : ks = [] ∨ ∃ g off, ka = some ⟨g, off, none⟩ ∧ Q g ∧ g < (w.alloc (.cells #[.int .i64 5, .slice sa s.length sc, .slice ka ks.length kc] 26)).heap.size ∧ ∀ j u, vs[j]? = some u → (w.alloc (.cells #[.int .i64 5, .slice sa s.length sc, .slice ka ks.length kc] 26)).cell? ⟨g, off + j, none⟩ = some u := by
    rcases hkc with h | ⟨g, off, h1, h2, h3, h4⟩
    · exact .inl h
    · exact .inr ⟨g, off, h1, h2, Nat.lt_of_lt_of_le h3 hb0.size, fun j u hj => (World.cell?_of_block (a := ⟨g, off + j, none⟩) (hb0.block g h3)).trans (h4 j u hj)⟩
  have HC := hide (containsK_any Q ks hs2 _ ka kc vs hts1 hkc1 hF)
  have Hb0 := hide hb0
  have hX : formA (.mk 5 s ks) = (fitX 5 ks.length && decide (s.length = 0) && formL ks) := by unfold formA; rw [if_neg (by decide), isEmpty_len]
  clear hts hts1 hkc hkc1 hF hb0
  by_cases hk : 0 < ks.length
  · have hki : (0 : Int) < ks.length := by omega
    have hfx : fitX 5 ks.length = true := by simp [fitX, hk]
    rw [hfx, Bool.true_and] at hX
    by_cases hs : s.length = 0
    · rw [decide_eq_true hs, Bool.true_and] at hX
      obtain rfl : s = [] := List.length_eq_zero_iff.1 hs
      have HX := hide hX
      clear hs hX hfx
      generalize formL ks = z at *
      go_enter Tryz.func77, Tryz.ntmps77
      go_wp2_with fail
      refine (unhide HC).mono ?_
      rintro e2 w2 ⟨rfl, hb2⟩
      have Hb2 := hide ((unhide Hb0).trans (below_le hb2 (unhide Hb0).size))
      clear hb2
      go_wp2
      go_ret
      exact ⟨by rw [unhide HX]; cases z <;> rfl, unhide Hb2⟩
    · have hsp : 0 < s.length := by omega
      have hsi : (0 : Int) < s.length := by omega
      rw [decide_eq_false hs, Bool.false_and] at hX
      have HX := hide hX
      clear hs hX hfx
      go_enter Tryz.func77, Tryz.ntmps77
      go_wp2_with fail
      go_ret
      exact ⟨by rw [unhide HX]; rfl, unhide Hb0⟩
  · obtain rfl : ks = [] := List.length_eq_zero_iff.1 (by omega)
    have hfx : fitX 5 ([] : List Rx).length = false := by rfl
    rw [hfx, Bool.false_and, Bool.false_and] at hX
    have HX := hide hX
    clear hX hfx
    go_enter Tryz.func77, Tryz.ntmps77
    go_wp2_with fail
    go_ret
    exact ⟨by rw [unhide HX]; rfl, unhide Hb0⟩

set_option maxHeartbeats 2000000 in
set_option maxRecDepth 100000 in
theorem formed_6 (Q : Nat → Prop) (s : List Rg) (ks : List Rx) (w : World) (v0 v1 v2 : Value) (hR : RxAt Q w (.mk 6 s ks) v0 v1 v2) (hS : RxSm (.mk 6 s ks)) (hF : KidsForm Q ks) :
    Calls Tryz.prog 77 #[.agg #[v0, v1, v2]] w fun e w' => e = .returned (.bool (formA (.mk 6 s ks))) ∧ Below w.heap.size w w' := by
  unfold RxAt at hR
  obtain ⟨rfl, ⟨sa, sc, rfl, -⟩, ka, kc, vs, rfl, hts, hkc⟩ := hR
  unfold RxSm at hS
  obtain ⟨hs1, hs2, -⟩ := hS
  have hb0 := (Below.refl w.heap.size w).alloc (Nat.le_refl _) (.cells #[.int .i64 6, .slice sa s.length sc, .slice ka ks.length kc] 26)
  have hts1 := rxTs_kept (Q' := Q) hb0.size (fun k _ hk => hb0.block k hk) (fun k hk _ => hk) ks vs hts
  have hkc1 : ks = [] ∨ ∃ g off, ka = some ⟨g, off, none⟩ ∧ Q g ∧ g < (w.alloc (.cells #[.int .i64 6, .slice sa s.length sc, .slice ka ks.length kc] 26)).heap.size ∧ ∀ j u, vs[j]? = some u → (w.alloc (.cells #[.int .i64 6, .slice sa s.length sc, .slice ka ks.length kc] 26)).cell? ⟨g, off + j, none⟩ = some u := by
    rcases hkc with h | ⟨g, off, h1, h2, h3, h4⟩
    · exact .inl h
    · exact .inr ⟨g, off, h1, h2, Nat.lt_of_lt_of_le h3 hb0.size, fun j u hj => (World.cell?_of_block (a := ⟨g, off + j, none⟩) (hb0.block g h3)).trans (h4 j u hj)⟩
  have HC := hide (containsK_any Q ks hs2 _ ka kc vs hts1 hkc1 hF)
  have Hb0 := hide hb0
  have hX : formA (.mk 6 s ks) = (fitX 6 ks.length && decide (s.length = 0) && formL ks) := by unfold formA; rw [if_neg (by decide), isEmpty_len]
  clear hts hts1 hkc hkc1 hF hb0
  by_cases hk : ks.length = 1
  · have hki : ((ks.length : Int) == 1) = true := by rw [beq_iff_eq]; omega
    have hfx : fitX 6 ks.length = true := by simp [fitX, hk]
    rw [hfx, Bool.true_and] at hX
    by_cases hs : s.length = 0
    · rw [decide_eq_true hs, Bool.true_and] at hX
      obtain rfl : s = [] := List.length_eq_zero_iff.1 hs
      have HX := hide hX
      clear hk hs hX hfx
      generalize formL ks = z at *
      go_enter Tryz.func77, Tryz.ntmps77
      go_wp2_with fail
      refine (unhide HC).mono ?_
      rintro e2 w2 ⟨rfl, hb2⟩
      have Hb2 := hide ((unhide Hb0).trans (below_le hb2 (unhide Hb0).size))
      clear hb2
      go_wp2
      go_ret
      exact ⟨by rw [unhide HX]; cases z <;> rfl, unhide Hb2⟩
    · have hsp : 0 < s.length := by omega
      have hsi : (0 : Int) < s.length := by omega
      rw [decide_eq_false hs, Bool.false_and] at hX
      have HX := hide hX
      clear hk hs hX hfx
      go_enter Tryz.func77, Tryz.ntmps77
      go_wp2_with fail
      go_ret
      exact ⟨by rw [unhide HX]; rfl, unhide Hb0⟩
  · have hki : ((ks.length : Int) == 1) = false := by rw [beq_eq_false_iff_ne]; omega
    have hfx : fitX 6 ks.length = false := by simp only [fitX]; simp; exact hk
    rw [hfx, Bool.false_and, Bool.false_and] at hX
    have HX := hide hX
    clear hk hX hfx
    go_enter Tryz.func77, Tryz.ntmps77
    go_wp2_with fail
    go_ret
    exact ⟨by rw [unhide HX]; rfl, unhide Hb0⟩

set_option maxHeartbeats 2000000 in
set_option maxRecDepth 100000 in
theorem formed_7 (Q : Nat → Prop) (s : List Rg) (ks : List Rx) (w : World) (v0 v1 v2 : Value) (hR : RxAt Q w (.mk 7 s ks) v0 v1 v2) (hS : RxSm (.mk 7 s ks)) (hF : KidsForm Q ks) :
    Calls Tryz.prog 77 #[.agg #[v0, v1, v2]] w fun e w' => e = .returned (.bool (formA (.mk 7 s ks))) ∧ Below w.heap.size w w' := by
  unfold RxAt at hR
  obtain ⟨rfl, ⟨sa, sc, rfl, -⟩, ka, kc, vs, rfl, hts, hkc⟩ := hR
  unfold RxSm at hS
  obtain ⟨hs1, hs2, -⟩ := hS
  have hb0 := (Below.refl w.heap.size w).alloc (Nat.le_refl _) (.cells #[.int .i64 7, .slice sa s.length sc, .slice ka ks.length kc] 26)
  have hts1 := rxTs_kept (Q' := Q) hb0.size (fun k _ hk => hb0.block k hk) (fun k hk _ => hk) ks vs hts
  have hkc1 : ks = [] ∨ ∃ g off, ka = some ⟨g, off, none⟩ ∧ Q g ∧ g < (w.alloc (.cells #[.int .i64 7, .slice sa s.length sc, .slice ka ks.length kc] 26)).heap.size ∧ ∀ j u, vs[j]? = some u → (w.alloc (.cells #[.int .i64 7, .slice sa s.length sc, .slice ka ks.length kc] 26)).cell? ⟨g, off + j, none⟩ = some u := by
    rcases hkc with h | ⟨g, off, h1, h2, h3, h4⟩
    · exact .inl h
    · exact .inr ⟨g, off, h1, h2, Nat.lt_of_lt_of_le h3 hb0.size, fun j u hj => (World.cell?_of_block (a := ⟨g, off + j, none⟩) (hb0.block g h3)).trans (h4 j u hj)⟩
  have HC := hide (containsK_any Q ks hs2 _ ka kc vs hts1 hkc1 hF)
  have Hb0 := hide hb0
  have hX : formA (.mk 7 s ks) = (fitX 7 ks.length && decide (s.length = 0) && formL ks) := by unfold formA; rw [if_neg (by decide), isEmpty_len]
  clear hts hts1 hkc hkc1 hF hb0
  by_cases hk : ks.length = 1
  · have hki : ((ks.length : Int) == 1) = true := by rw [beq_iff_eq]; omega
    have hfx : fitX 7 ks.length = true := by simp [fitX, hk]
    rw [hfx, Bool.true_and] at hX
    by_cases hs : s.length = 0
    · rw [decide_eq_true hs, Bool.true_and] at hX
      obtain rfl : s = [] := List.length_eq_zero_iff.1 hs
      have HX := hide hX
      clear hk hs hX hfx
      generalize formL ks = z at *
      go_enter Tryz.func77, Tryz.ntmps77
      go_wp2_with fail
      refine (unhide HC).mono ?_
      rintro e2 w2 ⟨rfl, hb2⟩
      have Hb2 := hide ((unhide Hb0).trans (below_le hb2 (unhide Hb0).size))
      clear hb2
      go_wp2
      go_ret
      exact ⟨by rw [unhide HX]; cases z <;> rfl, unhide Hb2⟩
    · have hsp : 0 < s.length := by omega
      have hsi : (0 : Int) < s.length := by omega
      rw [decide_eq_false hs, Bool.false_and] at hX
      have HX := hide hX
      clear hk hs hX hfx
      go_enter Tryz.func77, Tryz.ntmps77
      go_wp2_with fail
      go_ret
      exact ⟨by rw [unhide HX]; rfl, unhide Hb0⟩
  · have hki : ((ks.length : Int) == 1) = false := by rw [beq_eq_false_iff_ne]; omega
    have hfx : fitX 7 ks.length = false := by simp only [fitX]; simp; exact hk
    rw [hfx, Bool.false_and, Bool.false_and] at hX
    have HX := hide hX
    clear hk hX hfx
    go_enter Tryz.func77, Tryz.ntmps77
    go_wp2_with fail
    go_ret
    exact ⟨by rw [unhide HX]; rfl, unhide Hb0⟩

set_option maxHeartbeats 2000000 in
set_option maxRecDepth 100000 in
theorem formed_no (Q : Nat → Prop) (k : Int) (hk : k < 0 ∨ 7 < k) (s : List Rg) (ks : List Rx) (w : World) (v0 v1 v2 : Value) (hR : RxAt Q w (.mk k s ks) v0 v1 v2) :
    Calls Tryz.prog 77 #[.agg #[v0, v1, v2]] w fun e w' => e = .returned (.bool (formA (.mk k s ks))) ∧ Below w.heap.size w w' := by
  unfold RxAt at hR
  obtain ⟨rfl, ⟨sa, sc, rfl, -⟩, ka, kc, vs, rfl, -⟩ := hR
  have Hb0 := hide ((Below.refl w.heap.size w).alloc (Nat.le_refl _) (.cells #[.int .i64 k, .slice sa s.length sc, .slice ka ks.length kc] 26))
  have HX : Hid (formA (.mk k s ks) = false) := hide (by
    unfold formA
    rw [if_neg (by omega)]
    unfold fitX
    rw [if_neg (by omega), if_neg (by omega), if_neg (by omega)]
    rfl)
  have q0 : (k == 0) = false := by rw [beq_eq_false_iff_ne]; omega
  have q1 : (k == 1) = false := by rw [beq_eq_false_iff_ne]; omega
  have q2 : (k == 2) = false := by rw [beq_eq_false_iff_ne]; omega
  have q3 : (k == 3) = false := by rw [beq_eq_false_iff_ne]; omega
  have q4 : (k == 4) = false := by rw [beq_eq_false_iff_ne]; omega
  have q5 : (k == 5) = false := by rw [beq_eq_false_iff_ne]; omega
  have q6 : (k == 6) = false := by rw [beq_eq_false_iff_ne]; omega
  have q7 : (k == 7) = false := by rw [beq_eq_false_iff_ne]; omega
  clear hk
  go_enter Tryz.func77, Tryz.ntmps77
  go_wp2_with fail
  go_ret
  exact ⟨by rw [unhide HX]; rfl, unhide Hb0⟩
theorem formed_all (Q : Nat → Prop) (n : Nat) : ∀ (t : Rx), SizeOf.sizeOf t ≤ n → RxSm t → ∀ (w : World) (v0 v1 v2 : Value), RxAt Q w t v0 v1 v2 →
    Calls Tryz.prog 77 #[.agg #[v0, v1, v2]] w fun e w' => e = .returned (.bool (formA t)) ∧ Below w.heap.size w w' := by
  induction n with
  | zero =>
    rintro ⟨k, s, ks⟩ hn
    rw [Rx.mk.sizeOf_spec] at hn
    omega
  | succ n ih =>
    rintro ⟨k, s, ks⟩ hn hS w v0 v1 v2 hR
    have hS2 := hS
    unfold RxSm at hS2
    have hF : KidsForm Q ks := fun i hi W u0 u1 u2 hu => ih _ (by have := sizeOf_kid (k := k) (s := s) hi; omega) (rxSms_get ks hS2.2.2 i hi) W u0 u1 u2 hu
    by_cases hk : k < 0 ∨ 7 < k
    · exact formed_no Q k hk s ks w v0 v1 v2 hR
    · have h8 : k = 0 ∨ k = 1 ∨ k = 2 ∨ k = 3 ∨ k = 4 ∨ k = 5 ∨ k = 6 ∨ k = 7 := by omega
      rcases h8 with rfl | rfl | rfl | rfl | rfl | rfl | rfl | rfl
      · exact formed_0 Q s ks w v0 v1 v2 hR hS hF
      · exact formed_1 Q s ks w v0 v1 v2 hR hS hF
      · exact formed_set Q s ks w v0 v1 v2 hR hS
      · exact formed_3 Q s ks w v0 v1 v2 hR hS hF
      · exact formed_4 Q s ks w v0 v1 v2 hR hS hF
      · exact formed_5 Q s ks w v0 v1 v2 hR hS hF
      · exact formed_6 Q s ks w v0 v1 v2 hR hS hF
      · exact formed_7 Q s ks w v0 v1 v2 hR hS hF
theorem formed_any (Q : Nat → Prop) (t : Rx) (hS : RxSm t) (w : World) (v0 v1 v2 : Value) (hR : RxAt Q w t v0 v1 v2) :
    Calls Tryz.prog 77 #[.agg #[v0, v1, v2]] w fun e w' => e = .returned (.bool (formA t)) ∧ Below w.heap.size w w' := formed_all Q _ t (Nat.le_refl _) hS w v0 v1 v2 hR
def mayA (t : Rx) : Bool := decide (0 ≤ roomA t 4096 64) && formA t
set_option maxHeartbeats 2000000 in
set_option maxRecDepth 100000 in
theorem mayBe_any (Q : Nat → Prop) (t : Rx) (hS : RxSm t) (w : World) (v0 v1 v2 : Value) (hR : RxAt Q w t v0 v1 v2) :
    Calls Tryz.prog 56 #[.agg #[v0, v1, v2]] w fun e w' => e = .returned (.bool (mayA t)) ∧ Below w.heap.size w w' := by
  obtain ⟨k, s1, n1, c1, s2, n2, c2, rfl, rfl, rfl⟩ := rxAt_formQ hR
  have hkp : ∀ W, Below w.heap.size w W → RxAt Q W t (.int .i64 k) (.slice s1 n1 c1) (.slice s2 n2 c2) := fun W hb => rxAt_kept hb.size (fun k _ hk => hb.block k hk) (fun k hk _ => hk) _ _ _ _ hR
  have HR := hide (fun W hb => room_any Q 64 (Nat.le_refl _) t W _ _ _ 4096 (hkp W hb) hS (by decide) (by decide))
  have HF := hide (fun W hb => formed_any Q t hS W _ _ _ (hkp W hb))
  have HX : Hid (mayA t = (decide (0 ≤ roomA t 4096 64) && formA t)) := hide rfl
  rw [unhide HX]
  clear hR hkp hS HX
  generalize formA t = z at *
  generalize roomA t 4096 64 = q at *
  have Hb0 := hide ((Below.refl w.heap.size w).alloc (Nat.le_refl _) (.cells #[.int .i64 k, .slice s1 n1 c1, .slice s2 n2 c2] 26))
  have hbx : (w.alloc (.cells #[.int .i64 k, .slice s1 n1 c1, .slice s2 n2 c2] 26)).heap[w.heap.size]? = some (.cells #[.int .i64 k, .slice s1 n1 c1, .slice s2 n2 c2] 26 (0, 0)) := (MapKept.heap_alloc w _).1
  have Hbx := hide hbx
  have HR1 := hide (unhide HR _ (unhide Hb0))
  clear hbx HR
  by_cases hq : 0 ≤ q
  · rw [decide_eq_true hq, Bool.true_and]
    have hqd : decide (0 ≤ q) = true := decide_eq_true hq
    go_enter Tryz.func56, Tryz.ntmps56
    go_wp2_with fail
    refine (unhide HR1).mono ?_
    rintro e2 w2 ⟨rfl, hb2⟩
    have hx2 := (hb2.block w.heap.size (by simp)).trans (unhide Hbx)
    have d0 := cell_block hx2 0 _ rfl
    have d1 := cell_block hx2 1 _ rfl
    have d2 := cell_block hx2 2 _ rfl
    have hb2' := (unhide Hb0).trans (below_le hb2 (unhide Hb0).size)
    have HF2 := hide (unhide HF w2 hb2')
    have Hb2 := hide hb2'
    clear hb2 hx2 hb2'
    go_wp2_with fail
    refine (unhide HF2).mono ?_
    rintro e3 w3 ⟨rfl, hb3⟩
    have Hb3 := hide ((unhide Hb2).trans (below_le hb3 (unhide Hb2).size))
    clear hb3
    go_wp2
    go_ret
    exact ⟨rfl, unhide Hb3⟩
  · rw [decide_eq_false hq, Bool.false_and]
    have hqd : decide (0 ≤ q) = false := decide_eq_false hq
    clear hq
    go_enter Tryz.func56, Tryz.ntmps56
    go_wp2_with fail
    refine (unhide HR1).mono ?_
    rintro e2 w2 ⟨rfl, hb2⟩
    have Hb2 := hide ((unhide Hb0).trans (below_le hb2 (unhide Hb0).size))
    clear hb2
    go_wp2
    go_ret
    exact ⟨rfl, unhide Hb2⟩
end Go.Proofs.YtkimhfajfbcdmaaGreatDoor

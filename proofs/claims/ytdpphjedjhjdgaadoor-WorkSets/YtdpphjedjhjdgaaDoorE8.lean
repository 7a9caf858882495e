/- The document's sets: with, Add. -/
import Derived.Test.YtdpphjedjhjdgaaDoorE7
namespace Go.Proofs.YtdpphjedjhjdgaaDoor
open Go.RowKit Go.Maps

/-- A row of the document's numbers. -/
def RowI (w : World) (B : Nat) (v : Value) (L : List Int) : Prop := (L = [] ∧ v = .slice none 0 0) ∨ (0 < L.length ∧ w.ownsRow B 3 1 v L.length (intV L))
theorem rowI_form {w : World} {B : Nat} {v : Value} {L : List Int} (h : RowI w B v L) : ∃ a c, v = .slice a L.length c := by
  rcases h with ⟨rfl, rfl⟩ | ⟨_, h⟩
  · exact ⟨_, _, rfl⟩
  · exact own_form h
theorem rowI_off {O : Nat → Prop} {w w' : World} {B : Nat} {v : Value} {L : List Int} (h : RowI w B v L) (ho : Off O w w') (hn : ∀ k, v.ownBlock = some k → ¬ O k) : RowI w' B v L := by
  rcases h with h | ⟨h0, h⟩
  · exact .inl h
  · exact .inr ⟨h0, own_off h ho hn⟩
theorem rowI_below {w w' : World} {B : Nat} {v : Value} {L : List Int} (h : RowI w B v L) (hb : Below w.heap.size w w') : RowI w' B v L := rowI_off (O := fun _ => False) h (off_below hb) (fun _ _ h => h)
theorem rowI_mono {w : World} {B B' : Nat} {v : Value} {L : List Int} (h : RowI w B v L) (hB : B' ≤ B) : RowI w B' v L := by
  rcases h with h | ⟨h0, h⟩
  · exact .inl h
  · refine .inr ⟨h0, h.1, ?_⟩
    rcases h.2 with h1 | ⟨g, cap, cur, hv, hg, r⟩
    · exact .inl h1
    · exact .inr ⟨g, cap, cur, hv, by omega, r⟩
theorem intV_at (L : List Int) (k : Nat) (hk : k < L.length) : (intV L).getD k undef = .int .i64 (L.getD k 0) := by
  unfold intV
  rw [List.getD_eq_getElem?_getD, List.getElem?_map, List.getElem?_eq_getElem hk, List.getD_eq_getElem?_getD, List.getElem?_eq_getElem hk]; rfl
theorem intV_one (L : List Int) : ∀ u ∈ intV L, u.oneCell' = true := by
  intro u hu
  obtain ⟨m, -, rfl⟩ := List.mem_map.1 hu
  rfl
theorem own_nrow {w : World} {B g n c : Nat} {L : List Int} (h : w.ownsRow B 3 1 (.slice (some ⟨g, 0, none⟩) n c) n (intV L)) : NRow w (some ⟨g, 0, none⟩) L := by
  by_cases h0 : L = []
  · exact .inl h0
  · refine .inr ⟨g, 0, rfl, (h.lt g rfl).2, fun j hj => ?_⟩
    rw [Nat.zero_add, own_cell h rfl j (by rw [intV_length]; exact hj), intV_at L j hj]
theorem rowI_nrow {w : World} {B : Nat} {a : Option Addr} {n c : Nat} {L : List Int} (h : RowI w B (.slice a n c) L) (hn : n = L.length) : NRow w a L := by
  rcases h with ⟨rfl, _⟩ | ⟨h0, h⟩
  · exact .inl rfl
  · subst hn
    obtain ⟨g, c', e, -⟩ := own_pos h h0
    simp only [Value.slice.injEq] at e
    obtain ⟨rfl, -, rfl⟩ := e
    exact own_nrow h
/-- A number more, where it belongs. -/
theorem up_ins {L : List Int} (h : Up L) {i : Nat} {n : Int} (h1 : ∀ j, j < i → L.getD j 0 < n) (hi : i ≤ L.length) (h2 : i < L.length → n < L.getD i 0) : Up (L.take i ++ n :: L.drop i) ∧ ∀ m, m ∈ L.take i ++ n :: L.drop i ↔ m = n ∨ m ∈ L := by
  refine ⟨?_, fun m => ?_⟩
  · unfold Up
    rw [List.pairwise_append]
    have pw := List.pairwise_iff_getElem.1 h
    have hlow : ∀ x ∈ L.take i, x < n := fun x hx => by
      obtain ⟨j, hj, rfl⟩ := List.mem_iff_getElem.1 hx
      rw [List.length_take] at hj
      have := h1 j (by omega)
      rw [List.getD_eq_getElem?_getD, List.getElem?_eq_getElem (by omega)] at this
      rw [List.getElem_take]; exact this
    have hup : ∀ y ∈ L.drop i, n < y := fun y hy => by
      obtain ⟨j, hj, rfl⟩ := List.mem_iff_getElem.1 hy
      rw [List.length_drop] at hj
      have := h2 (by omega)
      rw [List.getD_eq_getElem?_getD, List.getElem?_eq_getElem (by omega)] at this
      rw [List.getElem_drop]
      by_cases h0 : j = 0
      · subst h0; exact this
      · have := pw i (i + j) (by omega) (by omega) (by omega)
        simp only [Option.getD_some] at *
        omega
    refine ⟨h.sublist (List.take_sublist _ _), List.pairwise_cons.2 ⟨hup, h.sublist (List.drop_sublist _ _)⟩, fun x hx y hy => ?_⟩
    rcases List.mem_cons.1 hy with rfl | hy
    · exact hlow x hx
    · have := hlow x hx; have := hup y hy; omega
  · conv => rhs; rw [← List.take_append_drop i L]
    simp only [List.mem_append, List.mem_cons]
    constructor
    · rintro (h | h | h)
      · exact .inr (.inl h)
      · exact .inl h
      · exact .inr (.inr h)
    · rintro (h | h | h)
      · exact .inr (.inl h)
      · exact .inl h
      · exact .inr (.inr h)
theorem box30 {W : World} {b : Nat} {x : Value} (h : W.heap[b]? = some (.cells #[x] 32 (0, 0))) (v : Value) : (W.setCell ⟨b, 0, none⟩ v).cell? ⟨b, 0, none⟩ = some v := cell_block (block_set (i := 0) h v) 0 _ rfl

set_option maxHeartbeats 8000000 in
set_option maxRecDepth 100000 in
/-- with, where the number is there. -/
theorem with_old (a : Option Addr) (c : Nat) (L : List Int) (hlen : L.length ≤ 1048576) (n : Int) (hn : n ∈ L) (w : World) (hrow : NRow w a L) :
    Calls Tryd.prog 26 #[.agg #[.slice a L.length c], .int .i64 n] w fun e w' => e = .returned (.agg #[.slice a L.length c]) ∧ Below w.heap.size w w' := by
  have hb0 : Below w.heap.size w ((w.alloc (.cells #[.slice a L.length c] 32)).alloc (.cells #[.slice none 0 0] 32)) := ((Below.refl _ w).alloc (Nat.le_refl _) _).alloc (by simp) _
  have HH := hide (refHas_any a c L (by omega) n ((w.alloc (.cells #[.slice a L.length c] 32)).alloc (.cells #[.slice none 0 0] 32)) (nrow_below hrow hb0 (Nat.le_refl _)))
  rw [show decide (n ∈ L) = true by simpa using hn] at HH
  have hb0x : ((w.alloc (.cells #[.slice a L.length c] 32)).alloc (.cells #[.slice none 0 0] 32)).heap[w.heap.size]? = some (.cells #[.slice a L.length c] 32 (0, 0)) := (Below.heap_alloc _ _ _ (by simp)).trans (MapKept.heap_alloc w _).1
  have hb1x : ((w.alloc (.cells #[.slice a L.length c] 32)).alloc (.cells #[.slice none 0 0] 32)).heap[w.heap.size + 1]? = some (.cells #[.slice none 0 0] 32 (0, 0)) := by
    have := (MapKept.heap_alloc (w.alloc (.cells #[.slice a L.length c] 32)) (.cells #[.slice none 0 0] 32)).1
    simpa using this
  have Hb0 := hide hb0; have HX := hide hb0x; have HY := hide hb1x
  clear hrow hn hb0 hb0x hb1x
  go_enter Tryd.func26, Tryd.ntmps26
  go_wp2_with fail
  refine (unhide HH).mono ?_
  rintro e w1 ⟨rfl, hb1⟩
  have x1 := (hb1.block _ (lt_of_some (unhide HX))).trans (unhide HX)
  have y1 := (hb1.block _ (lt_of_some (unhide HY))).trans (unhide HY)
  have c0 := cell_block x1 0 _ rfl
  have c1 := cell_block y1 0 _ rfl
  have f1 := frozen_block y1 0
  have Hrc := hide (box30 y1 (.slice a L.length c))
  have Hb1 := hide (((unhide Hb0).trans (hb1.mono (unhide Hb0).size)).setCell (p := ⟨w.heap.size + 1, 0, none⟩) (by simp) (.slice a L.length c))
  clear hb1 x1 y1 HH HX HY Hb0
  go_wp2
  refine bodyPost_ret (v := .agg #[.slice a L.length c]) ?zz1 rfl ⟨rfl, unhide Hb1⟩
  have rc := unhide Hrc
  simp [results, Tryd.results26, go_sem, rc]
end Go.Proofs.YtdpphjedjhjdgaaDoor

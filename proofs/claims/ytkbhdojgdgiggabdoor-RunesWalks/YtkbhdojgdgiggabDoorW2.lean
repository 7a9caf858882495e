/- All, and what its iterator tells: the runes of a set, rising. -/
import Derived.Test.YtkbhdojgdgiggabDoorW1
namespace Go.Proofs.YtkbhdojgdgiggabDoor
open Go.RowKit Go.Shelf

attribute [local go_sem] Oper.semAt_some

set_option maxRecDepth 100000 in
set_option maxHeartbeats 2000000 in
theorem allNil_in (F : Fence) (n : Nat) (h42 : F.fn 42) (hro : F.round = none) (l0 Bs : Nat) (J : List Int → World → Prop) (W : World)
    (hBs : W.cell? ⟨Bs, 0, none⟩ = some (.slice none 0 0)) (h0 : J [] W) :
    CallsIn F n Tryd.prog 42 #[.func (.yield l0) #[] #[], .pointer (some ⟨Bs, 0, none⟩)] W fun e W' => (∃ v, e = .returned v) ∧ J [] W' := by
  refine callsIn_of_wp Tryd.func42 rfl h42 ?_ hro
  simp only [Tryd.ntmps42, List.size_toArray, List.length_cons, List.length_nil, Nat.reduceAdd, Nat.reduceSub, Array.replicate_succ, Array.replicate_zero, List.push_toArray, List.append_toArray, List.nil_append, List.cons_append]
  gi_wp2
  gi_loopw [8] (fun i wr => i = .int .i64 0 ∧ J [] wr) (fun _ _ => 0)
  case atStart => exact ⟨rfl, h0⟩
  case round =>
    obtain ⟨rfl, hJs⟩ := hrel
    gi_wp2
    go_end0
    exact ⟨⟨_, rfl⟩, hJs⟩

theorem all_stops (F : Fence) (n : Nat) (h42 : F.fn 42) (hro : F.round = none) (hn : 1 ≤ n) (Bs : Nat) (O : Nat → Prop) (v : Value) (l : List Rng) (hlen : l.length ≤ 2048) (hR : ∀ x ∈ l, isR x = true) (w : World)
    (hO : ∀ o, O o → o < w.heap.size) (hBl : Bs < w.heap.size) (hBs : w.cell? ⟨Bs, 0, none⟩ = some v)
    (hv : (v = .slice none 0 0 ∧ l = []) ∨ ∃ b off cap, v = .slice (some ⟨b, off, none⟩) l.length cap ∧ b < w.heap.size ∧ ¬ O b ∧ ∀ j, j < l.length → w.cell? ⟨b, off + j * 2, none⟩ = some (.int .i32 (l.getD j (0, 0)).1) ∧ w.cell? ⟨b, off + j * 2 + 1, none⟩ = some (.int .i32 (l.getD j (0, 0)).2)) :
    SeqStopsK F n Tryd.prog 42 #[.pointer (some ⟨Bs, 0, none⟩)] (fun x : Int => #[Value.int .i32 x]) (Keep O) (fun ys => ys = runesL l) (fun pre => pre <+: runesL l) (runesL l).length w := fun l0 J Jx W hW hJ _ hY h0 => by
  have hc := (hW.cell (p := ⟨Bs, 0, none⟩) hBl).trans hBs
  rcases hv with ⟨rfl, rfl⟩ | ⟨b, off, cap, rfl, hbl, hb, hcs⟩
  · exact (allNil_in F n h42 hro l0 Bs J W hc h0).mono fun e W' ⟨he, hj⟩ => ⟨he, .inl ⟨_, rfl, hj⟩⟩
  · exact allGo_in F n h42 hro hn l0 Bs b off cap O l hlen hR J Jx hY W (fun o ho => Nat.lt_of_lt_of_le (hO o ho) hW.size) hb hJ hc
      (fun j hj => ⟨(hW.cell (p := ⟨b, off + j * 2, none⟩) hbl).trans (hcs j hj).1, (hW.cell (p := ⟨b, off + j * 2 + 1, none⟩) hbl).trans (hcs j hj).2⟩) h0

/-- What All keeps. -/
def keptL (l : List Rng) : List Rng := if checkV l = 0 then l else []

/-- The runes of a set rise, are the ones that it has, and are as many as its size. -/
theorem span_mem (x : Rng) (j : Nat) (r : Int) : r ∈ span x j ↔ x.1 ≤ r ∧ r < x.1 + j := by
  simp only [span, List.mem_map, List.mem_range]
  constructor
  · rintro ⟨k, hk, rfl⟩; omega
  · intro h; exact ⟨(r - x.1).toNat, by omega, by omega⟩
theorem runes_mem (l : List Rng) (r : Int) : r ∈ runesL l ↔ hasB l r = true := by
  induction l with
  | nil => simp [runesL, hasB_nil]
  | cons x l ih =>
    have h1 : runesL (x :: l) = span x (cnt1 x) ++ runesL l := rfl
    rw [h1, List.mem_append, ih, hasB_cons, span_mem]
    simp only [Bool.or_eq_true, decide_eq_true_eq]
    unfold cnt1
    constructor
    · rintro (h | h)
      · left; omega
      · right; exact h
    · rintro (h | h)
      · left; omega
      · right; exact h
theorem span_rises (x : Rng) (j : Nat) : (span x j).Pairwise (· < ·) := by
  unfold span
  rw [List.pairwise_map]
  exact List.Pairwise.imp (fun {a b} h => by omega) List.pairwise_lt_range
theorem runes_rise {lo : Int} {l : List Rng} (h : Up lo l) : (runesL l).Pairwise (· < ·) := by
  induction l generalizing lo with
  | nil => simp [runesL]
  | cons x l ih =>
    have h1 : runesL (x :: l) = span x (cnt1 x) ++ runesL l := rfl
    obtain ⟨a, b, c, d⟩ := h
    rw [h1, List.pairwise_append]
    refine ⟨span_rises _ _, ih d, fun r hr s hs => ?_⟩
    rw [span_mem] at hr
    have := (up_lo d ((runes_mem l s).1 hs)).1
    unfold cnt1 at hr
    omega
theorem runes_length {lo : Int} {l : List Rng} (h : Up lo l) : ((runesL l).length : Int) = sumR l := by
  induction l generalizing lo with
  | nil => simp [runesL, sumR]
  | cons x l ih =>
    have h1 : runesL (x :: l) = span x (cnt1 x) ++ runesL l := rfl
    obtain ⟨a, b, c, d⟩ := h
    have := ih d
    rw [h1, List.length_append, span_length, sumR_cons]
    unfold cnt1
    omega
theorem runes_size (l : List Rng) : ((runesL (keptL l)).length : Int) = sizeV l := by
  unfold keptL
  by_cases h : checkV l = 0
  · rw [if_pos h, runes_length (set_up h), size_sum h]
  · rw [if_neg h]; unfold sizeV; rw [if_neg h]; simp [runesL]
theorem kept_set (l : List Rng) : (∀ x ∈ keptL l, isR x = true) ∧ Up 0 (keptL l) ∧ (keptL l).length ≤ 2048 := by
  unfold keptL
  by_cases h : checkV l = 0
  · rw [if_pos h]; exact ⟨set_isR h, set_up h, (checkV_zero h).2⟩
  · rw [if_neg h]; exact ⟨fun x hx => by simp at hx, trivial, by simp⟩
end Go.Proofs.YtkbhdojgdgiggabDoor

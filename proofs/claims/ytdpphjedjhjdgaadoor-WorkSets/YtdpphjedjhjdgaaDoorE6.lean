/- What All tells: the numbers that are in it, rising. -/
import Derived.Test.YtdpphjedjhjdgaaDoorE5
namespace Go.Proofs.YtdpphjedjhjdgaaDoor
open Go.RowKit Go.Maps

/-- Numbers rise. -/
def Up (l : List Int) : Prop := l.Pairwise (· < ·)
theorem up_ext : ∀ {a b : List Int}, Up a → Up b → (∀ m, m ∈ a ↔ m ∈ b) → a = b := by
  intro a
  induction a with
  | nil =>
    intro b _ _ h
    cases b with
    | nil => rfl
    | cons y b => exact absurd ((h y).2 (by simp)) (by simp)
  | cons x a ih =>
    intro b ha hb h
    cases b with
    | nil => exact absurd ((h x).1 (by simp)) (by simp)
    | cons y b =>
      have ha' := List.pairwise_cons.1 ha
      have hb' := List.pairwise_cons.1 hb
      have e : x = y := by
        have h1 := (h x).1 (by simp)
        have h2 := (h y).2 (by simp)
        rcases List.mem_cons.1 h1 with h1 | h1
        · exact h1
        · rcases List.mem_cons.1 h2 with h2 | h2
          · exact h2.symm
          · have := hb'.1 x h1; have := ha'.1 y h2; omega
      subst e
      congr 1
      refine ih ha'.2 hb'.2 fun m => ?_
      constructor
      · intro hm
        rcases List.mem_cons.1 ((h m).1 (List.mem_cons_of_mem _ hm)) with e | hm'
        · have := ha'.1 m hm; omega
        · exact hm'
      · intro hm
        rcases List.mem_cons.1 ((h m).2 (List.mem_cons_of_mem _ hm)) with e | hm'
        · have := hb'.1 m hm; omega
        · exact hm'
theorem mem_num (b : Blk) (m : Int) : m ∈ numL b ↔ m / 64 = b.1 ∧ b.2.toNat.testBit (m % 64).toNat = true := by
  unfold numL bitsL
  rw [List.mem_map]
  have h1 := Int.emod_nonneg m (show (64 : Int) ≠ 0 by decide)
  have h2 := Int.emod_lt_of_pos m (show (0 : Int) < 64 by decide)
  constructor
  · rintro ⟨i, hi, rfl⟩
    rw [List.mem_filter, List.mem_range] at hi
    have e1 : (b.1 * 64 + (i : Int)) / 64 = b.1 := by omega
    have e2 : ((b.1 * 64 + (i : Int)) % 64).toNat = i := by omega
    rw [e1, e2]
    exact ⟨rfl, hi.2⟩
  · rintro ⟨h3, h4⟩
    refine ⟨(m % 64).toNat, ?_, by omega⟩
    rw [List.mem_filter, List.mem_range]
    exact ⟨by omega, h4⟩
theorem mem_all {bl : List Blk} (hr : Rises bl) (hf : FitB bl) (m : Int) : m ∈ allL bl ↔ hasB bl m = true := by
  rw [has_bit hf]
  unfold allL
  rw [List.mem_flatMap]
  constructor
  · rintro ⟨⟨t, y⟩, hb, hm⟩
    rw [mem_num] at hm
    simp only at hm
    rw [hm.1, bitsB_mem hr hb]
    exact hm.2
  · intro h
    by_cases hx : ∃ y, (m / 64, y) ∈ bl
    · obtain ⟨y, hy⟩ := hx
      rw [bitsB_mem hr hy] at h
      exact ⟨(m / 64, y), hy, (mem_num _ _).2 ⟨rfl, h⟩⟩
    · rw [bitsB_not (fun y hy => hx ⟨y, hy⟩)] at h
      simp at h
theorem up_all {bl : List Blk} (hr : Rises bl) : Up (allL bl) := by
  unfold Up allL
  rw [List.pairwise_flatMap]
  refine ⟨fun b _ => ?_, hr.imp fun {a b} hab x hx y hy => ?_⟩
  · unfold numL bitsL
    rw [List.pairwise_map]
    have : (List.range 64).Pairwise (· < ·) := List.pairwise_lt_range
    exact (this.filter _).imp fun h => by omega
  · have h1 := ((mem_num a x).1 hx).1
    have h2 := ((mem_num b y).1 hy).1
    show x < y
    omega
/-- Two rows that rise and have the same numbers are one. -/
theorem all_is {bl : List Blk} (hr : Rises bl) (hf : FitB bl) {l : List Int} (hl : Up l) (h : ∀ m, m ∈ l ↔ hasB bl m = true) : l = allL bl :=
  up_ext hl (up_all hr) fun m => (h m).trans (mem_all hr hf m).symm
end Go.Proofs.YtdpphjedjhjdgaaDoor

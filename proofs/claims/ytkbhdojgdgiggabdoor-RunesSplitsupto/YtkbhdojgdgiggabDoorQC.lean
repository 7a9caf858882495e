/- slices.Compact at rune; a row that is sorted and compacted. -/
import Derived.Test.YtkbhdojgdgiggabDoorQB
import Derived.Test.YtkbhdojgdgiggabDoorV16
import Derived.Shelf.SlicesE.Compact
namespace Go.Proofs
open Go.Shelf
def Tryd.compR_ren : Go.Shelf.Ren := ⟨fun | 43 => 36 | n => n, fun | 22 => 35 | 23 => 21 | 3 => 3 | 4 => 4 | 0 => 0 | n => n, fun | n => n⟩
theorem Tryd.compR : Go.Proofs.SlLaysE.n43 Tryd.prog Tryd.compR_ren := {
  mixed := by kernel_rfl
  f43 := ⟨Tryd.f36.name, by decide, Tryd.func36.trans (congrArg some (by kernel_rfl))⟩
  t0 := Tryd.underlying0
  a0 := Tryd.isAgg0
  z0 := Tryd.sizeOf0
  v0 := Tryd.zeroValue0
  t3 := Tryd.underlying3
  a3 := Tryd.isAgg3
  z3 := Tryd.sizeOf3
  v3 := Tryd.zeroValue3
  t4 := Tryd.underlying4
  a4 := Tryd.isAgg4
  z4 := Tryd.sizeOf4
  v4 := Tryd.zeroValue4
  t22 := Tryd.underlying35
  a22 := Tryd.isAgg35
  z22 := Tryd.sizeOf35
  v22 := Tryd.zeroValue35
  a23 := Tryd.isAgg21
  z23 := Tryd.sizeOf21 }
end Go.Proofs
namespace Go.Proofs.YtkbhdojgdgiggabDoor
open Go.RowKit Go.Sort

theorem put_off (enc : Int → Value) (w : World) (q b off : Nat) (d : Array Int) : OfB b w (putRow enc (Sort.ahead w q) b off d) :=
  ⟨by rw [size_putRow]; exact Nat.le_refl _, fun k _ hn => by
    show (w.heap.modify b _)[k]? = _
    rw [Array.getElem?_modify, if_neg (by omega)], rfl, rfl, rfl⟩

/-- A row whose cells are known, in a block of its own. -/
theorem own_mk {w : World} {b cap : Nat} {cur : Array Value} {l : List Int} (hb : w.heap[b]? = some (.cells cur 21 (0, 0))) (hc : cur.size = cap) (hm : cap ≤ maxLen) (hl : l.length ≤ cap) (h : ∀ j, j < l.length → w.cell? ⟨b, j, none⟩ = some (.int .i32 (l.getD j 0))) :
    w.ownsRow b 21 1 (.slice (some ⟨b, 0, none⟩) l.length cap) l.length (rc l) := by
  refine ⟨by rw [rc_length]; omega, .inr ⟨b, cap, cur, rfl, Nat.le_refl _, hb, hl, hm, by omega, ?_⟩⟩
  refine List.ext_getElem? fun j => ?_
  by_cases hj : j < l.length
  · have h1 : cur[j]? = some (.int .i32 (l.getD j 0)) := by
      have h1 := h j hj
      simp only [World.cell?, hb] at h1
      simpa using h1
    rw [rc_at l j hj, List.getElem?_take_of_lt (by omega), Array.getElem?_toList]
    exact h1
  · rw [List.getElem?_eq_none (by simp; omega), List.getElem?_eq_none (by rw [rc_length]; omega)]

theorem compact_any (b cap n : Nat) (d : Array Int) (hn : n ≤ 281474976710656) (w : World) (h : RW w b cap n d) :
    Calls Tryd.prog 36 #[.slice (some ⟨b, 0, none⟩) n cap] w fun e w' => e = .returned (.slice (some ⟨b, 0, none⟩) (Lib.compactUpTo d n).length cap) ∧ w'.ownsRow b 21 1 (.slice (some ⟨b, 0, none⟩) (Lib.compactUpTo d n).length cap) (Lib.compactUpTo d n).length (rc (Lib.compactUpTo d n)) ∧ OfB b w w' := by
  have hs := h.1
  have hcap : n ≤ cap := by
    rcases h.2.2 with ⟨h1, _⟩ | ⟨g, cap', cur, h1, _, _, h2, _⟩
    · cases h1
    · simp only [Value.slice.injEq] at h1; omega
  have hH : Holds (Value.int .i32) w b 0 d := fun j hj => by
    rw [Nat.zero_add]
    exact ⟨rw_cell h j (by omega), rw_frozen h j⟩
  have hc := AnyE.slices_Compact (ρ := Tryd.compR_ren) Tryd.compR (Value.int .i32) (fun x => rfl) (EqlAt.intD Tryd.prog 21 .i32) (NeqAt.intD Tryd.prog 21 .i32) 0 Tryd.zeroValue21 b 0 cap d w hH (by omega) (by omega)
  rw [hs] at hc
  refine hc.mono ?_
  rintro e w' ⟨he, q, hw⟩
  refine ⟨he, ?_, hw ▸ put_off _ w q b 0 _⟩
  have hle : (Lib.compactUpTo d n).length ≤ n := by
    unfold Lib.compactUpTo
    rw [List.length_map]
    exact Nat.le_trans (List.length_filter_le _ _) (by simp)
  obtain ⟨cur, hcur, hcs, hcm⟩ : ∃ cur, w.heap[b]? = some (.cells cur 21 (0, 0)) ∧ cur.size = cap ∧ cap ≤ maxLen := by
    rcases h.2.2 with ⟨h1, _⟩ | ⟨g, cap', cur, h1, _, h3, _, h4, h5, _⟩
    · cases h1
    · simp only [Value.slice.injEq] at h1
      obtain ⟨h1, _, rfl⟩ := h1
      cases h1
      exact ⟨cur, h3, by omega, h4⟩
  have hb' : w'.heap[b]? = some (.cells (putCells (Value.int .i32) 0 (Lib.compactUpTo d n ++ List.replicate (n - (Lib.compactUpTo d n).length) 0).toArray cur) 21 (0, 0)) := by
    rw [hw]
    show (w.heap.modify b _)[b]? = _
    rw [Array.getElem?_modify, if_pos rfl, hcur]
    rfl
  refine own_mk hb' (by simp [putCells]; exact hcs) hcm (by omega) fun j hj => ?_
  have hh := holds_putRow (Value.int .i32) (Sort.ahead w q) b 0 d (Lib.compactUpTo d n ++ List.replicate (n - (Lib.compactUpTo d n).length) 0).toArray hH (by simp; omega) j (by simp; omega)
  rw [Nat.zero_add] at hh
  rw [hw]
  refine hh.1.trans ?_
  congr 2
  simp [List.getElem?_append_left hj, List.getElem!_eq_getElem?_getD]

/-- Rising, each once: there is one such list of some numbers. -/
theorem lt_ext : ∀ {l m : List Int}, l.Pairwise (· < ·) → m.Pairwise (· < ·) → (∀ x, x ∈ l ↔ x ∈ m) → l = m
  | [], [], _, _, _ => rfl
  | [], y :: m, _, _, h => by have := (h y).2 (by simp); simp at this
  | x :: l, [], _, _, h => by have := (h x).1 (by simp); simp at this
  | x :: l, y :: m, hl, hm, h => by
    rw [List.pairwise_cons] at hl hm
    have hxy : x = y := by
      have h1 := (h x).1 (by simp)
      have h2 := (h y).2 (by simp)
      rw [List.mem_cons] at h1 h2
      rcases h1 with h1 | h1
      · exact h1
      · rcases h2 with h2 | h2
        · exact h2.symm
        · have := hm.1 x h1; have := hl.1 y h2; omega
    subst hxy
    congr 1
    refine lt_ext hl.2 hm.2 fun z => ?_
    have hz := h z
    rw [List.mem_cons, List.mem_cons] at hz
    constructor
    · intro hzl
      rcases hz.1 (.inr hzl) with e | e
      · have := hl.1 z hzl; omega
      · exact e
    · intro hzm
      rcases hz.2 (.inr hzm) with e | e
      · have := hm.1 z hzm; omega
      · exact e

theorem compact_inv (d : Array Int) (hs : d.toList.Pairwise (· ≤ ·)) (m : Nat) (hm : m ≤ d.size) : (Lib.compactUpTo d m).Pairwise (· < ·) ∧ ∀ x, x ∈ Lib.compactUpTo d m ↔ ∃ j, j < m ∧ d[j]! = x := by
  have hle : ∀ i j, i < j → j < d.size → d[i]! ≤ d[j]! := fun i j hij hj => by
    rw [List.pairwise_iff_getElem] at hs
    have := hs i j (by simp; omega) (by simpa using hj) hij
    simpa [hj, show i < d.size by omega] using this
  induction m with
  | zero => simp [Lib.compactUpTo]
  | succ m ih =>
    obtain ⟨h1, h2⟩ := ih (by omega)
    rw [Lib.compactUpTo_succ]
    by_cases hk : Lib.keeps d m = true
    · rw [if_pos hk]
      refine ⟨?_, fun x => ?_⟩
      · rw [List.pairwise_append]
        refine ⟨h1, by simp, fun x hx y hy => ?_⟩
        obtain ⟨j, hj, rfl⟩ := (h2 x).1 hx
        obtain rfl : y = d[m]! := by simpa using hy
        have hne : d[m]! ≠ d[m - 1]! := by
          have := hk
          simp only [Lib.keeps, decide_eq_true_eq] at this
          rcases this with h | h
          · omega
          · exact h
        have a1 := hle (m - 1) m (by omega) (by omega)
        have a2 : d[j]! ≤ d[m - 1]! := by
          by_cases e : j = m - 1
          · rw [e]; exact Int.le_refl _
          · exact hle j (m - 1) (by omega) (by omega)
        omega
      · rw [List.mem_append, h2]
        constructor
        · rintro (⟨j, hj, rfl⟩ | hx)
          · exact ⟨j, by omega, rfl⟩
          · exact ⟨m, by omega, (List.mem_singleton.1 hx).symm⟩
        · rintro ⟨j, hj, rfl⟩
          by_cases e : j = m
          · right; rw [e]; simp
          · left; exact ⟨j, by omega, rfl⟩
    · rw [if_neg hk, List.append_nil]
      refine ⟨h1, fun x => ?_⟩
      rw [h2]
      have hk2 : ¬ (m = 0 ∨ d[m]! ≠ d[m - 1]!) := by simpa [Lib.keeps] using hk
      have e0 : d[m]! = d[m - 1]! := by by_cases e : d[m]! = d[m - 1]!; exact e; exact absurd (.inr e) hk2
      have m0 : m ≠ 0 := fun e => hk2 (.inl e)
      constructor
      · rintro ⟨j, hj, rfl⟩; exact ⟨j, by omega, rfl⟩
      · rintro ⟨j, hj, rfl⟩
        by_cases e : j = m
        · exact ⟨m - 1, by omega, by rw [e, e0]⟩
        · exact ⟨j, by omega, rfl⟩

/-- Sorted and compacted: rising, and the same numbers. -/
theorem sorted_compact (d R : Array Int) (hp : R.toList.Perm d.toList) (hs : R.toList.Pairwise (· ≤ ·)) : (Lib.compactUpTo R R.size).Pairwise (· < ·) ∧ ∀ x, x ∈ Lib.compactUpTo R R.size ↔ x ∈ d.toList := by
  obtain ⟨h1, h2⟩ := compact_inv R hs R.size (Nat.le_refl _)
  refine ⟨h1, fun x => ?_⟩
  rw [h2, ← hp.mem_iff]
  constructor
  · rintro ⟨j, hj, rfl⟩
    simp [hj]
  · intro hx
    obtain ⟨j, hj, e⟩ := List.mem_iff_getElem.1 hx
    exact ⟨j, by simpa using hj, by simpa [show j < R.size by simpa using hj] using e⟩
end Go.Proofs.YtkbhdojgdgiggabDoor

/- What the document's one answers: plain facts. -/
import Derived.Test.YtkckcnjamlpadaaDoorN1
import Derived.Test.YtkckcnjamlpadaaDoorG3
namespace Go.Proofs.YtkckcnjamlpadaaDoor
open Go.RowKit Go.Maps

/-- No blank among the first j bytes. -/
def noBl (s : List UInt8) (j : Nat) : Prop := ∀ q, q < j → s.getD q 0 ≠ 32
theorem first_blank {s r name : List UInt8} {j : Nat} (hs : s = name ++ 32 :: r) (hn : (32 : UInt8) ∉ name) (hnb : noBl s j) (hend : j = s.length ∨ s.getD j 0 = 32) : j = name.length := by
  have hl : s.length = name.length + (r.length + 1) := by rw [hs]; simp
  by_cases h1 : name.length < j
  · exact absurd (by rw [hs, List.getD_eq_getElem?_getD, List.getElem?_append_right (Nat.le_refl _)]; simp) (hnb _ h1)
  · by_cases h2 : j < name.length
    · exfalso
      rcases hend with h | h
      · omega
      · rw [hs, List.getD_eq_getElem?_getD, List.getElem?_append_left h2, List.getElem?_eq_getElem h2] at h
        apply hn
        have h' : name[j] = 32 := by simpa using h
        rw [← h']
        exact List.getElem_mem h2
    · omega
theorem line_shape (ns : List (List UInt8)) (src : ByteArray) (k f t : Nat) : lineL ns src k f t ++ [10] = ns.getD k [] ++ 32 :: (Lib.decDigits f ++ 32 :: (Lib.decDigits t ++ 32 :: (quoteL (src.extract f t) ++ [10]))) := by simp [lineL]
theorem drop_mid {s a b : List UInt8} {c : UInt8} {i : Nat} (h : s.drop i = a ++ c :: b) : s.drop (i + a.length + 1) = b := by
  have : s.drop (i + a.length + 1) = (s.drop i).drop (a.length + 1) := by rw [List.drop_drop, Nat.add_assoc]
  rw [this, h]
  simp
theorem one_chain {ns : List (List UInt8)} {src : ByteArray} {s : List UInt8} {j k f t : Nat} (hk : kindsB ns = true) (hsrc : src.size < 10995116277760) (hkl : k < ns.length) (hft : f ≤ t) (hts : t ≤ src.size) (hs : s = lineL ns src k f t ++ [10]) (hnb : noBl s j) (hend : j = s.length ∨ s.getD j 0 = 32) :
    j < s.length ∧ findT ns (s.take j) = ((k : Int), true) ∧ ∀ n1 m1, NumPost s (j + 1) n1 m1 → n1 = (f : Int) ∧ ∃ m : Nat, m1 = (m : Int) ∧ m < s.length ∧ ∀ n2 m2, NumPost s (m + 1) n2 m2 → n2 = (t : Int) := by
  have hkb := of_decide_eq_true hk
  have hn := hkb.2.2.2.2.1 k hkl
  rw [line_shape] at hs
  have hj := first_blank hs (name_noblank hn 32 (by decide)) hnb hend
  have hl : s.length = (ns.getD k []).length + ((Lib.decDigits f).length + ((Lib.decDigits t).length + ((quoteL (src.extract f t)).length + 1 + 1) + 1) + 1) := by rw [hs]; simp
  have d0 : s.drop 0 = ns.getD k [] ++ 32 :: (Lib.decDigits f ++ 32 :: (Lib.decDigits t ++ 32 :: (quoteL (src.extract f t) ++ [10]))) := hs
  have d1 := drop_mid d0
  rw [Nat.zero_add, ← hj] at d1
  have d2 := drop_mid d1
  refine ⟨by omega, ?_, fun n1 m1 h1 => ?_⟩
  · have ht : s.take j = ns.getD k [] := by rw [hj, hs, List.take_left' rfl]
    rw [ht]
    have hi := idxOf_getD hkb.2.2.2.2.2 hkl
    unfold findT
    rw [if_pos (mem_getD hkl), hi]
  · obtain ⟨e1, e2⟩ := h1.2 f _ 32 (by omega) d1 (by decide)
    refine ⟨e1, _, e2, by omega, fun n2 m2 h2 => ?_⟩
    exact (h2.2 t _ 32 (by omega) d2 (by decide)).1
def OnePost (ns : List (List UInt8)) (src : ByteArray) (s : List UInt8) (x : T3) (ok : Bool) : Prop :=
  (ok = true → ∃ k f t : Nat, x = ((k : Int), (f : Int), (t : Int)) ∧ k < ns.length ∧ f ≤ t ∧ t ≤ src.size ∧ t - f ≤ 4096 ∧ s = lineL ns src k f t ++ [10]) ∧
  (∀ k f t : Nat, k < ns.length → f ≤ t → t ≤ src.size → t - f ≤ 4096 → s = lineL ns src k f t ++ [10] → ok = true ∧ x = ((k : Int), (f : Int), (t : Int)))
theorem one_no {ns : List (List UInt8)} {src : ByteArray} {s : List UInt8} {x : T3} (h : ∀ k f t : Nat, k < ns.length → f ≤ t → t ≤ src.size → t - f ≤ 4096 → s = lineL ns src k f t ++ [10] → False) : OnePost ns src s x false :=
  ⟨(fun e => absurd e (by decide)), fun k f t h1 h2 h3 h4 h5 => (h k f t h1 h2 h3 h4 h5).elim⟩
theorem findT_yes {ns : List (List UInt8)} {s : List UInt8} {f1 : Int} (h : findT ns s = (f1, true)) : ∃ k : Nat, f1 = (k : Int) ∧ k < ns.length ∧ ns.getD k [] = s := by
  unfold findT at h
  by_cases hm : s ∈ ns
  · rw [if_pos hm] at h
    have hlt := List.idxOf_lt_length_iff.2 hm
    refine ⟨ns.idxOf s, (Prod.mk.inj h).1.symm, hlt, ?_⟩
    rw [List.getD_eq_getElem?_getD, List.getElem?_eq_getElem hlt, List.getElem_idxOf]; rfl
  · rw [if_neg hm] at h
    exact absurd (Prod.mk.inj h).2 (by decide)
/-- What holds all through one. -/
structure OB (w : World) (a : Option Addr) (ns : List (List UInt8)) (W : World) : Prop where
  hA : W.heap[w.heap.size]? = some (.cells #[.int .i64 0, .int .i64 0, .int .i64 0] 55 (0, 0))
  row : SRow W a ns
  env : Env W
  bel : Below w.heap.size w W
theorem OB.below {w : World} {a : Option Addr} {ns : List (List UInt8)} {W W' : World} (h : OB w a ns W) (hb : Below W.heap.size W W') : OB w a ns W' :=
  ⟨(hb.block _ (lt_of_some h.hA)).trans h.hA, srow_below h.row (Nat.le_refl _) hb, env_below h.env hb, h.bel.trans (hb.mono h.bel.size)⟩
theorem OB.new {w : World} {a : Option Addr} {ns : List (List UInt8)} (h1 : SRow w a ns) (h2 : Env w) : OB w a ns (w.alloc (.cells #[.int .i64 0, .int .i64 0, .int .i64 0] 55)) :=
  ⟨heap_new _ _, srow_below h1 (Nat.le_refl _) ((Below.refl _ _).alloc (Nat.le_refl _) _), env_below h2 ((Below.refl _ _).alloc (Nat.le_refl _) _), (Below.refl _ _).alloc (Nat.le_refl _) _⟩
theorem set3_below {w W : World} (h : Below w.heap.size w W) (x y z : Value) : Below w.heap.size w (((W.setCell ⟨w.heap.size, 0, none⟩ x).setCell ⟨w.heap.size, 1, none⟩ y).setCell ⟨w.heap.size, 2, none⟩ z) :=
  ((h.setCell (p := ⟨w.heap.size, 0, none⟩) (Nat.le_refl _) x).setCell (p := ⟨w.heap.size, 1, none⟩) (Nat.le_refl _) y).setCell (p := ⟨w.heap.size, 2, none⟩) (Nat.le_refl _) z
end Go.Proofs.YtkckcnjamlpadaaDoor

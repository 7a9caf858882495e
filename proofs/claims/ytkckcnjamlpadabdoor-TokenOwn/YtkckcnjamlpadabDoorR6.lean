/- Reading, plainly. -/
import Derived.Test.YtkckcnjamlpadabDoorR3
namespace Go.Proofs.YtkckcnjamlpadabDoor
open Go.RowKit Go.Maps

instance (ns : List (List UInt8)) (src : ByteArray) (r : Int) (line : List UInt8) (x : T3) : Decidable (isTok ns src r line x) := by unfold isTok; infer_instance
/-- The token of a line. -/
def tokOf (ns : List (List UInt8)) (src : ByteArray) (r : Int) (line : List UInt8) : Option T3 :=
  match splitL 3 line with
  | [p0, p1, p2, _] =>
    match Lib.atoiAll p1, Lib.atoiAll p2 with
    | .ok f, .ok t => if isTok ns src r line ((ns.idxOf p0 : Nat), f, t) then some (((ns.idxOf p0 : Nat) : Int), f, t) else none
    | _, _ => none
  | _ => none
theorem idxOf_getD {ns : List (List UInt8)} (hn : ns.Nodup) {k : Nat} (hk : k < ns.length) : ns.idxOf (ns.getD k []) = k := by
  have hm := mem_getD hk
  have hl := List.idxOf_lt_length_iff.2 hm
  refine nodup_idx hn (s := ns.getD k []) ?_ hk rfl
  rw [List.getElem?_eq_getElem hl, List.getElem_idxOf]
theorem tokOf_yes {ns : List (List UInt8)} {src : ByteArray} {r : Int} {line : List UInt8} {x : T3} (hk : kindsB ns = true) (hr : 0 ≤ r) (hs : src.size ≤ 9223372036854775807) (h : isTok ns src r line x) : tokOf ns src r line = some x := by
  obtain ⟨k, f, t, rfl, hkl, hts, hft, e⟩ := tok_split hk hr h
  unfold tokOf
  rw [e]
  simp only
  rw [atoi_dec f (by omega), atoi_dec t (by omega)]
  simp only
  rw [idxOf_getD (of_decide_eq_true hk).2.2.2.2.2 hkl, if_pos h]
theorem tokOf_inv {ns : List (List UInt8)} {src : ByteArray} {r : Int} {line : List UInt8} {x : T3} (h : tokOf ns src r line = some x) : isTok ns src r line x := by
  unfold tokOf at h
  split at h
  · split at h
    · split at h
      · rename_i h1
        simp only [Option.some.injEq] at h
        rw [← h]; exact h1
      · cases h
    · cases h
  · cases h
theorem tokOf_no {ns : List (List UInt8)} {src : ByteArray} {r : Int} {line : List UInt8} (h : ∀ x, ¬ isTok ns src r line x) : tokOf ns src r line = none := by
  cases ht : tokOf ns src r line with
  | none => rfl
  | some x => exact absurd (tokOf_inv ht) (h x)

def reach (l : List T3) : Int := reachAt l l.length
/-- Line by line. -/
def rdF (ns : List (List UInt8)) (src : ByteArray) : Nat → List UInt8 → List T3 → List T3 × Int × Int
  | 0, _, acc => (acc, 0, 0)
  | n + 1, rest, acc =>
    if rest = [] then (acc, 0, 0) else
    match cutL 10 rest with
    | none => ([], 5, (acc.length : Int))
    | some (line, rest') =>
      match tokOf ns src (reach acc) line with
      | none => ([], 5, (acc.length : Int))
      | some x => if acc.length = 65536 then ([], 5, (acc.length : Int)) else rdF ns src n rest' (acc ++ [x])
/-- What both Reads answer. -/
def readT (ns : List (List UInt8)) (src : ByteArray) (lines : List UInt8) : List T3 × Int × Int := if kindsB ns then rdF ns src lines.length lines [] else ([], 70, 0)
theorem rdF_nil (ns : List (List UInt8)) (src : ByteArray) (n : Nat) (acc : List T3) : rdF ns src n [] acc = (acc, 0, 0) := by
  cases n <;> simp [rdF]
theorem rdF_open {ns : List (List UInt8)} {src : ByteArray} {n : Nat} {rest : List UInt8} {acc : List T3} (h : rest ≠ []) (hc : cutL 10 rest = none) : rdF ns src (n + 1) rest acc = ([], 5, (acc.length : Int)) := by
  simp [rdF, h, hc]
theorem rdF_wrong {ns : List (List UInt8)} {src : ByteArray} {n : Nat} {rest line rest' : List UInt8} {acc : List T3} (h : rest ≠ []) (hc : cutL 10 rest = some (line, rest')) (ht : tokOf ns src (reach acc) line = none) : rdF ns src (n + 1) rest acc = ([], 5, (acc.length : Int)) := by
  simp [rdF, h, hc, ht]
theorem rdF_many {ns : List (List UInt8)} {src : ByteArray} {n : Nat} {rest line rest' : List UInt8} {acc : List T3} {x : T3} (h : rest ≠ []) (hc : cutL 10 rest = some (line, rest')) (ht : tokOf ns src (reach acc) line = some x) (hm : acc.length = 65536) : rdF ns src (n + 1) rest acc = ([], 5, (acc.length : Int)) := by
  simp [rdF, h, hc, ht, hm]
theorem rdF_step {ns : List (List UInt8)} {src : ByteArray} {n : Nat} {rest line rest' : List UInt8} {acc : List T3} {x : T3} (h : rest ≠ []) (hc : cutL 10 rest = some (line, rest')) (ht : tokOf ns src (reach acc) line = some x) (hm : acc.length ≠ 65536) : rdF ns src (n + 1) rest acc = rdF ns src n rest' (acc ++ [x]) := by
  simp [rdF, h, hc, ht, hm]
theorem reach_snoc (acc : List T3) (x : T3) : reach (acc ++ [x]) = x.2.2 := by
  unfold reach reachAt
  rw [if_neg (by simp)]
  rw [List.getD_eq_getElem?_getD, List.length_append]
  simp

/-- The cells of a row of tokens. -/
def flat3 (l : List T3) : List Value := l.flatMap fun x => [.int .i64 x.1, .int .i64 x.2.1, .int .i64 x.2.2]
theorem flat3_length (l : List T3) : (flat3 l).length = l.length * 3 := by
  induction l with
  | nil => rfl
  | cons x l ih => simp only [flat3, List.flatMap_cons, List.length_append, List.length_cons, List.length_nil] at *; omega
theorem flat3_snoc (l : List T3) (x : T3) : flat3 (l ++ [x]) = flat3 l ++ [.int .i64 x.1, .int .i64 x.2.1, .int .i64 x.2.2] := by simp [flat3]
theorem flat3_at : ∀ (l : List T3) (j : Nat), j < l.length → (flat3 l)[j * 3]? = some (.int .i64 (l.getD j (0, 0, 0)).1) ∧ (flat3 l)[j * 3 + 1]? = some (.int .i64 (l.getD j (0, 0, 0)).2.1) ∧ (flat3 l)[j * 3 + 2]? = some (.int .i64 (l.getD j (0, 0, 0)).2.2)
  | [], j, h => by simp at h
  | x :: l, 0, h => by simp [flat3]
  | x :: l, j + 1, h => by
    have ih := flat3_at l j (by simpa using h)
    have e : flat3 (x :: l) = [.int .i64 x.1, .int .i64 x.2.1, .int .i64 x.2.2] ++ flat3 l := by simp [flat3]
    rw [e, show (j + 1) * 3 = j * 3 + 3 by omega]
    refine ⟨?_, ?_, ?_⟩
    · rw [List.getElem?_append_right (by simp), show j * 3 + 3 - [Value.int .i64 x.1, .int .i64 x.2.1, .int .i64 x.2.2].length = j * 3 by simp]; exact ih.1
    · rw [List.getElem?_append_right (by simp), show j * 3 + 3 + 1 - [Value.int .i64 x.1, .int .i64 x.2.1, .int .i64 x.2.2].length = j * 3 + 1 by simp]; exact ih.2.1
    · rw [List.getElem?_append_right (by simp), show j * 3 + 3 + 2 - [Value.int .i64 x.1, .int .i64 x.2.1, .int .i64 x.2.2].length = j * 3 + 2 by simp]; exact ih.2.2
/-- A row of one's own is a row. -/
theorem trow_own {w : World} {B : Nat} {v : Value} {l : List T3} (h : w.ownsRow B 27 3 v l.length (flat3 l)) : ∃ a cap, v = .slice a l.length cap ∧ TRow w a l ∧ (a = none → l = [] ∧ cap = 0) := by
  rcases h.2 with ⟨rfl, h0⟩ | ⟨g, cap, cur, rfl, hg, hh, rest⟩
  · have : l = [] := List.eq_nil_of_length_eq_zero h0
    subst this
    exact ⟨none, 0, rfl, .inl rfl, fun _ => ⟨rfl, rfl⟩⟩
  · refine ⟨some ⟨g, 0, none⟩, cap, rfl, .inr ⟨g, 0, rfl, lt_of_some hh, fun j hj => ?_⟩, fun e => by cases e⟩
    obtain ⟨h1, h2, h3⟩ := flat3_at l j hj
    have c1 := h.cells (g := g) rfl _ _ h1
    have c2 := h.cells (g := g) rfl _ _ h2
    have c3 := h.cells (g := g) rfl _ _ h3
    have ad : ∀ j, (⟨g, 0, none⟩ : Addr).add j = ⟨g, j, none⟩ := fun j => by unfold Addr.add; split <;> simp_all
    rw [ad] at c1 c2 c3
    rw [Nat.zero_add]
    exact ⟨c1, c2, c3⟩
end Go.Proofs.YtkckcnjamlpadabDoor

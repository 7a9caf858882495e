/- Rows there and back, plainly. -/
import Derived.Test.YtkckcnjamlpadabDoorR6
namespace Go.Proofs.YtkckcnjamlpadabDoor
open Go.RowKit Go.Maps

theorem rune_no10 (r : Int) (h : 32 ≤ r) : (10 : UInt8) ∉ Lib.encodeRune r := by
  intro hm
  unfold Lib.encodeRune at hm
  obtain ⟨x, hx, e⟩ := List.mem_map.1 hm
  have hb : 32 ≤ x ∧ x ≤ 255 := by
    unfold Lib.encodeRuneZ at hx
    split at hx
    · simp at hx; omega
    · split at hx
      · simp at hx; omega
      · split at hx
        · simp at hx; omega
        · split at hx
          · simp at hx; omega
          · simp at hx; omega
  have e2 := congrArg UInt8.toNat e
  simp at e2
  omega
theorem hexD_no10 (n : Nat) (h : n < 16) : hexD n ≠ 10 := by
  have : ∀ n : Fin 16, hexD n.val ≠ 10 := by decide +kernel
  exact this ⟨n, h⟩
theorem qpart_no10 (v : ByteArray) (i : Nat) : (10 : UInt8) ∉ qpart v i := by
  unfold qpart
  have hb := bt_lt v i
  split
  · decide
  · split
    · decide
    · split
      · decide
      · split
        · decide
        · split
          · decide
          · split
            · rename_i hp
              have : 32 ≤ (Utf8.decode v i).1 := by
                simp only [plainB, Bool.and_eq_true, decide_eq_true_eq] at hp; exact hp.1
              exact rune_no10 _ (by omega)
            · have h1 := hexD_no10 (bt v i / 16) (by omega)
              have h2 := hexD_no10 (bt v i % 16) (by omega)
              simp only [List.mem_cons, List.not_mem_nil, or_false, not_or]
              exact ⟨by decide, by decide, fun e => h1 e.symm, fun e => h2 e.symm⟩
theorem qFrom_no10 (v : ByteArray) (f : Nat) : ∀ i, (10 : UInt8) ∉ qFrom v f i := by
  induction f with
  | zero => intro i; simp [qFrom]
  | succ f ih =>
    intro i
    by_cases h : i < v.size
    · rw [qFrom_step v f i h, List.mem_append, not_or]
      exact ⟨qpart_no10 v i, ih _⟩
    · rw [qFrom_end v _ i h]; simp
theorem line_no10 {ns : List (List UInt8)} (src : ByteArray) {k : Nat} (hk : kindsB ns = true) (hkl : k < ns.length) (f t : Nat) : (10 : UInt8) ∉ lineL ns src k f t := by
  have hn := (of_decide_eq_true hk).2.2.2.2.1 k hkl
  unfold lineL quoteL
  simp only [List.mem_append, List.mem_cons, List.not_mem_nil, or_false, not_or]
  exact ⟨⟨⟨⟨⟨⟨name_noblank hn 10 (by decide), by decide⟩, dec_noblank f 10 (by decide)⟩, by decide⟩, dec_noblank t 10 (by decide)⟩, by decide⟩, by decide, qFrom_no10 _ _ _, by decide⟩
theorem getD_drop {l : List T3} {k : Nat} (h : k < l.length) : l.drop k = l.getD k (0, 0, 0) :: l.drop (k + 1) := by
  rw [List.drop_eq_getElem_cons h, List.getD_eq_getElem?_getD, List.getElem?_eq_getElem h]; rfl
theorem reach_take {l : List T3} {k : Nat} (h : k ≤ l.length) : reach (l.take k) = reachAt l k := by
  unfold reach reachAt
  rw [List.length_take, Nat.min_eq_left h]
  by_cases h0 : k = 0
  · simp [h0]
  · rw [if_neg h0, if_neg h0, List.getD_eq_getElem?_getD, List.getD_eq_getElem?_getD, List.getElem?_take_of_lt (by omega)]
theorem linesL_drop (ns : List (List UInt8)) (src : ByteArray) {l : List T3} {k : Nat} (h : k < l.length) : linesL ns src (l.drop k) = lineT ns src (l.getD k (0, 0, 0)) ++ linesL ns src (l.drop (k + 1)) := by
  rw [getD_drop h]; simp [linesL]

/-- A row that is written is read back. -/
theorem rd_lines {ns : List (List UInt8)} {src : ByteArray} (hsrc : src.size ≤ 9223372036854775807) {l : List T3} (hk : kindsB ns = true) (hl : l.length ≤ 65536) (ho : okTo ns.length src.size l l.length) (hs : shortTo l l.length) :
    ∀ (m k n : Nat), k + m = l.length → (linesL ns src (l.drop k)).length ≤ n → rdF ns src n (linesL ns src (l.drop k)) (l.take k) = (l, 0, 0) := by
  intro m
  induction m with
  | zero =>
    intro k n hkm _
    obtain rfl : k = l.length := by omega
    rw [List.drop_length, List.take_length]
    exact rdF_nil ns src n l
  | succ m ih =>
    intro k n hkm hn
    have hlt : k < l.length := by omega
    obtain ⟨kn, fn, tn, hx, hk2, hkn, hre, hft, hts⟩ := tok_nat (j := k) (fun j hj => ho j (by omega))
    have hsh := hs k hlt
    have hok := ho k hlt
    unfold okT at hok
    have hT : lineT ns src (l.getD k (0, 0, 0)) = lineL ns src kn fn tn ++ [10] := by rw [hx]; rfl
    rw [linesL_drop ns src hlt, hT, List.append_assoc] at hn ⊢
    have hcut : cutL 10 (lineL ns src kn fn tn ++ ([10] ++ linesL ns src (l.drop (k + 1)))) = some (lineL ns src kn fn tn, linesL ns src (l.drop (k + 1))) := cutL_of _ _ (line_no10 src hk hkn fn tn)
    have hne : lineL ns src kn fn tn ++ ([10] ++ linesL ns src (l.drop (k + 1))) ≠ [] := by simp
    obtain ⟨g, rfl⟩ : ∃ g, n = g + 1 := ⟨n - 1, by simp at hn; omega⟩
    have htok : tokOf ns src (reach (l.take k)) (lineL ns src kn fn tn) = some ((kn : Int), (fn : Int), (tn : Int)) := by
      rw [reach_take (by omega)]
      refine tokOf_yes hk (reach_nn k (fun j hj => ho j (by omega))) hsrc ⟨?_, ?_, rfl⟩
      · rw [← hx]; exact hok
      · rw [hx] at hsh
        simp only [longX, decide_eq_false_iff_not] at hsh
        simp only
        omega
    rw [rdF_step hne hcut htok (by rw [List.length_take]; omega)]
    rw [← hx, ← take_snoc l k (0, 0, 0) hlt]
    refine ih (k + 1) g (by omega) ?_
    simp only [List.length_append, List.length_cons, List.length_nil] at hn
    omega
theorem read_lines {ns : List (List UInt8)} {src : ByteArray} (hsrc : src.size ≤ 9223372036854775807) {l : List T3} (hk : kindsB ns = true) (hl : l.length ≤ 65536) (ho : okTo ns.length src.size l l.length) (hs : shortTo l l.length) : readT ns src (linesL ns src l) = (l, 0, 0) := by
  unfold readT
  rw [hk, if_pos rfl]
  exact rd_lines hsrc hk hl ho hs l.length 0 _ (by omega) (Nat.le_refl _)

theorem okTo_snoc {n sz : Nat} {acc : List T3} {x : T3} (h : okTo n sz acc acc.length) (hx : takeB n sz (reach acc) x = true) : okTo n sz (acc ++ [x]) (acc ++ [x]).length := by
  intro j hj
  simp only [List.length_append, List.length_cons, List.length_nil] at hj
  unfold okT
  by_cases e : j = acc.length
  · subst e
    have e1 : reachAt (acc ++ [x]) acc.length = reach acc := by
      rw [← reach_take (by simp)]
      simp
    rw [e1, List.getD_eq_getElem?_getD, List.getElem?_append_right (Nat.le_refl _)]
    simpa using hx
  · have hj' : j < acc.length := by omega
    have := h j hj'
    unfold okT at this
    have e1 : reachAt (acc ++ [x]) j = reachAt acc j := by
      rw [← reach_take (show j ≤ (acc ++ [x]).length by simp; omega), ← reach_take (show j ≤ acc.length by omega), List.take_append_of_le_length (by omega)]
    rw [e1, List.getD_eq_getElem?_getD, List.getElem?_append_left hj', ← List.getD_eq_getElem?_getD]
    exact this
theorem shortTo_snoc {acc : List T3} {x : T3} (h : shortTo acc acc.length) (hx : longX x = false) : shortTo (acc ++ [x]) (acc ++ [x]).length := by
  intro j hj
  simp only [List.length_append, List.length_cons, List.length_nil] at hj
  by_cases e : j = acc.length
  · subst e
    rw [List.getD_eq_getElem?_getD, List.getElem?_append_right (Nat.le_refl _)]
    simpa using hx
  · rw [List.getD_eq_getElem?_getD, List.getElem?_append_left (by omega), ← List.getD_eq_getElem?_getD]
    exact h j (by omega)
/-- What is read has the lines that were read. -/
theorem rd_back {ns : List (List UInt8)} {src : ByteArray} : ∀ (n : Nat) (rest : List UInt8) (acc l : List T3), rest.length ≤ n → acc.length ≤ 65536 → okTo ns.length src.size acc acc.length → shortTo acc acc.length → rdF ns src n rest acc = (l, 0, 0) →
    l.length ≤ 65536 ∧ okTo ns.length src.size l l.length ∧ shortTo l l.length ∧ linesL ns src l = linesL ns src acc ++ rest
  | 0, rest, acc, l, hn, ha, ho, hs, h => by
    have : rest = [] := List.length_eq_zero_iff.1 (by omega)
    subst this
    simp only [rdF, Prod.mk.injEq, and_true] at h
    subst h
    exact ⟨ha, ho, hs, by simp⟩
  | n + 1, rest, acc, l, hn, ha, ho, hs, h => by
    by_cases hnil : rest = []
    · subst hnil
      rw [rdF_nil] at h
      simp only [Prod.mk.injEq, and_true] at h
      subst h
      exact ⟨ha, ho, hs, by simp⟩
    · cases hc : cutL 10 rest with
      | none => rw [rdF_open hnil hc] at h; simp at h
      | some q =>
        obtain ⟨line, rest'⟩ := q
        obtain ⟨hrest, -⟩ := cutL_some hc
        cases ht : tokOf ns src (reach acc) line with
        | none => rw [rdF_wrong hnil hc ht] at h; simp at h
        | some x =>
          by_cases hm : acc.length = 65536
          · rw [rdF_many hnil hc ht hm] at h; simp at h
          · rw [rdF_step hnil hc ht hm] at h
            obtain ⟨h1, h2, h3⟩ := tokOf_inv ht
            have hll := congrArg List.length hrest
            simp only [List.length_append, List.length_cons] at hll
            obtain ⟨r1, r2, r3, r4⟩ := rd_back n rest' (acc ++ [x]) l (by omega) (by simp; omega) (okTo_snoc ho h1) (shortTo_snoc hs (by simp [longX]; omega)) h
            refine ⟨r1, r2, r3, ?_⟩
            rw [r4, hrest]
            simp only [linesL, List.map_append, List.map_cons, List.map_nil, List.flatten_append, List.flatten_cons, List.flatten_nil, List.append_nil, lineT, h3]
            simp
theorem lines_read {ns : List (List UInt8)} {src : ByteArray} {lines : List UInt8} {l : List T3} (h : readT ns src lines = (l, 0, 0)) : linesT ns src l = (lines, 0) := by
  unfold readT at h
  cases hk : kindsB ns
  · rw [hk] at h; simp at h
  · rw [hk, if_pos rfl] at h
    obtain ⟨h1, h2, h3, h4⟩ := rd_back lines.length lines [] l (Nat.le_refl _) (by simp) (fun j hj => absurd hj (Nat.not_lt_zero _)) (fun j hj => absurd hj (Nat.not_lt_zero _)) h
    unfold linesT
    rw [checkT_yes hk h1 h2, if_pos rfl, any_none h3, h4]
    simp [linesL]
/-- Where something is wrong nothing is read. -/
theorem rd_wrong {ns : List (List UInt8)} {src : ByteArray} : ∀ (n : Nat) (rest : List UInt8) (acc : List T3), (rdF ns src n rest acc).2 = (0, 0) ∨ ((rdF ns src n rest acc).1 = [] ∧ (rdF ns src n rest acc).2.1 = 5)
  | 0, rest, acc => .inl rfl
  | n + 1, rest, acc => by
    by_cases hnil : rest = []
    · subst hnil; rw [rdF_nil]; exact .inl rfl
    · cases hc : cutL 10 rest with
      | none => rw [rdF_open hnil hc]; exact .inr ⟨rfl, rfl⟩
      | some q =>
        obtain ⟨line, rest'⟩ := q
        cases ht : tokOf ns src (reach acc) line with
        | none => rw [rdF_wrong hnil hc ht]; exact .inr ⟨rfl, rfl⟩
        | some x =>
          by_cases hm : acc.length = 65536
          · rw [rdF_many hnil hc ht hm]; exact .inr ⟨rfl, rfl⟩
          · rw [rdF_step hnil hc ht hm]; exact rd_wrong n rest' _
theorem read_wrong (ns : List (List UInt8)) (src : ByteArray) (lines : List UInt8) : (readT ns src lines).2 = (0, 0) ∨ ((readT ns src lines).1 = [] ∧ (readT ns src lines).2.1 ≠ 0) := by
  unfold readT
  cases hk : kindsB ns
  · exact .inr ⟨rfl, by simp⟩
  · simp only [if_true]
    rcases rd_wrong (ns := ns) (src := src) lines.length lines [] with h | ⟨h1, h2⟩
    · exact .inl h
    · exact .inr ⟨h1, by rw [h2]; decide⟩
end Go.Proofs.YtkckcnjamlpadabDoor

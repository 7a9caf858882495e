/- Plain mathematics on a text's runes: the first byte that is none's, the runes, and that runes and texts are there and back. -/
import Derived.Test.YtodncpnhmmnclaaM4
namespace Go.Proofs.Ytodncpnhmmnclaa

/-- The first byte, from i on, that is none's: at most so many pieces are gone over. -/
def noneF (s : ByteArray) : Nat → Nat → Option Nat
  | 0, _ => none
  | f + 1, i => if i < s.size then (if noneB s i then some i else noneF s f (i + (Utf8.decode s i).2)) else none
/-- The runes from i on. -/
def runesF (s : ByteArray) : Nat → Nat → List Int
  | 0, _ => []
  | f + 1, i => if i < s.size then ((Utf8.decode s i).1 : Int) :: runesF s f (i + (Utf8.decode s i).2) else []
def badB (s : ByteArray) : Option Nat := noneF s s.size 0
def runesL (s : ByteArray) : List Int := runesF s s.size 0
/-- What is answered: none where a byte is none's. -/
def runesOr (s : ByteArray) : List Int := match badB s with | some _ => [] | none => runesL s
def validVals (s : ByteArray) : Int × Int := match badB s with | some k => (10, k) | none => (0, 0)

theorem noneF_end (s : ByteArray) (f i : Nat) (h : ¬ i < s.size) : noneF s f i = none := by cases f <;> simp [noneF, h]
theorem noneF_here (s : ByteArray) (f i : Nat) (h : i < s.size) (hn : noneB s i = true) : noneF s (f + 1) i = some i := by simp [noneF, h, hn]
theorem noneF_step (s : ByteArray) (f i : Nat) (h : i < s.size) (hn : noneB s i = false) : noneF s (f + 1) i = noneF s f (i + (Utf8.decode s i).2) := by simp [noneF, h, hn]
theorem runesF_end (s : ByteArray) (f i : Nat) (h : ¬ i < s.size) : runesF s f i = [] := by cases f <;> simp [runesF, h]
theorem runesF_step (s : ByteArray) (f i : Nat) (h : i < s.size) : runesF s (f + 1) i = ((Utf8.decode s i).1 : Int) :: runesF s f (i + (Utf8.decode s i).2) := by simp [runesF, h]
theorem noneF_fuel (s : ByteArray) (f g i : Nat) (hf : s.size ≤ i + f) (hg : s.size ≤ i + g) : noneF s f i = noneF s g i := by
  induction f generalizing g i with
  | zero => rw [noneF_end s 0 i (by omega), noneF_end s g i (by omega)]
  | succ f ih =>
    by_cases h : i < s.size
    · cases g with
      | zero => omega
      | succ g =>
        have := (width_pos s i h).1
        cases hn : noneB s i
        · rw [noneF_step s f i h hn, noneF_step s g i h hn, ih g _ (by omega) (by omega)]
        · rw [noneF_here s f i h hn, noneF_here s g i h hn]
    · rw [noneF_end s _ i h, noneF_end s _ i h]
theorem runesF_fuel (s : ByteArray) (f g i : Nat) (hf : s.size ≤ i + f) (hg : s.size ≤ i + g) : runesF s f i = runesF s g i := by
  induction f generalizing g i with
  | zero => rw [runesF_end s 0 i (by omega), runesF_end s g i (by omega)]
  | succ f ih =>
    by_cases h : i < s.size
    · cases g with
      | zero => omega
      | succ g =>
        have := (width_pos s i h).1
        rw [runesF_step s f i h, runesF_step s g i h, ih g _ (by omega) (by omega)]
    · rw [runesF_end s _ i h, runesF_end s _ i h]
theorem runesF_le (s : ByteArray) (f i : Nat) : (runesF s f i).length ≤ s.size - i := by
  induction f generalizing i with
  | zero => simp [runesF]
  | succ f ih =>
    by_cases h : i < s.size
    · have := (width_pos s i h).1
      have := ih (i + (Utf8.decode s i).2)
      rw [runesF_step s f i h, List.length_cons]
      omega
    · rw [runesF_end s _ i h]; simp

/-- The bytes of a piece that is a rune are that rune's. -/
theorem piece_bytes (s : ByteArray) (i : Nat) (hi : i < s.size) (h : noneB s i = false) : Lib.encodeRune ((Utf8.decode s i).1 : Int) = (s.data.toList.drop i).take (Utf8.decode s i).2 := by
  obtain ⟨hv, hh⟩ := piece_hit s i hi h
  simp only [hitB, Bool.and_eq_true, beq_iff_eq, hv] at hh
  rw [hh.2, Lib.extract_toList]
  simp

/-- THERE: the runes' bytes are the text's. -/
theorem join_runes (s : ByteArray) (f i : Nat) (hf : s.size ≤ i + f) (h : noneF s f i = none) : joinB (runesF s f i) = s.data.toList.drop i ∧ ∀ r ∈ runesF s f i, Utf8.valid r = true := by
  have hl : s.size = s.data.toList.length := Lib.size_eq s
  induction f generalizing i with
  | zero => rw [runesF_end s 0 i (by omega)]; exact ⟨by rw [List.drop_eq_nil_of_le (by omega)]; rfl, fun r hr => by cases hr⟩
  | succ f ih =>
    by_cases hi : i < s.size
    · cases hn : noneB s i
      · rw [noneF_step s f i hi hn] at h
        have hw := width_pos s i hi
        obtain ⟨h1, h2⟩ := ih (i + (Utf8.decode s i).2) (by omega) h
        rw [runesF_step s f i hi]
        refine ⟨?_, ?_⟩
        · have : joinB (((Utf8.decode s i).1 : Int) :: runesF s f (i + (Utf8.decode s i).2)) = Lib.encodeRune ((Utf8.decode s i).1 : Int) ++ joinB (runesF s f (i + (Utf8.decode s i).2)) := by simp [joinB]
          rw [this, h1, piece_bytes s i hi hn, ← List.drop_drop, List.take_append_drop]
        · intro r hr
          rcases List.mem_cons.1 hr with rfl | hr
          · exact (piece_rune s i hi hn).1
          · exact h2 r hr
      · rw [noneF_here s f i hi hn] at h; cases h
    · rw [runesF_end s _ i hi]; exact ⟨by rw [List.drop_eq_nil_of_le (by omega)]; rfl, fun r hr => by cases hr⟩

theorem badAt_valid (l : List Int) (h : ∀ r ∈ l, Utf8.valid r = true) : badAt l = none := badAt_none l fun _ hj => h _ (List.getElem_mem hj)
theorem badAt_none_valid (l : List Int) (h : badAt l = none) : ∀ r ∈ l, Utf8.valid r = true := by
  induction l with
  | nil => intro r hr; cases hr
  | cons x l ih =>
    simp only [badAt] at h
    cases hx : Utf8.valid x
    · simp [hx] at h
    · simp [hx] at h
      intro r hr
      rcases List.mem_cons.1 hr with rfl | hr
      · exact hx
      · exact ih h r hr

/-- A rune's bytes, where they stand, are a piece that is that rune. -/
theorem enc_piece (s : ByteArray) (i : Nat) (r : Int) (h : Utf8.valid r = true) (hb : (s.data.toList.drop i).take (Lib.encodeRune r).length = Lib.encodeRune r) :
    Utf8.decode s i = (r.toNat, (Lib.encodeRune r).length) ∧ noneB s i = false := by
  have hl : s.size = s.data.toList.length := Lib.size_eq s
  have hle := encodeRune_le r
  have hfit : i + (Lib.encodeRune r).length ≤ s.size := by
    have := congrArg List.length hb
    simp only [List.length_take, List.length_drop] at this
    omega
  have hx : (s.extract i (i + (Lib.encodeRune r).length)).toList = Lib.encodeRune r := by rw [Lib.extract_toList, ← hb]; simp
  have hbt := bytes_at s i (Lib.encodeRune r).length hfit
  rw [hx, enc_nat] at hbt
  have hv := (valid_iff r).1 h
  have hc := enc_cases r h
  have hlen : (Lib.encodeRune r).length = (Lib.encodeRuneZ r).length := by simp [Lib.encodeRune]
  have key : val s i (Lib.encodeRune r).length = r.toNat := by
    rw [hlen] at hbt ⊢
    rcases hc with ⟨p, q, e⟩ | ⟨p, q, e⟩ | ⟨p, q, e⟩ | ⟨p, q, e⟩ <;> rw [e] at hbt ⊢ <;> simp only [List.length_cons, List.length_nil, Nat.zero_add, Nat.reduceAdd, range_1, range_2, range_3, range_4, List.map_cons, List.map_nil, List.cons.injEq, and_true, Nat.add_zero] at hbt
    · simp only [val, List.length_cons, List.length_nil, Nat.zero_add, if_true]; omega
    · simp only [val, List.length_cons, List.length_nil, Nat.zero_add, Nat.reduceAdd]; rw [if_neg (by omega), if_pos trivial]; omega
    · simp only [val, List.length_cons, List.length_nil, Nat.zero_add, Nat.reduceAdd]; rw [if_neg (by omega), if_neg (by omega), if_pos trivial]; omega
    · simp only [val, List.length_cons, List.length_nil, Nat.zero_add, Nat.reduceAdd]; rw [if_neg (by omega), if_neg (by omega), if_neg (by omega)]; omega
  have hr : ((r.toNat : Nat) : Int) = r := by omega
  have hit : hitB s i (Lib.encodeRune r).length = true := by
    unfold hitB
    rw [key, hr, h, hx]
    simp
  have := hit_piece s i _ hle.1 hle.2 hfit hit
  rw [key] at this
  exact this

/-- AND BACK: the runes of runes' bytes. -/
theorem runes_join (s : ByteArray) (l : List Int) (f i : Nat) (hf : s.size ≤ i + f) (hs : s.data.toList.drop i = joinB l) (h : ∀ r ∈ l, Utf8.valid r = true) : runesF s f i = l ∧ noneF s f i = none := by
  have hl : s.size = s.data.toList.length := Lib.size_eq s
  induction l generalizing f i with
  | nil =>
    have : ¬ i < s.size := by
      intro hi
      have := congrArg List.length hs
      simp [joinB] at this
      omega
    exact ⟨runesF_end s f i this, noneF_end s f i this⟩
  | cons r l ih =>
    have hv := h r (List.mem_cons_self ..)
    have hle := encodeRune_le r
    have hj : joinB (r :: l) = Lib.encodeRune r ++ joinB l := by simp [joinB]
    rw [hj] at hs
    have hi : i < s.size := by
      have := congrArg List.length hs
      simp only [List.length_append, List.length_drop] at this
      omega
    obtain ⟨hd, hn⟩ := enc_piece s i r hv (by rw [hs]; simp)
    have hr : ((r.toNat : Nat) : Int) = r := by have := (valid_iff r).1 hv; omega
    cases f with
    | zero => omega
    | succ f =>
      have hnext : s.data.toList.drop (i + (Lib.encodeRune r).length) = joinB l := by rw [← List.drop_drop, hs]; simp
      obtain ⟨h1, h2⟩ := ih f (i + (Lib.encodeRune r).length) (by omega) hnext (fun x hx => h x (List.mem_cons_of_mem _ hx))
      rw [runesF_step s f i hi, noneF_step s f i hi hn, hd]
      exact ⟨by rw [hr, h1], h2⟩
end Go.Proofs.Ytodncpnhmmnclaa

/- A line and its token: plain facts; Atoi. -/
import Derived.Test.YtkckcnjamlpadabDoorR2
namespace Go.Proofs.YtkckcnjamlpadabDoor
open Go.RowKit Go.Maps

theorem parse_append : ∀ (l r : List UInt8) (acc u : Nat), Lib.parseUint10 acc l = .ok u → Lib.parseUint10 acc (l ++ r) = Lib.parseUint10 u r
  | [], r, acc, u, h => by
    simp only [Lib.parseUint10, Lib.NumEnd.ok.injEq] at h
    subst h; rfl
  | c :: l, r, acc, u, h => by
    simp only [List.cons_append, Lib.parseUint10] at h ⊢
    split at h
    · split at h
      · cases h
      · split at h
        · cases h
        · rename_i h1 h2 h3
          rw [if_pos h1, if_neg h2, if_neg h3]
          exact parse_append l r _ u h
    · cases h
theorem digit_toNat (d : Nat) (h : d < 10) : (UInt8.ofNat (48 + d)).toNat = 48 + d := by simp; omega
theorem parse_dec (u : Nat) (h : u < 18446744073709551616) : Lib.parseUint10 0 (Lib.decDigits u) = .ok u := by
  induction u using Nat.strongRecOn with
  | _ u ih =>
    by_cases h1 : u < 10
    · rw [Lib.decDigits, dif_pos h1]
      have := digit_toNat u h1
      simp only [Lib.parseUint10, this]
      rw [if_pos (by omega), if_neg (by omega), if_neg (by omega)]
      simp only [Lib.NumEnd.ok.injEq]; omega
    · rw [Lib.decDigits, dif_neg h1, parse_append _ _ _ _ (ih (u / 10) (by omega) (by omega))]
      have := digit_toNat (u % 10) (by omega)
      simp only [Lib.parseUint10, this]
      rw [if_pos (by omega), if_neg (by omega), if_neg (by omega)]
      simp only [Lib.NumEnd.ok.injEq]; omega
theorem dec_digit (u : Nat) : ∀ b ∈ Lib.decDigits u, 48 ≤ b.toNat ∧ b.toNat ≤ 57 := by
  induction u using Nat.strongRecOn with
  | _ u ih =>
    by_cases h1 : u < 10
    · rw [Lib.decDigits, dif_pos h1]
      intro b hb
      simp only [List.mem_singleton] at hb
      rw [hb, digit_toNat u h1]; omega
    · rw [Lib.decDigits, dif_neg h1]
      intro b hb
      rcases List.mem_append.1 hb with hb | hb
      · exact ih (u / 10) (by omega) b hb
      · simp only [List.mem_singleton] at hb
        rw [hb, digit_toNat (u % 10) (by omega)]; omega
theorem dec_ne (u : Nat) : Lib.decDigits u ≠ [] := by
  have := Lib.decDigits_length u
  have h2 := Lib.nDigits_pos u
  intro e
  rw [e] at this
  simp at this
  omega
theorem atoi_dec (u : Nat) (h : u ≤ 9223372036854775807) : Lib.atoiAll (Lib.decDigits u) = .ok (u : Int) := by
  cases hd : Lib.decDigits u with
  | nil => exact absurd hd (dec_ne u)
  | cons c r =>
    have h1 := dec_digit u c (by rw [hd]; simp)
    unfold Lib.atoiAll
    simp only
    rw [if_neg (by omega)]
    unfold Lib.parseMag
    rw [if_neg (by simp), ← hd, parse_dec u (by omega)]
    simp only
    rw [if_neg (by omega), if_neg (by omega), if_neg (by omega)]
theorem dec_noblank (u : Nat) (c : UInt8) (hc : c.toNat < 48) : c ∉ Lib.decDigits u := fun h => by
  have := dec_digit u c h
  omega
theorem bt_bs (l : List UInt8) (i : Nat) (h : i < l.length) : bt (bs l) i = (l[i]).toNat := by
  rw [bt_get (bs l) i h]; rfl
theorem name_noblank {s : List UInt8} (h : nameB (bs s) = true) (c : UInt8) (hc : c.toNat < 48) : c ∉ s := fun hm => by
  obtain ⟨i, hi, e⟩ := List.mem_iff_getElem.1 hm
  have h1 := (of_decide_eq_true h).2.2.2 i (by rw [bs_size]; exact hi)
  rw [bt_bs s i hi, e] at h1
  simp only [letB, digB, decide_eq_true_eq] at h1
  omega
theorem split_four (a b c d : List UInt8) (ha : (32 : UInt8) ∉ a) (hb : (32 : UInt8) ∉ b) (hc : (32 : UInt8) ∉ c) : splitL 3 ((((((a ++ [32]) ++ b) ++ [32]) ++ c) ++ [32]) ++ d) = [a, b, c, d] := by
  rw [show ((((((a ++ [32]) ++ b) ++ [32]) ++ c) ++ [32]) ++ d) = a ++ 32 :: (b ++ 32 :: (c ++ 32 :: d)) by simp]
  rw [splitL_some (cutL_of a _ ha), splitL_some (cutL_of b _ hb), splitL_some (cutL_of c _ hc)]
  rfl

/-- Is x the token of a line, behind what is reached? -/
def isTok (ns : List (List UInt8)) (src : ByteArray) (r : Int) (line : List UInt8) (x : T3) : Prop :=
  takeB ns.length src.size r x = true ∧ x.2.2 - x.2.1 ≤ 4096 ∧ lineL ns src x.1.toNat x.2.1.toNat x.2.2.toNat = line
theorem tok_split {ns : List (List UInt8)} {src : ByteArray} {r : Int} {line : List UInt8} {x : T3} (hk : kindsB ns = true) (hr : 0 ≤ r) (h : isTok ns src r line x) :
    ∃ k f t : Nat, x = ((k : Int), (f : Int), (t : Int)) ∧ k < ns.length ∧ t ≤ src.size ∧ f ≤ t ∧ splitL 3 line = [ns.getD k [], Lib.decDigits f, Lib.decDigits t, quoteL (src.extract f t)] := by
  obtain ⟨h1, h2, h3⟩ := h
  have h4 := takeB_iff.1 h1
  obtain ⟨a, b, c⟩ := x
  simp only at h2 h3 h4
  refine ⟨a.toNat, b.toNat, c.toNat, ?_, by omega, by omega, by omega, ?_⟩
  · simp only [Prod.mk.injEq]; omega
  · rw [← h3]
    have hn := (of_decide_eq_true hk).2.2.2.2.1 a.toNat (by omega)
    exact split_four _ _ _ _ (name_noblank hn 32 (by decide)) (dec_noblank _ 32 (by decide)) (dec_noblank _ 32 (by decide))
theorem mem_getD {ns : List (List UInt8)} {k : Nat} (h : k < ns.length) : ns.getD k [] ∈ ns := by
  rw [List.getD_eq_getElem?_getD, List.getElem?_eq_getElem h]; exact List.getElem_mem h
theorem getD_of {ns : List (List UInt8)} {k : Nat} {s : List UInt8} (h : ns[k]? = some s) : ns.getD k [] = s := by
  rw [List.getD_eq_getElem?_getD, h]; rfl
theorem nodup_idx {ns : List (List UInt8)} (hn : ns.Nodup) {j k : Nat} {s : List UInt8} (h1 : ns[j]? = some s) (hk : k < ns.length) (h2 : ns.getD k [] = s) : j = k := by
  obtain ⟨hj, e⟩ := List.getElem?_eq_some_iff.1 h1
  rw [List.getD_eq_getElem?_getD, List.getElem?_eq_getElem hk] at h2
  simp only [Option.getD_some] at h2
  rcases Nat.lt_trichotomy j k with h | h | h
  · exact absurd (e.trans h2.symm) (List.pairwise_iff_getElem.1 hn j k hj hk h)
  · exact h
  · exact absurd (h2.trans e.symm) (List.pairwise_iff_getElem.1 hn k j hk hj h)

theorem atoi_any (s : List UInt8) (hs : s.length ≤ 281474976710656) (w : World) (hE : Env w) :
    Calls Tryd.prog 40 #[.string (bs s)] w fun e w' => ∃ v er, e = .returned (.tuple #[.int .i64 v, er]) ∧ Below w.heap.size w w' ∧ ((Lib.atoiAll s = .ok v ∧ er = .nilIface) ∨ ((∀ u, Lib.atoiAll s ≠ .ok u) ∧ ∃ p, er = .iface 106 (.pointer (some ⟨p, 0, none⟩)))) := by
  obtain ⟨_, ⟨tp, p, h2⟩, ⟨tq, q, h3⟩⟩ := hE
  cases ha : Lib.atoiAll s with
  | ok v =>
    refine (Tryd.strconv_Atoi_ok (bs s) (by rw [bs_size]; omega) v ha w).mono ?_
    rintro e w' ⟨rfl, hw⟩
    refine ⟨v, .nilIface, rfl, ?_, .inl ⟨rfl, rfl⟩⟩
    rcases hw with rfl | ⟨t, rfl⟩
    · exact Below.refl _ _
    · exact Lib.bytesWorld_below w 5 t
  | «syntax» =>
    refine (Tryd.strconv_Atoi_syntax_var (bs s) (by rw [bs_size]; omega) ha tp p w h2).mono ?_
    rintro e w' ⟨N, rfl, _, _, hb⟩
    exact ⟨0, _, rfl, hb, .inr ⟨(fun u h => by cases h), N, rfl⟩⟩
  | range =>
    refine (Tryd.strconv_Atoi_range_var (bs s) (by rw [bs_size]; omega) ha tq q w h3).mono ?_
    rintro e w' ⟨N, rfl, _, _, hb⟩
    exact ⟨_, _, rfl, hb, .inr ⟨(fun u h => by cases h), N, rfl⟩⟩
end Go.Proofs.YtkckcnjamlpadabDoor

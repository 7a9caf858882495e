/- Plain mathematics: the one form, read, is its value. -/
import Derived.Test.YtodncpnhmmnclabM9
namespace Go.Proofs.Ytodncpnhmmnclab

theorem bt_drop (Q : ByteArray) (i j : Nat) (l B : List UInt8) (h : Q.data.toList.drop i = l ++ B) (hj : j < l.length) : bt Q (i + j) = (l.getD j 0).toNat := by
  rw [bt_list]
  congr 1
  have e : Q.data.toList.getD (i + j) 0 = (Q.data.toList.drop i).getD j 0 := by simp [List.getD_eq_getElem?_getD]
  rw [e, h]
  simp [List.getD_eq_getElem?_getD, List.getElem?_append, hj]
theorem one_byte (v : ByteArray) (i : Nat) (h : i < v.size) : (v.data.toList.drop i).take 1 = [UInt8.ofNat (bt v i)] := by
  have hl : v.size = v.data.toList.length := Lib.size_eq v
  rw [bt_list]
  have hi : i < v.data.toList.length := by omega
  rw [List.drop_eq_getElem_cons hi]
  simp [List.getD_eq_getElem?_getD, List.getElem?_eq_getElem hi]
theorem hexV_hexD (n : Fin 16) : hexV (hexD n.val).toNat = n.val := by
  revert n
  decide +kernel
theorem part_back (v Q : ByteArray) (p i : Nat) (B : List UInt8) (hp : p < v.size) (hQ : Q.data.toList.drop i = qpart v p ++ B) :
    i < Q.size ∧ bt Q i ≠ 34 ∧ partL Q i = ((v.data.toList.drop p).take (Utf8.decode v p).2, (qpart v p).length) := by
  have hl : Q.size = Q.data.toList.length := Lib.size_eq Q
  have hlen := congrArg List.length hQ
  rw [List.length_drop, List.length_append] at hlen
  have short : ∀ c x : UInt8, qpart v p = [92, c] → bt v p = x.toNat → x.toNat < 128 → (∀ n f, 2 ≤ n → f 1 = c.toNat → escF n f = ([x], 2)) → i < Q.size ∧ bt Q i ≠ 34 ∧ partL Q i = ((v.data.toList.drop p).take (Utf8.decode v p).2, (qpart v p).length) := fun c x hq hb hx he => by
    rw [hq] at hQ hlen
    have q0 := bt_drop Q i 0 _ _ hQ (by simp)
    have q1 := bt_drop Q i 1 _ _ hQ (by simp)
    simp at q0 q1 hlen
    have hd := dec_ascii Q i (by omega)
    have hv := dec_ascii v p (by omega)
    refine ⟨by omega, by omega, ?_⟩
    unfold partL
    rw [if_pos (by rw [hd]; exact q0), he _ _ (by omega) q1, hv, hq, one_byte v p hp, hb]
    simp
  by_cases c1 : (Utf8.decode v p).1 = 10
  · exact short 110 10 (by simp [qpart, c1]) ((dec_q v p 10 (by omega)).1 c1) (by decide) (fun n f hn hf => by have hf : f 1 = 110 := hf; unfold escF; rw [if_neg (by omega), if_pos hf])
  by_cases c2 : (Utf8.decode v p).1 = 9
  · exact short 116 9 (by simp [qpart, c2]) ((dec_q v p 9 (by omega)).1 c2) (by decide) (fun n f hn hf => by have hf : f 1 = 116 := hf; unfold escF; rw [if_neg (by omega), if_neg (by omega), if_pos hf])
  by_cases c3 : (Utf8.decode v p).1 = 13
  · exact short 114 13 (by simp [qpart, c3]) ((dec_q v p 13 (by omega)).1 c3) (by decide) (fun n f hn hf => by have hf : f 1 = 114 := hf; unfold escF; rw [if_neg (by omega), if_neg (by omega), if_neg (by omega), if_pos hf])
  by_cases c4 : (Utf8.decode v p).1 = 34
  · exact short 34 34 (by simp [qpart, c4]) ((dec_q v p 34 (by omega)).1 c4) (by decide) (fun n f hn hf => by have hf : f 1 = 34 := hf; unfold escF; rw [if_neg (by omega), if_neg (by omega), if_neg (by omega), if_neg (by omega), if_pos (Or.inl hf), hf]; rfl)
  by_cases c5 : (Utf8.decode v p).1 = 92
  · exact short 92 92 (by simp [qpart, c5]) ((dec_q v p 92 (by omega)).1 c5) (by decide) (fun n f hn hf => by have hf : f 1 = 92 := hf; unfold escF; rw [if_neg (by omega), if_neg (by omega), if_neg (by omega), if_neg (by omega), if_pos (Or.inr hf), hf]; rfl)
  cases hpl : plainB v p
  · have hq : qpart v p = [92, 120, hexD (bt v p / 16), hexD (bt v p % 16)] := by simp [qpart, c1, c2, c3, c4, c5, hpl]
    rw [hq] at hQ hlen ⊢
    have b := bt_lt v p
    have q0 := bt_drop Q i 0 _ _ hQ (by simp)
    have q1 := bt_drop Q i 1 _ _ hQ (by simp)
    have q2 := bt_drop Q i 2 _ _ hQ (by simp)
    have q3 := bt_drop Q i 3 _ _ hQ (by simp)
    have x2 := hexV_hexD ⟨bt v p / 16, by omega⟩
    have x3 := hexV_hexD ⟨bt v p % 16, by omega⟩
    simp at q0 q1 q2 q3 hlen x2 x3
    rw [← q2] at x2
    rw [← q3] at x3
    have hd := dec_ascii Q i (by omega)
    have hw : (Utf8.decode v p).2 = 1 := by
      by_cases hn : noneB v p = true
      · simp only [noneB, beq_iff_eq] at hn; rw [hn]
      · have hn : noneB v p = false := by simpa using hn
        simp only [plainB, hn, Bool.not_false, Bool.and_true, Bool.and_eq_false_iff, decide_eq_false_iff_not, Bool.not_eq_false', decide_eq_true_eq] at hpl
        have : bt v p < 128 := by
          by_cases hb : bt v p < 128
          · exact hb
          · have := dec_big v p (by omega); omega
        rw [dec_ascii v p this]
    refine ⟨by omega, by omega, ?_⟩
    unfold partL
    rw [if_pos (by rw [hd]; exact q0), hw, one_byte v p hp]
    unfold escF
    simp only
    rw [if_neg (by omega), if_neg (by omega), if_neg (by omega), if_neg (by omega), if_neg (by omega), if_pos q1, if_pos (by omega), x2, x3]
    simp
    congr 1
    omega
  · have hq : qpart v p = Lib.encodeRune ((Utf8.decode v p).1 : Int) := by simp [qpart, c1, c2, c3, c4, c5, hpl]
    have hn : noneB v p = false := by simp only [plainB, Bool.and_eq_true, Bool.not_eq_true'] at hpl; exact hpl.2.2
    obtain ⟨hv, hw, h1, h4, _⟩ := piece_rune v p hp hn
    have hpb := piece_bytes v p hp hn
    rw [hq] at hQ hlen ⊢
    obtain ⟨hd, hnQ⟩ := enc_piece Q i _ hv (by rw [hQ]; simp)
    simp only [Int.toNat_natCast] at hd
    have hplQ : plainB Q i = true := by
      simp only [plainB, hnQ, hn, Bool.and_eq_true, decide_eq_true_eq] at hpl ⊢
      rw [hd]; exact hpl
    refine ⟨by omega, fun e => ?_, ?_⟩
    · have := (dec_q Q i 34 (by omega)).2 e
      rw [hd] at this; exact c4 this
    · unfold partL
      rw [if_neg (by rw [hd]; exact c5), hplQ]
      rw [show (Utf8.decode Q i).1 = (Utf8.decode v p).1 by rw [hd], show (Utf8.decode Q i).2 = (Lib.encodeRune ((Utf8.decode v p).1 : Int)).length by rw [hd], ← hpb]
      simp [c4]

theorem qread_back (v Q : ByteArray) (hv : v.size ≤ 4096) (f g p i : Nat) (hQ : Q.data.toList.drop i = qFrom v f p ++ [34]) (hp : p ≤ v.size) (hf : v.size ≤ p + f) (hg : Q.size ≤ i + g) : qread Q g i (v.data.toList.take p) = some (v.data.toList, Q.size) := by
  have hlv : v.size = v.data.toList.length := Lib.size_eq v
  have hlQ : Q.size = Q.data.toList.length := Lib.size_eq Q
  induction f generalizing g p i with
  | zero =>
    have hpv : ¬ p < v.size := by omega
    rw [qFrom_end v _ p hpv] at hQ
    have hlen := congrArg List.length hQ
    simp at hlen
    obtain ⟨k, rfl⟩ : ∃ k, g = k + 1 := ⟨g - 1, by omega⟩
    have q0 := bt_drop Q i 0 [34] [] (by simpa using hQ) (by simp)
    simp at q0
    rw [qread_close Q k i _ (by omega) q0, List.take_of_length_le (by omega)]
    simp; omega
  | succ f ih =>
    by_cases hpv : p < v.size
    · rw [qFrom_step v f p hpv, List.append_assoc] at hQ
      obtain ⟨hi, h34, hpart⟩ := part_back v Q p i _ hpv hQ
      have hw := width_pos v p hpv
      have hqn : (qpart v p).length ≠ 0 := by
        intro e
        rw [List.length_eq_zero_iff.1 e] at hpart
        have h2 := (partL_le Q i hi)
        unfold qpart at e
        have := encodeRune_le ((Utf8.decode v p).1 : Int)
        repeat' split at e
        all_goals simp at e
        rw [e] at this
        simp at this
      obtain ⟨k, rfl⟩ : ∃ k, g = k + 1 := ⟨g - 1, by omega⟩
      have ht : v.data.toList.take p ++ (v.data.toList.drop p).take (Utf8.decode v p).2 = v.data.toList.take (p + (Utf8.decode v p).2) := by rw [List.take_add]
      rw [qread_part Q k i _ hi h34 (by rw [hpart]; exact hqn) (by rw [hpart, ← List.length_append, ht, List.length_take]; omega), hpart]
      simp only
      rw [ht]
      refine ih k (p + (Utf8.decode v p).2) (i + (qpart v p).length) ?_ (by omega) (by omega) (by omega)
      rw [← List.drop_drop, hQ]
      simp
    · rw [qFrom_end v _ p hpv] at hQ
      have hlen := congrArg List.length hQ
      simp at hlen
      obtain ⟨k, rfl⟩ : ∃ k, g = k + 1 := ⟨g - 1, by omega⟩
      have q0 := bt_drop Q i 0 [34] [] (by simpa using hQ) (by simp)
      simp at q0
      rw [qread_close Q k i _ (by omega) q0, List.take_of_length_le (by omega)]
      simp; omega
/-- AGAIN: the one form's value. -/
theorem quoted_quote (v : ByteArray) (hv : v.size ≤ 4096) : quotedL ⟨(quoteL v).toArray⟩ = some (v.data.toList, (quoteL v).length) := by
  have hs : (⟨(quoteL v).toArray⟩ : ByteArray).size = (quoteL v).length := by show (quoteL v).toArray.size = _; simp
  have hd : (⟨(quoteL v).toArray⟩ : ByteArray).data.toList = quoteL v := by simp
  have h0 : bt ⟨(quoteL v).toArray⟩ 0 = 34 := by
    rw [bt_list, hd]; rfl
  unfold quotedL
  rw [if_pos ⟨by rw [hs]; simp [quoteL], h0⟩]
  have := qread_back v ⟨(quoteL v).toArray⟩ hv v.size (⟨(quoteL v).toArray⟩ : ByteArray).size 0 1 (by rw [hd]; rfl) (by omega) (by omega) (by omega)
  rw [hs] at this ⊢
  simpa using this
end Go.Proofs.Ytodncpnhmmnclab

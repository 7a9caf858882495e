/- runes: From where a set of one range of plain runes stands. (and what it leads to) -/
import Derived.Test.YtkimhfajfbcdmaaGreatDoorQJ
import Derived.Lib.Strings
import Derived.Lib.DecodeN
import Derived.Lib.AppendStr
import Derived.Lib.IndexBytes
/- runes: From where a set of one range of plain runes stands. -/
namespace Go.Proofs.YtkimhfajfbcdmaaGreatDoor
open Go.RowKit Go.Maps

theorem own_lower {w : World} {B B' : Nat} {e : TypeId} {size : Nat} {v : Value} {n : Nat} {xs : List Value} (h : w.ownsRow B' e size v n xs) (hB : B ≤ B') : w.ownsRow B e size v n xs := by
  refine ⟨h.1, ?_⟩
  rcases h.2 with h0 | ⟨g, cap, cur, h0, hb, rest⟩
  · exact .inl h0
  · exact .inr ⟨g, cap, cur, h0, Nat.le_trans hB hb, rest⟩
/-- A set of one range of plain runes stands at place p. -/
structure SetAt (s : ByteArray) (p c1 c2 : Nat) : Prop where
  sz : s.size ≤ 281474976710656
  lt : p + 4 < s.size
  b0 : (s.data.getD p 0).toNat = 91
  b1 : (s.data.getD (p + 1) 0).toNat = c1
  b2 : (s.data.getD (p + 2) 0).toNat = 45
  b3 : (s.data.getD (p + 3) 0).toNat = c2
  b4 : (s.data.getD (p + 4) 0).toNat = 93
  p1 : plainB c1 = true
  p2 : plainB c2 = true
  le : c1 ≤ c2
  hat : c1 ≠ 94
theorem byteB_yes {s : ByteArray} {p c : Nat} (hp : p < s.size) (h : (s.data.getD p 0).toNat = c) : byteB s p c = true := by
  unfold byteB; rw [decide_eq_true hp, decide_eq_true h]; rfl
theorem byteB_no {s : ByteArray} {p c d : Nat} (h : (s.data.getD p 0).toNat = d) (hd : d ≠ c) : byteB s p c = false := by
  unfold byteB; rw [h, decide_eq_false hd, Bool.and_false]
theorem plain_ne {c : Nat} (h : plainB c = true) : c ≠ 93 ∧ c ≠ 32 := by
  constructor
  · intro e; subst e; exact absurd h (by decide +kernel)
  · intro e; subst e; exact absurd h (by decide +kernel)
set_option maxRecDepth 100000 in
set_option maxHeartbeats 1000000 in
theorem readSet1 (s : ByteArray) (p c1 c2 : Nat) (h : SetAt s p c1 c2) (w : World) :
    Calls Tryz.prog 168 #[.string s, .int .i64 p] w fun e w' => ∃ v, e = .returned (.tuple #[v, .int .i64 ((p + 5 : Nat) : Int), .agg #[.int .i64 0, .int .i64 0]]) ∧ w'.ownsRow w.heap.size 45 2 v 1 (flatR [((c1 : Int), (c2 : Int))]) ∧ Below w.heap.size w w' := by
  obtain ⟨i0, hi0, hz0, hz1, hz2⟩ := info_parts hrange
  have hlt := h.lt
  have hsz := h.sz
  have HB0 := hide (isByte_any s p 91)
  rw [byteB_yes (by omega) h.b0] at HB0
  have HB1 := hide (isByte_any s (p + 1) 94)
  rw [byteB_no h.b1 h.hat] at HB1
  have HB2 := hide (isByte_any s (p + 1) 93)
  rw [byteB_no h.b1 (plain_ne h.p1).1] at HB2
  have HB3 := hide (isByte_any s (p + 1) 32)
  rw [byteB_no h.b1 (plain_ne h.p1).2] at HB3
  have HB4 := hide (isByte_any s (p + 4) 93)
  rw [byteB_yes h.lt h.b4] at HB4
  have HR := hide (readRange_plain s (p + 1) c1 c2 h.sz (by omega) h.b1 h.b2 h.b3 h.p1 h.p2 h.le)
  have HM := hide (fun a cap W hr => merged1 a cap c1 c2 W hr)
  have qn := neq49_0
  have g49 := guard49
  clear h
  go_enter Tryz.func168, Tryz.ntmps168
  go_wp2_with fail
  refine (unhide HB0 _).mono ?_
  rintro e w1 ⟨rfl, hw⟩
  rw [← hw]
  clear hw w1
  go_wp2_with fail
  refine (unhide HB1 _).mono ?_
  rintro e w1 ⟨rfl, hw⟩
  rw [← hw]
  clear hw w1
  go_wp2_with fail
  go_loopw [1, 8] (fun x v wr => ((x = .int .i64 ((p : Int) + 1) ∧ v = .slice none 0 0) ∨ (x = .int .i64 ((p : Int) + 4) ∧ ∃ a c, v = .slice a 1 c ∧ wr.ownsRow w.heap.size 45 2 (.slice a 1 c) 1 (flatR [((c1 : Int), (c2 : Int))]))) ∧ wr.heap[w.heap.size]? = some (.cells #[.int .i64 0, .int .i64 0] 49 (0, 0)) ∧ Below w.heap.size w wr) (fun x _ _ => p + 5 - (intOf x).toNat)
  case atStart => exact ⟨.inl ⟨rfl, rfl⟩, heap_new w _, (Below.refl _ _).alloc (Nat.le_refl _) _⟩
  case round =>
    obtain ⟨hr, hF, hbel⟩ := hrel
    have hfs := hbel.size
    rcases hr with ⟨rfl, rfl⟩ | ⟨rfl, a, c, rfl, hown⟩
    · have HF := hide hF; have Hbel := hide hbel
      clear hF hbel
      go_wp2_with fail
      refine (unhide HB2 _).mono ?_
      rintro e w1 ⟨rfl, hw⟩
      rw [← hw]
      clear hw w1
      go_wp2_with fail
      refine (unhide HB3 _).mono ?_
      rintro e w1 ⟨rfl, hw⟩
      rw [← hw]
      clear hw w1
      go_wp2_with fail
      refine (unhide HR _).mono ?_
      rintro e w1 ⟨rfl, hb1⟩
      have HF1 := hide ((hb1.block _ (lt_of_some (unhide HF))).trans (unhide HF))
      have HB1' := hide ((unhide Hbel).trans (hb1.mono (unhide Hbel).size))
      clear hb1 HF Hbel
      go_wp2_with (at_builtin; refine wpList_append_own _ rfl _ _ 22 rfl w.heap.size 45 i0 (.agg #[.int .i32 0, .int .i32 0]) 2 8 Tryz.underlying22 hi0 hz0 hz1 hz2 rfl (by decide) _ _ _ rfl (World.ownsRow_nil _ _ _ _) _ 1 1 [.int .i32 c1, .int .i32 c2] rfl rfl ?zc1 ?zc2 ?zc3 ?zc4 ?zc5 ?_)
      case zc1 =>
        have h := heap_new ((w1.alloc (.cells #[.int .i32 c1, .int .i32 c2] 45)).alloc (.cells #[.int .i64 0, .int .i64 0] 49)) (.cells #[.int .i32 c1, .int .i32 c2] 45)
        rw [show ((w1.alloc (.cells #[.int .i32 c1, .int .i32 c2] 45)).alloc (.cells #[.int .i64 0, .int .i64 0] 49)).heap.size = w1.heap.size + 1 + 1 by simp] at h
        intro j u hu
        exact World.news_of_block h j u (by simpa using hu)
      case zc2 => intro u hu; simp at hu; rcases hu with rfl | rfl <;> rfl
      case zc3 => unfold maxLen; omega
      case zc4 => omega
      case zc5 => have := (unhide HB1').size; simp; omega
      intro v' W3 hown' hgrow _
      have hb3 : Below w1.heap.size w1 W3 := ((((Below.refl w1.heap.size w1).alloc (Nat.le_refl _) (.cells #[.int .i32 c1, .int .i32 c2] 45)).alloc (by simp) (.cells #[.int .i64 0, .int .i64 0] 49)).alloc (by simp; omega) (.cells #[.int .i32 c1, .int .i32 c2] 45)).grown hgrow (by simp; omega) (fun k hk => by simp [Value.ownBlock] at hk)
      have HF3 := hide ((hb3.block _ (lt_of_some (unhide HF1))).trans (unhide HF1))
      have HB3' := hide ((unhide HB1').trans (hb3.mono (unhide HB1').size))
      obtain ⟨va, vc, rfl⟩ := own_form hown'
      have HO3 := hide hown'
      clear hown' hgrow hb3 HF1 HB1'
      go_wp2
      go_roundw
      case rel => exact ⟨.inr ⟨by go_num, va, vc, rfl, unhide HO3⟩, unhide HF3, unhide HB3'⟩
      case measure => simp [intOf]; omega
    · have HF := hide hF; have Hbel := hide hbel; have Hown := hide hown
      clear hF hbel hown
      go_wp2_with fail
      refine (unhide HB4 _).mono ?_
      rintro e w1 ⟨rfl, hw⟩
      rw [← hw]
      clear hw w1
      have HM' := hide (unhide HM a c wr (rrow_own (l := [((c1 : Int), (c2 : Int))]) (unhide Hown)).1)
      go_wp2_with fail
      refine (unhide HM').mono ?_
      rintro e w1 ⟨v, rfl, ho1, hb1⟩
      have hF1 := (hb1.block _ (lt_of_some (unhide HF))).trans (unhide HF)
      obtain ⟨va, vc, rfl⟩ := own_form ho1
      have HO1 := hide ho1; have HB1' := hide ((unhide Hbel).trans (hb1.mono (unhide Hbel).size))
      have d0 := cell_block hF1 0 _ rfl
      have d1 := cell_block hF1 1 _ rfl
      have f0 := frozen_block hF1 0
      have f1 := frozen_block hF1 1
      have s0 := set_self (v := .int .i64 0) hF1 (i := 0) rfl
      have s1 := set_self (v := .int .i64 0) hF1 (i := 1) rfl
      clear ho1 hb1 hF1 HF Hbel Hown HM' HM
      go_wp2
      refine bodyPost_ret (v := .tuple #[.slice va 1 vc, .int .i64 ((p + 5 : Nat) : Int), .agg #[.int .i64 0, .int .i64 0]]) (by simp [results, Tryz.results168, go_sem, d0, d1]; omega) rfl ?_
      exact ⟨_, rfl, own_lower (unhide HO1) hfs, unhide HB1'⟩
set_option maxRecDepth 100000 in
set_option maxHeartbeats 1000000 in
theorem from1 (s : ByteArray) (p c1 c2 : Nat) (h : SetAt s p c1 c2) (w : World) :
    Calls Tryz.prog 155 #[.string s, .int .i64 p] w fun e w' => ∃ v, e = .returned (.tuple #[v, .int .i64 ((p + 5 : Nat) : Int), .agg #[.int .i64 0, .int .i64 0]]) ∧ w'.ownsRow w.heap.size 45 2 v 1 (flatR [((c1 : Int), (c2 : Int))]) ∧ Below w.heap.size w w' := by
  have HS := hide (readSet1 s p c1 c2 h)
  have hp := h.lt; have hz := h.sz
  have hp' : ¬ (s.size : Int) < p := by omega
  have qn := neq49_0
  have g49 := guard49
  clear h
  go_enter Tryz.func155, Tryz.ntmps155
  go_wp2_with fail
  refine (unhide HS _).mono ?_
  rintro e w1 ⟨v, rfl, ho1, hb1⟩
  obtain ⟨va, vc, rfl⟩ := own_form ho1
  have hs0 : (w.alloc (.cells #[.int .i64 0, .int .i64 0] 49)).heap.size = w.heap.size + 1 := by simp
  have hR := (hb1.block w.heap.size (by simp)).trans (heap_new w _)
  have hB1 : Below w.heap.size w w1 := ((Below.refl w.heap.size w).alloc (Nat.le_refl _) (.cells #[.int .i64 0, .int .i64 0] 49)).trans (hb1.mono (by simp))
  have HO := hide (own_lower (B := w.heap.size) (ho1.alloc (.cells #[.int .i64 0, .int .i64 0] 49)) (by simp))
  have hR2 := (Below.heap_alloc w1 (.cells #[.int .i64 0, .int .i64 0] 49) w.heap.size (lt_of_some hR)).trans hR
  have HB := hide (hB1.alloc hB1.size (.cells #[.int .i64 0, .int .i64 0] 49))
  have d0 := cell_block hR2 0 _ rfl
  have d1 := cell_block hR2 1 _ rfl
  have f0 := frozen_block hR2 0
  have f1 := frozen_block hR2 1
  have s0 := set_self (v := .int .i64 0) hR2 (i := 0) rfl
  have s1 := set_self (v := .int .i64 0) hR2 (i := 1) rfl
  clear ho1 hb1 hs0 hR hB1 hR2 HS
  go_wp2
  refine bodyPost_ret (v := .tuple #[.slice va 1 vc, .int .i64 ((p + 5 : Nat) : Int), .agg #[.int .i64 0, .int .i64 0]]) (by simp [results, Tryz.results155, go_sem, d0, d1]) rfl ?_
  exact ⟨_, rfl, unhide HO, unhide HB⟩
end Go.Proofs.YtkimhfajfbcdmaaGreatDoor

/- text: a quoted text of the one rune b. -/
namespace Go.Proofs.YtkimhfajfbcdmaaGreatDoor
open Go.RowKit Go.Maps

theorem ownsRow_iter {w : World} {base : Nat} {e : TypeId} {size : Nat} {v : Value} {n : Nat} {xs : List Value} (h : w.ownsRow base e size v n xs) {k : Nat} {s : ByteArray} {p : Nat} (hk : w.heap[k]? = some (.stringIter s p)) (p' : Nat) : (w.iterAt k s p').ownsRow base e size v n xs := by
  refine ⟨h.1, ?_⟩
  rcases h.2 with hn | ⟨g, cap, cur, hv, hbg, hg, rest⟩
  · exact .inl hn
  · have hkg : g ≠ k := by
      intro e1
      rw [e1, hk] at hg
      cases hg
    exact .inr ⟨g, cap, cur, hv, hbg, (Lib.iterAt_other w k g s p' hkg).trans hg, rest⟩
theorem iter_grown {w w' : World} {base : Nat} {e : TypeId} {size : Nat} {v : Value} {n : Nat} {xs : List Value} (h : w.ownsRow base e size v n xs) (hg : w.grownBy w' v.ownBlock) {k : Nat} {s : ByteArray} {p : Nat} (hk : w.heap[k]? = some (.stringIter s p)) : w'.heap[k]? = some (.stringIter s p) := by
  have hlt : k < w.heap.size := (Array.getElem?_eq_some_iff.1 hk).1
  rw [hg.block k hlt ?_]
  · exact hk
  · intro e1
    rcases h.2 with ⟨rfl, _⟩ | ⟨g, cap, cur, rfl, hbg, hgg, _⟩
    · simp [Value.ownBlock] at e1
    · simp [Value.ownBlock] at e1
      rw [← e1, hk] at hgg
      cases hgg
theorem own_to_string {w : World} {B : Nat} {v : Value} {l : List UInt8} (h : w.ownsRow B 5 1 v l.length (Lib.byteCells l)) :
    (convert 58 9 v).run Tryz.prog w = .ok (.string ⟨l.toArray⟩) w := by
  obtain ⟨hl, hh⟩ := h
  rcases hh with ⟨rfl, h0⟩ | ⟨g, cap, cur, rfl, hg, hheap, hn, hm, hcur, htk⟩
  · have : l = [] := List.length_eq_zero_iff.1 h0
    subst this
    rw [run_convert_bytes_nil w 58 5 Tryz.underlying58 Tryz.underlying5 0 0 9 Tryz.underlying9]
    rfl
  · refine run_convert_bytes_back w 58 9 5 _ _ _ Tryz.underlying58 Tryz.underlying5 Tryz.underlying9 ?_
    intro j hj
    refine World.ownsRow.cells (w := w) (base := B) (e := 5) (size := 1) (v := .slice (some ⟨g, 0, none⟩) l.length cap) (n := l.length) (xs := Lib.byteCells l) ⟨hl, Or.inr ⟨g, cap, cur, rfl, hg, hheap, hn, hm, hcur, htk⟩⟩ rfl j _ ?_
    simp [Lib.byteCells, hj]
set_option maxHeartbeats 400000 in
theorem isNone98 (s : ByteArray) (i : Int) (w : World) : Calls Tryz.prog 180 #[.string s, .int .i64 i, .int .i32 98] w fun e w' => e = .returned (.bool false) ∧ w = w' := by
  go_enter Tryz.func180, Tryz.ntmps180
  go_wp2
  go_ret
  exact ⟨rfl, rfl⟩
set_option maxHeartbeats 400000 in
theorem plain98 (s : ByteArray) (i : Int) (w : World) : Calls Tryz.prog 185 #[.string s, .int .i64 i, .int .i32 98] w fun e w' => e = .returned (.bool true) ∧ w = w' := by
  have HN := hide (isNone98 s i)
  go_enter Tryz.func185, Tryz.ntmps185
  go_wp2_with fail
  refine (unhide HN _).mono ?_
  rintro e w1 ⟨rfl, rfl⟩
  go_wp2
  go_ret
  exact ⟨rfl, rfl⟩
set_option maxHeartbeats 400000 in
theorem runeLen98 (w : World) : Calls Tryz.prog 186 #[.int .i32 98] w fun e w' => e = .returned (.int .i64 1) ∧ w = w' := by
  go_enter Tryz.func186, Tryz.ntmps186
  go_wp2
  go_ret
  exact ⟨rfl, rfl⟩
def tB : ByteArray := ⟨#[98]⟩
def tQ : ByteArray := ⟨#[34, 98, 34]⟩
set_option maxHeartbeats 400000 in
theorem readPart98 (s : ByteArray) (i : Int) (w : World) : Calls Tryz.prog 179 #[.string s, .int .i64 i, .int .i32 98] w fun e w' => e = .returned (.tuple #[.string tB, .int .i64 1]) ∧ Below w.heap.size w w' := by
  have HP := hide (plain98 s i)
  have HL := hide runeLen98
  go_enter Tryz.func179, Tryz.ntmps179
  go_wp2_with fail
  refine (unhide HP _).mono ?_
  rintro e w1 ⟨rfl, rfl⟩
  go_wp2_with fail
  refine (unhide HL _).mono ?_
  rintro e w1 ⟨rfl, rfl⟩
  go_wp2
  refine bodyPost_ret (v := .tuple #[.string tB, .int .i64 1]) (by simp [results, Tryz.results179, go_sem]; rfl) rfl ⟨rfl, Below.refl _ _⟩
theorem dec0 : Utf8.decode tQ 0 = (34, 1) := by decide +kernel
theorem dec1 : Utf8.decode tQ 1 = (98, 1) := by decide +kernel
theorem dec2 : Utf8.decode tQ 2 = (34, 1) := by decide +kernel
theorem decB : Utf8.decode tB 0 = (98, 1) := by decide +kernel
set_option maxHeartbeats 1000000 in
theorem hasPrefixL (w : World) : Calls Tryz.prog 183 #[.string tQ, .string ⟨#[34]⟩] w fun e w' => e = .returned (.bool true) ∧ w = w' := by
  have h3 : tQ.size = 3 := rfl
  have he : ((tQ.extract 0 1).toList == [34]) = true := by decide +kernel
  go_enter Tryz.func183, Tryz.ntmps183
  go_wp2
  go_ret
  exact ⟨by rw [← he]; rfl, rfl⟩
set_option maxHeartbeats 1000000 in
theorem hasPrefixQ (w : World) : Calls Tryz.prog 178 #[.string tQ, .string ⟨#[34]⟩] w fun e w' => e = .returned (.bool true) ∧ w = w' := by
  have HP := hide hasPrefixL
  go_enter Tryz.func178, Tryz.ntmps178
  go_wp2_with fail
  refine (unhide HP _).mono ?_
  rintro e w1 ⟨rfl, rfl⟩
  go_wp2
  go_ret
  exact ⟨rfl, rfl⟩
theorem iterPos_of {w : World} {k : Nat} {s : ByteArray} {p : Nat} (h : w.heap[k]? = some (.stringIter s p)) : w.iterPos k = p := by
  simp [World.iterPos, h]
set_option maxHeartbeats 2000000 in
set_option maxRecDepth 100000 in
theorem readQuotedQ (w : World) : Calls Tryz.prog 169 #[.string tQ] w fun e w' => e = .returned (.tuple #[.string tB, .int .i64 3]) ∧ Below w.heap.size w w' := by
  obtain ⟨i0, hi, hz0, hz1, hz2⟩ := info_parts hbyte
  have HP := hide hasPrefixQ
  have HR := hide (readPart98 tQ 1)
  have h3 : tQ.size = 3 := rfl
  go_enter Tryz.func169, Tryz.ntmps169
  go_wp2_with fail
  refine (unhide HP _).mono ?_
  rintro e w1 ⟨rfl, rfl⟩
  go_wp2
  go_loopw [4, 5] (fun u x wr => ∃ p : Nat, wr.heap[w.heap.size]? = some (.stringIter tQ p) ∧ Below w.heap.size w wr ∧ ((p = 0 ∧ u = .slice none 0 0 ∧ x = .int .i64 1) ∨ (p = 1 ∧ u = .slice none 0 0 ∧ x = .int .i64 1) ∨ (p = 2 ∧ x = .int .i64 2 ∧ ∃ a c, u = .slice a 1 c ∧ wr.ownsRow w.heap.size 5 1 (.slice a 1 c) 1 (Lib.byteCells [98])))) (fun _ _ wr => 3 - wr.iterPos w.heap.size)
  case atStart => exact ⟨0, World.iter_heap w tQ 0, (Below.refl _ _).alloc (Nat.le_refl _) _, .inl ⟨rfl, rfl, rfl⟩⟩
  case round =>
    obtain ⟨p, hit, hbel, hst⟩ := hrel
    have hk : w.heap.size < wr.heap.size := (Array.getElem?_eq_some_iff.1 hit).1
    have Hit := hide hit; have Hbel := hide hbel
    clear hit hbel
    rcases hst with ⟨rfl, rfl, rfl⟩ | ⟨rfl, rfl, rfl⟩ | ⟨rfl, rfl, a, c, rfl, hown⟩
    · have hstep : ∀ ty, (Instr.next (.pointer (some ⟨w.heap.size, 0, none⟩)) true ty).run Tryz.prog wr = _ := fun ty => Lib.run_next_any_at wr w.heap.size tQ 0 ty (unhide Hit) (by decide)
      rw [dec0] at hstep
      go_wp2
      go_roundw
      case rel => exact ⟨1, Lib.iterAt_heap wr _ tQ 0 1 (unhide Hit), Lib.below_iterAt (unhide Hbel) (Nat.le_refl _) tQ 1, .inr (.inl ⟨rfl, rfl, rfl⟩)⟩
      case measure => rw [iterPos_of (Lib.iterAt_heap wr _ tQ 0 1 (unhide Hit)), iterPos_of (unhide Hit)]; omega
    · have hstep : ∀ ty, (Instr.next (.pointer (some ⟨w.heap.size, 0, none⟩)) true ty).run Tryz.prog wr = _ := fun ty => Lib.run_next_any_at wr w.heap.size tQ 1 ty (unhide Hit) (by decide)
      rw [dec1] at hstep
      go_wp2_with fail
      refine (unhide HR _).mono ?_
      rintro e w1 ⟨rfl, hb1⟩
      rw [Lib.iterAt_size] at hb1
      have hs1 := hb1.size
      rw [Lib.iterAt_size] at hs1
      have hi1 := (hb1.block w.heap.size hk).trans (Lib.iterAt_heap wr _ tQ 1 2 (unhide Hit))
      have hb2 := (Lib.below_iterAt (unhide Hbel) (Nat.le_refl _) tQ 2).trans (hb1.mono (unhide Hbel).size)
      have Hi1 := hide hi1; have Hb2 := hide hb2
      clear hi1 hb2 hb1
      have hB : tB.size = 1 := rfl
      go_wp2_with (at_builtin; refine Lib.wpList_append_own_string _ rfl _ _ 58 9 rfl w.heap.size 5 i0 Tryz.underlying58 Tryz.underlying9 hi hz0 hz1 hz2 _ _ _ rfl (World.ownsRow_nil _ _ _ _) tB rfl ?c3 ?c4 ?c5 ?_)
      case c3 => unfold maxLen; rw [hB]; omega
      case c4 => rw [hB]; omega
      case c5 => omega
      intro v' w2 hown' hgrow _
      obtain ⟨va, vc, hv⟩ := own_form hown'
      subst hv
      have Hg := hide hgrow; have Ho := hide hown'
      clear hgrow hown'
      go_wp2
      go_roundw
      case rel => exact ⟨2, iter_grown (World.ownsRow_nil w1 w.heap.size 5 1) (unhide Hg) (unhide Hi1), (unhide Hb2).grown (unhide Hg) (by omega) (fun x hx => by simp [Value.ownBlock] at hx), .inr (.inr ⟨rfl, by go_num, va, vc, rfl, unhide Ho⟩)⟩
      case measure => rw [iterPos_of (iter_grown (World.ownsRow_nil w1 w.heap.size 5 1) (unhide Hg) (unhide Hi1)), iterPos_of (unhide Hit)]; omega
    · have hstep : ∀ ty, (Instr.next (.pointer (some ⟨w.heap.size, 0, none⟩)) true ty).run Tryz.prog wr = _ := fun ty => Lib.run_next_any_at wr w.heap.size tQ 2 ty (unhide Hit) (by decide)
      rw [dec2] at hstep
      have hconv : (convert 58 9 (.slice a 1 c)).run Tryz.prog (wr.iterAt w.heap.size tQ 3) = .ok (.string tB) (wr.iterAt w.heap.size tQ 3) :=
        own_to_string (B := w.heap.size) (l := [98]) (ownsRow_iter hown (unhide Hit) 3)
      clear hown
      go_wp2
      refine bodyPost_ret (v := .tuple #[.string tB, .int .i64 3]) (by simp [results, Tryz.results169, go_sem]) rfl ⟨rfl, Lib.below_iterAt (unhide Hbel) (Nat.le_refl _) tQ 3⟩
end Go.Proofs.YtkimhfajfbcdmaaGreatDoor

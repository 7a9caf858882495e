/- Contract of the document's Quote, as in stage 1. -/
import Derived.Test.YtkckcnjamlpadaaDoorD2
namespace Go.Proofs.YtkckcnjamlpadaaDoor
open Go.Lib (decodeN)
theorem dec_ascii (s : ByteArray) (i : Nat) (h : bt s i < 128) : Utf8.decode s i = (bt s i, 1) := by
  rw [dec_eq]; unfold decodeN; rw [if_pos h]
theorem dec_big (s : ByteArray) (i : Nat) (h : 128 ≤ bt s i) : 128 ≤ (Utf8.decode s i).1 := by
  rw [dec_eq]
  by_cases e : decodeN (s.size - i) (bt s i) (bt s (i + 1)) (bt s (i + 2)) (bt s (i + 3)) = (65533, 1)
  · rw [e]; simp
  · rcases dec_cases _ _ _ _ _ e with ⟨_, q⟩ | ⟨_, _, p, q⟩ | ⟨_, _, _, p, q⟩ | ⟨_, _, _, _, p, _, q⟩ <;> rw [q] <;> simp only <;> omega
theorem dec_q (s : ByteArray) (i : Nat) (c : Nat) (hc : c < 128) : (Utf8.decode s i).1 = c ↔ bt s i = c := by
  by_cases h : bt s i < 128
  · rw [dec_ascii s i h]
  · have := dec_big s i (by omega)
    constructor <;> intro e <;> omega
theorem ownsRow_slice {w : World} {base : Nat} {e : TypeId} {size : Nat} {v : Value} {n : Nat} {xs : List Value} (h : w.ownsRow base e size v n xs) : ∃ a cap, v = .slice a n cap := by
  rcases h.2 with ⟨rfl, h0⟩ | ⟨g, cap, cur, rfl, _⟩
  · subst h0; exact ⟨_, _, rfl⟩
  · exact ⟨_, _, rfl⟩
theorem extract_list (s : ByteArray) (i n : Nat) : s.extract i (i + n) = ⟨((s.data.toList.drop i).take n).toArray⟩ := by
  apply ByteArray.ext
  apply Array.toList_inj.1
  simp [ByteArray.data_extract]
theorem piece_bytes (s : ByteArray) (i : Nat) (hi : i < s.size) (h : noneB s i = false) : Lib.encodeRune ((Utf8.decode s i).1 : Int) = (s.data.toList.drop i).take (Utf8.decode s i).2 := by
  obtain ⟨hv, hh⟩ := piece_hit s i hi h
  simp only [hitB, Bool.and_eq_true, beq_iff_eq, hv] at hh
  rw [hh.2, Lib.extract_toList]
  simp


open Go.RowKit

theorem cells_new (w : World) (xs : List Value) (t : TypeId) : ∀ j u, xs[j]? = some u → (w.alloc (.cells xs.toArray t)).cell? ((⟨w.heap.size, 0, none⟩ : Addr).add j) = some u := by
  intro j u hj
  have e : (⟨w.heap.size, 0, none⟩ : Addr).add j = ⟨w.heap.size, j, none⟩ := by unfold Addr.add; split <;> simp_all
  rw [e]
  refine (World.cell?_alloc_mark w xs.toArray t (0, 0) j).trans ?_
  simpa using hj
theorem dec_small (s : ByteArray) (i c : Nat) (hc : c < 128) (h : (Utf8.decode s i).1 = c) : Utf8.decode s i = (c, 1) := by
  have hb := (dec_q s i c hc).1 h
  rw [dec_ascii s i (by omega), hb]

set_option maxHeartbeats 400000 in
theorem rQuote_long (v : ByteArray) (h : 4096 < v.size) (w : World) :
    Calls Tryd.prog 54 #[.string v] w fun e w' => e = .returned (.tuple #[.string ⟨#[]⟩, .int .i64 3]) ∧ Below w.heap.size w w' := by
  have h' : (4096 : Int) < v.size := by omega
  go_enter Tryd.func54, Tryd.ntmps54
  go_wp2
  go_ret2
  exact ⟨rfl, Below.refl _ _⟩

set_option maxHeartbeats 4000000 in
set_option maxRecDepth 100000 in
theorem rQuote_good (v : ByteArray) (h : v.size ≤ 4096) (w : World) :
    Calls Tryd.prog 54 #[.string v] w fun e w' => e = .returned (.tuple #[.string ⟨(quoteL v).toArray⟩, .int .i64 0]) ∧ Below w.heap.size w w' := by
  obtain ⟨i0, hi, hz0, hz1, hz2⟩ := info_parts hbyte
  have h' : ¬ (4096 : Int) < v.size := by omega
  go_enter Tryd.func54, Tryd.ntmps54
  go_wp2
  go_loopw [5, 6] (fun u x wr => ∃ (acc : List UInt8) (pos f : Nat), wr.ownsRow w.heap.size 5 1 u acc.length (Lib.byteCells acc) ∧ x = .int .i64 pos ∧ Below w.heap.size w wr ∧ acc ++ qFrom v f pos = 34 :: qFrom v v.size 0 ∧ v.size ≤ pos + f ∧ acc.length ≤ 1 + 4 * pos ∧ pos ≤ v.size) (fun _ x _ => v.size - (intOf x).toNat)
  case atStart =>
    refine ⟨[34], 0, v.size, ?_, by rfl, ?_, rfl, by omega, by simp, by omega⟩
    · exact World.ownsRow_lit w #[.int .u8 34] 1 (Nat.le_refl _) (by unfold maxLen; omega) rfl
    · exact (Below.refl _ _).alloc (Nat.le_refl _) _
  case round =>
    obtain ⟨acc, pos, f, hown, rfl, hbel, hacc, hf, hlen, hpos⟩ := hrel
    obtain ⟨ua, ucap, rfl⟩ := ownsRow_slice hown
    have hsz := hbel.size
    have Hown := hide hown; have Hbel := hide hbel; have Hacc := hide hacc
    clear hown hbel hacc
    by_cases hp : pos < v.size
    · obtain ⟨g, rfl⟩ : ∃ g, f = g + 1 := ⟨f - 1, by omega⟩
      have hp' : (pos : Int) < v.size := by omega
      have HN := rNext_any v pos (by omega)
      unfold nextV at HN
      have Hq0 := unhide Hacc
      rw [qFrom_step v g pos hp] at Hq0
      clear Hacc
      cases hn : noneB v pos
      · rw [nextT_rune v pos hp hn] at HN
        simp only at HN
        obtain ⟨hv, hw, hw1, hw4, hfit⟩ := piece_rune v pos hp hn
        by_cases c : (Utf8.decode v pos).1 = 10
        · have hd := dec_small v pos 10 (by omega) c
          have e : qpart v pos = [92, 110] := by unfold qpart; rw [c]; rfl
          rw [hd] at HN Hq0; rw [e] at Hq0
          have HQ := hide Hq0
          have HN := hide HN
          clear Hq0 hd e c
          go_wp2_with fail
          refine (unhide HN _).mono ?_
          rintro e w1 ⟨rfl, hb1⟩
          have hs1 := hb1.size
          have ho1 := ownsRow_below (unhide Hown) hb1 (Nat.le_refl _)
          have hb2 := (unhide Hbel).trans (hb1.mono hsz)
          have Ho1 := hide ho1; have Hb2 := hide hb2
          clear ho1 hb2 hb1
          go_wp2_with (at_builtin; refine wpList_append_own _ rfl _ _ 76 rfl w.heap.size 5 i0 (.int .u8 0) 1 1 Tryd.underlying76 hi hz0 hz1 hz2 rfl (by decide) _ _ _ rfl ((unhide Ho1).alloc _) ⟨w1.heap.size, 0, none⟩ 2 2 [.int .u8 92, .int .u8 110] rfl rfl ?c1 ?c2 ?c3 ?c4 ?c5 ?_)
          case c1 => exact cells_new _ [.int .u8 92, .int .u8 110] _
          case c2 => intro u hu; simp at hu; rcases hu with rfl | rfl <;> rfl
          case c3 => unfold maxLen; omega
          case c4 => omega
          case c5 => simp; omega
          intro v' w2 hown' hgrow _
          go_wp2
          go_roundw
          case rel =>
            refine ⟨acc ++ [92, 110], pos + 1, g, ?_, by go_num, ((unhide Hb2).alloc (by omega) _).grown hgrow (by simp; omega) (fun x hx => ((unhide Ho1).lt x hx).1), ?_, by omega, by rw [List.length_append]; simp; omega, by omega⟩
            · rw [Lib.byteCells_append, List.length_append]
              exact hown'
            · rw [List.append_assoc]
              exact unhide HQ
          case measure => simp [intOf]; omega
        have n10 : (((Utf8.decode v pos).1 : Int) == 10) = false := by simp; omega
        have m10 := c
        clear c
        by_cases c : (Utf8.decode v pos).1 = 9
        · have hd := dec_small v pos 9 (by omega) c
          have e : qpart v pos = [92, 116] := by unfold qpart; rw [c]; rfl
          rw [hd] at HN Hq0; rw [e] at Hq0
          have HQ := hide Hq0
          have HN := hide HN
          clear Hq0 hd e c
          go_wp2_with fail
          refine (unhide HN _).mono ?_
          rintro e w1 ⟨rfl, hb1⟩
          have hs1 := hb1.size
          have ho1 := ownsRow_below (unhide Hown) hb1 (Nat.le_refl _)
          have hb2 := (unhide Hbel).trans (hb1.mono hsz)
          have Ho1 := hide ho1; have Hb2 := hide hb2
          clear ho1 hb2 hb1
          go_wp2_with (at_builtin; refine wpList_append_own _ rfl _ _ 76 rfl w.heap.size 5 i0 (.int .u8 0) 1 1 Tryd.underlying76 hi hz0 hz1 hz2 rfl (by decide) _ _ _ rfl ((unhide Ho1).alloc _) ⟨w1.heap.size, 0, none⟩ 2 2 [.int .u8 92, .int .u8 116] rfl rfl ?c1 ?c2 ?c3 ?c4 ?c5 ?_)
          case c1 => exact cells_new _ [.int .u8 92, .int .u8 116] _
          case c2 => intro u hu; simp at hu; rcases hu with rfl | rfl <;> rfl
          case c3 => unfold maxLen; omega
          case c4 => omega
          case c5 => simp; omega
          intro v' w2 hown' hgrow _
          go_wp2
          go_roundw
          case rel =>
            refine ⟨acc ++ [92, 116], pos + 1, g, ?_, by go_num, ((unhide Hb2).alloc (by omega) _).grown hgrow (by simp; omega) (fun x hx => ((unhide Ho1).lt x hx).1), ?_, by omega, by rw [List.length_append]; simp; omega, by omega⟩
            · rw [Lib.byteCells_append, List.length_append]
              exact hown'
            · rw [List.append_assoc]
              exact unhide HQ
          case measure => simp [intOf]; omega
        have n9 : (((Utf8.decode v pos).1 : Int) == 9) = false := by simp; omega
        have m9 := c
        clear c
        by_cases c : (Utf8.decode v pos).1 = 13
        · have hd := dec_small v pos 13 (by omega) c
          have e : qpart v pos = [92, 114] := by unfold qpart; rw [c]; rfl
          rw [hd] at HN Hq0; rw [e] at Hq0
          have HQ := hide Hq0
          have HN := hide HN
          clear Hq0 hd e c
          go_wp2_with fail
          refine (unhide HN _).mono ?_
          rintro e w1 ⟨rfl, hb1⟩
          have hs1 := hb1.size
          have ho1 := ownsRow_below (unhide Hown) hb1 (Nat.le_refl _)
          have hb2 := (unhide Hbel).trans (hb1.mono hsz)
          have Ho1 := hide ho1; have Hb2 := hide hb2
          clear ho1 hb2 hb1
          go_wp2_with (at_builtin; refine wpList_append_own _ rfl _ _ 76 rfl w.heap.size 5 i0 (.int .u8 0) 1 1 Tryd.underlying76 hi hz0 hz1 hz2 rfl (by decide) _ _ _ rfl ((unhide Ho1).alloc _) ⟨w1.heap.size, 0, none⟩ 2 2 [.int .u8 92, .int .u8 114] rfl rfl ?c1 ?c2 ?c3 ?c4 ?c5 ?_)
          case c1 => exact cells_new _ [.int .u8 92, .int .u8 114] _
          case c2 => intro u hu; simp at hu; rcases hu with rfl | rfl <;> rfl
          case c3 => unfold maxLen; omega
          case c4 => omega
          case c5 => simp; omega
          intro v' w2 hown' hgrow _
          go_wp2
          go_roundw
          case rel =>
            refine ⟨acc ++ [92, 114], pos + 1, g, ?_, by go_num, ((unhide Hb2).alloc (by omega) _).grown hgrow (by simp; omega) (fun x hx => ((unhide Ho1).lt x hx).1), ?_, by omega, by rw [List.length_append]; simp; omega, by omega⟩
            · rw [Lib.byteCells_append, List.length_append]
              exact hown'
            · rw [List.append_assoc]
              exact unhide HQ
          case measure => simp [intOf]; omega
        have n13 : (((Utf8.decode v pos).1 : Int) == 13) = false := by simp; omega
        have m13 := c
        clear c
        by_cases c : (Utf8.decode v pos).1 = 34
        · have hd := dec_small v pos 34 (by omega) c
          have e : qpart v pos = [92, 34] := by unfold qpart; rw [c]; rfl
          rw [hd] at HN Hq0; rw [e] at Hq0
          have HQ := hide Hq0
          have HN := hide HN
          clear Hq0 hd e c
          go_wp2_with fail
          refine (unhide HN _).mono ?_
          rintro e w1 ⟨rfl, hb1⟩
          have hs1 := hb1.size
          have ho1 := ownsRow_below (unhide Hown) hb1 (Nat.le_refl _)
          have hb2 := (unhide Hbel).trans (hb1.mono hsz)
          have Ho1 := hide ho1; have Hb2 := hide hb2
          clear ho1 hb2 hb1
          go_wp2_with (at_builtin; refine wpList_append_own _ rfl _ _ 76 rfl w.heap.size 5 i0 (.int .u8 0) 1 1 Tryd.underlying76 hi hz0 hz1 hz2 rfl (by decide) _ _ _ rfl ((unhide Ho1).alloc _) ⟨w1.heap.size, 0, none⟩ 2 2 [.int .u8 92, .int .u8 34] rfl rfl ?c1 ?c2 ?c3 ?c4 ?c5 ?_)
          case c1 => exact cells_new _ [.int .u8 92, .int .u8 34] _
          case c2 => intro u hu; simp at hu; rcases hu with rfl | rfl <;> rfl
          case c3 => unfold maxLen; omega
          case c4 => omega
          case c5 => simp; omega
          intro v' w2 hown' hgrow _
          go_wp2
          go_roundw
          case rel =>
            refine ⟨acc ++ [92, 34], pos + 1, g, ?_, by go_num, ((unhide Hb2).alloc (by omega) _).grown hgrow (by simp; omega) (fun x hx => ((unhide Ho1).lt x hx).1), ?_, by omega, by rw [List.length_append]; simp; omega, by omega⟩
            · rw [Lib.byteCells_append, List.length_append]
              exact hown'
            · rw [List.append_assoc]
              exact unhide HQ
          case measure => simp [intOf]; omega
        have n34 : (((Utf8.decode v pos).1 : Int) == 34) = false := by simp; omega
        have m34 := c
        clear c
        by_cases c : (Utf8.decode v pos).1 = 92
        · have hd := dec_small v pos 92 (by omega) c
          have e : qpart v pos = [92, 92] := by unfold qpart; rw [c]; rfl
          rw [hd] at HN Hq0; rw [e] at Hq0
          have HQ := hide Hq0
          have HN := hide HN
          clear Hq0 hd e c
          go_wp2_with fail
          refine (unhide HN _).mono ?_
          rintro e w1 ⟨rfl, hb1⟩
          have hs1 := hb1.size
          have ho1 := ownsRow_below (unhide Hown) hb1 (Nat.le_refl _)
          have hb2 := (unhide Hbel).trans (hb1.mono hsz)
          have Ho1 := hide ho1; have Hb2 := hide hb2
          clear ho1 hb2 hb1
          go_wp2_with (at_builtin; refine wpList_append_own _ rfl _ _ 76 rfl w.heap.size 5 i0 (.int .u8 0) 1 1 Tryd.underlying76 hi hz0 hz1 hz2 rfl (by decide) _ _ _ rfl ((unhide Ho1).alloc _) ⟨w1.heap.size, 0, none⟩ 2 2 [.int .u8 92, .int .u8 92] rfl rfl ?c1 ?c2 ?c3 ?c4 ?c5 ?_)
          case c1 => exact cells_new _ [.int .u8 92, .int .u8 92] _
          case c2 => intro u hu; simp at hu; rcases hu with rfl | rfl <;> rfl
          case c3 => unfold maxLen; omega
          case c4 => omega
          case c5 => simp; omega
          intro v' w2 hown' hgrow _
          go_wp2
          go_roundw
          case rel =>
            refine ⟨acc ++ [92, 92], pos + 1, g, ?_, by go_num, ((unhide Hb2).alloc (by omega) _).grown hgrow (by simp; omega) (fun x hx => ((unhide Ho1).lt x hx).1), ?_, by omega, by rw [List.length_append]; simp; omega, by omega⟩
            · rw [Lib.byteCells_append, List.length_append]
              exact hown'
            · rw [List.append_assoc]
              exact unhide HQ
          case measure => simp [intOf]; omega
        have n92 : (((Utf8.decode v pos).1 : Int) == 92) = false := by simp; omega
        have m92 := c
        clear c
        by_cases c : (Utf8.decode v pos).1 < 32
        · have hd1 : (Utf8.decode v pos).2 = 1 := by rw [dec_small v pos _ (by omega) rfl]
          have e : qpart v pos = [92, 120, hexD (bt v pos / 16), hexD (bt v pos % 16)] := by
            unfold qpart; rw [if_neg m10, if_neg m9, if_neg m13, if_neg m34, if_neg m92]
            have : plainB v pos = false := by simp [plainB]; omega
            rw [this]; rfl
          rw [hd1] at HN Hq0; rw [e] at Hq0
          have c' : ((Utf8.decode v pos).1 : Int) < 32 := by omega
          have HQ := hide Hq0
          have HN := hide HN
          clear Hq0
          generalize (Utf8.decode v pos).1 = r at *
          clear hd1 e m10 m9 m13 m34 m92 hfit hw4 hw1 hw hv
          have hlt := bt_lt v pos
          have j := index_bt v pos hp
          have x1 : ∀ w, (Instr.index 9 (.string ⟨#[48, 49, 50, 51, 52, 53, 54, 55, 56, 57, 97, 98, 99, 100, 101, 102]⟩) (.int .u8 (((bt v pos : Nat) : Int) / 16))).run Tryd.prog w = .ok (.int .u8 ((hexD (bt v pos / 16)).toNat : Int)) w := fun w => digit_at (bt v pos / 16) (by omega) w
          have x2 : ∀ w, (Instr.index 9 (.string ⟨#[48, 49, 50, 51, 52, 53, 54, 55, 56, 57, 97, 98, 99, 100, 101, 102]⟩) (.int .u8 (((bt v pos : Nat) : Int) % 16))).run Tryd.prog w = .ok (.int .u8 ((hexD (bt v pos % 16)).toNat : Int)) w := fun w => digit_at (bt v pos % 16) (by omega) w
          have hwq : IntKind.u8.wrap (((bt v pos : Nat) : Int) / 16) = ((bt v pos : Nat) : Int) / 16 := IntWalk.u8_in _ ⟨by omega, by omega⟩
          have htm : (((bt v pos : Nat) : Int)).tmod 16 = ((bt v pos : Nat) : Int) % 16 := Int.tmod_eq_emod_of_nonneg (by omega)
          generalize hexD (bt v pos / 16) = c at *
          generalize hexD (bt v pos % 16) = d at *
          generalize bt v pos = b at *
          go_wp2_with fail
          refine (unhide HN _).mono ?_
          rintro e w1 ⟨rfl, hb1⟩
          have hs1 := hb1.size
          have ho1 := ownsRow_below (unhide Hown) hb1 (Nat.le_refl _)
          have hb2 := (unhide Hbel).trans (hb1.mono hsz)
          have Ho1 := hide ho1; have Hb2 := hide hb2
          clear ho1 hb2 hb1
          go_wp2_with fail
          refine wp_region_held_drew (S := fun _ => True) (by kernel_rfl) trivial (fun hHeld => ?_)
          refine take_dstD (i := 0) (dst := some 86) (v := ?_) rfl rfl (by kernel_rfl) (by kernel_rfl) (by kernel_rfl) (fun _ _ _ h => h) (Or.inl ⟨by rfl, ?_⟩) hHeld ?_
          rotate_left
          · intro w hSw; go_simp; try (with_reducible rfl)
          simp only [Act.put, List.setIfInBounds_toArray, List.set_cons_zero, List.set_cons_succ]
          refine take_dstD (i := 1) (dst := some 87) (v := ?_) rfl rfl (by kernel_rfl) (by kernel_rfl) (by kernel_rfl) (fun _ _ _ h => h) (Or.inl ⟨by rfl, ?_⟩) hHeld ?_
          rotate_left
          · intro w hSw; go_simp; try (with_reducible rfl)
          simp only [Act.put, List.setIfInBounds_toArray, List.set_cons_zero, List.set_cons_succ]
          refine take_dstD (i := 2) (dst := some 88) (v := ?_) rfl rfl (by kernel_rfl) (by kernel_rfl) (by kernel_rfl) (fun _ _ _ h => h) (Or.inl ⟨by rfl, ?_⟩) hHeld ?_
          rotate_left
          · intro w hSw; go_simp; try (with_reducible rfl)
          simp only [Act.put, List.setIfInBounds_toArray, List.set_cons_zero, List.set_cons_succ]
          refine take_dstD (i := 3) (dst := some 89) (v := ?_) rfl rfl (by kernel_rfl) (by kernel_rfl) (by kernel_rfl) (fun _ _ _ h => h) (Or.inl ⟨by rfl, ?_⟩) hHeld ?_
          rotate_left
          · intro w hSw; go_simp; try (with_reducible rfl)
          simp only [Act.put, List.setIfInBounds_toArray, List.set_cons_zero, List.set_cons_succ]
          refine take_dstD (i := 4) (dst := some 90) (v := ?_) rfl rfl (by kernel_rfl) (by kernel_rfl) (by kernel_rfl) (fun _ _ _ h => h) (Or.inl ⟨by rfl, ?_⟩) hHeld ?_
          rotate_left
          · intro w hSw; go_simp; try (with_reducible rfl)
          simp only [Act.put, List.setIfInBounds_toArray, List.set_cons_zero, List.set_cons_succ]
          refine take_dstD (i := 5) (dst := some 91) (v := ?_) rfl rfl (by kernel_rfl) (by kernel_rfl) (by kernel_rfl) (fun _ _ _ h => h) (Or.inl ⟨by rfl, ?_⟩) hHeld ?_
          rotate_left
          · intro w hSw; go_simp; try (with_reducible rfl)
          simp only [Act.put, List.setIfInBounds_toArray, List.set_cons_zero, List.set_cons_succ]
          refine take_dstD (i := 6) (dst := some 92) (v := ?_) rfl rfl (by kernel_rfl) (by kernel_rfl) (by kernel_rfl) (fun _ _ _ h => h) (Or.inl ⟨by rfl, ?_⟩) hHeld ?_
          rotate_left
          · intro w hSw; go_simp; try (with_reducible rfl)
          simp only [Act.put, List.setIfInBounds_toArray, List.set_cons_zero, List.set_cons_succ]
          refine take_dstD (i := 7) (dst := some 93) (v := ?_) rfl rfl (by kernel_rfl) (by kernel_rfl) (by kernel_rfl) (fun _ _ _ h => h) (Or.inl ⟨by rfl, ?_⟩) hHeld ?_
          rotate_left
          · intro w hSw; go_simp; try (with_reducible rfl)
          simp only [Act.put, List.setIfInBounds_toArray, List.set_cons_zero, List.set_cons_succ]
          refine take_dstD (i := 8) (dst := some 94) (v := ?_) rfl rfl (by kernel_rfl) (by kernel_rfl) (by kernel_rfl) (fun _ _ _ h => h) (Or.inl ⟨by rfl, ?_⟩) hHeld ?_
          rotate_left
          · intro w hSw; go_simp; try (with_reducible rfl)
          simp only [Act.put, List.setIfInBounds_toArray, List.set_cons_zero, List.set_cons_succ]
          refine take_dstD (i := 9) (dst := some 95) (v := ?_) rfl rfl (by kernel_rfl) (by kernel_rfl) (by kernel_rfl) (fun _ _ _ h => h) (Or.inl ⟨by rfl, ?_⟩) hHeld ?_
          rotate_left
          · intro w hSw; go_simp; try (with_reducible rfl)
          simp only [Act.put, List.setIfInBounds_toArray, List.set_cons_zero, List.set_cons_succ]
          refine take_dstD (i := 10) (dst := some 96) (v := ?_) rfl rfl (by kernel_rfl) (by kernel_rfl) (by kernel_rfl) (fun _ _ _ h => h) (Or.inl ⟨by rfl, ?_⟩) hHeld ?_
          rotate_left
          · intro w hSw; go_simp; try (with_reducible rfl)
          simp only [Act.put, List.setIfInBounds_toArray, List.set_cons_zero, List.set_cons_succ]
          refine take_dstD (i := 11) (dst := some 97) (v := ?_) rfl rfl (by kernel_rfl) (by kernel_rfl) (by kernel_rfl) (fun _ _ _ h => h) (Or.inl ⟨by rfl, ?_⟩) hHeld ?_
          rotate_left
          · intro w hSw; go_simp; try (with_reducible rfl)
          simp only [Act.put, List.setIfInBounds_toArray, List.set_cons_zero, List.set_cons_succ]
          refine take_dstD (i := 12) (dst := some 98) (v := ?_) rfl rfl (by kernel_rfl) (by kernel_rfl) (by kernel_rfl) (fun _ _ _ h => h) (Or.inl ⟨by rfl, ?_⟩) hHeld ?_
          rotate_left
          · intro w hSw; go_simp; try (with_reducible rfl)
          simp only [Act.put, List.setIfInBounds_toArray, List.set_cons_zero, List.set_cons_succ]
          refine wpAnyH_ready (rs := [13]) (by kernel_rfl) (by simp) ?_
          refine AllReadyH.cons rfl (fun K hK => ?_) AllReadyH.nil
          go_simp
          refine hK.out _ _ trivial (fun hHeld => ?_)
          clear hK K
          try simp only [Act.put, List.setIfInBounds_toArray, List.set_cons_zero, List.set_cons_succ]
          refine wpAnyH_ready (rs := [14]) (by kernel_rfl) (by simp) ?_
          refine AllReadyH.cons rfl (fun K hK => ?_) AllReadyH.nil
          refine wp_append_own _ _ _ 76 rfl w.heap.size 5 i0 (.int .u8 0) 1 1 Tryd.underlying76 hi hz0 hz1 hz2 rfl (by decide) _ _ _ rfl ((unhide Ho1).drew.alloc _) ⟨w1.heap.size, 0, none⟩ 4 4 [.int .u8 92, .int .u8 120, .int .u8 (c.toNat : Int), .int .u8 (d.toNat : Int)] rfl rfl ?c1 ?c2 ?c3 ?c4 ?c5 ?_
          case c1 => exact cells_new _ [.int .u8 92, .int .u8 120, .int .u8 (c.toNat : Int), .int .u8 (d.toNat : Int)] _
          case c2 => intro u hu; simp at hu; rcases hu with rfl | rfl | rfl | rfl <;> rfl
          case c3 => unfold maxLen; omega
          case c4 => omega
          case c5 => simp; omega
          intro v' w2 hown' hgrow _
          refine hK.out _ _ trivial (fun hHeld => ?_)
          clear hK K
          simp only [Act.put, List.setIfInBounds_toArray]
          refine take_dstD (i := 15) (dst := some 5) (v := ?_) rfl rfl (by kernel_rfl) (by kernel_rfl) (by kernel_rfl) (fun _ _ _ h => h) (Or.inl ⟨by rfl, ?_⟩) hHeld ?_
          rotate_left
          · intro w hSw; go_simp; try (with_reducible rfl)
          simp only [Act.put]
          refine wpAnyH_done (by kernel_rfl) ?_ _

          go_wp2
          go_roundw
          case rel =>
            refine ⟨acc ++ [92, 120, c, d], pos + 1, g, ?_, by go_num, ((unhide Hb2).drew.alloc (by simp; omega) _).grown hgrow (by simp; omega) (fun x hx => ((unhide Ho1).lt x hx).1), ?_, by omega, by rw [List.length_append]; simp; omega, by omega⟩
            · rw [Lib.byteCells_append, List.length_append]
              exact hown'
            · rw [List.append_assoc]
              exact unhide HQ
          case measure => simp [intOf]; omega
        have c32 : ¬ ((Utf8.decode v pos).1 : Int) < 32 := by omega
        by_cases c2 : (Utf8.decode v pos).1 = 127
        · have hd := dec_small v pos 127 (by omega) c2
          have e : qpart v pos = [92, 120, hexD (bt v pos / 16), hexD (bt v pos % 16)] := by
            unfold qpart; rw [if_neg m10, if_neg m9, if_neg m13, if_neg m34, if_neg m92]
            have : plainB v pos = false := by simp [plainB]; omega
            rw [this]; rfl
          rw [e] at Hq0
          rw [hd] at HN Hq0
          clear n10 n9 n13 n34 n92 m10 m9 m13 m34 m92 c32 hfit hw4 hw1 hw hv
          have HQ := hide Hq0
          have HN := hide HN
          clear Hq0
          clear hd e c2 c
          have hlt := bt_lt v pos
          have j := index_bt v pos hp
          have x1 : ∀ w, (Instr.index 9 (.string ⟨#[48, 49, 50, 51, 52, 53, 54, 55, 56, 57, 97, 98, 99, 100, 101, 102]⟩) (.int .u8 (((bt v pos : Nat) : Int) / 16))).run Tryd.prog w = .ok (.int .u8 ((hexD (bt v pos / 16)).toNat : Int)) w := fun w => digit_at (bt v pos / 16) (by omega) w
          have x2 : ∀ w, (Instr.index 9 (.string ⟨#[48, 49, 50, 51, 52, 53, 54, 55, 56, 57, 97, 98, 99, 100, 101, 102]⟩) (.int .u8 (((bt v pos : Nat) : Int) % 16))).run Tryd.prog w = .ok (.int .u8 ((hexD (bt v pos % 16)).toNat : Int)) w := fun w => digit_at (bt v pos % 16) (by omega) w
          have hwq : IntKind.u8.wrap (((bt v pos : Nat) : Int) / 16) = ((bt v pos : Nat) : Int) / 16 := IntWalk.u8_in _ ⟨by omega, by omega⟩
          have htm : (((bt v pos : Nat) : Int)).tmod 16 = ((bt v pos : Nat) : Int) % 16 := Int.tmod_eq_emod_of_nonneg (by omega)
          generalize hexD (bt v pos / 16) = c at *
          generalize hexD (bt v pos % 16) = d at *
          generalize bt v pos = b at *
          go_wp2_with fail
          refine (unhide HN _).mono ?_
          rintro e w1 ⟨rfl, hb1⟩
          have hs1 := hb1.size
          have ho1 := ownsRow_below (unhide Hown) hb1 (Nat.le_refl _)
          have hb2 := (unhide Hbel).trans (hb1.mono hsz)
          have Ho1 := hide ho1; have Hb2 := hide hb2
          clear ho1 hb2 hb1
          go_wp2_with fail
          refine wp_region_held_drew (S := fun _ => True) (by kernel_rfl) trivial (fun hHeld => ?_)
          refine take_dstD (i := 0) (dst := some 86) (v := ?_) rfl rfl (by kernel_rfl) (by kernel_rfl) (by kernel_rfl) (fun _ _ _ h => h) (Or.inl ⟨by rfl, ?_⟩) hHeld ?_
          rotate_left
          · intro w hSw; go_simp; try (with_reducible rfl)
          simp only [Act.put, List.setIfInBounds_toArray, List.set_cons_zero, List.set_cons_succ]
          refine take_dstD (i := 1) (dst := some 87) (v := ?_) rfl rfl (by kernel_rfl) (by kernel_rfl) (by kernel_rfl) (fun _ _ _ h => h) (Or.inl ⟨by rfl, ?_⟩) hHeld ?_
          rotate_left
          · intro w hSw; go_simp; try (with_reducible rfl)
          simp only [Act.put, List.setIfInBounds_toArray, List.set_cons_zero, List.set_cons_succ]
          refine take_dstD (i := 2) (dst := some 88) (v := ?_) rfl rfl (by kernel_rfl) (by kernel_rfl) (by kernel_rfl) (fun _ _ _ h => h) (Or.inl ⟨by rfl, ?_⟩) hHeld ?_
          rotate_left
          · intro w hSw; go_simp; try (with_reducible rfl)
          simp only [Act.put, List.setIfInBounds_toArray, List.set_cons_zero, List.set_cons_succ]
          refine take_dstD (i := 3) (dst := some 89) (v := ?_) rfl rfl (by kernel_rfl) (by kernel_rfl) (by kernel_rfl) (fun _ _ _ h => h) (Or.inl ⟨by rfl, ?_⟩) hHeld ?_
          rotate_left
          · intro w hSw; go_simp; try (with_reducible rfl)
          simp only [Act.put, List.setIfInBounds_toArray, List.set_cons_zero, List.set_cons_succ]
          refine take_dstD (i := 4) (dst := some 90) (v := ?_) rfl rfl (by kernel_rfl) (by kernel_rfl) (by kernel_rfl) (fun _ _ _ h => h) (Or.inl ⟨by rfl, ?_⟩) hHeld ?_
          rotate_left
          · intro w hSw; go_simp; try (with_reducible rfl)
          simp only [Act.put, List.setIfInBounds_toArray, List.set_cons_zero, List.set_cons_succ]
          refine take_dstD (i := 5) (dst := some 91) (v := ?_) rfl rfl (by kernel_rfl) (by kernel_rfl) (by kernel_rfl) (fun _ _ _ h => h) (Or.inl ⟨by rfl, ?_⟩) hHeld ?_
          rotate_left
          · intro w hSw; go_simp; try (with_reducible rfl)
          simp only [Act.put, List.setIfInBounds_toArray, List.set_cons_zero, List.set_cons_succ]
          refine take_dstD (i := 6) (dst := some 92) (v := ?_) rfl rfl (by kernel_rfl) (by kernel_rfl) (by kernel_rfl) (fun _ _ _ h => h) (Or.inl ⟨by rfl, ?_⟩) hHeld ?_
          rotate_left
          · intro w hSw; go_simp; try (with_reducible rfl)
          simp only [Act.put, List.setIfInBounds_toArray, List.set_cons_zero, List.set_cons_succ]
          refine take_dstD (i := 7) (dst := some 93) (v := ?_) rfl rfl (by kernel_rfl) (by kernel_rfl) (by kernel_rfl) (fun _ _ _ h => h) (Or.inl ⟨by rfl, ?_⟩) hHeld ?_
          rotate_left
          · intro w hSw; go_simp; try (with_reducible rfl)
          simp only [Act.put, List.setIfInBounds_toArray, List.set_cons_zero, List.set_cons_succ]
          refine take_dstD (i := 8) (dst := some 94) (v := ?_) rfl rfl (by kernel_rfl) (by kernel_rfl) (by kernel_rfl) (fun _ _ _ h => h) (Or.inl ⟨by rfl, ?_⟩) hHeld ?_
          rotate_left
          · intro w hSw; go_simp; try (with_reducible rfl)
          simp only [Act.put, List.setIfInBounds_toArray, List.set_cons_zero, List.set_cons_succ]
          refine take_dstD (i := 9) (dst := some 95) (v := ?_) rfl rfl (by kernel_rfl) (by kernel_rfl) (by kernel_rfl) (fun _ _ _ h => h) (Or.inl ⟨by rfl, ?_⟩) hHeld ?_
          rotate_left
          · intro w hSw; go_simp; try (with_reducible rfl)
          simp only [Act.put, List.setIfInBounds_toArray, List.set_cons_zero, List.set_cons_succ]
          refine take_dstD (i := 10) (dst := some 96) (v := ?_) rfl rfl (by kernel_rfl) (by kernel_rfl) (by kernel_rfl) (fun _ _ _ h => h) (Or.inl ⟨by rfl, ?_⟩) hHeld ?_
          rotate_left
          · intro w hSw; go_simp; try (with_reducible rfl)
          simp only [Act.put, List.setIfInBounds_toArray, List.set_cons_zero, List.set_cons_succ]
          refine take_dstD (i := 11) (dst := some 97) (v := ?_) rfl rfl (by kernel_rfl) (by kernel_rfl) (by kernel_rfl) (fun _ _ _ h => h) (Or.inl ⟨by rfl, ?_⟩) hHeld ?_
          rotate_left
          · intro w hSw; go_simp; try (with_reducible rfl)
          simp only [Act.put, List.setIfInBounds_toArray, List.set_cons_zero, List.set_cons_succ]
          refine take_dstD (i := 12) (dst := some 98) (v := ?_) rfl rfl (by kernel_rfl) (by kernel_rfl) (by kernel_rfl) (fun _ _ _ h => h) (Or.inl ⟨by rfl, ?_⟩) hHeld ?_
          rotate_left
          · intro w hSw; go_simp; try (with_reducible rfl)
          simp only [Act.put, List.setIfInBounds_toArray, List.set_cons_zero, List.set_cons_succ]
          refine wpAnyH_ready (rs := [13]) (by kernel_rfl) (by simp) ?_
          refine AllReadyH.cons rfl (fun K hK => ?_) AllReadyH.nil
          go_simp
          refine hK.out _ _ trivial (fun hHeld => ?_)
          clear hK K
          try simp only [Act.put, List.setIfInBounds_toArray, List.set_cons_zero, List.set_cons_succ]
          refine wpAnyH_ready (rs := [14]) (by kernel_rfl) (by simp) ?_
          refine AllReadyH.cons rfl (fun K hK => ?_) AllReadyH.nil
          refine wp_append_own _ _ _ 76 rfl w.heap.size 5 i0 (.int .u8 0) 1 1 Tryd.underlying76 hi hz0 hz1 hz2 rfl (by decide) _ _ _ rfl ((unhide Ho1).drew.alloc _) ⟨w1.heap.size, 0, none⟩ 4 4 [.int .u8 92, .int .u8 120, .int .u8 (c.toNat : Int), .int .u8 (d.toNat : Int)] rfl rfl ?c1 ?c2 ?c3 ?c4 ?c5 ?_
          case c1 => exact cells_new _ [.int .u8 92, .int .u8 120, .int .u8 (c.toNat : Int), .int .u8 (d.toNat : Int)] _
          case c2 => intro u hu; simp at hu; rcases hu with rfl | rfl | rfl | rfl <;> rfl
          case c3 => unfold maxLen; omega
          case c4 => omega
          case c5 => simp; omega
          intro v' w2 hown' hgrow _
          refine hK.out _ _ trivial (fun hHeld => ?_)
          clear hK K
          simp only [Act.put, List.setIfInBounds_toArray]
          refine take_dstD (i := 15) (dst := some 5) (v := ?_) rfl rfl (by kernel_rfl) (by kernel_rfl) (by kernel_rfl) (fun _ _ _ h => h) (Or.inl ⟨by rfl, ?_⟩) hHeld ?_
          rotate_left
          · intro w hSw; go_simp; try (with_reducible rfl)
          simp only [Act.put]
          refine wpAnyH_done (by kernel_rfl) ?_ _

          go_wp2
          go_roundw
          case rel =>
            refine ⟨acc ++ [92, 120, c, d], pos + 1, g, ?_, by go_num, ((unhide Hb2).drew.alloc (by simp; omega) _).grown hgrow (by simp; omega) (fun x hx => ((unhide Ho1).lt x hx).1), ?_, by omega, by rw [List.length_append]; simp; omega, by omega⟩
            · rw [Lib.byteCells_append, List.length_append]
              exact hown'
            · rw [List.append_assoc]
              exact unhide HQ
          case measure => simp [intOf]; omega
        have n127 : (((Utf8.decode v pos).1 : Int) == 127) = false := by simp; omega
        have e : qpart v pos = Lib.encodeRune ((Utf8.decode v pos).1 : Int) := by
          unfold qpart; rw [if_neg m10, if_neg m9, if_neg m13, if_neg m34, if_neg m92]
          have : plainB v pos = true := by simp [plainB, hn]; omega
          rw [this]; rfl
        have e2 : v.extract pos (pos + (Utf8.decode v pos).2) = ⟨(qpart v pos).toArray⟩ := by
          rw [e, extract_list, ← piece_bytes v pos hp hn]
        have hq := qpart_le v pos
        have HQ := hide Hq0
        have HN := hide HN
        clear Hq0 e m10 m9 m13 m34 m92
        generalize (Utf8.decode v pos).1 = r at *
        generalize (Utf8.decode v pos).2 = d at *
        generalize qpart v pos = q at *
        have E2 := hide e2
        clear e2 hv hw hn c c2
        go_wp2_with fail
        refine (unhide HN _).mono ?_
        rintro e w1 ⟨rfl, hb1⟩
        have hs1 := hb1.size
        have ho1 := ownsRow_below (unhide Hown) hb1 (Nat.le_refl _)
        have hb2 := (unhide Hbel).trans (hb1.mono hsz)
        have Ho1 := hide ho1; have Hb2 := hide hb2
        clear ho1 hb2 hb1
        have hs0 : (0 : Int) ≤ (pos : Int) := by omega
        have hs1' : (pos : Int) ≤ (pos : Int) + (d : Int) := by omega
        have hs2 : (pos : Int) + (d : Int) ≤ (v.size : Int) := by omega
        have hls : (⟨q.toArray⟩ : ByteArray).size = q.length := by show q.toArray.size = _; simp
        go_wp2_with (at_builtin; refine Lib.wpList_append_own_string _ rfl _ _ 76 9 rfl w.heap.size 5 i0 Tryd.underlying76 Tryd.underlying9 hi hz0 hz1 hz2 _ _ _ rfl (unhide Ho1) (v.extract pos (pos + d)) rfl ?c3 ?c4 ?c5 ?_)
        case c3 => rw [unhide E2, hls]; unfold maxLen; omega
        case c4 => rw [unhide E2, hls]; omega
        case c5 => omega
        intro v' w2 hown' hgrow _
        have hdq : q.length = d := by
          have := congrArg ByteArray.size (unhide E2)
          rw [hls] at this
          simp at this
          omega
        rw [unhide E2, ← hdq] at hown'
        go_wp2
        go_roundw
        case rel =>
          refine ⟨acc ++ q, pos + d, g, ?_, by go_num, (unhide Hb2).grown hgrow (by omega) (fun x hx => ((unhide Ho1).lt x hx).1), ?_, by omega, by rw [List.length_append]; omega, by omega⟩
          · rw [Lib.byteCells_append, List.length_append]
            exact hown'
          · rw [List.append_assoc]
            exact unhide HQ
        case measure => simp [intOf]; omega
      · rw [nextT_none v pos hp hn] at HN
        simp only at HN
        have hd : Utf8.decode v pos = (65533, 1) := by simpa only [noneB, beq_iff_eq] using hn
        have e : qpart v pos = [92, 120, hexD (bt v pos / 16), hexD (bt v pos % 16)] := by
          unfold qpart
          have : plainB v pos = false := by simp [plainB, hn]
          rw [this, hd]; simp
        rw [e] at Hq0
        rw [hd] at Hq0
        clear hn
        have HQ := hide Hq0
        have HN := hide HN
        clear Hq0
        clear hd e
        have hlt := bt_lt v pos
        have j := index_bt v pos hp
        have x1 : ∀ w, (Instr.index 9 (.string ⟨#[48, 49, 50, 51, 52, 53, 54, 55, 56, 57, 97, 98, 99, 100, 101, 102]⟩) (.int .u8 (((bt v pos : Nat) : Int) / 16))).run Tryd.prog w = .ok (.int .u8 ((hexD (bt v pos / 16)).toNat : Int)) w := fun w => digit_at (bt v pos / 16) (by omega) w
        have x2 : ∀ w, (Instr.index 9 (.string ⟨#[48, 49, 50, 51, 52, 53, 54, 55, 56, 57, 97, 98, 99, 100, 101, 102]⟩) (.int .u8 (((bt v pos : Nat) : Int) % 16))).run Tryd.prog w = .ok (.int .u8 ((hexD (bt v pos % 16)).toNat : Int)) w := fun w => digit_at (bt v pos % 16) (by omega) w
        have hwq : IntKind.u8.wrap (((bt v pos : Nat) : Int) / 16) = ((bt v pos : Nat) : Int) / 16 := IntWalk.u8_in _ ⟨by omega, by omega⟩
        have htm : (((bt v pos : Nat) : Int)).tmod 16 = ((bt v pos : Nat) : Int) % 16 := Int.tmod_eq_emod_of_nonneg (by omega)
        generalize hexD (bt v pos / 16) = c at *
        generalize hexD (bt v pos % 16) = d at *
        generalize bt v pos = b at *
        go_wp2_with fail
        refine (unhide HN _).mono ?_
        rintro e w1 ⟨rfl, hb1⟩
        have hs1 := hb1.size
        have ho1 := ownsRow_below (unhide Hown) hb1 (Nat.le_refl _)
        have hb2 := (unhide Hbel).trans (hb1.mono hsz)
        have Ho1 := hide ho1; have Hb2 := hide hb2
        clear ho1 hb2 hb1
        go_wp2_with fail
        refine wp_region_held_drew (S := fun _ => True) (by kernel_rfl) trivial (fun hHeld => ?_)
        refine take_dstD (i := 0) (dst := some 86) (v := ?_) rfl rfl (by kernel_rfl) (by kernel_rfl) (by kernel_rfl) (fun _ _ _ h => h) (Or.inl ⟨by rfl, ?_⟩) hHeld ?_
        rotate_left
        · intro w hSw; go_simp; try (with_reducible rfl)
        simp only [Act.put, List.setIfInBounds_toArray, List.set_cons_zero, List.set_cons_succ]
        refine take_dstD (i := 1) (dst := some 87) (v := ?_) rfl rfl (by kernel_rfl) (by kernel_rfl) (by kernel_rfl) (fun _ _ _ h => h) (Or.inl ⟨by rfl, ?_⟩) hHeld ?_
        rotate_left
        · intro w hSw; go_simp; try (with_reducible rfl)
        simp only [Act.put, List.setIfInBounds_toArray, List.set_cons_zero, List.set_cons_succ]
        refine take_dstD (i := 2) (dst := some 88) (v := ?_) rfl rfl (by kernel_rfl) (by kernel_rfl) (by kernel_rfl) (fun _ _ _ h => h) (Or.inl ⟨by rfl, ?_⟩) hHeld ?_
        rotate_left
        · intro w hSw; go_simp; try (with_reducible rfl)
        simp only [Act.put, List.setIfInBounds_toArray, List.set_cons_zero, List.set_cons_succ]
        refine take_dstD (i := 3) (dst := some 89) (v := ?_) rfl rfl (by kernel_rfl) (by kernel_rfl) (by kernel_rfl) (fun _ _ _ h => h) (Or.inl ⟨by rfl, ?_⟩) hHeld ?_
        rotate_left
        · intro w hSw; go_simp; try (with_reducible rfl)
        simp only [Act.put, List.setIfInBounds_toArray, List.set_cons_zero, List.set_cons_succ]
        refine take_dstD (i := 4) (dst := some 90) (v := ?_) rfl rfl (by kernel_rfl) (by kernel_rfl) (by kernel_rfl) (fun _ _ _ h => h) (Or.inl ⟨by rfl, ?_⟩) hHeld ?_
        rotate_left
        · intro w hSw; go_simp; try (with_reducible rfl)
        simp only [Act.put, List.setIfInBounds_toArray, List.set_cons_zero, List.set_cons_succ]
        refine take_dstD (i := 5) (dst := some 91) (v := ?_) rfl rfl (by kernel_rfl) (by kernel_rfl) (by kernel_rfl) (fun _ _ _ h => h) (Or.inl ⟨by rfl, ?_⟩) hHeld ?_
        rotate_left
        · intro w hSw; go_simp; try (with_reducible rfl)
        simp only [Act.put, List.setIfInBounds_toArray, List.set_cons_zero, List.set_cons_succ]
        refine take_dstD (i := 6) (dst := some 92) (v := ?_) rfl rfl (by kernel_rfl) (by kernel_rfl) (by kernel_rfl) (fun _ _ _ h => h) (Or.inl ⟨by rfl, ?_⟩) hHeld ?_
        rotate_left
        · intro w hSw; go_simp; try (with_reducible rfl)
        simp only [Act.put, List.setIfInBounds_toArray, List.set_cons_zero, List.set_cons_succ]
        refine take_dstD (i := 7) (dst := some 93) (v := ?_) rfl rfl (by kernel_rfl) (by kernel_rfl) (by kernel_rfl) (fun _ _ _ h => h) (Or.inl ⟨by rfl, ?_⟩) hHeld ?_
        rotate_left
        · intro w hSw; go_simp; try (with_reducible rfl)
        simp only [Act.put, List.setIfInBounds_toArray, List.set_cons_zero, List.set_cons_succ]
        refine take_dstD (i := 8) (dst := some 94) (v := ?_) rfl rfl (by kernel_rfl) (by kernel_rfl) (by kernel_rfl) (fun _ _ _ h => h) (Or.inl ⟨by rfl, ?_⟩) hHeld ?_
        rotate_left
        · intro w hSw; go_simp; try (with_reducible rfl)
        simp only [Act.put, List.setIfInBounds_toArray, List.set_cons_zero, List.set_cons_succ]
        refine take_dstD (i := 9) (dst := some 95) (v := ?_) rfl rfl (by kernel_rfl) (by kernel_rfl) (by kernel_rfl) (fun _ _ _ h => h) (Or.inl ⟨by rfl, ?_⟩) hHeld ?_
        rotate_left
        · intro w hSw; go_simp; try (with_reducible rfl)
        simp only [Act.put, List.setIfInBounds_toArray, List.set_cons_zero, List.set_cons_succ]
        refine take_dstD (i := 10) (dst := some 96) (v := ?_) rfl rfl (by kernel_rfl) (by kernel_rfl) (by kernel_rfl) (fun _ _ _ h => h) (Or.inl ⟨by rfl, ?_⟩) hHeld ?_
        rotate_left
        · intro w hSw; go_simp; try (with_reducible rfl)
        simp only [Act.put, List.setIfInBounds_toArray, List.set_cons_zero, List.set_cons_succ]
        refine take_dstD (i := 11) (dst := some 97) (v := ?_) rfl rfl (by kernel_rfl) (by kernel_rfl) (by kernel_rfl) (fun _ _ _ h => h) (Or.inl ⟨by rfl, ?_⟩) hHeld ?_
        rotate_left
        · intro w hSw; go_simp; try (with_reducible rfl)
        simp only [Act.put, List.setIfInBounds_toArray, List.set_cons_zero, List.set_cons_succ]
        refine take_dstD (i := 12) (dst := some 98) (v := ?_) rfl rfl (by kernel_rfl) (by kernel_rfl) (by kernel_rfl) (fun _ _ _ h => h) (Or.inl ⟨by rfl, ?_⟩) hHeld ?_
        rotate_left
        · intro w hSw; go_simp; try (with_reducible rfl)
        simp only [Act.put, List.setIfInBounds_toArray, List.set_cons_zero, List.set_cons_succ]
        refine wpAnyH_ready (rs := [13]) (by kernel_rfl) (by simp) ?_
        refine AllReadyH.cons rfl (fun K hK => ?_) AllReadyH.nil
        go_simp
        refine hK.out _ _ trivial (fun hHeld => ?_)
        clear hK K
        try simp only [Act.put, List.setIfInBounds_toArray, List.set_cons_zero, List.set_cons_succ]
        refine wpAnyH_ready (rs := [14]) (by kernel_rfl) (by simp) ?_
        refine AllReadyH.cons rfl (fun K hK => ?_) AllReadyH.nil
        refine wp_append_own _ _ _ 76 rfl w.heap.size 5 i0 (.int .u8 0) 1 1 Tryd.underlying76 hi hz0 hz1 hz2 rfl (by decide) _ _ _ rfl ((unhide Ho1).drew.alloc _) ⟨w1.heap.size, 0, none⟩ 4 4 [.int .u8 92, .int .u8 120, .int .u8 (c.toNat : Int), .int .u8 (d.toNat : Int)] rfl rfl ?c1 ?c2 ?c3 ?c4 ?c5 ?_
        case c1 => exact cells_new _ [.int .u8 92, .int .u8 120, .int .u8 (c.toNat : Int), .int .u8 (d.toNat : Int)] _
        case c2 => intro u hu; simp at hu; rcases hu with rfl | rfl | rfl | rfl <;> rfl
        case c3 => unfold maxLen; omega
        case c4 => omega
        case c5 => simp; omega
        intro v' w2 hown' hgrow _
        refine hK.out _ _ trivial (fun hHeld => ?_)
        clear hK K
        simp only [Act.put, List.setIfInBounds_toArray]
        refine take_dstD (i := 15) (dst := some 5) (v := ?_) rfl rfl (by kernel_rfl) (by kernel_rfl) (by kernel_rfl) (fun _ _ _ h => h) (Or.inl ⟨by rfl, ?_⟩) hHeld ?_
        rotate_left
        · intro w hSw; go_simp; try (with_reducible rfl)
        simp only [Act.put]
        refine wpAnyH_done (by kernel_rfl) ?_ _

        go_wp2
        go_roundw
        case rel =>
          refine ⟨acc ++ [92, 120, c, d], pos + 1, g, ?_, by go_num, ((unhide Hb2).drew.alloc (by simp; omega) _).grown hgrow (by simp; omega) (fun x hx => ((unhide Ho1).lt x hx).1), ?_, by omega, by rw [List.length_append]; simp; omega, by omega⟩
          · rw [Lib.byteCells_append, List.length_append]
            exact hown'
          · rw [List.append_assoc]
            exact unhide HQ
        case measure => simp [intOf]; omega
    · have hp' : ¬ (pos : Int) < v.size := by omega
      have ha : quoteL v = acc ++ [34] := by
        have := unhide Hacc
        rw [qFrom_end v f pos hp, List.append_nil] at this
        rw [this]; rfl
      have HA := hide ha
      clear ha
      go_wp2_with (at_builtin; refine wpList_append_own _ rfl _ _ 76 rfl w.heap.size 5 i0 (.int .u8 0) 1 1 Tryd.underlying76 hi hz0 hz1 hz2 rfl (by decide) _ _ _ rfl ((unhide Hown).alloc _) ⟨wr.heap.size, 0, none⟩ 1 1 [.int .u8 34] rfl rfl ?c1 ?c2 ?c3 ?c4 ?c5 ?_)
      case c2 => rfl
      case c3 => unfold maxLen; omega
      case c4 => omega
      case c5 => omega
      intro v' w2 hown' hgrow _
      have hconv : (convert 76 9 v').run Tryd.prog w2 = .ok (.string ⟨(quoteL v).toArray⟩) w2 := by
        rw [unhide HA]
        refine own_to_string (B := w.heap.size) ?_
        rw [Lib.byteCells_append, List.length_append]
        exact hown'
      go_wp2
      go_ret2
      refine ⟨rfl, ?_⟩
      exact ((unhide Hbel).alloc (by omega) _).grown hgrow (by simp; omega) (fun x hx => ((unhide Hown).lt x hx).1)

theorem rQuote_any (v : ByteArray) (w : World) :
    Calls Tryd.prog 54 #[.string v] w fun e w' => e = .returned (.tuple #[.string (quoteVals v).1, .int .i64 (quoteVals v).2]) ∧ Below w.heap.size w w' := by
  by_cases h : v.size ≤ 4096
  · rw [show quoteVals v = (⟨(quoteL v).toArray⟩, 0) from if_pos h]; exact rQuote_good v h w
  · rw [show quoteVals v = (⟨#[]⟩, 3) from if_neg h]; exact rQuote_long v (by omega) w
end Go.Proofs.YtkckcnjamlpadaaDoor

/- The law TextOwn, walked out of the contracts, for texts and rows of a million places and less. -/
import Derived.Test.YtodncpnhmmnclabW4
import Derived.Test.YtodncpnhmmnclabW7
import Derived.Test.YtodncpnhmmnclabW10
import Derived.Laws.AppendOwnNone
namespace Go.Proofs.Ytodncpnhmmnclab
open Go.RowKit

theorem runesOr_le (s : ByteArray) : (runesOr s).length ≤ s.size := by
  unfold runesOr
  split
  · simp
  · have := runesF_le s s.size 0; unfold runesL; omega

/-- Runes, with the row that it hands out told to be the call's own. -/
theorem runes_own (s : ByteArray) (hs : s.size ≤ 8388608) (w : World) :
    Calls Try.prog 10 #[.string s] w fun e w' => ∃ v, e = .returned (.tuple #[v, .agg #[.int .i64 (validVals s).1, .int .i64 (validVals s).2]]) ∧ w'.ownsRow (w.heap.size + 1) 21 1 v (runesOr s).length ((runesOr s).map (Value.int .i32)) ∧ Below w.heap.size w w' := by
  cases h : badB s with
  | some k =>
    rw [(validVals_bad s k h).1, (validVals_bad s k h).2]
    exact (runes_bad s k h w).mono fun e w' ⟨he, hb⟩ => ⟨_, he, World.ownsRow_nil _ _ _ _, hb⟩
  | none =>
    rw [(validVals_good s h).1, (validVals_good s h).2]
    exact (runes_good s hs h w).mono fun e w' ⟨v, he, ho, hb⟩ => ⟨v, he, ho, hb⟩
theorem isRunes_join {w : World} {v : Value} {zs : List Int} (h : IsRunes w v zs) (hsz : zs.length * 4 ≤ 140737488351232) :
    Calls Try.prog 12 #[v] w fun e w' => e = .returned (.tuple #[(joinVals zs).1, .agg #[.int .i64 (joinVals zs).2.1, .int .i64 (joinVals zs).2.2]]) ∧ Below w.heap.size w w' := by
  obtain ⟨a, cap, rfl, h⟩ := h
  exact join_any a cap zs w hsz h
theorem runesAt_below {w w' : World} {a : Option Addr} {zs : List Int} (h : RunesAt w a zs) (hb : Below w.heap.size w w') : RunesAt w' a zs := by
  rcases h with rfl | ⟨b, off, rfl, hlt, hc⟩
  · exact .inl rfl
  · exact .inr ⟨b, off, rfl, Nat.lt_of_lt_of_le hlt hb.size, fun j hj => by rw [hb.cell (by exact hlt)]; exact hc j hj⟩
/-- What follows of the two values that a row of the call's own may be. -/
theorem own_form {w : World} {B : Nat} {v : Value} {zs : List Int} (h : w.ownsRow B 21 1 v zs.length (zs.map (Value.int .i32))) : (v = .slice none 0 0 ∧ zs = []) ∨ ∃ g cap, v = .slice (some ⟨g, 0, none⟩) zs.length cap := by
  rcases h.2 with ⟨rfl, h0⟩ | ⟨g, cap, cur, rfl, _⟩
  · exact .inl ⟨rfl, List.length_eq_zero_iff.1 h0⟩
  · exact .inr ⟨g, cap, rfl⟩
/-- The head of a row of the call's own, and what lies behind it. -/
theorem own_head {w : World} {B g cap : Nat} {l : List Int} (h : w.ownsRow B 21 1 (.slice (some ⟨g, 0, none⟩) (l.length + 2) cap) (l.length + 2) (l.map (Value.int .i32) ++ [.int .i32 (-9), .int .i32 (-9)])) :
    IsRunes w (.slice (some ⟨g, 0, none⟩) l.length cap) l ∧ w.cell? ⟨g, l.length, none⟩ = some (.int .i32 (-9)) ∧ g < w.heap.size ∧ l.length + 2 ≤ cap := by
  have hg : g < w.heap.size := (h.lt g rfl).2
  have hc : l.length + 2 ≤ cap := by
    rcases h.2 with ⟨h', _⟩ | ⟨g', cap', cur, h', _, _, hnc, _⟩
    · cases h'
    · simp only [Value.slice.injEq] at h'; omega
  refine ⟨⟨some ⟨g, 0, none⟩, cap, rfl, .inr ⟨g, 0, rfl, hg, fun j hj => ?_⟩⟩, ?_, hg, hc⟩
  · have := h.cellAt j (by omega)
    rw [Nat.zero_add, this, List.getElem?_append_left (by simpa using hj)]
    simp [hj]
  · have := h.cellAt l.length (by omega)
    rw [this]
    simp
theorem grown_refl (w : World) (row : Option Nat) : w.grownBy w row := ⟨rfl, rfl, rfl, Nat.le_refl _, fun _ _ _ => rfl⟩
theorem grown_trans {a b c : World} {row : Option Nat} (h : a.grownBy b row) (k : b.grownBy c row) : a.grownBy c row :=
  ⟨k.os.trans h.os, k.tape.trans h.tape, k.output.trans h.output, Nat.le_trans h.size k.size, fun i hi hne => (k.block i (Nat.lt_of_lt_of_le hi h.size) hne).trans (h.block i hi hne)⟩

set_option maxHeartbeats 4000000 in
set_option maxRecDepth 100000 in
theorem own_nil (s : ByteArray) (hs : s.size ≤ 1048576) (l : List Int) (hlz : l = []) (w : World) (hrow : RunesAt w none l) :
    Calls Try.prog 5 #[.string s, .slice none 0 0] w fun e w' => e = .returned (.bool true) ∧ Below w.heap.size w w' := by
  subst hlz
  have hl : ([] : List Int).length ≤ 1048576 := by simp
  obtain ⟨i0, hi, hz0, hz1, hz2⟩ := info_parts hrune
  have HA := hide (fun w => alive_any w)
  have H1 := hide (runes_own s (by omega))
  have H3 := hide (rRunes_own s (by omega))
  have hzl := runesOr_le s
  have H6 := hide (fun (v u : Value) (w : World) (h1 : IsRunes w v (runesOr s)) (h2 : IsRunes w u (runesOr s)) => same_any v u (runesOr s) (runesOr s) w h1 h2 (by omega))
  rw [decide_eq_true rfl] at H6
  have H7 := hide (fun (v u : Value) (w : World) (h1 : IsRunes w v ([] : List Int)) (h2 : IsRunes w u ([] : List Int)) => same_any v u ([] : List Int) ([] : List Int) w h1 h2 (by omega))
  rw [decide_eq_true rfl] at H7
  have HJ := hide (fun (w' : World) (v : Value) (hr : IsRunes w' v ([] : List Int)) => isRunes_join hr (by omega))
  have HL := hide (fun (w' : World) (hb : Below w.heap.size w w') => (show IsRunes w' (.slice none 0 0) ([] : List Int) from ⟨none, 0, rfl, runesAt_below hrow hb⟩))
  generalize runesOr s = zs at *
  generalize validVals s = y at H1 H3
  obtain ⟨y1, y2⟩ := y
  generalize joinVals ([] : List Int) = jv at HJ
  obtain ⟨j1, j2, j3⟩ := jv
  clear hrow 
  go_enter Try.func5, Try.ntmps5
  go_wp2_with fail
  refine (unhide H1 _).mono ?_
  rintro e w1 ⟨v, rfl, hv, hb1⟩
  have hs1 := hb1.size
  have hvlt := hv.lt
  have HV := hide (hv.alloc (.cells #[.int .i64 y1, .int .i64 y2] 32))
  have HB1 := hide (hb1.alloc hs1 (.cells #[.int .i64 y1, .int .i64 y2] 32))
  have Hvlt := hide hvlt
  clear hv hb1 hvlt
  go_wp2_with fail
  refine (unhide H1 _).mono ?_
  rintro e w2 ⟨u, rfl, hu, hb2⟩
  have hs2 := hb2.size
  simp at hs2
  have HV2 := hide ((ownsRow_below (unhide HV) hb2 (Nat.le_refl _)).alloc (.cells #[.int .i64 y1, .int .i64 y2] 32))
  have Hult := hide hu.lt
  have HU := hide (hu.alloc (.cells #[.int .i64 y1, .int .i64 y2] 32))
  have hb2' := (unhide HB1).trans (hb2.mono (unhide HB1).size)
  have HB2 := hide (hb2'.alloc hb2'.size (.cells #[.int .i64 y1, .int .i64 y2] 32))
  clear hu hb2 hb2' HV HB1
  go_wp2_with fail
  refine (unhide H3 _).mono ?_
  rintro e w3 ⟨m, rfl, hm, hb3⟩
  have hs3 := hb3.size
  simp at hs3
  have HV3 := hide (ownsRow_below (unhide HV2) hb3 (Nat.le_refl _))
  have HU3 := hide (ownsRow_below (unhide HU) hb3 (Nat.le_refl _))
  have Hmlt := hide hm.lt
  have HM3 := hide hm
  have HB3 := hide ((unhide HB2).trans (hb3.mono (unhide HB2).size))
  have hsz3 := (unhide HB3).size
  have Hne1 : Hid (u.ownBlock = none ∨ u.ownBlock ≠ v.ownBlock) := hide (by
    cases hub : u.ownBlock with
    | none => exact .inl rfl
    | some k =>
      right
      intro e
      have h1 := (unhide Hult k hub).1
      have h2 := (unhide Hvlt k e.symm).2
      simp at h1
      omega)
  have Hne2 : Hid (m.ownBlock = none ∨ m.ownBlock ≠ v.ownBlock) := hide (by
    cases hub : m.ownBlock with
    | none => exact .inl rfl
    | some k =>
      right
      intro e
      have h1 := (unhide Hmlt k hub).1
      have h2 := (unhide Hvlt k e.symm).2
      simp at h1
      omega)
  have Hvge : Hid (∀ k, v.ownBlock = some k → w.heap.size ≤ k) := hide fun k hk => by have := (unhide Hvlt k hk).1; omega
  clear hm hb3 HV2 HU HB2 Hult Hmlt Hvlt
  rcases own_form (unhide HV3) with ⟨rfl, hz⟩ | ⟨g, vc, rfl⟩
  · have HVr := hide (show w3.ownsRow (w.heap.size + 1) 21 1 (.slice none 0 0) 0 [] from World.ownsRow_nil _ _ _ _)
    have HG := hide (grown_refl w3 (Value.slice none 0 0).ownBlock)
    have hsr : w.heap.size + 1 ≤ w3.heap.size := by omega
    clear hz
    go_wp2
    refine wp_loop_rounds 1 ?_
    rw [rounds_succ]
    go_wp2_with (at_builtin; refine wpList_append_own _ rfl _ _ 30 rfl (w.heap.size + 1) 21 i0 (.int .i32 0) 1 4 Try.underlying30 hi hz0 hz1 hz2 rfl (by decide) _ _ _ rfl ((unhide HVr).alloc _) ⟨w3.heap.size, 0, none⟩ 3 3 [.int .i32 1, .int .i32 2, .int .i32 3] rfl rfl ?c1 ?c2 ?c3 ?c4 ?c5 ?_)
    case c1 =>
      intro j u hj
      match j, hj with
      | 0, hj => simp at hj; subst hj; simp [Addr.add]
      | 1, hj => simp at hj; subst hj; simp [Addr.add]
      | 2, hj => simp at hj; subst hj; simp [Addr.add]
      | (j + 3), hj => simp at hj
    case c2 => first | exact ⟨rfl, rfl, rfl⟩ | (intro u hu; simp at hu; rcases hu with rfl | rfl | rfl <;> rfl)
    case c3 => unfold maxLen; omega
    case c4 => omega
    case c5 => first | omega | (simp; omega)
    intro v4 w4 _ hgrow4 _
    have hgs4 := hgrow4.size
    simp at hgs4
    have HU4 := hide ((((unhide HU3).kept (unhide HG) (unhide Hne1)).alloc _).kept hgrow4 (unhide Hne1))
    have HM4 := hide ((((unhide HM3).kept (unhide HG) (unhide Hne2)).alloc _).kept hgrow4 (unhide Hne2))
    have hbr := (unhide HB3).grown (unhide HG) (unhide HB3).size (unhide Hvge)
    have HB4 := hide ((hbr.alloc hbr.size (.cells #[.int .i32 1, .int .i32 2, .int .i32 3] 21)).grown hgrow4 (by simp; omega) (unhide Hvge))
    have hs4 := (unhide HB4).size
    clear hgrow4 hbr HG HVr
    have HR0 := hide (show w4.ownsRow w4.heap.size 21 1 (.slice none 0 0) 0 [] from World.ownsRow_nil w4 w4.heap.size 21 1)
    have HU5 := HU4; have HM5 := HM4; have HB5 := HB4
    have hsz5 := (unhide HB5).size
    go_wp2_with (first | (at_builtin; refine wpList_append_own_none rfl _ _ 30 rfl w4.heap.size 21 i0 1 Try.underlying30 hi _ _ _ rfl (World.ownsRow_nil w4 w4.heap.size 21 1) rfl ?_) | (at_builtin; refine wpList_append_own _ rfl _ _ 30 rfl w4.heap.size 21 i0 (.int .i32 0) 1 4 Try.underlying30 hi hz0 hz1 hz2 rfl (by decide) _ _ _ rfl ((unhide HR0).alloc _) ⟨w4.heap.size, 0, none⟩ 2 2 [.int .i32 (-9), .int .i32 (-9)] rfl rfl ?e1 ?e2 ?e3 ?e4 ?e5 ?_))
    case e1 => exact cell_two_new _ _ _ _
    case e2 => first | rfl | (intro u hu; simp at hu; subst hu; rfl)
    case e3 => unfold maxLen; omega
    case e4 => omega
    case e5 => first | omega | (simp; done) | (simp; omega)
    intro r1 w6 hown6 hgrow6 _
    have hgs6 := hgrow6.size
    simp at hgs6
    have HU6 := hide (((unhide HU5).alloc _).kept hgrow6 (by
      cases hx : u.ownBlock with
      | none => exact .inl rfl
      | some k =>
        right; intro e2
        have h1 := ((unhide HR0).lt k e2.symm).1
        have h2 := ((unhide HU4).lt k hx).2
        omega))
    have HM6 := hide (((unhide HM5).alloc _).kept hgrow6 (by
      cases hx : m.ownBlock with
      | none => exact .inl rfl
      | some k =>
        right; intro e2
        have h1 := ((unhide HR0).lt k e2.symm).1
        have h2 := ((unhide HM4).lt k hx).2
        omega))
    have HB6 := hide (((unhide HB5).alloc hsz5 (.cells #[.int .i32 (-9), .int .i32 (-9)] 21)).grown hgrow6 (by simp; omega) (fun k hk => by have := ((unhide HR0).lt k hk).1; omega))
    obtain ⟨g1, c1, rfl⟩ : ∃ g1 c1, r1 = .slice (some ⟨g1, 0, none⟩) (2) c1 := by
      rcases hown6.2 with ⟨_, h0⟩ | ⟨g1, c1, cur, h0, _⟩
      · omega
      · exact ⟨g1, c1, h0⟩
    obtain ⟨hd1, hd2, hd3, hd4⟩ := own_head (l := []) hown6
    have Hd1 := hide hd1; have Hd2 := hide hd2
    have hd5 : (([] : List Int).length : Int) ≤ (c1 : Int) := by omega
    clear hown6 hgrow6 hd1 hd2 HU5 HM5 HB5 HU4 HM4 HB4 HR0
    go_wp2_with fail
    refine (unhide HJ _ _ (unhide Hd1)).mono ?_
    rintro e w7 ⟨rfl, hb7⟩
    have HU7 := hide (isRunes_below (isRunes_own (unhide HU6)) hb7)
    have HM7 := hide (isRunes_below (isRunes_own (unhide HM6)) hb7)
    have Hd17 := hide (isRunes_below (unhide Hd1) hb7)
    have Hd27 := hide (cell_later hb7 (unhide Hd2))
    have HB7 := hide ((unhide HB6).trans (hb7.mono (unhide HB6).size))
    clear hb7 HU6 HM6 Hd1 Hd2 HB6
    go_wp2_with fail
    refine (unhide H6 _ _ _ (unhide HU7) (unhide HM7)).mono ?_
    rintro e w8 ⟨rfl, hb8⟩
    have Hd18 := hide (isRunes_below (unhide Hd17) hb8)
    have Hd28 := hide (cell_later hb8 (unhide Hd27))
    have HB8 := hide ((unhide HB7).trans (hb8.mono (unhide HB7).size))
    clear hb8 HU7 HM7 Hd17 Hd27 HB7
    go_wp2_with fail
    refine (unhide H7 _ _ _ (unhide Hd18) (unhide HL _ (unhide HB8))).mono ?_
    rintro e w9 ⟨rfl, hb9⟩
    have hd29 : w9.cell? ⟨g1, 0, none⟩ = some (.int .i32 (-9)) := cell_later hb9 (unhide Hd28)
    have HB9 := hide ((unhide HB8).trans (hb9.mono (unhide HB8).size))
    clear hb9 Hd18 Hd28 HB8
    go_wp2_with fail
    refine (unhide HA _).mono ?_
    rintro e w10 ⟨rfl, hb10⟩
    go_wp2
    go_ret
    exact ⟨rfl, (unhide HB9).trans (hb10.mono (unhide HB9).size)⟩
  · go_wp2
    go_loopw [32] (fun x wr => ∃ k : Nat, k ≤ zs.length ∧ x = .int .i64 (k : Int) ∧ w3.grownBy wr (some g) ∧ ∃ xs, wr.ownsRow (w.heap.size + 1) 21 1 (.slice (some ⟨g, 0, none⟩) zs.length vc) zs.length xs) (fun x _ => zs.length - (intOf x).toNat)
    case atStart => exact ⟨0, Nat.zero_le _, rfl, grown_refl _ _, _, unhide HV3⟩
    case round =>
      obtain ⟨k, hk, rfl, hgr, xs, hxs⟩ := hrel
      have hsr := hgr.size
      have HG : Hid (w3.grownBy wr (Value.slice (some ⟨g, 0, none⟩) zs.length vc).ownBlock) := hide hgr
      have HVr := hide hxs
      by_cases hlt : k < zs.length
      · have hlt' : (k : Int) < (zs.length : Int) := by omega
        have hxl : xs.length = zs.length := by have := hxs.1; omega
        have hc0 : wr.cell? ⟨g, k, none⟩ = some (xs[k]'(by omega)) := by rw [hxs.cellAt k (by omega)]; exact List.getElem?_eq_getElem _
        have hf0 : wr.frozen? ⟨g, k, none⟩ = false := hxs.frozenAt k
        generalize xs[k]'(by omega) = old at hc0
        clear hgr hxs
        go_wp2
        go_roundw
        case rel =>
          have hst := (unhide HVr).stored k (.int .i32 (-7))
          exact ⟨k + 1, by omega, by go_num, grown_trans (unhide HG) hst.2, _, hst.1⟩
        case measure => simp [intOf]; omega
      · have hlt' : ¬ (k : Int) < (zs.length : Int) := by omega
        have hsr2 : w.heap.size + 1 ≤ wr.heap.size := by omega
        clear hgr hxs
        go_wp2_with (at_builtin; refine wpList_append_own _ rfl _ _ 30 rfl (w.heap.size + 1) 21 i0 (.int .i32 0) 1 4 Try.underlying30 hi hz0 hz1 hz2 rfl (by decide) _ _ _ rfl ((unhide HVr).alloc _) ⟨wr.heap.size, 0, none⟩ 3 3 [.int .i32 1, .int .i32 2, .int .i32 3] rfl rfl ?c1x ?c2x ?c3x ?c4x ?c5x ?_)
        case c2x => first | exact ⟨rfl, rfl, rfl⟩ | (intro u hu; simp at hu; rcases hu with rfl | rfl | rfl <;> rfl)
        case c3x => unfold maxLen; omega
        case c4x => omega
        case c5x => first | omega | (simp; omega)
        intro v4 w4 _ hgrow4 _
        have hgs4 := hgrow4.size
        simp at hgs4
        have HU4 := hide ((((unhide HU3).kept (unhide HG) (unhide Hne1)).alloc _).kept hgrow4 (unhide Hne1))
        have HM4 := hide ((((unhide HM3).kept (unhide HG) (unhide Hne2)).alloc _).kept hgrow4 (unhide Hne2))
        have hbr := (unhide HB3).grown (unhide HG) (unhide HB3).size (unhide Hvge)
        have HB4 := hide ((hbr.alloc hbr.size (.cells #[.int .i32 1, .int .i32 2, .int .i32 3] 21)).grown hgrow4 (by simp; omega) (unhide Hvge))
        have hs4 := (unhide HB4).size
        clear hgrow4 hbr HG HVr
        have HR0 := hide (show w4.ownsRow w4.heap.size 21 1 (.slice none 0 0) 0 [] from World.ownsRow_nil w4 w4.heap.size 21 1)
        have HU5 := HU4; have HM5 := HM4; have HB5 := HB4
        have hsz5 := (unhide HB5).size
        go_wp2_with (first | (at_builtin; refine wpList_append_own_none rfl _ _ 30 rfl w4.heap.size 21 i0 1 Try.underlying30 hi _ _ _ rfl (World.ownsRow_nil w4 w4.heap.size 21 1) rfl ?_) | (at_builtin; refine wpList_append_own _ rfl _ _ 30 rfl w4.heap.size 21 i0 (.int .i32 0) 1 4 Try.underlying30 hi hz0 hz1 hz2 rfl (by decide) _ _ _ rfl ((unhide HR0).alloc _) ⟨w4.heap.size, 0, none⟩ 2 2 [.int .i32 (-9), .int .i32 (-9)] rfl rfl ?e1x ?e2x ?e3x ?e4x ?e5x ?_))
        case e1x => exact cell_two_new _ _ _ _
        case e2x => first | rfl | (intro u hu; simp at hu; subst hu; rfl)
        case e3x => unfold maxLen; omega
        case e4x => omega
        case e5x => first | omega | (simp; done) | (simp; omega)
        intro r1 w6 hown6 hgrow6 _
        have hgs6 := hgrow6.size
        simp at hgs6
        have HU6 := hide (((unhide HU5).alloc _).kept hgrow6 (by
          cases hx : u.ownBlock with
          | none => exact .inl rfl
          | some k =>
            right; intro e2
            have h1 := ((unhide HR0).lt k e2.symm).1
            have h2 := ((unhide HU4).lt k hx).2
            omega))
        have HM6 := hide (((unhide HM5).alloc _).kept hgrow6 (by
          cases hx : m.ownBlock with
          | none => exact .inl rfl
          | some k =>
            right; intro e2
            have h1 := ((unhide HR0).lt k e2.symm).1
            have h2 := ((unhide HM4).lt k hx).2
            omega))
        have HB6 := hide (((unhide HB5).alloc hsz5 (.cells #[.int .i32 (-9), .int .i32 (-9)] 21)).grown hgrow6 (by simp; omega) (fun k hk => by have := ((unhide HR0).lt k hk).1; omega))
        obtain ⟨g1, c1, rfl⟩ : ∃ g1 c1, r1 = .slice (some ⟨g1, 0, none⟩) (2) c1 := by
          rcases hown6.2 with ⟨_, h0⟩ | ⟨g1, c1, cur, h0, _⟩
          · omega
          · exact ⟨g1, c1, h0⟩
        obtain ⟨hd1, hd2, hd3, hd4⟩ := own_head (l := []) hown6
        have Hd1 := hide hd1; have Hd2 := hide hd2
        have hd5 : (([] : List Int).length : Int) ≤ (c1 : Int) := by omega
        clear hown6 hgrow6 hd1 hd2 HU5 HM5 HB5 HU4 HM4 HB4 HR0
        go_wp2_with fail
        refine (unhide HJ _ _ (unhide Hd1)).mono ?_
        rintro e w7 ⟨rfl, hb7⟩
        have HU7 := hide (isRunes_below (isRunes_own (unhide HU6)) hb7)
        have HM7 := hide (isRunes_below (isRunes_own (unhide HM6)) hb7)
        have Hd17 := hide (isRunes_below (unhide Hd1) hb7)
        have Hd27 := hide (cell_later hb7 (unhide Hd2))
        have HB7 := hide ((unhide HB6).trans (hb7.mono (unhide HB6).size))
        clear hb7 HU6 HM6 Hd1 Hd2 HB6
        go_wp2_with fail
        refine (unhide H6 _ _ _ (unhide HU7) (unhide HM7)).mono ?_
        rintro e w8 ⟨rfl, hb8⟩
        have Hd18 := hide (isRunes_below (unhide Hd17) hb8)
        have Hd28 := hide (cell_later hb8 (unhide Hd27))
        have HB8 := hide ((unhide HB7).trans (hb8.mono (unhide HB7).size))
        clear hb8 HU7 HM7 Hd17 Hd27 HB7
        go_wp2_with fail
        refine (unhide H7 _ _ _ (unhide Hd18) (unhide HL _ (unhide HB8))).mono ?_
        rintro e w9 ⟨rfl, hb9⟩
        have hd29 : w9.cell? ⟨g1, 0, none⟩ = some (.int .i32 (-9)) := cell_later hb9 (unhide Hd28)
        have HB9 := hide ((unhide HB8).trans (hb9.mono (unhide HB8).size))
        clear hb9 Hd18 Hd28 HB8
        go_wp2_with fail
        refine (unhide HA _).mono ?_
        rintro e w10 ⟨rfl, hb10⟩
        go_wp2
        go_ret
        exact ⟨rfl, (unhide HB9).trans (hb10.mono (unhide HB9).size)⟩

set_option maxHeartbeats 4000000 in
set_option maxRecDepth 100000 in
theorem own_some (s : ByteArray) (hs : s.size ≤ 1048576) (ad : Addr) (cap : Nat) (l : List Int) (hl : l.length ≤ 1048576) (w : World) (hrow : RunesAt w (some ad) l) (hcell : ∀ j, j < l.length → w.cell? (ad.add j) = some (.int .i32 (l.getD j 0))) (hblk : 0 < l.length → ad.block < w.heap.size) :
    Calls Try.prog 5 #[.string s, .slice (some ad) l.length cap] w fun e w' => e = .returned (.bool true) ∧ Below w.heap.size w w' := by
  obtain ⟨i0, hi, hz0, hz1, hz2⟩ := info_parts hrune
  have HA := hide (fun w => alive_any w)
  have H1 := hide (runes_own s (by omega))
  have H3 := hide (rRunes_own s (by omega))
  have hzl := runesOr_le s
  have H6 := hide (fun (v u : Value) (w : World) (h1 : IsRunes w v (runesOr s)) (h2 : IsRunes w u (runesOr s)) => same_any v u (runesOr s) (runesOr s) w h1 h2 (by omega))
  rw [decide_eq_true rfl] at H6
  have H7 := hide (fun (v u : Value) (w : World) (h1 : IsRunes w v l) (h2 : IsRunes w u l) => same_any v u l l w h1 h2 (by omega))
  rw [decide_eq_true rfl] at H7
  have HJ := hide (fun (w' : World) (v : Value) (hr : IsRunes w' v l) => isRunes_join hr (by omega))
  have HL := hide (fun (w' : World) (hb : Below w.heap.size w w') => (show IsRunes w' (.slice (some ad) l.length cap) l from ⟨(some ad), cap, rfl, runesAt_below hrow hb⟩))
  have HC := hide (fun (w' : World) (hb : Below w.heap.size w w') (j : Nat) (u : Value) (hj : (l.map (Value.int .i32))[j]? = some u) => (show w'.cell? (ad.add j) = some u by
    have hjl : j < l.length := by
      have := (List.getElem?_eq_some_iff.1 hj).1
      simpa using this
    have hblk2 : (ad.add j).block < w.heap.size := by
      have e : (ad.add j).block = ad.block := by unfold Addr.add; split <;> rfl
      rw [e]; exact hblk (by omega)
    rw [hb.cell hblk2, hcell j hjl]
    simp [hjl] at hj
    rw [← hj]
    simp [hjl]))
  generalize runesOr s = zs at *
  generalize validVals s = y at H1 H3
  obtain ⟨y1, y2⟩ := y
  generalize joinVals l = jv at HJ
  obtain ⟨j1, j2, j3⟩ := jv
  clear hrow hcell hblk
  go_enter Try.func5, Try.ntmps5
  go_wp2_with fail
  refine (unhide H1 _).mono ?_
  rintro e w1 ⟨v, rfl, hv, hb1⟩
  have hs1 := hb1.size
  have hvlt := hv.lt
  have HV := hide (hv.alloc (.cells #[.int .i64 y1, .int .i64 y2] 32))
  have HB1 := hide (hb1.alloc hs1 (.cells #[.int .i64 y1, .int .i64 y2] 32))
  have Hvlt := hide hvlt
  clear hv hb1 hvlt
  go_wp2_with fail
  refine (unhide H1 _).mono ?_
  rintro e w2 ⟨u, rfl, hu, hb2⟩
  have hs2 := hb2.size
  simp at hs2
  have HV2 := hide ((ownsRow_below (unhide HV) hb2 (Nat.le_refl _)).alloc (.cells #[.int .i64 y1, .int .i64 y2] 32))
  have Hult := hide hu.lt
  have HU := hide (hu.alloc (.cells #[.int .i64 y1, .int .i64 y2] 32))
  have hb2' := (unhide HB1).trans (hb2.mono (unhide HB1).size)
  have HB2 := hide (hb2'.alloc hb2'.size (.cells #[.int .i64 y1, .int .i64 y2] 32))
  clear hu hb2 hb2' HV HB1
  go_wp2_with fail
  refine (unhide H3 _).mono ?_
  rintro e w3 ⟨m, rfl, hm, hb3⟩
  have hs3 := hb3.size
  simp at hs3
  have HV3 := hide (ownsRow_below (unhide HV2) hb3 (Nat.le_refl _))
  have HU3 := hide (ownsRow_below (unhide HU) hb3 (Nat.le_refl _))
  have Hmlt := hide hm.lt
  have HM3 := hide hm
  have HB3 := hide ((unhide HB2).trans (hb3.mono (unhide HB2).size))
  have hsz3 := (unhide HB3).size
  have Hne1 : Hid (u.ownBlock = none ∨ u.ownBlock ≠ v.ownBlock) := hide (by
    cases hub : u.ownBlock with
    | none => exact .inl rfl
    | some k =>
      right
      intro e
      have h1 := (unhide Hult k hub).1
      have h2 := (unhide Hvlt k e.symm).2
      simp at h1
      omega)
  have Hne2 : Hid (m.ownBlock = none ∨ m.ownBlock ≠ v.ownBlock) := hide (by
    cases hub : m.ownBlock with
    | none => exact .inl rfl
    | some k =>
      right
      intro e
      have h1 := (unhide Hmlt k hub).1
      have h2 := (unhide Hvlt k e.symm).2
      simp at h1
      omega)
  have Hvge : Hid (∀ k, v.ownBlock = some k → w.heap.size ≤ k) := hide fun k hk => by have := (unhide Hvlt k hk).1; omega
  clear hm hb3 HV2 HU HB2 Hult Hmlt Hvlt
  rcases own_form (unhide HV3) with ⟨rfl, hz⟩ | ⟨g, vc, rfl⟩
  · have HVr := hide (show w3.ownsRow (w.heap.size + 1) 21 1 (.slice none 0 0) 0 [] from World.ownsRow_nil _ _ _ _)
    have HG := hide (grown_refl w3 (Value.slice none 0 0).ownBlock)
    have hsr : w.heap.size + 1 ≤ w3.heap.size := by omega
    clear hz
    go_wp2
    refine wp_loop_rounds 1 ?_
    rw [rounds_succ]
    go_wp2_with (at_builtin; refine wpList_append_own _ rfl _ _ 30 rfl (w.heap.size + 1) 21 i0 (.int .i32 0) 1 4 Try.underlying30 hi hz0 hz1 hz2 rfl (by decide) _ _ _ rfl ((unhide HVr).alloc _) ⟨w3.heap.size, 0, none⟩ 3 3 [.int .i32 1, .int .i32 2, .int .i32 3] rfl rfl ?c1 ?c2 ?c3 ?c4 ?c5 ?_)
    case c1 =>
      intro j u hj
      match j, hj with
      | 0, hj => simp at hj; subst hj; simp [Addr.add]
      | 1, hj => simp at hj; subst hj; simp [Addr.add]
      | 2, hj => simp at hj; subst hj; simp [Addr.add]
      | (j + 3), hj => simp at hj
    case c2 => first | exact ⟨rfl, rfl, rfl⟩ | (intro u hu; simp at hu; rcases hu with rfl | rfl | rfl <;> rfl)
    case c3 => unfold maxLen; omega
    case c4 => omega
    case c5 => first | omega | (simp; omega)
    intro v4 w4 _ hgrow4 _
    have hgs4 := hgrow4.size
    simp at hgs4
    have HU4 := hide ((((unhide HU3).kept (unhide HG) (unhide Hne1)).alloc _).kept hgrow4 (unhide Hne1))
    have HM4 := hide ((((unhide HM3).kept (unhide HG) (unhide Hne2)).alloc _).kept hgrow4 (unhide Hne2))
    have hbr := (unhide HB3).grown (unhide HG) (unhide HB3).size (unhide Hvge)
    have HB4 := hide ((hbr.alloc hbr.size (.cells #[.int .i32 1, .int .i32 2, .int .i32 3] 21)).grown hgrow4 (by simp; omega) (unhide Hvge))
    have hs4 := (unhide HB4).size
    clear hgrow4 hbr HG HVr
    go_wp2_with (at_builtin; refine wpList_append_own _ rfl _ _ 30 rfl w4.heap.size 21 i0 (.int .i32 0) 1 4 Try.underlying30 hi hz0 hz1 hz2 rfl (by decide) _ _ _ rfl (World.ownsRow_nil w4 w4.heap.size 21 1) ad l.length cap (l.map (Value.int .i32)) rfl ?d0 ?d1 ?d2 ?d3 ?d4 ?d5 ?_)
    case d0 => simp
    case d1 => exact unhide HC _ (unhide HB4)
    case d2 => first | (intro u hu; simp only [List.mem_map] at hu; obtain ⟨x, _, rfl⟩ := hu; rfl) | (intro x hx; rfl)
    case d3 => unfold maxLen; omega
    case d4 => omega
    case d5 => exact Nat.le_refl _
    intro r0 w5 hown5 hgrow5 _
    have hs5 := hgrow5.size
    have HR0 := hide (show w5.ownsRow w4.heap.size 21 1 r0 l.length (l.map (Value.int .i32)) by simpa using hown5)
    have HU5 := hide ((unhide HU4).kept hgrow5 (by cases hx : u.ownBlock with | none => exact .inl rfl | some k => exact .inr (by simp [Value.ownBlock])))
    have HM5 := hide ((unhide HM4).kept hgrow5 (by cases hx : m.ownBlock with | none => exact .inl rfl | some k => exact .inr (by simp [Value.ownBlock])))
    have HB5 := hide ((unhide HB4).grown hgrow5 (unhide HB4).size (fun k hk => by simp [Value.ownBlock] at hk))
    clear hown5 hgrow5
    have hsz5 := (unhide HB5).size
    go_wp2_with ((at_builtin; refine wpList_append_own _ rfl _ _ 30 rfl w4.heap.size 21 i0 (.int .i32 0) 1 4 Try.underlying30 hi hz0 hz1 hz2 rfl (by decide) _ _ _ rfl ((unhide HR0).alloc _) ⟨w5.heap.size, 0, none⟩ 2 2 [.int .i32 (-9), .int .i32 (-9)] rfl rfl ?e1 ?e2 ?e3 ?e4 ?e5 ?_))
    case e1 => exact cell_two_new _ _ _ _
    case e2 => first | rfl | (intro u hu; simp at hu; subst hu; rfl)
    case e3 => unfold maxLen; omega
    case e4 => omega
    case e5 => first | omega | (simp; done) | (simp; omega)
    intro r1 w6 hown6 hgrow6 _
    have hgs6 := hgrow6.size
    simp at hgs6
    have HU6 := hide (((unhide HU5).alloc _).kept hgrow6 (by
      cases hx : u.ownBlock with
      | none => exact .inl rfl
      | some k =>
        right; intro e2
        have h1 := ((unhide HR0).lt k e2.symm).1
        have h2 := ((unhide HU4).lt k hx).2
        omega))
    have HM6 := hide (((unhide HM5).alloc _).kept hgrow6 (by
      cases hx : m.ownBlock with
      | none => exact .inl rfl
      | some k =>
        right; intro e2
        have h1 := ((unhide HR0).lt k e2.symm).1
        have h2 := ((unhide HM4).lt k hx).2
        omega))
    have HB6 := hide (((unhide HB5).alloc hsz5 (.cells #[.int .i32 (-9), .int .i32 (-9)] 21)).grown hgrow6 (by simp; omega) (fun k hk => by have := ((unhide HR0).lt k hk).1; omega))
    obtain ⟨g1, c1, rfl⟩ : ∃ g1 c1, r1 = .slice (some ⟨g1, 0, none⟩) (l.length + 2) c1 := by
      rcases hown6.2 with ⟨_, h0⟩ | ⟨g1, c1, cur, h0, _⟩
      · omega
      · exact ⟨g1, c1, h0⟩
    obtain ⟨hd1, hd2, hd3, hd4⟩ := own_head hown6
    have Hd1 := hide hd1; have Hd2 := hide hd2
    have hd5 : (l.length : Int) ≤ (c1 : Int) := by omega
    clear hown6 hgrow6 hd1 hd2 HU5 HM5 HB5 HU4 HM4 HB4 HR0
    go_wp2_with fail
    refine (unhide HJ _ _ (unhide Hd1)).mono ?_
    rintro e w7 ⟨rfl, hb7⟩
    have HU7 := hide (isRunes_below (isRunes_own (unhide HU6)) hb7)
    have HM7 := hide (isRunes_below (isRunes_own (unhide HM6)) hb7)
    have Hd17 := hide (isRunes_below (unhide Hd1) hb7)
    have Hd27 := hide (cell_later hb7 (unhide Hd2))
    have HB7 := hide ((unhide HB6).trans (hb7.mono (unhide HB6).size))
    clear hb7 HU6 HM6 Hd1 Hd2 HB6
    go_wp2_with fail
    refine (unhide H6 _ _ _ (unhide HU7) (unhide HM7)).mono ?_
    rintro e w8 ⟨rfl, hb8⟩
    have Hd18 := hide (isRunes_below (unhide Hd17) hb8)
    have Hd28 := hide (cell_later hb8 (unhide Hd27))
    have HB8 := hide ((unhide HB7).trans (hb8.mono (unhide HB7).size))
    clear hb8 HU7 HM7 Hd17 Hd27 HB7
    go_wp2_with fail
    refine (unhide H7 _ _ _ (unhide Hd18) (unhide HL _ (unhide HB8))).mono ?_
    rintro e w9 ⟨rfl, hb9⟩
    have hd29 := cell_later hb9 (unhide Hd28)
    have HB9 := hide ((unhide HB8).trans (hb9.mono (unhide HB8).size))
    clear hb9 Hd18 Hd28 HB8
    go_wp2_with fail
    refine (unhide HA _).mono ?_
    rintro e w10 ⟨rfl, hb10⟩
    go_wp2
    go_ret
    exact ⟨rfl, (unhide HB9).trans (hb10.mono (unhide HB9).size)⟩
  · go_wp2
    go_loopw [32] (fun x wr => ∃ k : Nat, k ≤ zs.length ∧ x = .int .i64 (k : Int) ∧ w3.grownBy wr (some g) ∧ ∃ xs, wr.ownsRow (w.heap.size + 1) 21 1 (.slice (some ⟨g, 0, none⟩) zs.length vc) zs.length xs) (fun x _ => zs.length - (intOf x).toNat)
    case atStart => exact ⟨0, Nat.zero_le _, rfl, grown_refl _ _, _, unhide HV3⟩
    case round =>
      obtain ⟨k, hk, rfl, hgr, xs, hxs⟩ := hrel
      have hsr := hgr.size
      have HG : Hid (w3.grownBy wr (Value.slice (some ⟨g, 0, none⟩) zs.length vc).ownBlock) := hide hgr
      have HVr := hide hxs
      by_cases hlt : k < zs.length
      · have hlt' : (k : Int) < (zs.length : Int) := by omega
        have hxl : xs.length = zs.length := by have := hxs.1; omega
        have hc0 : wr.cell? ⟨g, k, none⟩ = some (xs[k]'(by omega)) := by rw [hxs.cellAt k (by omega)]; exact List.getElem?_eq_getElem _
        have hf0 : wr.frozen? ⟨g, k, none⟩ = false := hxs.frozenAt k
        generalize xs[k]'(by omega) = old at hc0
        clear hgr hxs
        go_wp2
        go_roundw
        case rel =>
          have hst := (unhide HVr).stored k (.int .i32 (-7))
          exact ⟨k + 1, by omega, by go_num, grown_trans (unhide HG) hst.2, _, hst.1⟩
        case measure => simp [intOf]; omega
      · have hlt' : ¬ (k : Int) < (zs.length : Int) := by omega
        have hsr2 : w.heap.size + 1 ≤ wr.heap.size := by omega
        clear hgr hxs
        go_wp2_with (at_builtin; refine wpList_append_own _ rfl _ _ 30 rfl (w.heap.size + 1) 21 i0 (.int .i32 0) 1 4 Try.underlying30 hi hz0 hz1 hz2 rfl (by decide) _ _ _ rfl ((unhide HVr).alloc _) ⟨wr.heap.size, 0, none⟩ 3 3 [.int .i32 1, .int .i32 2, .int .i32 3] rfl rfl ?c1x ?c2x ?c3x ?c4x ?c5x ?_)
        case c2x => first | exact ⟨rfl, rfl, rfl⟩ | (intro u hu; simp at hu; rcases hu with rfl | rfl | rfl <;> rfl)
        case c3x => unfold maxLen; omega
        case c4x => omega
        case c5x => first | omega | (simp; omega)
        intro v4 w4 _ hgrow4 _
        have hgs4 := hgrow4.size
        simp at hgs4
        have HU4 := hide ((((unhide HU3).kept (unhide HG) (unhide Hne1)).alloc _).kept hgrow4 (unhide Hne1))
        have HM4 := hide ((((unhide HM3).kept (unhide HG) (unhide Hne2)).alloc _).kept hgrow4 (unhide Hne2))
        have hbr := (unhide HB3).grown (unhide HG) (unhide HB3).size (unhide Hvge)
        have HB4 := hide ((hbr.alloc hbr.size (.cells #[.int .i32 1, .int .i32 2, .int .i32 3] 21)).grown hgrow4 (by simp; omega) (unhide Hvge))
        have hs4 := (unhide HB4).size
        clear hgrow4 hbr HG HVr
        go_wp2_with (at_builtin; refine wpList_append_own _ rfl _ _ 30 rfl w4.heap.size 21 i0 (.int .i32 0) 1 4 Try.underlying30 hi hz0 hz1 hz2 rfl (by decide) _ _ _ rfl (World.ownsRow_nil w4 w4.heap.size 21 1) ad l.length cap (l.map (Value.int .i32)) rfl ?d0x ?d1x ?d2x ?d3x ?d4x ?d5x ?_)
        case d0x => simp
        case d1x => exact unhide HC _ (unhide HB4)
        case d2x => first | (intro u hu; simp only [List.mem_map] at hu; obtain ⟨x, _, rfl⟩ := hu; rfl) | (intro x hx; rfl)
        case d3x => unfold maxLen; omega
        case d4x => omega
        case d5x => exact Nat.le_refl _
        intro r0 w5 hown5 hgrow5 _
        have hs5 := hgrow5.size
        have HR0 := hide (show w5.ownsRow w4.heap.size 21 1 r0 l.length (l.map (Value.int .i32)) by simpa using hown5)
        have HU5 := hide ((unhide HU4).kept hgrow5 (by cases hx : u.ownBlock with | none => exact .inl rfl | some k => exact .inr (by simp [Value.ownBlock])))
        have HM5 := hide ((unhide HM4).kept hgrow5 (by cases hx : m.ownBlock with | none => exact .inl rfl | some k => exact .inr (by simp [Value.ownBlock])))
        have HB5 := hide ((unhide HB4).grown hgrow5 (unhide HB4).size (fun k hk => by simp [Value.ownBlock] at hk))
        clear hown5 hgrow5
        have hsz5 := (unhide HB5).size
        go_wp2_with ((at_builtin; refine wpList_append_own _ rfl _ _ 30 rfl w4.heap.size 21 i0 (.int .i32 0) 1 4 Try.underlying30 hi hz0 hz1 hz2 rfl (by decide) _ _ _ rfl ((unhide HR0).alloc _) ⟨w5.heap.size, 0, none⟩ 2 2 [.int .i32 (-9), .int .i32 (-9)] rfl rfl ?e1x ?e2x ?e3x ?e4x ?e5x ?_))
        case e1x => exact cell_two_new _ _ _ _
        case e2x => first | rfl | (intro u hu; simp at hu; subst hu; rfl)
        case e3x => unfold maxLen; omega
        case e4x => omega
        case e5x => first | omega | (simp; done) | (simp; omega)
        intro r1 w6 hown6 hgrow6 _
        have hgs6 := hgrow6.size
        simp at hgs6
        have HU6 := hide (((unhide HU5).alloc _).kept hgrow6 (by
          cases hx : u.ownBlock with
          | none => exact .inl rfl
          | some k =>
            right; intro e2
            have h1 := ((unhide HR0).lt k e2.symm).1
            have h2 := ((unhide HU4).lt k hx).2
            omega))
        have HM6 := hide (((unhide HM5).alloc _).kept hgrow6 (by
          cases hx : m.ownBlock with
          | none => exact .inl rfl
          | some k =>
            right; intro e2
            have h1 := ((unhide HR0).lt k e2.symm).1
            have h2 := ((unhide HM4).lt k hx).2
            omega))
        have HB6 := hide (((unhide HB5).alloc hsz5 (.cells #[.int .i32 (-9), .int .i32 (-9)] 21)).grown hgrow6 (by simp; omega) (fun k hk => by have := ((unhide HR0).lt k hk).1; omega))
        obtain ⟨g1, c1, rfl⟩ : ∃ g1 c1, r1 = .slice (some ⟨g1, 0, none⟩) (l.length + 2) c1 := by
          rcases hown6.2 with ⟨_, h0⟩ | ⟨g1, c1, cur, h0, _⟩
          · omega
          · exact ⟨g1, c1, h0⟩
        obtain ⟨hd1, hd2, hd3, hd4⟩ := own_head hown6
        have Hd1 := hide hd1; have Hd2 := hide hd2
        have hd5 : (l.length : Int) ≤ (c1 : Int) := by omega
        clear hown6 hgrow6 hd1 hd2 HU5 HM5 HB5 HU4 HM4 HB4 HR0
        go_wp2_with fail
        refine (unhide HJ _ _ (unhide Hd1)).mono ?_
        rintro e w7 ⟨rfl, hb7⟩
        have HU7 := hide (isRunes_below (isRunes_own (unhide HU6)) hb7)
        have HM7 := hide (isRunes_below (isRunes_own (unhide HM6)) hb7)
        have Hd17 := hide (isRunes_below (unhide Hd1) hb7)
        have Hd27 := hide (cell_later hb7 (unhide Hd2))
        have HB7 := hide ((unhide HB6).trans (hb7.mono (unhide HB6).size))
        clear hb7 HU6 HM6 Hd1 Hd2 HB6
        go_wp2_with fail
        refine (unhide H6 _ _ _ (unhide HU7) (unhide HM7)).mono ?_
        rintro e w8 ⟨rfl, hb8⟩
        have Hd18 := hide (isRunes_below (unhide Hd17) hb8)
        have Hd28 := hide (cell_later hb8 (unhide Hd27))
        have HB8 := hide ((unhide HB7).trans (hb8.mono (unhide HB7).size))
        clear hb8 HU7 HM7 Hd17 Hd27 HB7
        go_wp2_with fail
        refine (unhide H7 _ _ _ (unhide Hd18) (unhide HL _ (unhide HB8))).mono ?_
        rintro e w9 ⟨rfl, hb9⟩
        have hd29 := cell_later hb9 (unhide Hd28)
        have HB9 := hide ((unhide HB8).trans (hb9.mono (unhide HB8).size))
        clear hb9 Hd18 Hd28 HB8
        go_wp2_with fail
        refine (unhide HA _).mono ?_
        rintro e w10 ⟨rfl, hb10⟩
        go_wp2
        go_ret
        exact ⟨rfl, (unhide HB9).trans (hb10.mono (unhide HB9).size)⟩

end Go.Proofs.Ytodncpnhmmnclab

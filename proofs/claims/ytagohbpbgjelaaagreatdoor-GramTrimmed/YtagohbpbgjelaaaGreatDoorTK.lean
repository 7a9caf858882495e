/- The code's names, kinds (brought over from stage 7). -/
import Derived.Test.YtagohbpbgjelaaaGreatDoorM1
import Derived.Maps.OwnSet
import Derived.Deep.AppendLies
import Derived.Laws.Strings
namespace Go.Proofs.YtagohbpbgjelaaaGreatDoor
open Go.RowKit Go.Maps

abbrev SR7 (w : World) (a : Option Addr) (l : List (List UInt8)) : Prop := SRow w.heap.size w a l
set_option maxRecDepth 100000 in
theorem srow_pos {w : World} {a : Option Addr} {l : List (List UInt8)} (h : SR7 w a l) {k : Nat} (hk : k < l.length) : ∃ b off, a = some ⟨b, off, none⟩ ∧ b < w.heap.size ∧ ∀ j, j < l.length → w.cell? ⟨b, off + j, none⟩ = some (.string (bs (l.getD j []))) := by
  rcases h with rfl | h
  · simp at hk
  · exact h
set_option maxRecDepth 100000 in
theorem srow_below {w w' : World} {a : Option Addr} {l : List (List UInt8)} (h : SR7 w a l) {B : Nat} (hB : w.heap.size ≤ B) (hb : Below B w w') : SR7 w' a l := by
  rcases h with rfl | ⟨b, off, rfl, hl, hc⟩
  · exact .inl rfl
  · exact .inr ⟨b, off, rfl, Nat.lt_of_lt_of_le hl hb.size, fun j hj => (hb.cell (p := ⟨b, off + j, none⟩) (Nat.lt_of_lt_of_le hl hB)).trans (hc j hj)⟩
set_option maxRecDepth 100000 in
set_option maxHeartbeats 400000 in
theorem isDigit_any (c : Nat) (w : World) : Calls Tryz.prog 138 #[.int .u8 (c : Int)] w fun e w' => e = .returned (.bool (digB c)) ∧ w = w' := by
  go_enter Tryz.func138, Tryz.ntmps138
  go_wp2
  all_goals (go_ret; refine ⟨ret_bool ?_, rfl⟩; unfold digB; rw [Bool.eq_iff_iff]; simp; omega)
set_option maxRecDepth 100000 in
set_option maxHeartbeats 400000 in
theorem isLetter_any (c : Nat) (w : World) : Calls Tryz.prog 139 #[.int .u8 (c : Int)] w fun e w' => e = .returned (.bool (letB c)) ∧ w = w' := by
  go_enter Tryz.func139, Tryz.ntmps139
  go_wp2
  all_goals (go_ret; refine ⟨ret_bool ?_, rfl⟩; unfold letB; rw [Bool.eq_iff_iff]; simp; omega)

set_option maxHeartbeats 1000000 in
set_option maxRecDepth 100000 in
theorem isName_any (s : ByteArray) (w : World) : Calls Tryz.prog 114 #[.string s] w fun e w' => e = .returned (.bool (nameB s)) ∧ w = w' := by
  by_cases h0 : s.size = 0
  · rw [show nameB s = false by unfold nameB; rw [decide_eq_false_iff_not]; omega]
    have h0' : ((s.size : Int) == 0) = true := by rw [beq_iff_eq]; omega
    go_enter Tryz.func114, Tryz.ntmps114
    go_wp2
    go_ret
    exact ⟨rfl, rfl⟩
  have h0' : ((s.size : Int) == 0) = false := by rw [beq_eq_false_iff_ne]; omega
  by_cases h1 : 64 < s.size
  · rw [show nameB s = false by unfold nameB; rw [decide_eq_false_iff_not]; omega]
    have h1' : (64 : Int) < s.size := by omega
    go_enter Tryz.func114, Tryz.ntmps114
    go_wp2
    go_ret
    exact ⟨rfl, rfl⟩
  have h1' : ¬ (64 : Int) < s.size := by omega
  have i0 : ∀ w, (Instr.index 9 (.string s) (.int .i64 0)).run Tryz.prog w = .ok (.int .u8 (bt s 0 : Int)) w := fun w => index_bt s 0 (by omega) w
  have HD := hide (isDigit_any (bt s 0))
  cases hd : digB (bt s 0)
  · rw [hd] at HD
    have Hn := hide (show nameB s = decide (allTo s s.size) by unfold nameB; rw [decide_eq_decide]; exact ⟨fun h => h.2.2.2, fun h => ⟨by omega, by omega, hd, h⟩⟩)
    clear hd h0
    generalize nameB s = R at *
    go_enter Tryz.func114, Tryz.ntmps114
    go_wp2_with fail
    refine (unhide HD _).mono ?_
    rintro e w' ⟨rfl, rfl⟩
    go_wp2
    go_loop [19] (fun x => ∃ k : Nat, x = .int .i64 k ∧ k ≤ s.size ∧ allTo s k) (fun x => s.size - (intOf x).toNat)
    case atStart => exact ⟨0, rfl, Nat.zero_le _, fun i hi => absurd hi (Nat.not_lt_zero _)⟩
    case round =>
      obtain ⟨k, rfl, hk, hall⟩ := hrel
      have Hall := hide hall
      clear hall
      by_cases hlt : k < s.size
      · have hlt' : (k : Int) < s.size := by omega
        have ik := index_bt s k hlt
        have HL := hide (isLetter_any (bt s k))
        have HD2 := hide (isDigit_any (bt s k))
        cases hl : letB (bt s k)
        · rw [hl] at HL
          cases hg : digB (bt s k)
          · rw [hg] at HD2
            have Hr : Hid (R = false) := hide (by
              rw [unhide Hn]; simp only [decide_eq_false_iff_not]
              intro h; rcases h k hlt with h | h
              · rw [hl] at h; cases h
              · rw [hg] at h; cases h)
            clear hl hg
            go_wp2_with fail
            refine (unhide HL _).mono ?_
            rintro e w' ⟨rfl, rfl⟩
            go_wp2_with fail
            refine (unhide HD2 _).mono ?_
            rintro e w' ⟨rfl, rfl⟩
            go_wp2
            go_ret
            rw [unhide Hr]
            exact ⟨rfl, rfl⟩
          · rw [hg] at HD2
            have Ha : Hid (allTo s (k + 1)) := hide (by
              intro i hi
              by_cases e : i = k
              · subst e; exact .inr hg
              · exact unhide Hall i (by omega))
            clear hl hg
            go_wp2_with fail
            refine (unhide HL _).mono ?_
            rintro e w' ⟨rfl, rfl⟩
            go_wp2_with fail
            refine (unhide HD2 _).mono ?_
            rintro e w' ⟨rfl, rfl⟩
            go_wp2
            go_round
            case rel => exact ⟨k + 1, by go_num, by omega, unhide Ha⟩
            case measure => simp [intOf]; omega
        · rw [hl] at HL
          have Ha : Hid (allTo s (k + 1)) := hide (by
            intro i hi
            by_cases e : i = k
            · subst e; exact .inl hl
            · exact unhide Hall i (by omega))
          clear hl
          go_wp2_with fail
          refine (unhide HL _).mono ?_
          rintro e w' ⟨rfl, rfl⟩
          go_wp2
          go_round
          case rel => exact ⟨k + 1, by go_num, by omega, unhide Ha⟩
          case measure => simp [intOf]; omega
      · obtain rfl : k = s.size := by omega
        have Hr : Hid (R = true) := hide (by rw [unhide Hn]; simp only [decide_eq_true_eq]; exact unhide Hall)
        go_wp2
        go_ret
        rw [unhide Hr]
        exact ⟨rfl, rfl⟩
  · rw [hd] at HD
    rw [show nameB s = false by simp [nameB, hd]]
    clear hd h0
    go_enter Tryz.func114, Tryz.ntmps114
    go_wp2_with fail
    refine (unhide HD _).mono ?_
    rintro e w' ⟨rfl, rfl⟩
    go_wp2
    go_ret
    exact ⟨rfl, rfl⟩
set_option maxRecDepth 100000 in
theorem law9 : Keyed Tryz.prog 9 := string_keyed Tryz.underlying9
set_option maxRecDepth 100000 in
theorem keyS (s : List UInt8) (hs : s.length ≤ maxLen) : keyOf Tryz.prog 9 (.string (bs s)) = some (.string s) := WideMaps.keyOf_string_mk Tryz.underlying9 (s := bs s) hs
set_option maxRecDepth 100000 in
theorem zero3 (w : World) : (zeroValue 3).run Tryz.prog w = .ok (.int .i64 0) w := by kernel_rfl
set_option maxRecDepth 100000 in
theorem makeMap162 (n : Int) (w : World) : (Instr.makeMap 162 (some (.int .i64 n))).run Tryz.prog w = .ok (.map (some w.heap.size)) (w.alloc (.map #[] 0)) := by
  simp [Instr.makeMap, run_underlying Tryz.underlying162, asInt, asIntOf, Result.andThen]

def NumMap (w : World) (b : Nat) (ns : List (List UInt8)) : Prop :=
  ∃ D : DataW Unit, w.ownsMap Tryz.prog 9 (plainElem Tryz.prog 3) b ns.length D ∧ (∀ s, Maps.has D (.string s) = decide (s ∈ ns)) ∧
    (∀ s, s ∈ ns → ∃ j : Nat, ns[j]? = some s ∧ D.atKey (.string s) (.lit (.int .i64 0)) = .lit (.int .i64 (j : Int))) ∧
    (∀ s, s ∉ ns → D.atKey (.string s) (.lit (.int .i64 0)) = .lit (.int .i64 0)) ∧ Maps.size D ≤ ns.length ∧ (Maps.size D = ns.length ↔ ns.Nodup)
set_option maxRecDepth 100000 in
theorem num_zero (w : World) : NumMap (w.alloc (.map #[] 0)) w.heap.size [] := by
  refine ⟨.map [], World.ownsMap_made w _ _ _, fun s => (by simp [Maps.has]), fun s hs => (absurd hs (by simp)), fun s _ => (by simp [DataW.atKey]), (by simp [Maps.size]), (by simp [Maps.size])⟩
set_option maxRecDepth 100000 in
theorem num_put {D : DataW Unit} {w w' : World} {b : Nat} {ns : List (List UInt8)} {s : List UInt8} (hm : w.ownsMap Tryz.prog 9 (plainElem Tryz.prog 3) b ns.length D) (h1 : ∀ s, Maps.has D (.string s) = decide (s ∈ ns))
    (h2 : ∀ s, s ∈ ns → ∃ j : Nat, ns[j]? = some s ∧ D.atKey (.string s) (.lit (.int .i64 0)) = .lit (.int .i64 (j : Int))) (h3 : ∀ s, s ∉ ns → D.atKey (.string s) (.lit (.int .i64 0)) = .lit (.int .i64 0)) (h4 : Maps.size D ≤ ns.length) (h5 : Maps.size D = ns.length ↔ ns.Nodup)
    (hm' : w'.ownsMap (H := Unit) Tryz.prog 9 (plainElem Tryz.prog 3) b (ns.length + 1) (D.put (.string s) (.lit (.int .i64 (ns.length : Int))))) : NumMap w' b (ns ++ [s]) := by
  have hkl : WideAt.IsKeyLit (.string s) := trivial
  have hsz := size_put (k := .string s) (hm.tidy law9) (.lit (.int .i64 (ns.length : Int)))
  rw [h1 s] at hsz
  refine ⟨_, by simpa using hm', fun x => ?_, fun x hx => ?_, fun x hx => ?_, ?_, ?_⟩
  · by_cases hx : x = s
    · subst hx; rw [has_put_same hm.isMap hkl]; simp
    · have hne : (Lit.string x) ≠ .string s := by simpa using hx
      rw [has_put_other hne, h1 x]; simp [hx]
  · by_cases hx' : x = s
    · subst hx'
      exact ⟨ns.length, by simp, atKey_put_same hm.isMap hkl _ _⟩
    · have hne : (Lit.string x) ≠ .string s := by simpa using hx'
      have hin : x ∈ ns := by
        rcases List.mem_append.1 hx with h | h
        · exact h
        · simp at h; exact absurd h hx'
      obtain ⟨j, hj, e⟩ := h2 x hin
      have hjl : j < ns.length := (List.getElem?_eq_some_iff.1 hj).1
      exact ⟨j, by rw [List.getElem?_append_left hjl]; exact hj, by rw [atKey_put_other hne]; exact e⟩
  · have hx' : x ≠ s := fun e => hx (by simp [e])
    have hne : (Lit.string x) ≠ .string s := by simpa using hx'
    rw [atKey_put_other hne]
    exact h3 x (fun h => hx (List.mem_append_left _ h))
  · rw [hsz, List.length_append]; simp only [List.length_singleton]; split <;> omega
  · rw [hsz, List.length_append, List.nodup_append]
    simp only [List.length_singleton]
    by_cases hin : s ∈ ns
    · rw [decide_eq_true hin, if_pos rfl]
      constructor
      · intro h; omega
      · intro h; exact absurd rfl (h.2.2 s hin s (by simp))
    · rw [decide_eq_false hin, if_neg (by simp)]
      constructor
      · intro h
        refine ⟨h5.1 (by omega), by simp, fun a ha b hb e => ?_⟩
        simp at hb; subst hb; subst e; exact hin ha
      · intro h
        have := h5.2 h.1; omega
set_option maxHeartbeats 1000000 in
set_option maxRecDepth 100000 in
theorem numbers_any (a : Option Addr) (cap : Nat) (ns : List (List UInt8)) (hl : ns.length ≤ 1024) (hs : ∀ j, j < ns.length → (ns.getD j []).length ≤ 64) (w : World) (hrow : SR7 w a ns) :
    Calls Tryz.prog 115 #[.slice a ns.length cap] w fun e w' => e = .returned (.map (some w.heap.size)) ∧ NumMap w' w.heap.size ns ∧ Below w.heap.size w w' := by
  have q := makeMap162 (ns.length : Int) w
  have Hrow := hide hrow; have Hs := hide hs
  clear hrow hs
  go_enter Tryz.func115, Tryz.ntmps115
  go_wp2
  go_loopw [11] (fun x wr => ∃ k : Nat, x = .int .i64 k ∧ k ≤ ns.length ∧ Below w.heap.size w wr ∧ NumMap wr w.heap.size (ns.take k)) (fun x _ => ns.length - (intOf x).toNat)
  case atStart => exact ⟨0, rfl, Nat.zero_le _, (Below.refl _ _).alloc (Nat.le_refl _) _, by simpa using num_zero w⟩
  case round =>
    obtain ⟨k, rfl, hk, hbel, hnum⟩ := hrel
    have hsz := hbel.size
    have Hbel := hide hbel; have Hnum := hide hnum
    clear hbel hnum
    by_cases hlt : k < ns.length
    · have hlt' : (k : Int) < ns.length := by omega
      obtain ⟨b, off, rfl, hb, hc⟩ := srow_pos (srow_below (unhide Hrow) (Nat.le_refl _) (unhide Hbel)) hlt
      have ck := hc k hlt
      have hsk := unhide Hs k hlt
      have Ht := hide (take_snoc ns k [] hlt)
      clear hc
      generalize ns.getD k [] = s at *
      obtain ⟨D, hm, h1, h2, h3, h4, h5⟩ := unhide Hnum
      have htl : (ns.take k).length = k := by rw [List.length_take]; omega
      have Hm := hide hm
      have Hput := hide (fun w' => num_put (w' := w') (s := s) hm h1 h2 h3 h4 h5)
      clear hm h1 h2 h3 h4 h5 Hnum
      rw [htl] at Hput Hm
      have Hk := hide (keyS s (by unfold maxLen; omega))
      go_wp2_with (at_mapUpdate; refine wpList_mapUpdate_own _ rfl _ _ _ 162 rfl 9 3 law9 Tryz.underlying162 _ _ k D rfl (unhide Hm) ?zd1 _ _ (.string s) rfl rfl (unhide Hk) (.lit (.int .i64 (k : Int))) [] ?zd2 ?_)
      case zd1 => unfold maxLen; omega
      case zd2 => exact plainElem_int Tryz.underlying3 (WalkArith.wf_i64 (by omega))
      intro W3 hm3 hg3
      have Hn3 := hide (unhide Hput W3 hm3)
      have Hb3 := hide ((unhide Hbel).grown hg3 hsz (fun x hx => by simp at hx; omega))
      clear hm3 hg3
      go_wp2
      go_roundw
      case rel => exact ⟨k + 1, by go_num, by omega, unhide Hb3, by rw [unhide Ht]; exact unhide Hn3⟩
      case measure => simp [intOf]; omega
    · obtain rfl : k = ns.length := by omega
      rw [List.take_length] at Hnum
      go_wp2
      go_ret
      exact ⟨rfl, unhide Hnum, unhide Hbel⟩
def kindsV (ns : List (List UInt8)) : Int := if kindsB ns then 0 else 70
set_option maxHeartbeats 2000000 in
set_option maxRecDepth 100000 in
theorem kinds_any (a : Option Addr) (cap : Nat) (ns : List (List UInt8)) (w : World) (hrow : SR7 w a ns) :
    Calls Tryz.prog 72 #[.slice a ns.length cap] w fun e w' => e = .returned (.int .i64 (kindsV ns)) ∧ Below w.heap.size w w' := by
  by_cases h0 : ns.length < 2
  · rw [show kindsV ns = 70 by unfold kindsV; rw [kinds_no (by omega)]; rfl]
    have h0' : (ns.length : Int) < 2 := by omega
    go_enter Tryz.func72, Tryz.ntmps72
    go_wp2
    go_ret
    exact ⟨rfl, Below.refl _ _⟩
  have h0' : ¬ (ns.length : Int) < 2 := by omega
  by_cases h1 : 1024 < ns.length
  · rw [show kindsV ns = 70 by unfold kindsV; rw [kinds_no (by omega)]; rfl]
    have h1' : (1024 : Int) < ns.length := by omega
    go_enter Tryz.func72, Tryz.ntmps72
    go_wp2
    go_ret
    exact ⟨rfl, Below.refl _ _⟩
  have h1' : ¬ (1024 : Int) < ns.length := by omega
  obtain ⟨b, off, rfl, hb, hc⟩ := srow_pos hrow (k := 0) (by omega)
  have c0 := hc 0 (by omega)
  have c1 := hc 1 (by omega)
  have i0 : (0 : Int) < ns.length := by omega
  have i1 : (1 : Int) < ns.length := by omega
  by_cases h2 : ns.getD 0 [] = endS
  · rw [h2] at c0
    by_cases h3 : ns.getD 1 [] = errS
    · rw [h3] at c1
      have c0' : w.cell? ⟨b, off, none⟩ = some (.string ⟨#[101, 110, 100]⟩) := c0
      have c1' : w.cell? ⟨b, off + 1, none⟩ = some (.string ⟨#[101, 114, 114, 111, 114]⟩) := c1
      have Hyes : Hid (goodTo ns ns.length ∧ ns.Nodup → kindsV ns = 0) := hide fun h => by unfold kindsV; rw [show kindsB ns = true from decide_eq_true ⟨by omega, by omega, h2, h3, h⟩]; rfl
      have Hno : Hid (¬ (goodTo ns ns.length ∧ ns.Nodup) → kindsV ns = 70) := hide fun h => by unfold kindsV; rw [kinds_no (fun k => h k.2.2.2.2)]; rfl
      have Hrow := hide hrow; have Hc := hide hc
      generalize kindsV ns = R at *
      clear hrow hc c0 c1 h2 h3
      go_enter Tryz.func72, Tryz.ntmps72
      go_wp2
      go_loopw [27] (fun x wr => ∃ k : Nat, x = .int .i64 k ∧ k ≤ ns.length ∧ goodTo ns k ∧ wr = w) (fun x _ => ns.length - (intOf x).toNat)
      case atStart => exact ⟨0, rfl, Nat.zero_le _, fun i hi => absurd hi (Nat.not_lt_zero _), rfl⟩
      case round =>
        obtain ⟨k, rfl, hk, hgood, hw⟩ := hrel
        subst hw
        have Hg := hide hgood
        clear hgood
        by_cases hlt : k < ns.length
        · have hlt' : (k : Int) < ns.length := by omega
          have ck := unhide Hc k hlt
          have HN := hide (isName_any (bs (ns.getD k [])))
          cases hn : nameB (bs (ns.getD k []))
          · rw [hn] at HN
            have Hr : Hid (R = 70) := hide (unhide Hno (by
              intro h; have := h.1 k hlt; rw [hn] at this; cases this))
            clear hn c0' c1'
            generalize bs (ns.getD k []) = s at *
            go_wp2_with fail
            refine (unhide HN _).mono ?_
            rintro e w' ⟨rfl, rfl⟩
            go_wp2
            go_ret
            rw [unhide Hr]
            exact ⟨rfl, Below.refl _ _⟩
          · rw [hn] at HN
            have Hg' : Hid (goodTo ns (k + 1)) := hide (by
              intro i hi
              by_cases e : i = k
              · subst e; exact hn
              · exact unhide Hg i (by omega))
            clear hn c0' c1'
            generalize bs (ns.getD k []) = s at *
            go_wp2_with fail
            refine (unhide HN _).mono ?_
            rintro e w' ⟨rfl, rfl⟩
            go_wp2
            go_roundw
            case rel => exact ⟨k + 1, by go_num, by omega, unhide Hg', by first | rfl | trivial⟩
            case measure => simp [intOf]; omega
        · obtain rfl : k = ns.length := by omega
          have HM := hide (numbers_any (some ⟨b, off, none⟩) cap ns (by omega) (fun j hj => nameB_le (unhide Hg j hj)) wr (unhide Hrow))
          clear c0' c1'
          go_wp2_with fail
          refine (unhide HM).mono ?_
          rintro e w' ⟨rfl, hnum, hbel⟩
          obtain ⟨D, hm, -, -, -, h4, h5⟩ := hnum
          have hlen := fun ty => hm.len Tryz.underlying162 ty
          have Hb := hide hbel
          clear hm hbel HM
          by_cases hnd : ns.Nodup
          · have Hr : Hid (R = 0) := hide (unhide Hyes ⟨unhide Hg, hnd⟩)
            have e5 := h5.2 hnd
            rw [e5] at hlen
            have hn5 : ¬ (ns.length : Int) < ns.length := by omega
            clear h5 hnd e5 h4
            go_wp2
            go_ret
            rw [unhide Hr]
            exact ⟨rfl, unhide Hb⟩
          · have Hr : Hid (R = 70) := hide (unhide Hno fun h => hnd h.2)
            have e5 : Maps.size D < ns.length := by
              have : Maps.size D ≠ ns.length := fun e => hnd (h5.1 e)
              omega
            generalize Maps.size D = z at *
            have hn5 : (z : Int) < ns.length := by omega
            clear h5 hnd h4
            go_wp2
            go_ret
            rw [unhide Hr]
            exact ⟨rfl, unhide Hb⟩
    · rw [show kindsV ns = 70 by unfold kindsV; rw [kinds_no (fun h => h3 h.2.2.2.1)]; rfl]
      have c0' : w.cell? ⟨b, off, none⟩ = some (.string ⟨#[101, 110, 100]⟩) := c0
      have hne : ((bs (ns.getD 1 [])).toList == [101, 114, 114, 111, 114]) = false := by rw [bs_toList, beq_eq_false_iff_ne]; exact h3
      clear hc c0 hrow h2 h3
      generalize bs (ns.getD 1 []) = s at *
      go_enter Tryz.func72, Tryz.ntmps72
      go_wp2
      go_ret
      exact ⟨rfl, Below.refl _ _⟩
  · rw [show kindsV ns = 70 by unfold kindsV; rw [kinds_no (fun h => h2 h.2.2.1)]; rfl]
    have hne : ((bs (ns.getD 0 [])).toList == [101, 110, 100]) = false := by rw [bs_toList, beq_eq_false_iff_ne]; exact h2
    clear hc hrow h2 c1
    rw [Nat.add_zero] at c0
    generalize bs (ns.getD 0 []) = s at *
    go_enter Tryz.func72, Tryz.ntmps72
    go_wp2
    go_ret
    exact ⟨rfl, Below.refl _ _⟩
end Go.Proofs.YtagohbpbgjelaaaGreatDoor

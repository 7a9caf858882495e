/- The law WorkNumbers, walked. -/
import Derived.Test.YtdpphjedjhjdgaaN1
namespace Go.Proofs.Ytdpphjedjhjdgaa
open Go.RowKit Go.Maps

/-- A row of texts lies there. -/
def SRow (w : World) (a : Option Addr) (l : List (List UInt8)) : Prop := l = [] ∨ ∃ g off, a = some ⟨g, off, none⟩ ∧ g < w.heap.size ∧ ∀ j, j < l.length → w.cell? ⟨g, off + j, none⟩ = some (.string (bs (l.getD j [])))
theorem srow_below {w w' : World} {a : Option Addr} {l : List (List UInt8)} {B : Nat} (h : SRow w a l) (hb : Below B w w') (hB : w.heap.size ≤ B) : SRow w' a l := by
  rcases h with rfl | ⟨g, off, rfl, hlt, hc⟩
  · exact .inl rfl
  · exact .inr ⟨g, off, rfl, Nat.lt_of_lt_of_le hlt hb.size, fun j hj => (hb.cell (p := ⟨g, off + j, none⟩) (Nat.lt_of_lt_of_le hlt hB)).trans (hc j hj)⟩
def addK (ks : List (List UInt8)) (s : List UInt8) : List (List UInt8) := if s ∈ ks then ks else ks ++ [s]
def dd (l : List (List UInt8)) : List (List UInt8) := l.foldl addK []
theorem dd_succ (l : List (List UInt8)) (k : Nat) (hk : k < l.length) : dd (l.take (k + 1)) = addK (dd (l.take k)) (l.getD k []) := by
  unfold dd
  rw [List.take_add_one, List.getElem?_eq_getElem hk, List.foldl_append, List.getD_eq_getElem?_getD, List.getElem?_eq_getElem hk]; rfl
theorem addK_length (ks : List (List UInt8)) (s : List UInt8) : (addK ks s).length ≤ ks.length + 1 := by unfold addK; split <;> simp
theorem dd_length (l : List (List UInt8)) (k : Nat) (hk : k ≤ l.length) : (dd (l.take k)).length ≤ k := by
  induction k with
  | zero => simp [dd]
  | succ k ih =>
    rw [dd_succ l k (by omega)]
    have := addK_length (dd (l.take k)) (l.getD k [])
    have := ih (by omega)
    omega
/-- The document's row of keys. -/
def LRow (w : World) (B : Nat) (v : Value) (ks : List (List UInt8)) : Prop := (ks = [] ∧ v = .slice none 0 0) ∨ (0 < ks.length ∧ w.ownsRow B 9 1 v ks.length (ks.map fun s => .string (bs s)))
theorem lrow_off {O : Nat → Prop} {w w' : World} {B : Nat} {v : Value} {ks : List (List UInt8)} (h : LRow w B v ks) (ho : Off O w w') (hn : ∀ k, v.ownBlock = some k → ¬ O k) : LRow w' B v ks := by
  rcases h with h | h
  · exact .inl h
  · exact .inr ⟨h.1, own_off h.2 ho hn⟩
theorem lrow_form {w : World} {B : Nat} {v : Value} {ks : List (List UInt8)} (h : LRow w B v ks) : ∃ a c, v = .slice a ks.length c := by
  rcases h with ⟨rfl, rfl⟩ | h
  · exact ⟨_, _, rfl⟩
  · exact own_form h.2
theorem lrow_lt {w : World} {B : Nat} {v : Value} {ks : List (List UInt8)} (h : LRow w B v ks) : ∀ k, v.ownBlock = some k → B ≤ k ∧ k < w.heap.size := by
  rcases h with ⟨rfl, rfl⟩ | h
  · intro k hk; simp [Value.ownBlock] at hk
  · exact h.2.lt

theorem refAt_any (v : Value) (ks : List (List UInt8)) (hlen : ks.length ≤ 1048576) (s : List UInt8) (B : Nat) (w : World) (h : LRow w B v ks) :
    Calls Try.prog 21 #[v, .string (bs s)] w fun e w' => (s ∈ ks → e = .returned (.tuple #[v, .int .i64 (posB ks s), .bool false])) ∧
      (s ∉ ks → ∃ v', e = .returned (.tuple #[v', .int .i64 ks.length, .bool true]) ∧ LRow w' w.heap.size v' (ks ++ [s])) ∧ Below w.heap.size w w' := by
  rcases h with ⟨rfl, rfl⟩ | ⟨hpos, hr⟩
  · refine (refAt_nil s w).mono fun e w' ⟨⟨v', he, hr⟩, hb⟩ => ⟨fun h => by simp at h, fun _ => ⟨v', he, .inr ⟨by simp, by simpa using hr⟩⟩, hb⟩
  · obtain ⟨g, c, rfl, -⟩ := own_pos hr hpos
    refine (refAt_some g c ks hpos hlen s B w hr).mono fun e w' ⟨h1, h2, hb⟩ => ⟨h1, fun hn => ?_, hb⟩
    obtain ⟨v', he, hr'⟩ := h2 hn
    exact ⟨v', he, .inr ⟨by simp, by simpa using hr'⟩⟩
theorem pos_get {ks : List (List UInt8)} (hn : ks.Nodup) {i : Nat} (hi : i < ks.length) : posB ks (ks.getD i []) = i ∧ ks.getD i [] ∈ ks ∧ keyAt ks i = ks.getD i [] ∧ keyErr ks i = 0 := by
  have e : ks.getD i [] = ks[i] := by rw [List.getD_eq_getElem?_getD, List.getElem?_eq_getElem hi]; rfl
  have hm : ks[i] ∈ ks := List.getElem_mem hi
  rw [e]
  refine ⟨?_, hm, ?_, ?_⟩
  · unfold posB; rw [if_pos hm, hn.idxOf_getElem i hi]
  · unfold keyAt; rw [if_pos (by omega)]; rw [Int.toNat_natCast, e]
  · unfold keyErr; rw [if_pos (by omega)]

/-- What stands at the head of the first loop's round. -/
structure Head (w wr : World) (B : Nat) (lv : Value) (ks : List (List UInt8)) : Prop where
  below : Below w.heap.size w wr
  idx : ∃ O, Idx wr B O ks ∧ (∀ k, O k → w.heap.size ≤ k) ∧ ∀ k, lv.ownBlock = some k → ¬ O k
  row : LRow wr w.heap.size lv ks
theorem head_below {w wr w' : World} {B : Nat} {lv : Value} {ks : List (List UInt8)} (h : Head w wr B lv ks) (hb : Below wr.heap.size wr w') : Head w w' B lv ks := by
  obtain ⟨h1, ⟨O, hI, hO, hd⟩, h3⟩ := h
  exact ⟨h1.trans (hb.mono h1.size), ⟨O, idx_below hI hb, hO, hd⟩, lrow_off (O := fun _ => False) h3 (off_below hb) (fun _ _ h => h)⟩

set_option maxHeartbeats 8000000 in
set_option maxRecDepth 100000 in
theorem numbers_walk (a : Option Addr) (c : Nat) (l : List (List UInt8)) (hl : l.length ≤ 1048576) (hfit : ∀ s ∈ l, s.length ≤ maxLen) (n : Int) (w : World) (hrow : SRow w a l) :
    Calls Try.prog 5 #[.slice a l.length c, .int .i64 n] w fun e w' => e = .returned (.bool true) ∧ Below w.heap.size w w' := by
  have HA := hide (alive_any (w.alloc (.cells #[.slice none 0 0, .map none] 96)))
  have hb0 : Below w.heap.size w (w.alloc (.cells #[.slice none 0 0, .map none] 96)) := (Below.refl _ _).alloc (Nat.le_refl _) _
  have Hb0 := hide hb0
  clear hb0
  go_enter Try.func5, Try.ntmps5
  go_wp2_with (first | (go_at_call 18; go_in) | (go_at_call 8; refine (unhide HA).mono ?_; rintro e w1 ⟨rfl, hb1⟩))
  have h0 : Head w w1 w.heap.size (.slice none 0 0) [] := ⟨(unhide Hb0).trans (hb1.mono (by simp)), ⟨_, idx_below (idx_new w) hb1, fun k hk => by omega, fun k hk => by simp [Value.ownBlock] at hk⟩, .inl ⟨rfl, rfl⟩⟩
  clear HA Hb0 hb1
  go_loopw [34, 6] (fun x lv wr => ∃ k : Nat, x = .int .i64 k ∧ k ≤ l.length ∧ Head w wr w.heap.size lv (dd (l.take k))) (fun x _ _ => l.length - (intOf x).toNat)
  case atStart => exact ⟨0, rfl, Nat.zero_le _, h0⟩
  case round =>
    obtain ⟨k, rfl, hk, hH⟩ := hrel
    by_cases hlt : k < l.length
    · have hlt' : (k : Int) < l.length := by omega
      rcases srow_below hrow hH.below (Nat.le_refl _) with h0 | ⟨g, off, rfl, hgl, hc⟩
      · subst h0; simp at hlt
      have ck := hc k hlt
      have hs : (l.getD k []).length ≤ maxLen := hfit _ (by rw [List.getD_eq_getElem?_getD, List.getElem?_eq_getElem hlt]; exact List.getElem_mem _)
      have Hdd := hide (dd_succ l k hlt)
      have hdl := dd_length l k (by omega)
      have Hro := hide hrow
      clear hc hrow h0 hfit
      generalize dd (l.take k) = ks at *
      generalize l.getD k [] = s at *
      obtain ⟨va, vc, rfl⟩ := lrow_form hH.row
      have HF := hide (by obtain ⟨O, hI, -⟩ := hH.idx; exact find_any w.heap.size O ks s hs wr hI)
      have HRr := hide (fun w2 (h2 : Head w w2 w.heap.size (.slice va ks.length vc) ks) => refAt_any _ ks (by omega) s _ w2 h2.row)
      by_cases hm : s ∈ ks
      · rw [show decide (s ∈ ks) = true by simpa using hm] at HF
        have Ha : Hid (addK ks s = ks) := hide (by simp [addK, hm])
        have HAt := hide (fun w2 (h2 : Head w w2 w.heap.size (.slice va ks.length vc) ks) => by obtain ⟨O, hI, -⟩ := h2.idx; exact at_old w.heap.size O ks s hs hm w2 hI)
        have HLn := hide (fun w2 (h2 : Head w w2 w.heap.size (.slice va ks.length vc) ks) => by obtain ⟨O, hI, -⟩ := h2.idx; exact len_any w.heap.size O ks w2 hI)
        have Hm := hide hm
        have HH := hide hH
        clear hm hH
        generalize posB ks s = p at *
        go_wp2_with fail
        refine (unhide HF).mono ?_
        rintro e w1 ⟨rfl, hb1⟩
        have HH1 := hide (head_below (unhide HH) hb1)
        clear hb1 HF HH
        go_wp2_with fail
        refine (unhide HAt w1 (unhide HH1)).mono ?_
        rintro e w2 ⟨rfl, hb2⟩
        have HH2 := hide (head_below (unhide HH1) hb2)
        clear hb2 HAt HH1
        go_wp2_with fail
        refine (unhide HRr w2 (unhide HH2)).mono ?_
        rintro e w3 ⟨h1, -, hb3⟩
        obtain rfl := h1 (unhide Hm)
        have HH3 := hide (head_below (unhide HH2) hb3)
        clear hb3 HRr HH2 h1
        go_wp2_with fail
        refine (unhide HLn w3 (unhide HH3)).mono ?_
        rintro e w4 ⟨rfl, hw⟩
        obtain rfl := hw.symm
        go_wp2
        go_roundw
        case rel => exact ⟨k + 1, by go_num, by omega, by rw [unhide Hdd, unhide Ha]; exact unhide HH3⟩
        case measure => simp [intOf]; omega
      · rw [show decide (s ∈ ks) = false by simpa using hm, show posB ks s = 0 by simp [posB, hm]] at HF
        have Ha : Hid (addK ks s = ks ++ [s]) := hide (by simp [addK, hm])
        have HAt := hide (fun w2 (h2 : Head w w2 w.heap.size (.slice va ks.length vc) ks) => by obtain ⟨O, hI, hO⟩ := h2.idx; exact (at_new w.heap.size O ks s hs hm (by omega) w2 hI).mono (fun e w' h => (⟨O, hO, hI.lt, h⟩ : ∃ O : Nat → Prop, ((∀ k, O k → w.heap.size ≤ k) ∧ ∀ k, (Value.slice va ks.length vc).ownBlock = some k → ¬ O k) ∧ (∀ k, O k → k < w2.heap.size) ∧ e = .returned (.tuple #[.int .i64 ks.length, .bool true, .int .i64 0]) ∧ Off O w2 w' ∧ Idx w' w.heap.size (fun k => O k ∨ w2.heap.size ≤ k ∧ k < w'.heap.size) (ks ++ [s]))))
        have Hm := hide hm
        have HH := hide hH
        have hks : (ks.length : Int) < 1048576 := by omega
        clear hm hH
        go_wp2_with fail
        refine (unhide HF).mono ?_
        rintro e w1 ⟨rfl, hb1⟩
        have HH1 := hide (head_below (unhide HH) hb1)
        clear hb1 HF HH
        go_wp2_with fail
        refine (unhide HAt w1 (unhide HH1)).mono ?_
        rintro e w2 ⟨O, ⟨hO1, hO2⟩, hO3, rfl, ho, hI2⟩
        have hrow2 := lrow_off (unhide HH1).row ho hO2
        have hbw2 : Below w.heap.size w w2 := (unhide HH1).below.trans (off_to ho hO1 (unhide HH1).below.size)
        have hbl := lrow_lt (unhide HH1).row
        have hz1 := (unhide HH1).below.size
        have hz2 := ho.size
        have HR := hide (refAt_any _ ks (by omega) s _ w2 hrow2)
        have Hfin : Hid (∀ w3 v', Below w2.heap.size w2 w3 → LRow w3 w2.heap.size v' (ks ++ [s]) → Head w w3 w.heap.size v' (ks ++ [s])) := hide (fun w3 v' hb3 hr3 => by
          refine ⟨hbw2.trans (hb3.mono (by omega)), ⟨_, idx_below hI2 hb3, ?_, ?_⟩, ?_⟩
          · rintro k (h | h)
            · exact hO1 k h
            · omega
          · intro k hk
            have := lrow_lt hr3 k hk
            rintro (h | h)
            · have := hO3 k h; omega
            · omega
          · rcases hr3 with h | ⟨h1, h2⟩
            · exact .inl h
            · refine .inr ⟨h1, h2.1, ?_⟩
              rcases h2.2 with h | ⟨g, cap, cur, hv, hg, rest⟩
              · exact .inl h
              · exact .inr ⟨g, cap, cur, hv, by omega, rest⟩)
        clear ho hI2 hrow2 hbw2 hbl HAt HH1 hO1 hO2 hO3 HRr
        go_wp2_with fail
        refine (unhide HR).mono ?_
        rintro e w3 ⟨-, h2, hb3⟩
        obtain ⟨v', rfl, hr3⟩ := h2 (unhide Hm)
        have HH3 := hide (unhide Hfin w3 v' hb3 hr3)
        obtain ⟨va', vc', rfl⟩ := lrow_form hr3
        have HLn := hide (by obtain ⟨O, hI, -⟩ := (unhide HH3).idx; exact len_any w.heap.size O (ks ++ [s]) w3 hI)
        rw [List.length_append, List.length_singleton] at HLn
        clear hb3 HR h2 hr3 Hfin
        go_wp2_with fail
        refine (unhide HLn).mono ?_
        rintro e w4 ⟨rfl, hw⟩
        obtain rfl := hw.symm
        go_wp2
        go_roundw
        case rel => exact ⟨k + 1, by go_num, by omega, by rw [unhide Hdd, unhide Ha]; simpa using unhide HH3⟩
        case measure => simp [intOf]; omega
    · obtain rfl : k = l.length := by omega
      rw [List.take_length] at hH
      have hdl : (dd l).length ≤ l.length := by have := dd_length l l.length (Nat.le_refl _); rwa [List.take_length] at this
      clear hrow hfit h0 hk
      generalize dd l = ks at *
      obtain ⟨va, vc, rfl⟩ := lrow_form hH.row
      have hlt' : ¬ ((l.length : Int) < l.length) := by omega
      have HH := hide hH
      clear hH
      go_wp2
      go_loopw [102] (fun x wr => ∃ i : Nat, x = .int .i64 i ∧ i ≤ ks.length ∧ Head w wr w.heap.size (.slice va ks.length vc) ks) (fun x _ => ks.length - (intOf x).toNat)
      case atStart => exact ⟨0, rfl, Nat.zero_le _, unhide HH⟩
      case round =>
        clear HH
        obtain ⟨i, rfl, hi, hH⟩ := hrel
        obtain ⟨O, hI, -⟩ := id hH.idx
        by_cases hlt : i < ks.length
        · have hlt'' : (i : Int) < ks.length := by omega
          rcases hH.row with ⟨h0, -⟩ | ⟨hpos, hr⟩
          · subst h0; simp at hlt
          obtain ⟨g, c', hv, -⟩ := own_pos hr hpos
          simp only [Value.slice.injEq] at hv
          obtain ⟨rfl, -, rfl⟩ := hv
          have ck : wr.cell? ⟨g, i, none⟩ = some (.string (bs (ks.getD i []))) := by
            rw [strs_cell hr i hlt, List.getD_eq_getElem?_getD, List.getElem?_eq_getElem hlt]; rfl
          obtain ⟨p1, p2, p3, p4⟩ := pos_get hI.nodup hlt
          have HF := hide (find_any w.heap.size O ks (ks.getD i []) (hI.fit _ p2) wr hI)
          rw [p1, show decide (ks.getD i [] ∈ ks) = true by simpa using p2] at HF
          have HK := hide (fun w2 hb => key_any w.heap.size O ks i w2 (idx_below hI hb))
          rw [p3, p4] at HK
          have HH := hide hH
          clear hI hH hr p1 p2 p3 p4 hpos
          generalize ks.getD i [] = s at *
          go_wp2_with fail
          refine (unhide HF).mono ?_
          rintro e w1 ⟨rfl, hb1⟩
          have HK1 := hide (unhide HK w1 hb1)
          have HH1 := hide (head_below (unhide HH) hb1)
          clear hb1 HF HH HK
          go_wp2_with fail
          refine (unhide HK1).mono ?_
          rintro e w2 ⟨rfl, hw⟩
          obtain rfl := hw.symm
          go_wp2
          go_roundw
          case rel => exact ⟨i + 1, by go_num, by omega, unhide HH1⟩
          case measure => simp [intOf]; omega
        · obtain rfl : i = ks.length := by omega
          have HK := hide (key_any w.heap.size O ks n wr hI)
          have Hb := hide hH.below
          have hlt2 : ¬ ((ks.length : Int) < ks.length) := by omega
          by_cases hn : 0 ≤ n ∧ n < ks.length
          · rcases hH.row with ⟨h0, -⟩ | ⟨hpos, hr⟩
            · subst h0; simp at hn; omega
            obtain ⟨g, c', hv, -⟩ := own_pos hr hpos
            simp only [Value.slice.injEq] at hv
            obtain ⟨rfl, -, rfl⟩ := hv
            obtain ⟨m, rfl⟩ := Int.eq_ofNat_of_zero_le hn.1
            have hm : m < ks.length := by omega
            have ck : wr.cell? ⟨g, m, none⟩ = some (.string (bs (ks.getD m []))) := by
              rw [strs_cell hr m hm, List.getD_eq_getElem?_getD, List.getElem?_eq_getElem hm]; rfl
            obtain ⟨-, -, p3, p4⟩ := pos_get hI.nodup hm
            rw [p3, p4] at HK
            have hm1 : ¬ (m : Int) < 0 := by omega
            have hm2 : (m : Int) < ks.length := by omega
            clear hI hH hr p3 p4 hpos hn
            generalize ks.getD m [] = s at *
            go_wp2_with fail
            refine (unhide HK).mono ?_
            rintro e w2 ⟨rfl, hw⟩
            obtain rfl := hw.symm
            go_wp2
            go_ret
            exact ⟨rfl, unhide Hb⟩
          · rw [show keyAt ks n = [] by simp [keyAt, hn], show keyErr ks n = 8 by simp [keyErr, hn], show bs [] = (⟨#[]⟩ : ByteArray) from rfl] at HK
            clear hI hH
            by_cases h0 : n < 0
            · clear hn
              go_wp2_with fail
              refine (unhide HK).mono ?_
              rintro e w2 ⟨rfl, hw⟩
              obtain rfl := hw.symm
              go_wp2
              go_ret
              exact ⟨rfl, unhide Hb⟩
            · have h1 : (ks.length : Int) ≤ n := by omega
              clear hn
              go_wp2_with fail
              refine (unhide HK).mono ?_
              rintro e w2 ⟨rfl, hw⟩
              obtain rfl := hw.symm
              go_wp2
              go_ret
              exact ⟨rfl, unhide Hb⟩
end Go.Proofs.Ytdpphjedjhjdgaa

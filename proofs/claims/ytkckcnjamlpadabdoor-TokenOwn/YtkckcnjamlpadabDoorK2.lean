/- numbers and Kinds. -/
import Derived.Test.YtkckcnjamlpadabDoorP0
namespace Go.Proofs.YtkckcnjamlpadabDoor
open Go.RowKit Go.Maps

theorem law9 : Keyed Tryd.prog 9 := string_keyed Tryd.underlying9
theorem keyS (s : List UInt8) (hs : s.length ≤ maxLen) : keyOf Tryd.prog 9 (.string (bs s)) = some (.string s) := WideMaps.keyOf_string_mk Tryd.underlying9 (s := bs s) hs
theorem zero3 (w : World) : (zeroValue 3).run Tryd.prog w = .ok (.int .i64 0) w := by kernel_rfl
theorem makeMap73 (n : Int) (w : World) : (Instr.makeMap 72 (some (.int .i64 n))).run Tryd.prog w = .ok (.map (some w.heap.size)) (w.alloc (.map #[] 0)) := by
  simp [Instr.makeMap, run_underlying Tryd.underlying72, asInt, asIntOf, Result.andThen]

/-- The numbers of names, in a map. -/
def NumMap (w : World) (b : Nat) (ns : List (List UInt8)) : Prop :=
  ∃ D : DataW Unit, w.ownsMap Tryd.prog 9 (plainElem Tryd.prog 3) b ns.length D ∧ (∀ s, Maps.has D (.string s) = decide (s ∈ ns)) ∧
    (∀ s, s ∈ ns → ∃ j : Nat, ns[j]? = some s ∧ D.atKey (.string s) (.lit (.int .i64 0)) = .lit (.int .i64 (j : Int))) ∧
    (∀ s, s ∉ ns → D.atKey (.string s) (.lit (.int .i64 0)) = .lit (.int .i64 0)) ∧ Maps.size D ≤ ns.length ∧ (Maps.size D = ns.length ↔ ns.Nodup)
theorem num_zero (w : World) : NumMap (w.alloc (.map #[] 0)) w.heap.size [] := by
  refine ⟨.map [], World.ownsMap_made w _ _ _, fun s => (by simp [Maps.has]), fun s hs => (absurd hs (by simp)), fun s _ => (by simp [DataW.atKey]), (by simp [Maps.size]), (by simp [Maps.size])⟩
theorem num_put {D : DataW Unit} {w w' : World} {b : Nat} {ns : List (List UInt8)} {s : List UInt8} (hm : w.ownsMap Tryd.prog 9 (plainElem Tryd.prog 3) b ns.length D) (h1 : ∀ s, Maps.has D (.string s) = decide (s ∈ ns))
    (h2 : ∀ s, s ∈ ns → ∃ j : Nat, ns[j]? = some s ∧ D.atKey (.string s) (.lit (.int .i64 0)) = .lit (.int .i64 (j : Int))) (h3 : ∀ s, s ∉ ns → D.atKey (.string s) (.lit (.int .i64 0)) = .lit (.int .i64 0)) (h4 : Maps.size D ≤ ns.length) (h5 : Maps.size D = ns.length ↔ ns.Nodup)
    (hm' : w'.ownsMap (H := Unit) Tryd.prog 9 (plainElem Tryd.prog 3) b (ns.length + 1) (D.put (.string s) (.lit (.int .i64 (ns.length : Int))))) : NumMap w' b (ns ++ [s]) := by
  have hkl : WideAt.IsKeyLit (.string s) := trivial
  have hsz := size_put (k := .string s) (hm.tidy law9) (.lit (.int .i64 (ns.length : Int)))
  rw [h1 s] at hsz
  refine ⟨_, by simpa using hm', fun x => ?_, fun x hx => ?_, fun x hx => ?_, ?_, ?_⟩
  · by_cases hx : x = s
    · subst hx; rw [has_put_same hm.isMap hkl]; simp
    · have hne : (Lit.string x) ≠ .string s := by simpa using hx
      rw [has_put_other hne, h1 x]; simp [hx]
  · by_cases hx' : x = s
    · subst hx'
      exact ⟨ns.length, by simp, atKey_put_same hm.isMap hkl _ _⟩
    · have hne : (Lit.string x) ≠ .string s := by simpa using hx'
      have hin : x ∈ ns := by
        rcases List.mem_append.1 hx with h | h
        · exact h
        · simp at h; exact absurd h hx'
      obtain ⟨j, hj, e⟩ := h2 x hin
      have hjl : j < ns.length := (List.getElem?_eq_some_iff.1 hj).1
      exact ⟨j, by rw [List.getElem?_append_left hjl]; exact hj, by rw [atKey_put_other hne]; exact e⟩
  · have hx' : x ≠ s := fun e => hx (by simp [e])
    have hne : (Lit.string x) ≠ .string s := by simpa using hx'
    rw [atKey_put_other hne]
    exact h3 x (fun h => hx (List.mem_append_left _ h))
  · rw [hsz, List.length_append]; simp only [List.length_singleton]; split <;> omega
  · rw [hsz, List.length_append, List.nodup_append]
    simp only [List.length_singleton]
    by_cases hin : s ∈ ns
    · rw [decide_eq_true hin, if_pos rfl]
      constructor
      · intro h; omega
      · intro h; exact absurd rfl (h.2.2 s hin s (by simp))
    · rw [decide_eq_false hin, if_neg (by simp)]
      constructor
      · intro h
        refine ⟨h5.1 (by omega), by simp, fun a ha b hb e => ?_⟩
        simp at hb; subst hb; subst e; exact hin ha
      · intro h
        have := h5.2 h.1; omega
theorem num_below {w w' : World} {b : Nat} {ns : List (List UInt8)} (h : NumMap w b ns) {B : Nat} (hB : w.heap.size ≤ B) (hb : Below B w w') : NumMap w' b ns := by
  obtain ⟨D, hm, rest⟩ := h
  refine ⟨D, ?_, rest⟩
  have hl := hm.lt
  obtain ⟨es, c, hh, r⟩ := hm
  exact ⟨es, c, (hb.block b (by omega)).trans hh, r⟩
theorem take_snoc {α : Type} (l : List α) (k : Nat) (d : α) (h : k < l.length) : l.take (k + 1) = l.take k ++ [l.getD k d] := by
  rw [List.take_succ_eq_append_getElem h]; simp [List.getD_eq_getElem?_getD, List.getElem?_eq_getElem h]

set_option maxHeartbeats 1000000 in
set_option maxRecDepth 100000 in
theorem numbers_any (a : Option Addr) (cap : Nat) (ns : List (List UInt8)) (hl : ns.length ≤ 1024) (hs : ∀ j, j < ns.length → (ns.getD j []).length ≤ 64) (w : World) (hrow : SRow w a ns) :
    Calls Tryd.prog 29 #[.slice a ns.length cap] w fun e w' => e = .returned (.map (some w.heap.size)) ∧ NumMap w' w.heap.size ns ∧ Below w.heap.size w w' := by
  have q := makeMap73 (ns.length : Int) w
  have Hrow := hide hrow; have Hs := hide hs
  clear hrow hs
  go_enter Tryd.func29, Tryd.ntmps29
  go_wp2
  go_loopw [11] (fun x wr => ∃ k : Nat, x = .int .i64 k ∧ k ≤ ns.length ∧ Below w.heap.size w wr ∧ NumMap wr w.heap.size (ns.take k)) (fun x _ => ns.length - (intOf x).toNat)
  case atStart => exact ⟨0, rfl, Nat.zero_le _, (Below.refl _ _).alloc (Nat.le_refl _) _, by simpa using num_zero w⟩
  case round =>
    obtain ⟨k, rfl, hk, hbel, hnum⟩ := hrel
    have hsz := hbel.size
    have Hbel := hide hbel; have Hnum := hide hnum
    clear hbel hnum
    by_cases hlt : k < ns.length
    · have hlt' : (k : Int) < ns.length := by omega
      obtain ⟨b, off, rfl, hb, hc⟩ := srow_pos (srow_below (unhide Hrow) (Nat.le_refl _) (unhide Hbel)) hlt
      have ck := hc k hlt
      have hsk := unhide Hs k hlt
      have Ht := hide (take_snoc ns k [] hlt)
      clear hc
      generalize ns.getD k [] = s at *
      obtain ⟨D, hm, h1, h2, h3, h4, h5⟩ := unhide Hnum
      have htl : (ns.take k).length = k := by rw [List.length_take]; omega
      have Hm := hide hm
      have Hput := hide (fun w' => num_put (w' := w') (s := s) hm h1 h2 h3 h4 h5)
      clear hm h1 h2 h3 h4 h5 Hnum
      rw [htl] at Hput Hm
      have Hk := hide (keyS s (by unfold maxLen; omega))
      go_wp2_with (at_mapUpdate; refine wpList_mapUpdate_own _ rfl _ _ _ 72 rfl 9 3 law9 Tryd.underlying72 _ _ k D rfl (unhide Hm) ?zd1 _ _ (.string s) rfl rfl (unhide Hk) (.lit (.int .i64 (k : Int))) [] ?zd2 ?_)
      case zd1 => unfold maxLen; omega
      case zd2 => exact plainElem_int Tryd.underlying3 (WalkArith.wf_i64 (by omega))
      intro W3 hm3 hg3
      have Hn3 := hide (unhide Hput W3 hm3)
      have Hb3 := hide ((unhide Hbel).grown hg3 hsz (fun x hx => by simp at hx; omega))
      clear hm3 hg3
      go_wp2
      go_roundw
      case rel => exact ⟨k + 1, by go_num, by omega, unhide Hb3, by rw [unhide Ht]; exact unhide Hn3⟩
      case measure => simp [intOf]; omega
    · obtain rfl : k = ns.length := by omega
      rw [List.take_length] at Hnum
      go_wp2
      go_ret
      exact ⟨rfl, unhide Hnum, unhide Hbel⟩
end Go.Proofs.YtkckcnjamlpadabDoor

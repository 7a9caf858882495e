/- Row and Only. -/
import Derived.Test.YtkckcnjamlpadabDoorA1
import Derived.Laws.MakeOwn
namespace Go.Proofs.YtkckcnjamlpadabDoor
open Go.RowKit Go.Maps

def nums (l : List Int) : List Value := l.map fun n => .int .i64 n
theorem hint : (Tryd.prog.info? 3).map (fun i => (i.zero, i.size, i.bytes)) = some (some (.int .i64 0), 1, 8) := by kernel_rfl
def kindsOf (l : List T3) : List Int := l.map (·.1)
theorem kindsOf_step (l : List T3) (k : Nat) (h : k < l.length) : kindsOf (l.take (k + 1)) = kindsOf (l.take k) ++ [(l.getD k (0, 0, 0)).1] := by
  rw [take_snoc l k (0, 0, 0) h]; simp [kindsOf]

set_option maxHeartbeats 2000000 in
set_option maxRecDepth 100000 in
theorem row_any (a : Option Addr) (cap : Nat) (l : List T3) (hl : l.length * 24 ≤ 140737488351232) (w : World) (h : TRow w a l) :
    Calls Tryd.prog 13 #[.slice a l.length cap] w fun e w' => ∃ v, e = .returned v ∧ w'.ownsRow w.heap.size 3 1 v l.length (nums (kindsOf l)) ∧ Below w.heap.size w w' := by
  obtain ⟨i0, hi, hz0, hz1, hz2⟩ := info_parts hint
  obtain ⟨wm, hmk, hom, hgm⟩ := run_make_own (P := Tryd.prog) w w.heap.size 33 3 i0 (.int .i64 0) 1 Tryd.underlying33 hi hz0 hz1 .i64 .i64 l.length (by rw [hz2]; omega) (by unfold maxLen; omega) (Nat.le_refl _)
  have hbm : Below w.heap.size w wm := (Below.refl _ w).grown hgm (Nat.le_refl _) (fun k hk => by cases hk)
  have H := hide h; have Hom := hide hom; have Hbm := hide hbm
  clear h hom hgm hbm
  go_enter Tryd.func13, Tryd.ntmps13
  go_wp2
  go_loopw [3, 11] (fun u x wr => ∃ k : Nat, x = .int .i64 k ∧ k ≤ l.length ∧ wr.ownsRow w.heap.size 3 1 u k (nums (kindsOf (l.take k))) ∧ Below w.heap.size w wr) (fun _ x _ => l.length - (intOf x).toNat)
  case atStart => exact ⟨0, rfl, Nat.zero_le _, unhide Hom, unhide Hbm⟩
  case round =>
    obtain ⟨k, rfl, hk, hown, hbel⟩ := hrel
    obtain ⟨ua, uc, rfl⟩ := own_form hown
    have hsz := hbel.size
    have Hown := hide hown; have Hbel := hide hbel
    clear hown hbel
    by_cases hlt : k < l.length
    · have hlt' : (k : Int) < l.length := by omega
      obtain ⟨tb, toff, rfl, htb, hc⟩ := trow_pos (trow_below (unhide H) (Nat.le_refl _) (unhide Hbel)) hlt
      obtain ⟨q0, q1, q2⟩ := hc k hlt
      have Hst := hide (kindsOf_step l k hlt)
      clear hc
      generalize l.getD k (0, 0, 0) = x at *
      obtain ⟨x0, x1, x2⟩ := x
      simp only at q0 q1 q2 Hst
      go_wp2_with (at_builtin; refine wpList_append_own _ rfl _ _ 33 rfl w.heap.size 3 i0 (.int .i64 0) 1 8 Tryd.underlying33 hi hz0 hz1 hz2 rfl (by decide) _ _ _ rfl (((unhide Hown).alloc _).alloc _) ⟨wr.heap.size + 1, 0, none⟩ 1 1 [.int .i64 x0] rfl rfl ?zc1 ?zc2 ?zc3 ?zc4 ?zc5 ?_)
      case zc1 =>
        have h := cell_one_new (wr.alloc (.cells #[.int .i64 x0, .int .i64 x1, .int .i64 x2] 27)) (.int .i64 x0) 3
        rw [show (wr.alloc (.cells #[.int .i64 x0, .int .i64 x1, .int .i64 x2] 27)).heap.size = wr.heap.size + 1 by simp] at h
        exact h
      case zc2 => intro u hu; simp at hu; subst hu; rfl
      case zc3 => unfold maxLen; omega
      case zc4 => omega
      case zc5 => simp; omega
      intro v' W3 hown' hgrow _
      have Hb3 := hide ((((unhide Hbel).alloc hsz _).alloc (by simp; omega) _).grown hgrow (by simp; omega) (fun k hk => ((unhide Hown).lt k hk).1))
      have Ho3 := hide (show W3.ownsRow w.heap.size 3 1 v' (k + 1) (nums (kindsOf (l.take (k + 1)))) by rw [unhide Hst]; simpa [nums] using hown')
      clear hown' hgrow
      go_wp2
      go_roundw
      case rel => exact ⟨k + 1, by go_num, by omega, unhide Ho3, unhide Hb3⟩
      case measure => simp [intOf]; omega
    · obtain rfl : k = l.length := by omega
      rw [List.take_length] at Hown
      go_wp2
      go_ret
      exact ⟨_, rfl, unhide Hown, unhide Hbel⟩

/-! ### Only -/
def onlyL (l : List T3) (ks : List Int) : List T3 := l.filter fun x => decide (x.1 ∈ ks)
theorem onlyL_step (l : List T3) (ks : List Int) (k : Nat) (h : k < l.length) : onlyL (l.take (k + 1)) ks = if (l.getD k (0, 0, 0)).1 ∈ ks then onlyL (l.take k) ks ++ [l.getD k (0, 0, 0)] else onlyL (l.take k) ks := by
  rw [take_snoc l k (0, 0, 0) h]
  unfold onlyL
  rw [List.filter_append]
  by_cases hm : (l.getD k (0, 0, 0)).1 ∈ ks
  · rw [if_pos hm, List.filter_cons_of_pos (by simpa using hm), List.filter_nil]
  · rw [if_neg hm, List.filter_cons_of_neg (by simpa using hm), List.filter_nil, List.append_nil]
theorem onlyL_le (l : List T3) (ks : List Int) (k : Nat) : (onlyL (l.take k) ks).length ≤ k := by
  have h1 := List.length_filter_le (fun x : T3 => decide (x.1 ∈ ks)) (l.take k)
  have h2 := List.length_take_le k l
  unfold onlyL
  omega
theorem law3 : Keyed Tryd.prog 3 := int_keyed Tryd.underlying3
theorem zero95 (w : World) : (zeroValue 55).run Tryd.prog w = .ok (.agg #[]) w := by kernel_rfl
theorem makeMap94 (n : Int) (w : World) : (Instr.makeMap 54 (some (.int .i64 n))).run Tryd.prog w = .ok (.map (some w.heap.size)) (w.alloc (.map #[] 0)) := by
  simp [Instr.makeMap, run_underlying Tryd.underlying54, asInt, asIntOf, Result.andThen]
/-- A set of numbers, in a map. -/
def SetMap (w : World) (b : Nat) (ks : List Int) : Prop :=
  ∃ D : DataW Unit, w.ownsMap Tryd.prog 3 unitElem b ks.length D ∧ ∀ n, Maps.has D (.int .i64 n) = decide (n ∈ ks)
theorem set_zero (w : World) : SetMap (w.alloc (.map #[] 0)) w.heap.size [] := ⟨.map [], World.ownsMap_made w _ _ _, fun s => (by simp [Maps.has])⟩
theorem set_below {w w' : World} {b : Nat} {ks : List Int} (h : SetMap w b ks) {B : Nat} (hB : w.heap.size ≤ B) (hb : Below B w w') : SetMap w' b ks := by
  obtain ⟨D, hm, rest⟩ := h
  refine ⟨D, ?_, rest⟩
  have hl := hm.lt
  obtain ⟨es, c, hh, r⟩ := hm
  exact ⟨es, c, (hb.block b (by omega)).trans hh, r⟩
theorem set_put {D : DataW Unit} {w w' : World} {b : Nat} {ks : List Int} {n : Int} (hm : w.ownsMap Tryd.prog 3 unitElem b ks.length D) (h1 : ∀ n, Maps.has D (.int .i64 n) = decide (n ∈ ks))
    (hm' : w'.ownsMap (H := Unit) Tryd.prog 3 unitElem b (ks.length + 1) (D.put (.int .i64 n) (.agg []))) : SetMap w' b (ks ++ [n]) := by
  have hkl : WideAt.IsKeyLit (.int .i64 n) := trivial
  refine ⟨_, by simpa using hm', fun x => ?_⟩
  by_cases hx : x = n
  · subst hx; rw [has_put_same hm.isMap hkl]; simp
  · have hne : (Lit.int .i64 x) ≠ .int .i64 n := by simpa using hx
    rw [has_put_other hne, h1 x]; simp [hx]
theorem set_look {w : World} {b : Nat} {ks : List Int} (h : SetMap w b ks) (n : Int) (hn : -9223372036854775808 ≤ n ∧ n ≤ 9223372036854775807) (W : World) (hW : W.heap = w.heap) :
    (Instr.lookup 54 (.map (some b)) (.int .i64 n) true).run Tryd.prog W = .ok (.tuple #[.agg #[], .bool (decide (n ∈ ks))]) W := by
  obtain ⟨D, hm, h1⟩ := h
  have hm' : W.ownsMap Tryd.prog 3 unitElem b ks.length D := by
    obtain ⟨es, c, hh, r⟩ := hm
    exact ⟨es, c, by rw [hW]; exact hh, r⟩
  obtain ⟨v, ps, hrun, hv⟩ := hm'.look_ok law3 Tryd.underlying54 (zero95 _) unitElem_mk (keyOf_int_mk Tryd.underlying3 (WalkArith.wf_i64 hn))
  obtain ⟨rfl, -⟩ := unitElem_inv hv
  rw [hrun, h1 n]
theorem nrow_pos {w : World} {a : Option Addr} {l : List Int} (h : NRow w a l) {k : Nat} (hk : k < l.length) : ∃ b off, a = some ⟨b, off, none⟩ ∧ b < w.heap.size ∧ ∀ j, j < l.length → w.cell? ⟨b, off + j, none⟩ = some (.int .i64 (l.getD j 0)) := by
  rcases h with rfl | h
  · simp at hk
  · exact h
end Go.Proofs.YtkckcnjamlpadabDoor

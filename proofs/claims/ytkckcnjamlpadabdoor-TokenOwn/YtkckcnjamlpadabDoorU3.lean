/- NewCursor. -/
import Derived.Test.YtkckcnjamlpadabDoorU2
namespace Go.Proofs.YtkckcnjamlpadabDoor
open Go.RowKit Go.Maps

theorem flat3_get (l : List T3) (j : Nat) (u : Value) (h : (flat3 l)[j]? = some u) : ∃ i r, j = i * 3 + r ∧ r < 3 ∧ i < l.length ∧ u = (match r with | 0 => .int .i64 (l.getD i (0, 0, 0)).1 | 1 => .int .i64 (l.getD i (0, 0, 0)).2.1 | _ => .int .i64 (l.getD i (0, 0, 0)).2.2) := by
  have hj : j < (flat3 l).length := (List.getElem?_eq_some_iff.1 h).1
  rw [flat3_length] at hj
  have hi : j / 3 < l.length := by omega
  obtain ⟨h0, h1, h2⟩ := flat3_at l (j / 3) hi
  have hr : j % 3 = 0 ∨ j % 3 = 1 ∨ j % 3 = 2 := by omega
  rcases hr with hr | hr | hr
  · refine ⟨j / 3, 0, by omega, by omega, hi, ?_⟩
    rw [show j = j / 3 * 3 by omega, h0] at h
    exact (Option.some.inj h).symm
  · refine ⟨j / 3, 1, by omega, by omega, hi, ?_⟩
    rw [show j = j / 3 * 3 + 1 by omega, h1] at h
    exact (Option.some.inj h).symm
  · refine ⟨j / 3, 2, by omega, by omega, hi, ?_⟩
    rw [show j = j / 3 * 3 + 2 by omega, h2] at h
    exact (Option.some.inj h).symm
theorem flat3_one (l : List T3) : ∀ u ∈ flat3 l, u.oneCell' = true := by
  intro u hu
  obtain ⟨j, hj⟩ := List.mem_iff_getElem?.1 hu
  obtain ⟨i, r, -, hr, -, rfl⟩ := flat3_get l j u hj
  have : r = 0 ∨ r = 1 ∨ r = 2 := by omega
  rcases this with rfl | rfl | rfl <;> rfl
theorem trow_news {w : World} {ad : Addr} {l : List T3} (h : TRow w (some ad) l) (hl : l ≠ []) : ∀ j u, (flat3 l)[j]? = some u → w.cell? (ad.add j) = some u := by
  intro j u hu
  rcases h with rfl | ⟨b, off, e, hlt, hc⟩
  · exact absurd rfl hl
  · simp only [Option.some.injEq] at e
    subst e
    obtain ⟨i, r, rfl, hr, hi, rfl⟩ := flat3_get l j u hu
    obtain ⟨h0, h1, h2⟩ := hc i hi
    have add : (⟨b, off, none⟩ : Addr).add (i * 3 + r) = ⟨b, off + (i * 3 + r), none⟩ := by unfold Addr.add; split <;> simp_all
    rw [add]
    have : r = 0 ∨ r = 1 ∨ r = 2 := by omega
    rcases this with rfl | rfl | rfl
    · exact h0
    · exact h1
    · exact h2
theorem own_empty (w : World) (B : Nat) (hB : B ≤ w.heap.size) : (w.alloc (.cells #[] 27)).ownsRow B 27 3 (.slice (some ⟨w.heap.size, 0, none⟩) 0 0) 0 [] :=
  ⟨rfl, .inr ⟨w.heap.size, 0, #[], rfl, hB, heap_new _ _, Nat.le_refl _, by unfold maxLen; omega, rfl, rfl⟩⟩

/-- How newRow ends. -/
def RowPost (w : World) (l : List T3) (e : Ending) (w' : World) : Prop :=
  ∃ g cap, e = .returned (.agg #[.slice (some ⟨g, 0, none⟩) l.length cap, .int .i64 0]) ∧ w'.ownsRow w.heap.size 27 3 (.slice (some ⟨g, 0, none⟩) l.length cap) l.length (flat3 l) ∧ Below w.heap.size w w'
set_option maxHeartbeats 2000000 in
set_option maxRecDepth 100000 in
theorem newRow_nil (w : World) : Calls Tryd.prog 17 #[.slice none 0 0] w fun e w' => RowPost w [] e w' := by
  have HO := hide (fun o => own_empty (w.alloc o) w.heap.size (by simp))
  go_enter Tryd.func17, Tryd.ntmps17
  go_wp2
  refine bodyPost_ret (v := .agg #[.slice (some ⟨w.heap.size + 1, 0, none⟩) 0 0, .int .i64 0]) (by simp [results, Tryd.results17, go_sem]) rfl ?_
  refine ⟨w.heap.size + 1, 0, rfl, ?_, ((Below.refl _ _).alloc (Nat.le_refl _) _).alloc (by simp) _⟩
  have := unhide HO (.cells #[.slice (some ⟨w.heap.size + 1, 0, none⟩) 0 0, .int .i64 0] 37)
  simpa [flat3] using this
set_option maxHeartbeats 2000000 in
set_option maxRecDepth 100000 in
theorem newRow_some (ad : Addr) (ca : Nat) (l : List T3) (hl : l.length * 24 ≤ 140737488351232) (w : World) (h : TRow w (some ad) l) : Calls Tryd.prog 17 #[.slice (some ad) l.length ca] w fun e w' => RowPost w l e w' := by
  obtain ⟨i0, hi, hz0, hz1, hz2⟩ := info_parts htok
  have HO := hide (fun o => own_empty (w.alloc o) w.heap.size (by simp))
  have HN := hide (fun o1 o2 => show ∀ j u, (flat3 l)[j]? = some u → ((w.alloc o1).alloc o2).cell? (ad.add j) = some u from fun j u hu => by
    by_cases hl0 : l = []
    · subst hl0; simp [flat3] at hu
    · exact trow_news (trow_below h (Nat.le_refl _) (((Below.refl _ _).alloc (Nat.le_refl _) o1).alloc (by simp) o2)) hl0 j u hu)
  clear h
  go_enter Tryd.func17, Tryd.ntmps17
  go_wp2_with (at_builtin; refine wpList_append_own _ rfl _ _ 22 rfl w.heap.size 27 i0 (.agg #[.int .i64 0, .int .i64 0, .int .i64 0]) 3 24 Tryd.underlying22 hi hz0 hz1 hz2 rfl (by decide) (.slice (some ⟨w.heap.size + 1, 0, none⟩) 0 0) 0 [] rfl ?zc0 ad l.length ca (flat3 l) rfl ?zc6 ?zc1 (flat3_one l) ?zc3 ?zc4 ?zc5 ?_)
  case zc0 =>
    have := unhide HO (.cells #[.slice none 0 0, .int .i64 0] 37)
    rwa [show (w.alloc (.cells #[.slice none 0 0, .int .i64 0] 37)).heap.size = w.heap.size + 1 by simp] at this
  case zc6 => exact flat3_length l
  case zc1 => exact unhide HN _ _
  case zc3 => unfold maxLen; omega
  case zc4 => omega
  case zc5 => simp; omega
  intro v' W3 hown' hgrow hv
  have hbs := (((Below.refl _ w).alloc (Nat.le_refl _) (.cells #[.slice none 0 0, .int .i64 0] 37)).alloc (by simp) (.cells #[] 27)).grown hgrow (by simp; omega) (fun k hk => by simp [Value.ownBlock] at hk; omega)
  have hX := (hgrow.block w.heap.size (by simp; omega) (by simp [Value.ownBlock])).trans ((Below.heap_alloc _ _ _ (by simp)).trans (heap_new w _))
  obtain ⟨g, cap, rfl⟩ : ∃ g cap, v' = .slice (some ⟨g, 0, none⟩) l.length cap := by
    rcases hown'.2 with ⟨h0, _⟩ | ⟨g, cap, cur, h0, _⟩
    · exact absurd h0 hv
    · exact ⟨g, cap, h0⟩
  have a0 := cell_block hX 0 _ rfl
  have a1 := cell_block hX 1 _ rfl
  have f0 := frozen_block hX 0
  have f1 := frozen_block hX 1
  have hne : Value.ownBlock (.slice (some ⟨g, 0, none⟩) l.length cap) ≠ some w.heap.size := own_ne hown' hX (by decide)
  have Hown := hide hown'; have Hbs := hide hbs; have Hne := hide hne
  clear hown' hgrow hv hbs hX hne HO HN
  go_wp2
  refine bodyPost_ret (v := .agg #[.slice (some ⟨g, 0, none⟩) l.length cap, .int .i64 0]) (by simp [results, Tryd.results17, go_sem, a0, a1]) rfl ?_
  exact ⟨g, cap, rfl, own_off (unhide Hown) (offR_set (p := ⟨w.heap.size, 1, none⟩) (offR_set (p := ⟨w.heap.size, 0, none⟩) (offR_below (Below.refl _ _)) (.inl rfl) _) (.inl rfl) _) (unhide Hne), ((unhide Hbs).setCell (p := ⟨w.heap.size, 0, none⟩) (Nat.le_refl _) _).setCell (p := ⟨w.heap.size, 1, none⟩) (Nat.le_refl _) _⟩
theorem newRow_any (a : Option Addr) (ca : Nat) (l : List T3) (hl : l.length * 24 ≤ 140737488351232) (hnil : a = none → l = [] ∧ ca = 0) (w : World) (h : TRow w a l) : Calls Tryd.prog 17 #[.slice a l.length ca] w fun e w' => RowPost w l e w' := by
  cases a with
  | none => obtain ⟨rfl, rfl⟩ := hnil rfl; exact newRow_nil w
  | some ad => exact newRow_some ad ca l hl w h

set_option maxHeartbeats 1000000 in
set_option maxRecDepth 100000 in
theorem newCursor_any (a : Option Addr) (ca : Nat) (l : List T3) (hl : l.length * 24 ≤ 140737488351232) (hnil : a = none → l = [] ∧ ca = 0) (w : World) (h : TRow w a l) :
    Calls Tryd.prog 5 #[.slice a l.length ca] w fun e w' => ∃ c g cap, e = .returned (.pointer (some ⟨c, 0, none⟩)) ∧ w.heap.size ≤ c ∧ w.heap.size ≤ g ∧ Below w.heap.size w w' ∧ CurAt w' c g cap l 0 := by
  have HR := hide (newRow_any a ca l hl hnil w h)
  clear h
  go_enter Tryd.func5, Tryd.ntmps5
  go_wp2_with fail
  refine (unhide HR).mono ?_
  rintro e w1 ⟨g, cap, rfl, hown, hb⟩
  have hs := hb.size
  have hg : w.heap.size ≤ g ∧ g < w1.heap.size := hown.lt g rfl
  obtain ⟨a', cap', e, htr, -⟩ := trow_own hown
  simp only [Value.slice.injEq] at e
  obtain ⟨rfl, -, rfl⟩ := e
  have HC : Hid (CurAt (w1.alloc (.cells #[.slice (some ⟨g, 0, none⟩) l.length cap, .int .i64 0] 39)) w1.heap.size g cap l 0) :=
    hide ⟨heap_new _ _, trow_below htr (Nat.le_refl _) ((Below.refl _ _).alloc (Nat.le_refl _) _), by omega, by simp; omega, Nat.zero_le _⟩
  have HB := hide (hb.alloc hs (.cells #[.slice (some ⟨g, 0, none⟩) l.length cap, .int .i64 0] 39))
  clear hown hb htr HR
  go_wp2
  go_ret
  exact ⟨w1.heap.size, g, cap, rfl, hs, hg.1, unhide HB, unhide HC⟩
end Go.Proofs.YtkckcnjamlpadabDoor

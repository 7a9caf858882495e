/- The numbering of pairs: what it is in memory; look, Find, enter, At. -/
import Derived.Test.YtdpphjedjhjdgaaQ1
import Derived.Deep.RegionLaw
namespace Go.Proofs.Ytdpphjedjhjdgaa
open Go.RowKit Go.Maps

abbrev Pr := Int × Int
def flatP (ks : List Pr) : List Value := ks.flatMap fun b => [.int .i64 b.1, .int .i64 b.2]
theorem flatP_append (a b : List Pr) : flatP (a ++ b) = flatP a ++ flatP b := List.flatMap_append
theorem flatP_length (bl : List Pr) : (flatP bl).length = bl.length * 2 := by
  induction bl with
  | nil => rfl
  | cons b bl ih =>
    have e : flatP (b :: bl) = .int .i64 b.1 :: .int .i64 b.2 :: flatP bl := rfl
    rw [e, List.length_cons, List.length_cons, ih, List.length_cons]; omega
def posP (ks : List Pr) (x : Pr) : Int := if x ∈ ks then (ks.idxOf x : Int) else 0

/-- A numbering of pairs, in blocks of its own. -/
structure IdxP (w : World) (B : Nat) (O : Nat → Prop) (ks : List Pr) : Prop where
  own : O B
  lt : ∀ k, O k → k < w.heap.size
  nodup : ks.Nodup
  fit : ∀ x ∈ ks, wfP x
  lies : ∃ sv mo, w.heap[B]? = some (.cells #[sv, .map mo] 100 (0, 0)) ∧ w.ownsRow 0 65 2 sv ks.length (flatP ks) ∧ (∀ k, sv.ownBlock = some k → O k) ∧
    ((mo = none ∧ ks = []) ∨ ∃ mb D, mo = some mb ∧ O mb ∧ w.ownsMap (H := Unit) Try.prog 65 (plainElem Try.prog 3) mb ks.length D ∧
      ∀ x, wfP x → Maps.has D (pk x) = decide (x ∈ ks) ∧ D.atKey (pk x) (.lit (.int .i64 0)) = .lit (.int .i64 (posP ks x)))
theorem idxP_off {w w' : World} {B : Nat} {O O' : Nat → Prop} {ks : List Pr} (h : IdxP w B O ks) (ho : Off O' w w') (hd : ∀ k, O k → ¬ O' k) : IdxP w' B O ks := by
  obtain ⟨h1, h2, h3, h4, sv, mo, hB, hr, hs, hm⟩ := h
  refine ⟨h1, fun k hk => Nat.lt_of_lt_of_le (h2 k hk) ho.size, h3, h4, sv, mo, (ho.block B (h2 B h1) (hd B h1)).trans hB, own_off hr ho (fun k hk => hd k (hs k hk)), hs, ?_⟩
  rcases hm with h0 | ⟨mb, D, rfl, hO, hmap, hD⟩
  · exact .inl h0
  · exact .inr ⟨mb, D, rfl, hO, map_off hmap ho (hd mb hO), hD⟩
theorem idxP_below {w w' : World} {B : Nat} {O : Nat → Prop} {ks : List Pr} (h : IdxP w B O ks) (hb : Below w.heap.size w w') : IdxP w' B O ks := idxP_off (O' := fun _ => False) h (off_below hb) (fun _ _ h => h)
theorem idxP_mono {w : World} {B : Nat} {O O' : Nat → Prop} {ks : List Pr} (h : IdxP w B O ks) (hO : ∀ k, O k → O' k) (hl : ∀ k, O' k → k < w.heap.size) : IdxP w B O' ks := by
  obtain ⟨h1, h2, h3, h4, sv, mo, hB, hr, hs, hm⟩ := h
  refine ⟨hO _ h1, hl, h3, h4, sv, mo, hB, hr, fun k hk => hO k (hs k hk), ?_⟩
  rcases hm with h0 | ⟨mb, D, rfl, ho, r⟩
  · exact .inl h0
  · exact .inr ⟨mb, D, rfl, hO _ ho, r⟩
theorem idxP_new (w : World) : IdxP (w.alloc (.cells #[.slice none 0 0, .map none] 100)) w.heap.size (fun k => k = w.heap.size) [] :=
  ⟨rfl, fun k h => by simp; omega, by simp, by simp, .slice none 0 0, none, (MapKept.heap_alloc w _).1, ⟨rfl, .inl ⟨rfl, rfl⟩⟩, fun k h => by simp [Value.ownBlock] at h, .inl ⟨rfl, rfl⟩⟩

theorem lookP_any (B : Nat) (O : Nat → Prop) (ks : List Pr) (x : Pr) (hx : wfP x) (w : World) (h : IdxP w B O ks) :
    Calls Try.prog 39 #[.pointer (some ⟨B, 0, none⟩), .agg #[.int .i64 x.1, .int .i64 x.2]] w fun e w' => e = .returned (.tuple #[.int .i64 (posP ks x), .bool (decide (x ∈ ks)), .int .i64 0]) ∧ Below w.heap.size w w' := by
  obtain ⟨h1, h2, h3, h4, sv, mo, hB, hr, hsv, hm⟩ := h
  refine lookP_of B mo x _ _ w (cell_block hB 1 _ rfl) fun w' hb => ?_
  rcases hm with ⟨rfl, rfl⟩ | ⟨mb, D, rfl, hO, hmap, hD⟩
  · rw [show (Value.agg #[.int .i64 x.1, .int .i64 x.2]) = pairV x from rfl, look_nil (w := w') true law65 Try.underlying98 (zero3 _) (key65 x hx)]
    simp [posP]
  · have hmap' := map_off (O := fun _ => False) hmap (off_below hb) (fun h => h)
    obtain ⟨v, ps, hrun, hv⟩ := hmap'.look_ok law65 Try.underlying98 (zero3 _) (plainElem_int Try.underlying3 (by decide)) (key65 x hx)
    obtain ⟨c, rfl, hc, hwc⟩ := plainElem_int_inv Try.underlying3 hv
    rw [show (Value.agg #[.int .i64 x.1, .int .i64 x.2]) = pairV x from rfl, hrun]
    have := (hD x hx).2
    simp only [Prod.mk.injEq] at hc
    rw [hc.1] at this
    rw [(hD x hx).1]
    simp only [DataW.lit.injEq, Lit.int.injEq, true_and] at this
    rw [this]

set_option maxHeartbeats 1000000 in
set_option maxRecDepth 100000 in
theorem findP_any (B : Nat) (O : Nat → Prop) (ks : List Pr) (x : Pr) (hx : wfP x) (w : World) (h : IdxP w B O ks) :
    Calls Try.prog 26 #[.pointer (some ⟨B, 0, none⟩), .agg #[.int .i64 x.1, .int .i64 x.2]] w fun e w' => e = .returned (.tuple #[.int .i64 (posP ks x), .bool (decide (x ∈ ks))]) ∧ Below w.heap.size w w' := by
  have hb0 : Below w.heap.size w (w.alloc (.cells #[.int .i64 x.1, .int .i64 x.2] 65)) := (Below.refl _ _).alloc (Nat.le_refl _) _
  have HL := hide (lookP_any B O ks x hx _ (idxP_below h hb0))
  have Hb0 := hide hb0
  clear h hb0
  generalize posP ks x = p at *
  generalize decide (x ∈ ks) = q at *
  go_enter Try.func26, Try.ntmps26
  go_wp2_with (go_at_call 39; refine (unhide HL).mono ?_; rintro e w' ⟨rfl, hb⟩)
  go_ret2
  exact ⟨rfl, (unhide Hb0).trans (hb.mono (by simp))⟩
end Go.Proofs.Ytdpphjedjhjdgaa

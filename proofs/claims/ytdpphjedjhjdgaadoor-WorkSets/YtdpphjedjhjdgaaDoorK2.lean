/- The numbering of texts: look, Find, Len, Key. -/
import Derived.Test.YtdpphjedjhjdgaaDoorK1
namespace Go.Proofs.YtdpphjedjhjdgaaDoor
open Go.RowKit Go.Maps

/-- A text, of its bytes. -/
def bs (l : List UInt8) : ByteArray := ⟨⟨l⟩⟩
theorem bs_size (l : List UInt8) : (bs l).size = l.length := rfl
theorem bs_of (s : ByteArray) : bs s.data.toList = s := rfl
def posB (ks : List (List UInt8)) (s : List UInt8) : Int := if s ∈ ks then (ks.idxOf s : Int) else 0
theorem law9 : Keyed Tryd.prog 9 := string_keyed Tryd.underlying9
theorem keyS (s : List UInt8) (hs : s.length ≤ maxLen) : keyOf Tryd.prog 9 (.string (bs s)) = some (.string s) := WideMaps.keyOf_string_mk Tryd.underlying9 (s := bs s) hs
theorem zero3 (w : World) : (zeroValue 3).run Tryd.prog w = .ok (.int .i64 0) w := by kernel_rfl

/-- A numbering of texts, in blocks of its own. -/
structure Idx (w : World) (B : Nat) (O : Nat → Prop) (ks : List (List UInt8)) : Prop where
  own : O B
  lt : ∀ k, O k → k < w.heap.size
  nodup : ks.Nodup
  fit : ∀ s ∈ ks, s.length ≤ maxLen
  lies : ∃ sv mo, w.heap[B]? = some (.cells #[sv, .map mo] 97 (0, 0)) ∧ w.ownsRow 0 9 1 sv ks.length (ks.map fun s => .string (bs s)) ∧ (∀ k, sv.ownBlock = some k → O k) ∧
    ((mo = none ∧ ks = []) ∨ ∃ mb D, mo = some mb ∧ O mb ∧ w.ownsMap (H := Unit) Tryd.prog 9 (plainElem Tryd.prog 3) mb ks.length D ∧
      ∀ s, Maps.has D (.string s) = decide (s ∈ ks) ∧ D.atKey (.string s) (.lit (.int .i64 0)) = .lit (.int .i64 (posB ks s)))

theorem cell_block {w : World} {B : Nat} {cs : Array Value} {t : TypeId} (h : w.heap[B]? = some (.cells cs t (0, 0))) (j : Nat) (v : Value) (hj : cs[j]? = some v) : w.cell? ⟨B, j, none⟩ = some v := by
  have e : (⟨B, 0, none⟩ : Addr).add j = ⟨B, j, none⟩ := by unfold Addr.add; split <;> simp_all
  rw [← e]
  exact World.news_of_block h j v (by simpa using hj)
theorem frozen_block {w : World} {B : Nat} {cs : Array Value} {t : TypeId} (h : w.heap[B]? = some (.cells cs t (0, 0))) (j : Nat) : w.frozen? ⟨B, j, none⟩ = false := by
  simp [World.frozen?, h]

theorem idx_off {w w' : World} {B : Nat} {O O' : Nat → Prop} {ks : List (List UInt8)} (h : Idx w B O ks) (ho : Off O' w w') (hd : ∀ k, O k → ¬ O' k) : Idx w' B O ks := by
  obtain ⟨h1, h2, h3, h4, sv, mo, hB, hr, hs, hm⟩ := h
  refine ⟨h1, fun k hk => Nat.lt_of_lt_of_le (h2 k hk) ho.size, h3, h4, sv, mo, (ho.block B (h2 B h1) (hd B h1)).trans hB, own_off hr ho (fun k hk => hd k (hs k hk)), hs, ?_⟩
  rcases hm with h0 | ⟨mb, D, rfl, hO, hmap, hD⟩
  · exact .inl h0
  · exact .inr ⟨mb, D, rfl, hO, map_off hmap ho (hd mb hO), hD⟩
theorem idx_below {w w' : World} {B : Nat} {O : Nat → Prop} {ks : List (List UInt8)} (h : Idx w B O ks) (hb : Below w.heap.size w w') : Idx w' B O ks := idx_off (O' := fun _ => False) h (off_below hb) (fun _ _ h => h)

theorem look_any (B : Nat) (O : Nat → Prop) (ks : List (List UInt8)) (s : List UInt8) (hs : s.length ≤ maxLen) (w : World) (h : Idx w B O ks) :
    Calls Tryd.prog 43 #[.pointer (some ⟨B, 0, none⟩), .string (bs s)] w fun e w' => e = .returned (.tuple #[.int .i64 (posB ks s), .bool (decide (s ∈ ks)), .int .i64 0]) ∧ Below w.heap.size w w' := by
  obtain ⟨h1, h2, h3, h4, sv, mo, hB, hr, hsv, hm⟩ := h
  refine look_of B mo (bs s) _ _ w (cell_block hB 1 _ rfl) fun w' hb => ?_
  rcases hm with ⟨rfl, rfl⟩ | ⟨mb, D, rfl, hO, hmap, hD⟩
  · rw [look_nil (w := w') true law9 Tryd.underlying95 (zero3 _) (keyS s hs)]
    simp [posB]
  · have hmap' := map_off (O := fun _ => False) hmap (off_below hb) (fun h => h)
    obtain ⟨v, ps, hrun, hv⟩ := hmap'.look_ok law9 Tryd.underlying95 (zero3 _) (plainElem_int Tryd.underlying3 (by decide)) (keyS s hs)
    obtain ⟨c, rfl, hc, hwc⟩ := plainElem_int_inv Tryd.underlying3 hv
    rw [hrun]
    have := (hD s).2
    simp only [Prod.mk.injEq] at hc
    rw [hc.1] at this
    rw [(hD s).1]
    simp only [DataW.lit.injEq, Lit.int.injEq, true_and] at this
    rw [this]

set_option maxHeartbeats 1000000 in
set_option maxRecDepth 100000 in
theorem len_any (B : Nat) (O : Nat → Prop) (ks : List (List UInt8)) (w : World) (h : Idx w B O ks) :
    Calls Tryd.prog 81 #[.pointer (some ⟨B, 0, none⟩)] w fun e w' => e = .returned (.int .i64 ks.length) ∧ w' = w := by
  obtain ⟨h1, h2, h3, h4, sv, mo, hB, hr, hsv, hm⟩ := h
  obtain ⟨a, c, rfl⟩ := own_form hr
  have c0 := cell_block hB 0 _ rfl
  clear hB hr hm h1 h2 h3 h4 hsv
  go_enter Tryd.func81, Tryd.ntmps81
  go_wp2
  go_ret
  exact ⟨rfl, rfl⟩

def keyAt (ks : List (List UInt8)) (n : Int) : List UInt8 := if 0 ≤ n ∧ n < ks.length then ks.getD n.toNat [] else []
def keyErr (ks : List (List UInt8)) (n : Int) : Int := if 0 ≤ n ∧ n < ks.length then 0 else 8
end Go.Proofs.YtdpphjedjhjdgaaDoor

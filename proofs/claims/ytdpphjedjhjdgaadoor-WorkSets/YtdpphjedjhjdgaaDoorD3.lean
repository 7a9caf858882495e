/- does: what a call of it lays for itself; what is asked of sets, and of the document's. -/
import Derived.Test.YtdpphjedjhjdgaaDoorD2
import Derived.Lib.Strings
import Derived.WideShapes
namespace Go.Proofs.YtdpphjedjhjdgaaDoor
open Go.RowKit Go.Maps

/-- What a call of does has laid for itself: the act, p and q. -/
structure Laid3 (W W1 : World) (act : Array Value) (x y : Value) (ba bp bq : Nat) : Prop where
  act : W1.heap[ba]? = some (.cells act 37 (0, 0))
  p : W1.heap[bp]? = some (.cells #[x] 32 (0, 0))
  q : W1.heap[bq]? = some (.cells #[y] 32 (0, 0))
  below : Below W.heap.size W W1
  la : W.heap.size ≤ ba
  lp : W.heap.size ≤ bp
  lq : W.heap.size ≤ bq
theorem laid_pq {W W1 : World} {act : Array Value} (ha : W1.heap[W.heap.size]? = some (.cells act 37 (0, 0))) (hb : Below W.heap.size W W1) (x y : Value) : Laid3 W ((W1.alloc (.cells #[x] 32)).alloc (.cells #[y] 32)).drew.drew act x y W.heap.size W1.heap.size (W1.heap.size + 1) := by
  have h1 := lt_of_some ha
  have hs := hb.size
  have b1 : Below W1.heap.size W1 ((W1.alloc (.cells #[x] 32)).alloc (.cells #[y] 32)) := ((Below.refl _ _).alloc (Nat.le_refl _) _).alloc (by simp) _
  have e2 := (MapKept.heap_alloc (W1.alloc (.cells #[x] 32)) (.cells #[y] 32)).1
  rw [World.size_alloc] at e2
  exact ⟨(b1.block _ h1).trans ha, (Below.heap_alloc (W1.alloc (.cells #[x] 32)) (.cells #[y] 32) _ (by simp)).trans (MapKept.heap_alloc W1 (.cells #[x] 32)).1, e2, (hb.trans (b1.mono hs)).drew.drew, Nat.le_refl _, hs, by omega⟩
theorem laid_qp {W W1 : World} {act : Array Value} (ha : W1.heap[W.heap.size]? = some (.cells act 37 (0, 0))) (hb : Below W.heap.size W W1) (x y : Value) : Laid3 W ((W1.alloc (.cells #[y] 32)).alloc (.cells #[x] 32)).drew.drew act x y W.heap.size (W1.heap.size + 1) W1.heap.size := by
  obtain ⟨h1, h2, h3, h4, h5, h6, h7⟩ := laid_pq ha hb y x
  exact ⟨h1, h3, h2, h4, h5, h7, h6⟩

theorem below_q {w w' : World} {q : Nat} (h : w' = w.drewN q) : Below w.heap.size w w' := by
  rw [h]; exact below_dN (Below.refl _ _) q
theorem dec_has {bl : List Blk} (hb : Good bl) (n : Int) : decide (n ∈ allL bl) = hasB bl n := by
  cases h : hasB bl n
  · rw [decide_eq_false_iff_not, mem_all hb.up hb.fit, h]; decide
  · rw [decide_eq_true_iff, mem_all hb.up hb.fit, h]
theorem meets_ref {bl cl : List Blk} (hb : Good bl) (hc : Good cl) : ((allL bl).any fun m => decide (m ∈ allL cl)) = !apartB bl cl := by
  rw [meets_all hb hc]
  congr 1
  exact funext fun m => dec_has hc m
theorem within_ref {bl cl : List Blk} (hb : Good bl) (hc : Good cl) : ((allL bl).all fun m => decide (m ∈ allL cl)) = withinB bl cl := by
  rw [show (fun m => decide (m ∈ allL cl)) = hasB cl from funext fun m => dec_has hc m]
  cases h : withinB bl cl
  · rw [List.all_eq_false]
    have hn : ¬ ∀ m, hasB bl m = true → hasB cl m = true := fun hx => by rw [(within_has hb.up hb.fit hc.fit).2 hx] at h; cases h
    simp only [Classical.not_forall] at hn
    obtain ⟨m, h1, h2⟩ := hn
    exact ⟨m, (mem_all hb.up hb.fit m).2 h1, h2⟩
  · rw [List.all_eq_true]
    exact fun m hm => (within_has hb.up hb.fit hc.fit).1 h m ((mem_all hb.up hb.fit m).1 hm)
theorem all_eq {bl cl : List Blk} (hb : Good bl) (hc : Good cl) : allL bl = allL cl ↔ bl = cl :=
  ⟨fun h => (blocks_eq hb.up hb.fit hb.full hc.up hc.fit hc.full).2 fun m => by rw [← dec_has hb, ← dec_has hc, h], fun h => by rw [h]⟩
theorem same_ref {bl cl : List Blk} (hb : Good bl) (hc : Good cl) : decide (allL bl = allL cl) = (decide ((cnt 1048576 (hasB bl) : Int) = cnt 1048576 (hasB cl)) && withinB bl cl) := by
  rw [within_same hb hc, within_both hb hc]
  exact decide_eq_decide.2 (all_eq hb hc)
theorem str_same (a b : ByteArray) : decide (a = b) = (a.toList == b.toList) := by
  by_cases e : a = b
  · subst e; simp
  · rw [decide_eq_false e]
    symm
    rw [beq_eq_false_iff_ne]
    intro h
    rw [Lib.toList_data, Lib.toList_data] at h
    exact e (Go.WideShapes.bytes_inj h)
theorem key_ref {bl cl : List Blk} (hb : Good bl) (hc : Good cl) : decide (allL bl = allL cl) = ((strOfNums (keyL bl)).toList == (strOfNums (keyL cl)).toList) := by
  rw [← str_same]
  exact decide_eq_decide.2 ((all_eq hb hc).trans (key_eq hb.fit hc.fit).symm)
end Go.Proofs.YtdpphjedjhjdgaaDoor

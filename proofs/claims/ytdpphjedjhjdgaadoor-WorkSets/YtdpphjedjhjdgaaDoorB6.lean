/- Sets: a whole block laid in. -/
import Derived.Test.YtdpphjedjhjdgaaDoorT7
import Derived.Test.YtdpphjedjhjdgaaDoorBB
namespace Go.Proofs.YtdpphjedjhjdgaaDoor
open Go.RowKit Go.Maps

theorem pop_le (k n : Nat) : pop k n ≤ k := by
  unfold pop
  have := List.length_filter_le (fun i => n.testBit i) (List.range k)
  simpa using this
/-- A set whose bits are the old ones, and those of a block. -/
theorem has_or {a b : List Blk} (ha : FitB a) (hb : FitB b) (t : Int) (X : Nat) (h1 : ∀ s, s ≠ t → bitsB b s = bitsB a s) (h2 : (bitsB b t).toNat = (bitsB a t).toNat ||| X) (m : Int) :
    hasB b m = (hasB a m || (decide (m / 64 = t) && X.testBit (m % 64).toNat)) := by
  rw [has_bit hb, has_bit ha]
  by_cases hd : m / 64 = t
  · rw [hd, h2, Nat.testBit_or]
    simp
  · rw [h1 _ hd]
    simp [hd]
/-- How many numbers of a block a set has not. -/
def newB (bl : List Blk) (t : Int) (X : Nat) : Int := (pop 64 (notN X (bitsB bl t).toNat) : Int)
theorem newB_le (bl : List Blk) (t : Int) (X : Nat) : 0 ≤ newB bl t X ∧ newB bl t X ≤ 64 := by
  have := pop_le 64 (notN X (bitsB bl t).toNat)
  unfold newB
  omega
theorem ones_new (bl : List Blk) (t : Int) (X Y : Nat) (hY : bitsB bl t = (Y : Int)) (w : World) :
    Calls Tryd.prog 48 #[.int .u64 (bits .andNot .u64 (X : Int) (Y : Int))] w fun e w' => e = .returned (.int .i64 (newB bl t X)) ∧ w' = w := by
  have := ones_any (bits .andNot .u64 (X : Int) (Y : Int)) w
  unfold newB
  rw [hY, Int.toNat_natCast]
  rw [not_u64] at this ⊢
  rw [ones_pop _ (notN_lt X Y)] at this
  exact this

theorem lay_blk (B : Nat) (O : Nat → Prop) (bl : List Blk) (sz t : Int) (X : Nat) (ht : 0 ≤ t ∧ t < 16384) (hX : X < 2 ^ 64) (hX0 : X ≠ 0) (hsz : 0 ≤ sz ∧ sz ≤ 1099511627776) (w : World) (h : SetOk w B O bl sz) :
    Calls Tryd.prog 34 #[.pointer (some ⟨B, 0, none⟩), .agg #[.int .i64 t, .int .u64 (X : Int)]] w fun e w' => e = .returned (.int .i64 (newB bl t X)) ∧ Off O w w' ∧
      ∃ bl' O', SetOk w' B O' bl' (sz + newB bl t X) ∧ (∀ k, O' k → O k ∨ w.heap.size ≤ k) ∧ ∀ m, hasB bl' m = (hasB bl m || (decide (m / 64 = t) && X.testBit (m % 64).toNat)) := by
  have hup := h.is.up
  have hfit := h.fit
  cases hat : isAt bl t
  · have hb0 : bitsB bl t = 0 := by unfold bitsB; rw [hat]; rfl
    have hlen := fit_short hup hfit
    have ho : bits .or .u64 0 (X : Int) = (X : Int) := by
      have := or_u64 0 X (by decide) hX
      rw [Nat.zero_or] at this
      exact this
    have key := lay_new B O bl sz t (X : Int) (newB bl t X) hat (by omega) hsz (newB_le _ _ _) (fun w => ones_new bl t X 0 hb0 w) w h.is
    rw [ho] at key
    have hri := rises_ins hup hat (X : Int)
    have hfi := fit_ins hfit (loc bl t) (t, (X : Int)) ⟨nat_fit hX, ht⟩
    refine key.mono fun e w' ⟨e1, e2, e3⟩ => ⟨e1, e2, _, _, ⟨e3, hfi, full_ins h.full _ _ (show (X : Int) ≠ 0 by omega)⟩, fun k hk => hk.imp id (fun h => h.1), fun m => ?_⟩
    refine has_or hfit hfi t X (fun s hs => bitsB_same hri hup (fun y => mem_ins _ _ _ hs)) ?_ m
    rw [bitsB_mem hri (show (t, (X : Int)) ∈ _ by unfold insB; simp), hb0, Int.toNat_natCast]
    simp
  · obtain ⟨hl, he⟩ := (isAt_iff hup t).1 hat
    have hmem : bl.getD (loc bl t) (0, 0) ∈ bl := by rw [getD_of _ _ hl]; exact List.getElem_mem _
    have hb0 : bitsB bl t = (bl.getD (loc bl t) (0, 0)).2 := by unfold bitsB; rw [hat]; rfl
    obtain ⟨Y, hY⟩ := Int.eq_ofNat_of_zero_le (hfit _ hmem).1.1
    have hY2 : Y < 2 ^ 64 := by have := (hfit _ hmem).1.2; rw [hY] at this; omega
    have ho : bits .or .u64 (bl.getD (loc bl t) (0, 0)).2 (X : Int) = ((Y ||| X : Nat) : Int) := by rw [hY]; exact or_u64 Y X hY2 hX
    have key := lay_there B O bl sz t (X : Int) (newB bl t X) hat hsz (newB_le _ _ _) (fun w => by
      rw [hY]
      exact ones_new bl t X Y (hb0.trans hY) w) w h.is
    rw [ho, he] at key
    have hor : Y ||| X < 2 ^ 64 := Nat.or_lt_two_pow hY2 hX
    have hfi := fit_set hfit (loc bl t) (t, ((Y ||| X : Nat) : Int)) ⟨nat_fit hor, ht⟩
    have hri : Rises (bl.set (loc bl t) (t, ((Y ||| X : Nat) : Int))) := by have := rises_set hup (loc bl t) ((Y ||| X : Nat) : Int); rw [he] at this; exact this
    refine key.mono fun e w' ⟨e1, e2, e3⟩ => ⟨e1, e2, _, _, ⟨e3, hfi, full_set h.full _ _ (or_full hX0)⟩, fun k hk => .inl hk, fun m => ?_⟩
    refine has_or hfit hfi t X (fun s hs => bitsB_same hri hup (fun y => mem_set hl _ hs he)) ?_ m
    rw [bitsB_mem hri (show (t, ((Y ||| X : Nat) : Int)) ∈ _ from List.mem_set hl _), hb0, hY, Int.toNat_natCast, Int.toNat_natCast]
end Go.Proofs.YtdpphjedjhjdgaaDoor

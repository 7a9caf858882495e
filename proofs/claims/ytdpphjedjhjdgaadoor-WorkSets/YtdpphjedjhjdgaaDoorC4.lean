/- What the law of algebra asks of sets. -/
import Derived.Test.YtdpphjedjhjdgaaDoorC3
import Derived.Test.YtdpphjedjhjdgaaDoorF3
namespace Go.Proofs.YtdpphjedjhjdgaaDoor
open Go.RowKit Go.Maps

/-- Blocks as sets have them. -/
structure Good (bl : List Blk) : Prop where
  up : Rises bl
  fit : FitB bl
  full : FullB bl
theorem ok_good {w : World} {B : Nat} {O : Nat → Prop} {bl : List Blk} {sz : Int} (h : SetOk w B O bl sz) : Good bl := ⟨h.is.up, h.fit, h.full⟩
theorem within_same {bl cl : List Blk} (hb : Good bl) (hc : Good cl) : (decide ((cnt 1048576 (hasB bl) : Int) = cnt 1048576 (hasB cl)) && withinB bl cl) = (withinB bl cl && withinB cl bl) := by
  cases h : withinB bl cl
  · simp
  · have hw := (within_has hb.up hb.fit hc.fit).1 h
    rw [Bool.and_true, Bool.true_and]
    cases h2 : withinB cl bl
    · rw [decide_eq_false_iff_not]
      intro e
      have := (within_has hc.up hc.fit hb.fit).2 (same_has hc.up hc.fit hw (by exact_mod_cast e))
      rw [this] at h2; cases h2
    · have hw2 := (within_has hc.up hc.fit hb.fit).1 h2
      rw [decide_eq_true_iff]
      have : hasB bl = hasB cl := funext fun m => by
        cases h3 : hasB bl m
        · cases h4 : hasB cl m
          · rfl
          · rw [hw2 m h4] at h3; cases h3
        · rw [hw m h3]
      rw [this]
theorem within_both {bl cl : List Blk} (hb : Good bl) (hc : Good cl) : (withinB bl cl && withinB cl bl) = decide (bl = cl) := by
  cases h : decide (bl = cl)
  · have hne := of_decide_eq_false h
    cases h2 : (withinB bl cl && withinB cl bl)
    · rfl
    · rw [Bool.and_eq_true] at h2
      have h3 := (within_has hb.up hb.fit hc.fit).1 h2.1
      have h4 := (within_has hc.up hc.fit hb.fit).1 h2.2
      exact absurd ((blocks_eq hb.up hb.fit hb.full hc.up hc.fit hc.full).2 fun m => by
        cases h5 : hasB bl m
        · cases h6 : hasB cl m
          · rfl
          · rw [h4 m h6] at h5; cases h5
        · rw [h3 m h5]) hne
  · obtain rfl := of_decide_eq_true h
    rw [Bool.and_eq_true]
    exact ⟨(within_has hb.up hb.fit hc.fit).2 fun _ h => h, (within_has hb.up hb.fit hc.fit).2 fun _ h => h⟩
theorem meets_all {bl cl : List Blk} (hb : Good bl) (hc : Good cl) : (!apartB bl cl) = (allL bl).any (hasB cl) := by
  cases h : (allL bl).any (hasB cl)
  · have : apartB bl cl = true := (apart_has hb.up hb.fit hc.fit).2 fun m hm => by
      have h1 := List.any_eq_false.1 h m ((mem_all hb.up hb.fit m).2 hm)
      simpa using h1
    rw [this]; rfl
  · obtain ⟨m, hm, hm2⟩ := List.any_eq_true.1 h
    cases h2 : apartB bl cl
    · rfl
    · have := (apart_has hb.up hb.fit hc.fit).1 h2 m ((mem_all hb.up hb.fit m).1 hm)
      rw [this] at hm2; cases hm2
theorem apart_sym {bl cl : List Blk} (hb : Good bl) (hc : Good cl) : apartB bl cl = apartB cl bl := by
  have key : ∀ {a b : List Blk}, Good a → Good b → apartB a b = true → apartB b a = true := fun {a b} ha hb h => (apart_has hb.up hb.fit ha.fit).2 fun m hm => by
    cases h2 : hasB a m
    · rfl
    · rw [(apart_has ha.up ha.fit hb.fit).1 h m h2] at hm; cases hm
  cases h : apartB bl cl
  · cases h2 : apartB cl bl
    · rfl
    · rw [key hc hb h2] at h; cases h
  · exact (key hb hc h).symm
/-- What is asked of x, y and of x joined with y. -/
structure AlgF (bl cl zl : List Blk) (s1 s2 j : Int) : Prop where
  has : ∀ n, hasB zl n = (hasB bl n || hasB cl n)
  xz : withinB bl zl = true
  yz : withinB cl zl = true
  meet : (!apartB bl cl) = (allL bl).any (hasB cl)
  sym : (!apartB cl bl) = (allL bl).any (hasB cl)
  same : (decide (s1 = s2) && withinB bl cl) = (withinB bl cl && withinB cl bl)
  key : (decide (s1 = s1 + j) && withinB bl zl) = decide (strOfNums (keyL bl) = strOfNums (keyL zl))
theorem alg_facts {bl cl zl : List Blk} (hb : Good bl) (hc : Good cl) (hz : Good zl) {s1 s2 j : Int} (h1 : s1 = (cnt 1048576 (hasB bl) : Int)) (h2 : s2 = (cnt 1048576 (hasB cl) : Int)) (hj : j = (joinS (hasB bl) cl).2) (hh : ∀ m, hasB zl m = (joinS (hasB bl) cl).1 m) : AlgF bl cl zl s1 s2 j := by
  have hhas : ∀ n, hasB zl n = (hasB bl n || hasB cl n) := fun n => by rw [hh, join_has _ hc.up hc.fit]
  have hxz : withinB bl zl = true := (within_has hb.up hb.fit hz.fit).2 fun m hm => by rw [hhas, hm]; rfl
  have hcz : s1 + j = (cnt 1048576 (hasB zl) : Int) := by
    rw [h1, hj, join_cnt _ hc.fit, show hasB zl = (joinS (hasB bl) cl).1 from funext hh]
    omega
  refine ⟨hhas, hxz, (within_has hc.up hc.fit hz.fit).2 fun m hm => by rw [hhas, hm]; simp, meets_all hb hc, ?_, ?_, ?_⟩
  · rw [← apart_sym hb hc]; exact meets_all hb hc
  · rw [h1, h2]; exact within_same hb hc
  · rw [hcz, h1, within_same hb hz, within_both hb hz]
    exact decide_eq_decide.2 (key_eq hb.fit hz.fit).symm
end Go.Proofs.YtdpphjedjhjdgaaDoor

/- What RunesOwn calls, at two sets that lie there. -/
import Derived.Test.YtkbhdojgdgiggabDoorQF
import Derived.Test.YtkbhdojgdgiggabDoorV10
namespace Go.Proofs.YtkbhdojgdgiggabDoor
open Go.RowKit

theorem tot2 {l m : List Rng} (h : chkAll [l, m] = 0) : tot [l, m] ≤ 4096 := by
  have h1 := (checkV_zero (chkAll_sets h l (by simp))).2
  have h2 := (checkV_zero (chkAll_sets h m (by simp))).2
  simp only [tot, List.map_cons, List.map_nil, List.sum_cons, List.sum_nil]; omega
theorem tot1 {l : List Rng} (h : chkAll [l] = 0) : tot [l] ≤ 2048 := by
  have h1 := (checkV_zero (chkAll_sets h l (by simp))).2
  simp only [tot, List.map_cons, List.map_nil, List.sum_cons, List.sum_nil]; omega
theorem len2 {l m : List Rng} (hl : l.length ≤ 281474976710656) (hm : m.length ≤ 281474976710656) : ∀ s ∈ [l, m], s.length ≤ 281474976710656 := fun s hs => by
  simp only [List.mem_cons, List.not_mem_nil, or_false] at hs
  rcases hs with rfl | rfl <;> assumption
theorem setsC_one {w : World} {a : Option Addr} {ca : Nat} {l : List Rng} (h1 : RowAt w a l) (n1 : a = none → ca = 0) : SetsC (w.alloc (.cells #[.slice a l.length ca] 22)) (some ⟨w.heap.size, 0, none⟩) [l] := by
  refine .inr ⟨w.heap.size, 0, rfl, by simp, fun i hi => ?_⟩
  obtain rfl : i = 0 := by simp at hi; omega
  exact ⟨a, ca, World.cell?_alloc_mark w #[.slice a l.length ca] 22 (0, 0) 0, rowAt_below h1 (Nat.le_refl _) ((Below.refl _ _).alloc (Nat.le_refl _) _), n1⟩

theorem uni2 {l m U : List Rng} {uc : Int} (hU : U = uniL [l, m]) (hc : uc = uniC [l, m]) (hl : l.length ≤ 281474976710656) (hm : m.length ≤ 281474976710656) (a1 a2 : Option Addr) (c1 c2 : Nat) (n1 : a1 = none → c1 = 0) (n2 : a2 = none → c2 = 0) (W : World) (hr1 : RowAt W a1 l) (hr2 : RowAt W a2 m) :
    Calls Tryd.prog 8 #[.slice (some ⟨W.heap.size, 0, none⟩) 2 2] (W.alloc (.cells #[.slice a1 l.length c1, .slice a2 m.length c2] 22)) fun e w' => ∃ va vc, e = .returned (.tuple #[.slice va U.length vc, .int .i64 uc]) ∧ w'.ownsRow (W.heap.size + 1) 53 2 (.slice va U.length vc) U.length (flat U) ∧ Below W.heap.size W w' := by
  subst hU hc
  refine (union_any (some ⟨W.heap.size, 0, none⟩) 2 [l, m] (by simp) (len2 hl hm) (fun h => by have := tot2 h; omega) _ (setsC_two hr1 hr2 n1 n2)).mono ?_
  rintro e w' ⟨v, he, ho, hb⟩
  obtain ⟨va, vc, rfl⟩ := ownsRow_slice ho
  simp only [World.size_alloc] at ho hb
  exact ⟨va, vc, he, ho, ((Below.refl _ W).alloc (Nat.le_refl _) _).trans (below_le hb (by omega))⟩
theorem uni1 {l U : List Rng} {uc : Int} (hU : U = uniL [l]) (hc : uc = uniC [l]) (hl : l.length ≤ 281474976710656) (a1 : Option Addr) (c1 : Nat) (n1 : a1 = none → c1 = 0) (W : World) (hr1 : RowAt W a1 l) :
    Calls Tryd.prog 8 #[.slice (some ⟨W.heap.size, 0, none⟩) 1 1] (W.alloc (.cells #[.slice a1 l.length c1] 22)) fun e w' => ∃ va vc, e = .returned (.tuple #[.slice va U.length vc, .int .i64 uc]) ∧ w'.ownsRow (W.heap.size + 1) 53 2 (.slice va U.length vc) U.length (flat U) ∧ Below W.heap.size W w' := by
  subst hU hc
  refine (union_any (some ⟨W.heap.size, 0, none⟩) 1 [l] (by simp) (fun s hs => by simp at hs; subst hs; exact hl) (fun h => by have := tot1 h; omega) _ (setsC_one hr1 n1)).mono ?_
  rintro e w' ⟨v, he, ho, hb⟩
  obtain ⟨va, vc, rfl⟩ := ownsRow_slice ho
  simp only [World.size_alloc] at ho hb
  exact ⟨va, vc, he, ho, ((Below.refl _ W).alloc (Nat.le_refl _) _).trans (below_le hb (by omega))⟩
theorem runi2 {l m U : List Rng} {uc : Int} (hU : U = uniL [l, m]) (hc : uc = uniC [l, m]) (hl : l.length ≤ 281474976710656) (hm : m.length ≤ 281474976710656) (a1 a2 : Option Addr) (c1 c2 : Nat) (n1 : a1 = none → c1 = 0) (n2 : a2 = none → c2 = 0) (W : World) (hr1 : RowAt W a1 l) (hr2 : RowAt W a2 m) :
    Calls Tryd.prog 25 #[.slice (some ⟨W.heap.size, 0, none⟩) 2 2] (W.alloc (.cells #[.slice a1 l.length c1, .slice a2 m.length c2] 22)) fun e w' => ∃ va vc, e = .returned (.tuple #[.slice va U.length vc, .int .i64 uc]) ∧ w'.ownsRow (W.heap.size + 1) 53 2 (.slice va U.length vc) U.length (flat U) ∧ Below W.heap.size W w' := by
  subst hU hc
  refine (rUnion_any (some ⟨W.heap.size, 0, none⟩) 2 [l, m] (by simp) (len2 hl hm) (fun h => by have := tot2 h; omega) _ (setsC_at (setsC_two hr1 hr2 n1 n2))).mono ?_
  rintro e w' ⟨v, he, ho, hb⟩
  obtain ⟨va, vc, rfl⟩ := ownsRow_slice ho
  simp only [World.size_alloc] at ho hb
  exact ⟨va, vc, he, ho, ((Below.refl _ W).alloc (Nat.le_refl _) _).trans (below_le hb (by omega))⟩
theorem cut2 {l m : List Rng} {C : List Int} {cc : Int} (hC : C = cutR [l, m]) (hc : cc = cutC [l, m]) (hl : l.length ≤ 281474976710656) (hm : m.length ≤ 281474976710656) (a1 a2 : Option Addr) (c1 c2 : Nat) (n1 : a1 = none → c1 = 0) (n2 : a2 = none → c2 = 0) (W : World) (hr1 : RowAt W a1 l) (hr2 : RowAt W a2 m) :
    Calls Tryd.prog 17 #[.slice (some ⟨W.heap.size, 0, none⟩) 2 2] (W.alloc (.cells #[.slice a1 l.length c1, .slice a2 m.length c2] 22)) fun e w' => ∃ va vc, e = .returned (.tuple #[.slice va C.length vc, .int .i64 cc]) ∧ w'.ownsRow (W.heap.size + 1) 21 1 (.slice va C.length vc) C.length (rc C) ∧ Below W.heap.size W w' := by
  subst hC hc
  refine (cuts_any (some ⟨W.heap.size, 0, none⟩) 2 [l, m] (by simp) (len2 hl hm) (fun h => by have := tot2 h; omega) _ (setsC_at (setsC_two hr1 hr2 n1 n2))).mono ?_
  rintro e w' ⟨v, he, ho, hb⟩
  obtain ⟨va, vc, rfl⟩ := ownsRow_slice ho
  simp only [World.size_alloc] at ho hb
  exact ⟨va, vc, he, ho, ((Below.refl _ W).alloc (Nat.le_refl _) _).trans (below_le hb (by omega))⟩
theorem rcut2 {l m : List Rng} {C : List Int} {cc : Int} (hC : C = cutR [l, m]) (hc : cc = cutC [l, m]) (hl : l.length ≤ 281474976710656) (hm : m.length ≤ 281474976710656) (a1 a2 : Option Addr) (c1 c2 : Nat) (n1 : a1 = none → c1 = 0) (n2 : a2 = none → c2 = 0) (W : World) (hr1 : RowAt W a1 l) (hr2 : RowAt W a2 m) :
    Calls Tryd.prog 26 #[.slice (some ⟨W.heap.size, 0, none⟩) 2 2] (W.alloc (.cells #[.slice a1 l.length c1, .slice a2 m.length c2] 22)) fun e w' => ∃ va vc, e = .returned (.tuple #[.slice va C.length vc, .int .i64 cc]) ∧ w'.ownsRow (W.heap.size + 1) 21 1 (.slice va C.length vc) C.length (rc C) ∧ Below W.heap.size W w' := by
  subst hC hc
  refine (rCuts_any (some ⟨W.heap.size, 0, none⟩) 2 [l, m] (by simp) (len2 hl hm) (fun h => by have := tot2 h; omega) _ (setsC_at (setsC_two hr1 hr2 n1 n2))).mono ?_
  rintro e w' ⟨v, he, ho, hb⟩
  obtain ⟨va, vc, rfl⟩ := ownsRow_slice ho
  simp only [World.size_alloc] at ho hb
  exact ⟨va, vc, he, ho, ((Below.refl _ W).alloc (Nat.le_refl _) _).trans (below_le hb (by omega))⟩
/-- Stores into a row of one's own: what lies below it stays. -/
theorem grown_t {A B C : World} {row : Option Nat} (h : A.grownBy B row) (k : B.grownBy C row) : A.grownBy C row :=
  ⟨k.os.trans h.os, k.tape.trans h.tape, k.output.trans h.output, Nat.le_trans h.size k.size, fun j hj hn => (k.block j (Nat.lt_of_lt_of_le hj h.size) hn).trans (h.block j hj hn)⟩
theorem grown_refl (A : World) (row : Option Nat) : A.grownBy A row := ⟨rfl, rfl, rfl, Nat.le_refl _, fun _ _ _ => rfl⟩
theorem grown_drew {A B : World} {row : Option Nat} (q : Nat) (h : A.grownBy B row) : A.grownBy (B.drewN q) row := ⟨h.os, h.tape, h.output, h.size, h.block⟩
end Go.Proofs.YtkbhdojgdgiggabDoor

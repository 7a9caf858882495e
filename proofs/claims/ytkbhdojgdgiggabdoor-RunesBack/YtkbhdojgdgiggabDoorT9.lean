/- The readers: readSet at what Text writes. -/
import Derived.Test.YtkbhdojgdgiggabDoorT8
import Derived.Test.YtkbhdojgdgiggabDoorV14
namespace Go.Proofs.YtkbhdojgdgiggabDoor
open Go.RowKit Go.Lib Go.Sort

theorem FB.alloc {c : Nat} {W : World} (h : FB c W) (o : Obj) : FB c (W.alloc o) := by
  have hlt := h.lt
  show (W.heap.push o)[c]? = _
  rw [Array.getElem?_push_lt hlt, ← Array.getElem?_eq_getElem hlt]
  exact h
theorem FB.grown {c : Nat} {W W' : World} (h : FB c W) {row : Option Nat} (hg : W.grownBy W' row) (hne : some c ≠ row) : FB c W' := (hg.block c h.lt hne).trans h
/-- From a place on, ranges are read up to a closing bracket. -/
inductive Rds (s : ByteArray) : Nat → List Rng → Nat → Prop
  | done {i : Nat} : gb s i = 93 → Rds s i [] i
  | step {i n e : Nat} {x y : Int} {l : List Rng} : gb s i ≠ 93 → gb s i ≠ 32 → (∀ w, Calls Tryd.prog 55 #[.string s, .int .i64 i] w fun e w' => e = .returned (RangeR x y n) ∧ Below w.heap.size w w') → i < n → Rds s n l e → Rds s i ((x, y) :: l) e
theorem Rds.le {s : ByteArray} {i e : Nat} {l : List Rng} (h : Rds s i l e) : i ≤ e ∧ e < s.size := by
  induction h with
  | done h => exact ⟨Nat.le_refl _, gb_pos (by rw [h]; omega)⟩
  | step _ _ _ h1 _ ih => omega
theorem Rds.inv {s : ByteArray} {i e : Nat} {l : List Rng} (h : Rds s i l e) : (l = [] ∧ e = i ∧ gb s i = 93) ∨ ∃ (x y : Int) (n : Nat) (m : List Rng), l = (x, y) :: m ∧ gb s i ≠ 93 ∧ gb s i ≠ 32 ∧ (∀ w, Calls Tryd.prog 55 #[.string s, .int .i64 i] w fun e w' => e = .returned (RangeR x y n) ∧ Below w.heap.size w w') ∧ i < n ∧ Rds s n m e := by
  cases h with
  | done h => exact .inl ⟨rfl, rfl, h⟩
  | step a b c d f => exact .inr ⟨_, _, _, _, rfl, a, b, c, d, f⟩
set_option maxHeartbeats 1000000 in
set_option maxRecDepth 100000 in
theorem readSet_ok (s : ByteArray) (i e : Nat) (L : List Rng) (hs : s.size < 4611686018427387904) (h0 : gb s i = 91) (h1 : gb s (i + 1) ≠ 94) (hR : Rds s (i + 1) L e) (hL : L.length ≤ 2048) (hall : ∀ x ∈ L, isR x = true) (w : World) :
    Calls Tryd.prog 40 #[.string s, .int .i64 i] w fun q w' => ∃ v, q = .returned (.tuple #[v, .int .i64 (e + 1 : Nat), .agg #[.int .i64 0, .int .i64 0]]) ∧ w'.ownsRow w.heap.size 53 2 v (mergedL L).length (flat (mergedL L)) ∧ Below w.heap.size w w' := by
  obtain ⟨i0, hi0, hz0, hz1, hz2⟩ := info_parts hrange
  have HI := hide (fun i b (hb : 0 ≤ b) => isByte_any s i b hb)
  have H0 := hide h0; have H1 := hide h1; have HR := hide hR
  have hi : i < s.size := gb_pos (by rw [h0]; omega)
  clear h0 h1 hR
  go_enter Tryd.func40, Tryd.ntmps40
  go_wp2_with fail
  refine (unhide HI i 91 (by omega) _).mono ?_
  rintro q w' ⟨rfl, hw⟩
  obtain rfl := hw.symm
  rw [unhide H0]
  go_wp2_with fail
  refine (unhide HI (i + 1) 94 (by omega) _).mono ?_
  rintro q w' ⟨rfl, hw⟩
  obtain rfl := hw.symm
  rw [show (gb s (i + 1) == 94) = false by simpa using unhide H1]
  go_wp2
  go_loopw [1, 8] (fun x u wr => ∃ (j : Nat) (acc rest : List Rng), x = .int .i64 j ∧ wr.ownsRow (w.heap.size + 1) 53 2 u acc.length (flat acc) ∧ Rds s j rest e ∧ acc ++ rest = L ∧ FB w.heap.size wr ∧ Below w.heap.size w wr) (fun x _ _ => e - (intOf x).toNat)
  case atStart => exact ⟨i + 1, [], L, by go_num, ⟨rfl, .inl ⟨rfl, rfl⟩⟩, unhide HR, rfl, FB.start w, (Below.refl _ _).alloc (Nat.le_refl _) _⟩
  case round =>
    obtain ⟨j, acc, rest, rfl, hown, hrd, hcat, hfb, hbel⟩ := hrel
    have hle := hrd.le
    have hsz := hfb.lt
    obtain ⟨va, vcap, rfl⟩ := ownsRow_slice hown
    have Hown := hide hown; have Hcat := hide hcat; have Hfb := hide hfb; have Hbel := hide hbel
    clear hown hcat hfb hbel
    rcases hrd.inv with ⟨rfl, hej, h93⟩ | ⟨x, y, n, m, rfl, h93, h32, hc, hlt, hrd2⟩
    · clear hrd
      go_wp2_with fail
      refine (unhide HI j 93 (by omega) _).mono ?_
      rintro q w' ⟨rfl, hw⟩
      obtain rfl := hw.symm
      rw [h93]
      have hLe : acc = L := by have := unhide Hcat; simpa using this
      subst hLe
      have HM := hide (merged_any va vcap acc (by omega) hall wr (rowAt_own (unhide Hown)))
      go_wp2_with fail
      refine (unhide HM).mono ?_
      rintro q w1 ⟨v, rfl, hown1, hb1⟩
      have hfb := (unhide Hfb).below hb1 hsz
      have f0 := hfb.cell0; have f1 := hfb.cell1; have z0 := hfb.fz 0; have z1 := hfb.fz 1; have q0 := hfb.set 0 (by omega); have q1 := hfb.set 1 (by omega)
      have Hown1 := hide (ownsRow_le hown1 (unhide Hbel).size)
      have HB1 := hide ((unhide Hbel).trans (below_le hb1 (unhide Hbel).size))
      obtain ⟨va1, vc1, rfl⟩ := ownsRow_slice hown1
      clear hown1 hb1 hfb HM
      go_wp2
      refine bodyPost_ret (v := .tuple #[.slice va1 (mergedL acc).length vc1, .int .i64 (e + 1 : Nat), .agg #[.int .i64 0, .int .i64 0]]) (by simp [results, Tryd.results40, go_sem, f0, f1]; omega) rfl ⟨_, rfl, unhide Hown1, unhide HB1⟩
    · have hc' := hide hc; have Hrd := hide hrd2
      have hlen : acc.length ≤ 2048 := by rw [← unhide Hcat] at hL; simp at hL; omega
      clear hc hrd hrd2
      go_wp2_with fail
      refine (unhide HI j 93 (by omega) _).mono ?_
      rintro q w' ⟨rfl, hw⟩
      obtain rfl := hw.symm
      rw [show (gb s j == 93) = false by simpa using h93]
      go_wp2_with fail
      refine (unhide HI j 32 (by omega) _).mono ?_
      rintro q w' ⟨rfl, hw⟩
      obtain rfl := hw.symm
      rw [show (gb s j == 32) = false by simpa using h32]
      go_wp2_with fail
      refine (unhide hc' _).mono ?_
      rintro q w1 ⟨rfl, hb1⟩
      have hfb := (unhide Hfb).below hb1 hsz
      have hsz1 := hfb.lt
      have hB1 := (unhide Hbel).trans (below_le hb1 (unhide Hbel).size)
      have hown1 := ownsRow_below (unhide Hown) hb1 (Nat.le_refl _)
      have Hfb1 := hide hfb; have HB1 := hide hB1; have Hown1 := hide (fun o1 o2 o3 => ((hown1.alloc o1).alloc o2).alloc o3)
      have Hlt1 := hide hown1.lt
      clear hfb hB1 hown1 hb1
      unfold RangeR
      go_wp2_with (at_builtin; refine wpList_append_own _ rfl _ _ 22 rfl (w.heap.size + 1) 53 i0 (.agg #[.int .i32 0, .int .i32 0]) 2 8 Tryd.underlying22 hi0 hz0 hz1 hz2 rfl (by decide) _ _ _ rfl (unhide Hown1 _ _ _) ⟨w1.heap.size + 2, 0, none⟩ 1 1 [.int .i32 x, .int .i32 y] rfl rfl ?k1 ?k2 ?k3 ?k4 ?k5 ?_)
      case k1 => exact cell_new2 _ _ (by simp) _ _ _
      case k2 => intro u hu; simp at hu; rcases hu with rfl | rfl <;> rfl
      case k3 => unfold maxLen; omega
      case k4 => omega
      case k5 => simp; omega
      intro v' w3 hown' hgrow _
      have Hf3 := hide (((((unhide Hfb1).alloc _).alloc _).alloc _).grown hgrow (fun h => by have := (unhide Hlt1 w.heap.size h.symm).1; omega))
      have Hb3 := hide (((((unhide HB1).alloc (by omega) _).alloc (by simp; omega) _).alloc (by simp; omega) _).grown hgrow (by simp; omega) (fun x hx => by have := (unhide Hlt1 x hx).1; omega))
      have Hown3 := hide hown'
      clear hgrow hown'
      go_wp2
      go_roundw
      case rel =>
        refine ⟨n, acc ++ [(x, y)], m, rfl, ?_, unhide Hrd, by rw [← unhide Hcat]; simp, unhide Hf3, unhide Hb3⟩
        have := unhide Hown3
        simpa [flat_append, flat, encR] using this
      case measure => have := (unhide Hrd).le; simp [intOf]; omega
end Go.Proofs.YtkbhdojgdgiggabDoor

/- The law's small grammar, and what is known of it. -/
import Derived.Test.YtagohbpbgjelaaaGreatDoorV1
import Derived.Test.YtagohbpbgjelaaaGreatDoorM1
import Derived.Test.YtagohbpbgjelaaaGreatDoorA5
namespace Go.Proofs.YtagohbpbgjelaaaGreatDoor
open Go.RowKit

def smallG : Gm := ⟨[[101, 110, 100], [101, 114, 114, 111, 114], [97], [98]], [(0, 0), (0, 0), (0, 0), (0, 0)], [[83], [65]], [⟨0, [5, 3], 0, ac0⟩, ⟨1, [2, 5], 0, ac0⟩, ⟨1, [], 0, ac0⟩], 0⟩
set_option maxRecDepth 100000 in
theorem small_ok : checkB smallG = true := by kernel_rfl
set_option maxRecDepth 100000 in
theorem small_null : nullF smallG 0 = false ∧ nullF smallG 1 = true := by
  have h1 : Null smallG 1 := Null.mk (G := smallG) ⟨1, [], 0, ac0⟩ (by simp [smallG]) (fun x hx => by simp at hx) (fun x hx => by simp at hx)
  refine ⟨?_, (nullF_is _ _).2 h1⟩
  cases h : nullF smallG 0
  · rfl
  · exfalso
    have h := (nullF_is _ _).1 h
    generalize hr : 0 = r at h
    cases h with
    | mk p hp h1 h2 =>
      simp [smallG] at hp
      rcases hp with rfl | rfl | rfl
      · have := h1 3 (by simp)
        simp [Gm.nk, smallG] at this
      · simp at hr
      · simp at hr
set_option maxRecDepth 100000 in
theorem small_least {f : Nat → Int} (h : LeastIs smallG f) : f 0 = 1 := by
  have hA : Lng smallG 1 0 := by
    have := Lng.mk (G := smallG) ⟨1, [], 0, ac0⟩ (by simp [smallG]) (fun _ => 0) (fun x hx => by simp at hx) (by simp [lenR])
    simpa [lenR] using this
  have hS : Lng smallG 0 1 := by
    have := Lng.mk (G := smallG) ⟨0, [5, 3], 0, ac0⟩ (by simp [smallG]) (fun _ => 0) (fun x hx hk => by
      simp at hx
      rcases hx with rfl | rfl
      · exact hA
      · simp [Gm.nk, smallG] at hk) (by decide)
    exact this
  have h1 := h.2 0 1 hS
  rcases h.1 0 with h2 | ⟨h2, -, h3⟩
  · omega
  · have h4 : f 0 ≠ 0 := by
      intro h0
      rw [h0] at h3
      generalize hr : (0 : Nat) = r at h3
      generalize hn : (0 : Int) = n at h3
      cases h3 with
      | mk p hp g hg hl =>
        simp [smallG] at hp
        rcases hp with rfl | rfl | rfl
        · simp [lenR, Gm.nk, smallG] at hn hl
          split at hn <;> omega
        · simp at hr
        · simp at hr
    omega
set_option maxRecDepth 100000 in
theorem small_first : posL (boolsOf (fstF smallG 0) 4) = [2, 3] := by
  have hA : Fst smallG 1 2 := Fst.kind (G := smallG) ⟨1, [2, 5], 0, ac0⟩ (by simp [smallG]) 0 (by simp) rfl (by decide)
  have h2 : fstF smallG 0 2 = true := (fstF_is _ _ _).2 (Fst.rule (G := smallG) ⟨0, [5, 3], 0, ac0⟩ (by simp [smallG]) 0 (by simp) rfl (by decide) 2 hA)
  have h3 : fstF smallG 0 3 = true := (fstF_is _ _ _).2 (Fst.kind (G := smallG) ⟨0, [5, 3], 0, ac0⟩ (by simp [smallG]) 1 (by simp) (by
    rw [emptyB_iff]
    intro x hx
    simp at hx
    subst hx
    exact ⟨by decide, small_null.2⟩) (by decide))
  have hno : ∀ r k, Fst smallG r k → 2 ≤ k := by
    intro r k h
    induction h with
    | kind p hp i hi he hx =>
      simp [smallG] at hp
      rcases hp with rfl | rfl | rfl
      · rcases i with _ | _ | i
        · exact absurd hx (by decide)
        · decide
        · exact absurd hi (by simp)
      · rcases i with _ | _ | i
        · decide
        · exact absurd hx (by decide)
        · exact absurd hi (by simp)
      · simp at hi
    | rule p hp i hi he hx k h ih => exact ih
  have h0 : fstF smallG 0 0 = false := by
    cases h : fstF smallG 0 0
    · rfl
    · have := hno _ _ ((fstF_is _ _ _).1 h); omega
  have h1 : fstF smallG 0 1 = false := by
    cases h : fstF smallG 0 1
    · rfl
    · have := hno _ _ ((fstF_is _ _ _).1 h); omega
  have : boolsOf (fstF smallG 0) 4 = [false, false, true, true] := by
    show [fstF smallG 0 0, fstF smallG 0 1, fstF smallG 0 2, fstF smallG 0 3] = _
    rw [h0, h1, h2, h3]
  rw [this]
  rfl

set_option maxRecDepth 100000 in
theorem five_cells {w : World} {b : Nat} {t : TypeId} {a0 a1 a2 a3 a4 : Value} (h : w.heap[b]? = some (.cells #[a0, a1, a2, a3, a4] t)) : w.cell? ⟨b, 0, none⟩ = some a0 ∧ w.cell? ⟨b, 1, none⟩ = some a1 ∧ w.cell? ⟨b, 2, none⟩ = some a2 ∧ w.cell? ⟨b, 3, none⟩ = some a3 ∧ w.cell? ⟨b, 4, none⟩ = some a4 := by
  refine ⟨?_, ?_, ?_, ?_, ?_⟩ <;> (unfold World.cell?; rw [h]; rfl)
set_option maxRecDepth 100000 in
theorem ac0_at (B : Nat) (w : World) : AcAt B w ac0 (.int .i64 0) (.int .i64 0) (.string ⟨#[]⟩) (.slice none 0 0) := by
  unfold ac0 AcAt
  exact ⟨rfl, rfl, rfl, none, 0, [], rfl, by unfold AcTs; rfl, .inl rfl⟩
set_option maxRecDepth 100000 in
theorem allocs7 (w : World) (o0 o1 o2 o3 o4 o5 o6 : Obj) : (((((((w.alloc o0).alloc o1).alloc o2).alloc o3).alloc o4).alloc o5).alloc o6).heap[w.heap.size]? = some o0 ∧ (((((((w.alloc o0).alloc o1).alloc o2).alloc o3).alloc o4).alloc o5).alloc o6).heap[w.heap.size + 1]? = some o1 ∧ (((((((w.alloc o0).alloc o1).alloc o2).alloc o3).alloc o4).alloc o5).alloc o6).heap[w.heap.size + 1 + 1]? = some o2 ∧ (((((((w.alloc o0).alloc o1).alloc o2).alloc o3).alloc o4).alloc o5).alloc o6).heap[w.heap.size + 1 + 1 + 1]? = some o3 ∧ (((((((w.alloc o0).alloc o1).alloc o2).alloc o3).alloc o4).alloc o5).alloc o6).heap[w.heap.size + 1 + 1 + 1 + 1]? = some o4 ∧ (((((((w.alloc o0).alloc o1).alloc o2).alloc o3).alloc o4).alloc o5).alloc o6).heap[w.heap.size + 1 + 1 + 1 + 1 + 1]? = some o5 ∧ (((((((w.alloc o0).alloc o1).alloc o2).alloc o3).alloc o4).alloc o5).alloc o6).heap[w.heap.size + 1 + 1 + 1 + 1 + 1 + 1]? = some o6 ∧ (((((((w.alloc o0).alloc o1).alloc o2).alloc o3).alloc o4).alloc o5).alloc o6).heap.size = w.heap.size + 1 + 1 + 1 + 1 + 1 + 1 + 1 ∧ Below w.heap.size w (((((((w.alloc o0).alloc o1).alloc o2).alloc o3).alloc o4).alloc o5).alloc o6) := by
  have s1 : (w.alloc o0).heap.size = w.heap.size + 1 := by simp
  have s2 : ((w.alloc o0).alloc o1).heap.size = w.heap.size + 1 + 1 := by simp
  have s3 : (((w.alloc o0).alloc o1).alloc o2).heap.size = w.heap.size + 1 + 1 + 1 := by simp
  have s4 : ((((w.alloc o0).alloc o1).alloc o2).alloc o3).heap.size = w.heap.size + 1 + 1 + 1 + 1 := by simp
  have s5 : (((((w.alloc o0).alloc o1).alloc o2).alloc o3).alloc o4).heap.size = w.heap.size + 1 + 1 + 1 + 1 + 1 := by simp
  have s6 : ((((((w.alloc o0).alloc o1).alloc o2).alloc o3).alloc o4).alloc o5).heap.size = w.heap.size + 1 + 1 + 1 + 1 + 1 + 1 := by simp
  have s7 : (((((((w.alloc o0).alloc o1).alloc o2).alloc o3).alloc o4).alloc o5).alloc o6).heap.size = w.heap.size + 1 + 1 + 1 + 1 + 1 + 1 + 1 := by simp
  have b0_1 : (w.alloc o0).heap[w.heap.size]? = some o0 := by have h := Go.Deep.blk_alloc_new w o0; exact h
  have b0_2 : ((w.alloc o0).alloc o1).heap[w.heap.size]? = some o0 := (Below.heap_alloc _ _ _ (by rw [s1]; omega)).trans b0_1
  have b0_3 : (((w.alloc o0).alloc o1).alloc o2).heap[w.heap.size]? = some o0 := (Below.heap_alloc _ _ _ (by rw [s2]; omega)).trans b0_2
  have b0_4 : ((((w.alloc o0).alloc o1).alloc o2).alloc o3).heap[w.heap.size]? = some o0 := (Below.heap_alloc _ _ _ (by rw [s3]; omega)).trans b0_3
  have b0_5 : (((((w.alloc o0).alloc o1).alloc o2).alloc o3).alloc o4).heap[w.heap.size]? = some o0 := (Below.heap_alloc _ _ _ (by rw [s4]; omega)).trans b0_4
  have b0_6 : ((((((w.alloc o0).alloc o1).alloc o2).alloc o3).alloc o4).alloc o5).heap[w.heap.size]? = some o0 := (Below.heap_alloc _ _ _ (by rw [s5]; omega)).trans b0_5
  have b0_7 : (((((((w.alloc o0).alloc o1).alloc o2).alloc o3).alloc o4).alloc o5).alloc o6).heap[w.heap.size]? = some o0 := (Below.heap_alloc _ _ _ (by rw [s6]; omega)).trans b0_6
  have b1_2 : ((w.alloc o0).alloc o1).heap[w.heap.size + 1]? = some o1 := by have h := Go.Deep.blk_alloc_new (w.alloc o0) o1; rw [s1] at h; exact h
  have b1_3 : (((w.alloc o0).alloc o1).alloc o2).heap[w.heap.size + 1]? = some o1 := (Below.heap_alloc _ _ _ (by rw [s2]; omega)).trans b1_2
  have b1_4 : ((((w.alloc o0).alloc o1).alloc o2).alloc o3).heap[w.heap.size + 1]? = some o1 := (Below.heap_alloc _ _ _ (by rw [s3]; omega)).trans b1_3
  have b1_5 : (((((w.alloc o0).alloc o1).alloc o2).alloc o3).alloc o4).heap[w.heap.size + 1]? = some o1 := (Below.heap_alloc _ _ _ (by rw [s4]; omega)).trans b1_4
  have b1_6 : ((((((w.alloc o0).alloc o1).alloc o2).alloc o3).alloc o4).alloc o5).heap[w.heap.size + 1]? = some o1 := (Below.heap_alloc _ _ _ (by rw [s5]; omega)).trans b1_5
  have b1_7 : (((((((w.alloc o0).alloc o1).alloc o2).alloc o3).alloc o4).alloc o5).alloc o6).heap[w.heap.size + 1]? = some o1 := (Below.heap_alloc _ _ _ (by rw [s6]; omega)).trans b1_6
  have b2_3 : (((w.alloc o0).alloc o1).alloc o2).heap[w.heap.size + 1 + 1]? = some o2 := by have h := Go.Deep.blk_alloc_new ((w.alloc o0).alloc o1) o2; rw [s2] at h; exact h
  have b2_4 : ((((w.alloc o0).alloc o1).alloc o2).alloc o3).heap[w.heap.size + 1 + 1]? = some o2 := (Below.heap_alloc _ _ _ (by rw [s3]; omega)).trans b2_3
  have b2_5 : (((((w.alloc o0).alloc o1).alloc o2).alloc o3).alloc o4).heap[w.heap.size + 1 + 1]? = some o2 := (Below.heap_alloc _ _ _ (by rw [s4]; omega)).trans b2_4
  have b2_6 : ((((((w.alloc o0).alloc o1).alloc o2).alloc o3).alloc o4).alloc o5).heap[w.heap.size + 1 + 1]? = some o2 := (Below.heap_alloc _ _ _ (by rw [s5]; omega)).trans b2_5
  have b2_7 : (((((((w.alloc o0).alloc o1).alloc o2).alloc o3).alloc o4).alloc o5).alloc o6).heap[w.heap.size + 1 + 1]? = some o2 := (Below.heap_alloc _ _ _ (by rw [s6]; omega)).trans b2_6
  have b3_4 : ((((w.alloc o0).alloc o1).alloc o2).alloc o3).heap[w.heap.size + 1 + 1 + 1]? = some o3 := by have h := Go.Deep.blk_alloc_new (((w.alloc o0).alloc o1).alloc o2) o3; rw [s3] at h; exact h
  have b3_5 : (((((w.alloc o0).alloc o1).alloc o2).alloc o3).alloc o4).heap[w.heap.size + 1 + 1 + 1]? = some o3 := (Below.heap_alloc _ _ _ (by rw [s4]; omega)).trans b3_4
  have b3_6 : ((((((w.alloc o0).alloc o1).alloc o2).alloc o3).alloc o4).alloc o5).heap[w.heap.size + 1 + 1 + 1]? = some o3 := (Below.heap_alloc _ _ _ (by rw [s5]; omega)).trans b3_5
  have b3_7 : (((((((w.alloc o0).alloc o1).alloc o2).alloc o3).alloc o4).alloc o5).alloc o6).heap[w.heap.size + 1 + 1 + 1]? = some o3 := (Below.heap_alloc _ _ _ (by rw [s6]; omega)).trans b3_6
  have b4_5 : (((((w.alloc o0).alloc o1).alloc o2).alloc o3).alloc o4).heap[w.heap.size + 1 + 1 + 1 + 1]? = some o4 := by have h := Go.Deep.blk_alloc_new ((((w.alloc o0).alloc o1).alloc o2).alloc o3) o4; rw [s4] at h; exact h
  have b4_6 : ((((((w.alloc o0).alloc o1).alloc o2).alloc o3).alloc o4).alloc o5).heap[w.heap.size + 1 + 1 + 1 + 1]? = some o4 := (Below.heap_alloc _ _ _ (by rw [s5]; omega)).trans b4_5
  have b4_7 : (((((((w.alloc o0).alloc o1).alloc o2).alloc o3).alloc o4).alloc o5).alloc o6).heap[w.heap.size + 1 + 1 + 1 + 1]? = some o4 := (Below.heap_alloc _ _ _ (by rw [s6]; omega)).trans b4_6
  have b5_6 : ((((((w.alloc o0).alloc o1).alloc o2).alloc o3).alloc o4).alloc o5).heap[w.heap.size + 1 + 1 + 1 + 1 + 1]? = some o5 := by have h := Go.Deep.blk_alloc_new (((((w.alloc o0).alloc o1).alloc o2).alloc o3).alloc o4) o5; rw [s5] at h; exact h
  have b5_7 : (((((((w.alloc o0).alloc o1).alloc o2).alloc o3).alloc o4).alloc o5).alloc o6).heap[w.heap.size + 1 + 1 + 1 + 1 + 1]? = some o5 := (Below.heap_alloc _ _ _ (by rw [s6]; omega)).trans b5_6
  have b6_7 : (((((((w.alloc o0).alloc o1).alloc o2).alloc o3).alloc o4).alloc o5).alloc o6).heap[w.heap.size + 1 + 1 + 1 + 1 + 1 + 1]? = some o6 := by have h := Go.Deep.blk_alloc_new ((((((w.alloc o0).alloc o1).alloc o2).alloc o3).alloc o4).alloc o5) o6; rw [s6] at h; exact h
  exact ⟨b0_7, b1_7, b2_7, b3_7, b4_7, b5_7, b6_7, s7, ((((((((Below.refl _ _).alloc (by omega) _).alloc (by rw [s1]; omega) _).alloc (by rw [s2]; omega) _).alloc (by rw [s3]; omega) _).alloc (by rw [s4]; omega) _).alloc (by rw [s5]; omega) _).alloc (by rw [s6]; omega) _)⟩

set_option maxHeartbeats 1000000 in
set_option maxRecDepth 100000 in
theorem rSmall (w : World) (ht : Tb w.heap.size w) :
    Calls Tryz.prog 57 #[] w fun e w' => ∃ ka kc pa pc ra rc qa qc, e = .returned (.agg #[.slice ka smallG.kinds.length kc, .slice pa smallG.precs.length pc, .slice ra smallG.rules.length rc, .slice qa smallG.prods.length qc, .int .i64 smallG.start]) ∧ GIn w'.heap.size w' smallG ka pa ra qa ∧ Below w.heap.size w w' := by
  have hmk : ∀ w : World, (Instr.makeSlice 23 (.int .i64 4) (.int .i64 4)).run Tryz.prog w = .ok (.slice (some ⟨w.heap.size, 0, none⟩) 4 4) (w.alloc (.cells #[.int .i64 0, .int .i64 0, .int .i64 0, .int .i64 0, .int .i64 0, .int .i64 0, .int .i64 0, .int .i64 0] 98)) := fun w => by kernel_rfl
  go_enter Tryz.func57, Tryz.ntmps57
  go_wp2
  have hall := allocs7 w (.cells #[.slice (some ⟨w.heap.size + 1 + 1 + 1 + 1, 0, none⟩) 4 4, .slice (some ⟨w.heap.size + 1 + 1 + 1 + 1 + 1, 0, none⟩) 4 4, .slice (some ⟨w.heap.size + 1 + 1 + 1 + 1 + 1 + 1, 0, none⟩) 2 2, .slice (some ⟨w.heap.size + 1 + 1 + 1, 0, none⟩) 3 3, .int .i64 0] 26)
    (.cells #[.int .i64 5, .int .i64 3] 3) (.cells #[.int .i64 2, .int .i64 5] 3)
    (.cells #[.int .i64 0, .slice (some ⟨w.heap.size + 1, 0, none⟩) 2 2, .int .i64 0, .int .i64 0, .int .i64 0, .string ⟨#[]⟩, .slice none 0 0, .int .i64 1, .slice (some ⟨w.heap.size + 1 + 1, 0, none⟩) 2 2, .int .i64 0, .int .i64 0, .int .i64 0, .string ⟨#[]⟩, .slice none 0 0, .int .i64 1, .slice none 0 0, .int .i64 0, .int .i64 0, .int .i64 0, .string ⟨#[]⟩, .slice none 0 0] 89)
    (.cells #[.string ⟨#[101, 110, 100]⟩, .string ⟨#[101, 114, 114, 111, 114]⟩, .string ⟨#[97]⟩, .string ⟨#[98]⟩] 9)
    (.cells #[.int .i64 0, .int .i64 0, .int .i64 0, .int .i64 0, .int .i64 0, .int .i64 0, .int .i64 0, .int .i64 0] 98)
    (.cells #[.string ⟨#[83]⟩, .string ⟨#[65]⟩] 9)
  obtain ⟨WF, hWF⟩ : ∃ WF, WF = (((((((w.alloc (.cells #[.slice (some ⟨w.heap.size + 1 + 1 + 1 + 1, 0, none⟩) 4 4, .slice (some ⟨w.heap.size + 1 + 1 + 1 + 1 + 1, 0, none⟩) 4 4, .slice (some ⟨w.heap.size + 1 + 1 + 1 + 1 + 1 + 1, 0, none⟩) 2 2, .slice (some ⟨w.heap.size + 1 + 1 + 1, 0, none⟩) 3 3, .int .i64 0] 26)).alloc (.cells #[.int .i64 5, .int .i64 3] 3)).alloc (.cells #[.int .i64 2, .int .i64 5] 3)).alloc (.cells #[.int .i64 0, .slice (some ⟨w.heap.size + 1, 0, none⟩) 2 2, .int .i64 0, .int .i64 0, .int .i64 0, .string ⟨#[]⟩, .slice none 0 0, .int .i64 1, .slice (some ⟨w.heap.size + 1 + 1, 0, none⟩) 2 2, .int .i64 0, .int .i64 0, .int .i64 0, .string ⟨#[]⟩, .slice none 0 0, .int .i64 1, .slice none 0 0, .int .i64 0, .int .i64 0, .int .i64 0, .string ⟨#[]⟩, .slice none 0 0] 89)).alloc (.cells #[.string ⟨#[101, 110, 100]⟩, .string ⟨#[101, 114, 114, 111, 114]⟩, .string ⟨#[97]⟩, .string ⟨#[98]⟩] 9)).alloc (.cells #[.int .i64 0, .int .i64 0, .int .i64 0, .int .i64 0, .int .i64 0, .int .i64 0, .int .i64 0, .int .i64 0] 98)).alloc (.cells #[.string ⟨#[83]⟩, .string ⟨#[65]⟩] 9)) := ⟨_, rfl⟩
  rw [← hWF] at hall ⊢
  clear hWF hmk
  obtain ⟨h0, h1, h2, h3, h4, h5, h6, hs, hb⟩ := hall
  obtain ⟨c0, c1, c2, c3, c4⟩ := five_cells h0
  refine bodyPost_ret (v := .agg #[.slice (some ⟨w.heap.size + 1 + 1 + 1 + 1, 0, none⟩) 4 4, .slice (some ⟨w.heap.size + 1 + 1 + 1 + 1 + 1, 0, none⟩) 4 4, .slice (some ⟨w.heap.size + 1 + 1 + 1 + 1 + 1 + 1, 0, none⟩) 2 2, .slice (some ⟨w.heap.size + 1 + 1 + 1, 0, none⟩) 3 3, .int .i64 0]) ?zz9 rfl ⟨_, 4, _, 4, _, 2, _, 3, rfl, ⟨?_, ?_, ?_, ?_, ?_⟩, hb⟩
  case zz9 => simp [results, Tryz.results57, go_sem, c0, c1, c2, c3, c4]
  · refine .inr ⟨_, _, rfl, by omega, fun j hj => ?_⟩
    rcases j with _ | _ | _ | _ | j
    · unfold World.cell?; rw [h4]; rfl
    · unfold World.cell?; rw [h4]; rfl
    · unfold World.cell?; rw [h4]; rfl
    · unfold World.cell?; rw [h4]; rfl
    · exact absurd hj (by simp [smallG])
  · refine .inr ⟨_, _, rfl, by omega, fun j hj => ?_⟩
    rcases j with _ | _ | _ | _ | j
    · constructor <;> (unfold World.cell?; rw [h5]; rfl)
    · constructor <;> (unfold World.cell?; rw [h5]; rfl)
    · constructor <;> (unfold World.cell?; rw [h5]; rfl)
    · constructor <;> (unfold World.cell?; rw [h5]; rfl)
    · exact absurd hj (by simp [smallG])
  · refine .inr ⟨_, _, rfl, by omega, fun j hj => ?_⟩
    rcases j with _ | _ | j
    · unfold World.cell?; rw [h6]; rfl
    · unfold World.cell?; rw [h6]; rfl
    · exact absurd hj (by simp [smallG])
  · refine .inr ⟨_, _, rfl, by omega, fun j hj => ?_⟩
    rcases j with _ | _ | _ | j
    · refine ⟨_, _, _, _, _, _, _, ⟨rfl, ⟨some ⟨w.heap.size + 1, 0, none⟩, 2, rfl, .inr ⟨_, _, rfl, by omega, fun i hi => ?_⟩, by simp [smallG]⟩, rfl, ac0_at _ _⟩, ?_, ?_, ?_, ?_, ?_, ?_, ?_⟩
      · rcases i with _ | _ | i
        · unfold World.cell?; rw [h1]; rfl
        · unfold World.cell?; rw [h1]; rfl
        · exact absurd hi (by simp [smallG])
      all_goals (unfold World.cell?; rw [h3]; rfl)
    · refine ⟨_, _, _, _, _, _, _, ⟨rfl, ⟨some ⟨w.heap.size + 1 + 1, 0, none⟩, 2, rfl, .inr ⟨_, _, rfl, by omega, fun i hi => ?_⟩, by simp [smallG]⟩, rfl, ac0_at _ _⟩, ?_, ?_, ?_, ?_, ?_, ?_, ?_⟩
      · rcases i with _ | _ | i
        · unfold World.cell?; rw [h2]; rfl
        · unfold World.cell?; rw [h2]; rfl
        · exact absurd hi (by simp [smallG])
      all_goals (unfold World.cell?; rw [h3]; rfl)
    · refine ⟨_, _, _, _, _, _, _, ⟨rfl, ⟨none, 0, rfl, .inl rfl, by simp [smallG]⟩, rfl, ac0_at _ _⟩, ?_, ?_, ?_, ?_, ?_, ?_, ?_⟩
      all_goals (unfold World.cell?; rw [h3]; rfl)
    · exact absurd hj (by simp [smallG])
  · exact tb_up ht (Nat.le_refl _) hb
end Go.Proofs.YtagohbpbgjelaaaGreatDoor

namespace Go.Proofs.YtagohbpbgjelaaaGreatDoor
open Go.RowKit

abbrev gV (G : Gm) (ka pa ra qa : Option Addr) (kc pc rc qc : Nat) : Value := .agg #[.slice ka G.kinds.length kc, .slice pa G.precs.length pc, .slice ra G.rules.length rc, .slice qa G.prods.length qc, .int .i64 G.start]
def smG (G : Gm) : Prop := ∀ p, p ∈ G.prods → p.right.length ≤ 281474976710656
def LookPost (G : Gm) (w : World) (e : Ending) (w' : World) : Prop :=
  ∃ na nc pa pc aa ac ca cc fa fc va vc, e = .returned (.tuple #[.agg #[.slice na (boolsOf (nullF G) G.nr).length nc, .slice pa (boolsOf (prdF G) G.nr).length pc, .slice aa (boolsOf (atF G) G.nr).length ac, .slice ca (boolsOf (fun r => mksF G r r) G.nr).length cc, .slice fa (posT (fstF G) G.nk G.nr).length fc, .slice va (posT (flwF G) G.nk G.nr).length vc], .int .i64 0]) ∧
    MRow w' na (boolsOf (nullF G) G.nr) ∧ MRow w' pa (boolsOf (prdF G) G.nr) ∧ MRow w' aa (boolsOf (atF G) G.nr) ∧ MRow w' ca (boolsOf (fun r => mksF G r r) G.nr) ∧ NNRow w' fa (posT (fstF G) G.nk G.nr) ∧ NNRow w' va (posT (flwF G) G.nk G.nr) ∧ Below w.heap.size w w'
def LookYes (fn : Nat) : Prop := ∀ (G : Gm) (_ : checkB G = true) (ka pa ra qa : Option Addr) (kc pc rc qc : Nat) (w : World) (_ : GIn w.heap.size w G ka pa ra qa), Calls Tryz.prog fn #[gV G ka pa ra qa kc pc rc qc] w fun e w' => LookPost G w e w'
def LeastYes (fn : Nat) : Prop := ∀ (G : Gm) (_ : checkB G = true) (ka pa ra qa : Option Addr) (kc pc rc qc : Nat) (r : Nat) (_ : r < G.rules.length) (w : World) (_ : GIn w.heap.size w G ka pa ra qa), Calls Tryz.prog fn #[gV G ka pa ra qa kc pc rc qc, .int .i64 (r : Int)] w fun e w' => ∃ f, LeastIs G f ∧ e = .returned (.tuple #[.int .i64 (max (f r) 0), .bool (decide (0 ≤ f r)), .int .i64 0]) ∧ Below w.heap.size w w'
set_option maxRecDepth 100000 in
theorem gin_up {w w' : World} {G : Gm} {ka pa ra qa : Option Addr} (h : GIn w.heap.size w G ka pa ra qa) (hb : Below w.heap.size w w') : GIn w'.heap.size w' G ka pa ra qa := by
  have h := gin_kept hb h
  have hs := hb.size
  have ht := tb_up h.tab (by omega) (Below.refl _ _)
  obtain ⟨h1, h2, h3, h4, -⟩ := h
  refine ⟨?_, ?_, ?_, ?_, ht⟩
  · rcases h1 with h | ⟨b, o, a1, a2, a3⟩
    · exact .inl h
    · exact .inr ⟨b, o, a1, by omega, a3⟩
  · rcases h2 with h | ⟨b, o, a1, a2, a3⟩
    · exact .inl h
    · exact .inr ⟨b, o, a1, by omega, a3⟩
  · rcases h3 with h | ⟨b, o, a1, a2, a3⟩
    · exact .inl h
    · exact .inr ⟨b, o, a1, by omega, a3⟩
  · rcases h4 with h | ⟨b, o, a1, a2, a3⟩
    · exact .inl h
    · refine .inr ⟨b, o, a1, by omega, fun j hj => ?_⟩
      obtain ⟨v0, v1, v2, v3, v4, v5, v6, ⟨p0, ⟨a, c, p1, p2, p3⟩, p4, p5⟩, hc⟩ := a3 j hj
      exact ⟨v0, v1, v2, v3, v4, v5, v6, ⟨p0, ⟨a, c, p1, nrow_big hs p2, p3⟩, p4, acAt_upB hs _ _ _ _ _ p5⟩, hc⟩

set_option maxHeartbeats 2000000 in
set_option maxRecDepth 100000 in
theorem awake_any (hL : LookYes 9) (hM : LeastYes 24) (w : World) (ht : Tb w.heap.size w) : Calls Tryz.prog 17 #[] w fun e w' => e = .returned (.bool true) ∧ Below w.heap.size w w' := by
  have HS := hide (rSmall w ht)
  have HL := hide hL; have HM := hide hM
  clear hL hM
  have hnot := run_not
  go_enter Tryz.func17, Tryz.ntmps17
  go_wp2_with fail
  refine (unhide HS).mono ?_
  rintro e w2 ⟨ka, kc, pa, pc, ra, rc, qa, qc, rfl, hin, hb2⟩
  have hst := gst_new (kc := kc) (pc := pc) (rc := rc) (qc := qc) (Nat.le_refl _) hin 26
  have d0 := hst.c0; have d1 := hst.c1; have d2 := hst.c2; have d3 := hst.c3; have d4 := hst.c4
  have hb3 := (Below.refl w2.heap.size w2).alloc (Nat.le_refl _) (.cells #[.slice ka smallG.kinds.length kc, .slice pa smallG.precs.length pc, .slice ra smallG.rules.length rc, .slice qa smallG.prods.length qc, .int .i64 smallG.start] 26)
  have HL3 := hide (unhide HL smallG small_ok ka pa ra qa kc pc rc qc _ (gin_up hin hb3))
  have Hin := hide hin
  have hs2 := hb2.size
  have Hb3 := hide (hb2.trans (below_le hb3 hs2))
  have Hst := hide hst
  have hs3 : (w2.alloc (.cells #[.slice ka smallG.kinds.length kc, .slice pa smallG.precs.length pc, .slice ra smallG.rules.length rc, .slice qa smallG.prods.length qc, .int .i64 smallG.start] 26)).heap.size = w2.heap.size + 1 := by simp
  have Hbb := hide hb3
  clear hin hst hb2 hb3 HL HS
  go_wp2_with fail
  generalize w2.alloc (.cells #[.slice ka smallG.kinds.length kc, .slice pa smallG.precs.length pc, .slice ra smallG.rules.length rc, .slice qa smallG.prods.length qc, .int .i64 smallG.start] 26) = w3 at *
  clear d0 d1 d2 d3 d4
  refine (unhide HL3).mono ?_
  rintro e w4 ⟨na, nc, pr, prc, aa, ac, ca, cc, fa, fc, va, vc, he, hna, -, -, -, hfa, -, hb4⟩
  have l0 : (boolsOf (nullF smallG) smallG.nr).length = 2 := boolsOf_len _ _
  have l1 : (boolsOf (prdF smallG) smallG.nr).length = 2 := boolsOf_len _ _
  have l2 : (boolsOf (atF smallG) smallG.nr).length = 2 := boolsOf_len _ _
  have l3 : (boolsOf (fun r => mksF smallG r r) smallG.nr).length = 2 := boolsOf_len _ _
  have l4 : (posT (fstF smallG) smallG.nk smallG.nr).length = 2 := by simp [posT]; rfl
  have l5 : (posT (flwF smallG) smallG.nk smallG.nr).length = 2 := by simp [posT]; rfl
  rw [l0, l1, l2, l3, l4, l5] at he
  subst he
  obtain ⟨b0, o0, rfl, hlt0, n0⟩ := mrow_at hna (k := 0) (by omega)
  obtain ⟨b1, o1, hbo, hlt1, n1⟩ := mrow_at hna (k := 1) (by omega)
  cases hbo
  rw [boolsOf_getD (by decide), small_null.1] at n0
  rw [boolsOf_getD (by decide), small_null.2] at n1
  obtain ⟨b4, o4, rfl, hlt4, ra4, rc4, f0, -⟩ := nnrow_at hfa (k := 0) (by omega)
  have hf0 : (posT (fstF smallG) smallG.nk smallG.nr).getD 0 [] = [2, 3] := by
    have : (posT (fstF smallG) smallG.nk smallG.nr).getD 0 [] = posL (boolsOf (fstF smallG 0) 4) := rfl
    rw [this, small_first]
  rw [hf0] at f0
  have f0 : w4.cell? ⟨b4, o4 + 0, none⟩ = some (.slice ra4 2 rc4) := f0
  have hst4 := gst_kept (below_le hb4 (by omega)) (Nat.le_refl _) (unhide Hst)
  have hs4 := hb4.size
  obtain ⟨w5, hw5⟩ : ∃ w5, w5 = w4.alloc (.cells #[.slice (some ⟨b0, o0, none⟩) 2 nc, .slice pr 2 prc, .slice aa 2 ac, .slice ca 2 cc, .slice (some ⟨b4, o4, none⟩) 2 fc, .slice va 2 vc] 31) := ⟨_, rfl⟩
  have hb5 : Below w4.heap.size w4 w5 := by rw [hw5]; exact (Below.refl _ _).alloc (Nat.le_refl _) _
  have hs5 : w5.heap.size = w4.heap.size + 1 := by rw [hw5]; simp
  have hbx : w5.heap[w4.heap.size]? = some (.cells #[.slice (some ⟨b0, o0, none⟩) 2 nc, .slice pr 2 prc, .slice aa 2 ac, .slice ca 2 cc, .slice (some ⟨b4, o4, none⟩) 2 fc, .slice va 2 vc] 31) := by rw [hw5]; exact Go.Deep.blk_alloc_new _ _
  have hst5 := gst_kept (below_le hb5 (by omega)) (Nat.le_refl _) hst4
  have d0 := hst5.c0; have d1 := hst5.c1; have d2 := hst5.c2; have d3 := hst5.c3; have d4 := hst5.c4
  have HM5 : Hid (Calls Tryz.prog 24 #[gV smallG ka pa ra qa kc pc rc qc, .int .i64 0] w5 fun e w' => ∃ f, LeastIs smallG f ∧ e = .returned (.tuple #[.int .i64 (max (f 0) 0), .bool (decide (0 ≤ f 0)), .int .i64 0]) ∧ Below w5.heap.size w5 w') := hide (unhide HM smallG small_ok ka pa ra qa kc pc rc qc 0 (by decide) w5 (gin_up (unhide Hin) (((unhide Hbb).trans (below_le hb4 (by omega))).trans (below_le hb5 (by omega)))))
  have Hn0 := hide ((hb5.cell (p := ⟨b0, o0 + 0, none⟩) hlt0).trans n0)
  have Hn1 := hide ((hb5.cell (p := ⟨b0, o0 + 1, none⟩) hlt0).trans n1)
  have Hf0 := hide ((hb5.cell (p := ⟨b4, o4 + 0, none⟩) hlt4).trans f0)
  have Hbx := hide hbx
  have Hb5 := hide ((unhide Hb3).trans ((below_le hb4 (by omega)).trans (below_le hb5 (by omega))))
  rw [hw5] at d0 d1 d2 d3 d4
  clear hna hfa hb4 l0 l1 l2 l3 l4 l5 n0 n1 f0 hf0 hst4 hst5 hbx hb5 HL3 HM
  go_wp2_with fail
  rw [← hw5]
  clear d0 d1 d2 d3 d4 hw5
  refine (unhide HM5).mono ?_
  rintro e w6 ⟨f, hf, he, hb6⟩
  rw [small_least hf] at he
  have he : e = .returned (.tuple #[.int .i64 1, .bool true, .int .i64 0]) := he
  subst he
  have hbx6 := (hb6.block _ (by omega)).trans (unhide Hbx)
  obtain ⟨r0, -, -, -, r4, -⟩ := six_cells hbx6
  have n0 := (hb6.cell (p := ⟨b0, o0 + 0, none⟩) (by show b0 < w5.heap.size; omega)).trans (unhide Hn0)
  have n1 := (hb6.cell (p := ⟨b0, o0 + 1, none⟩) (by show b0 < w5.heap.size; omega)).trans (unhide Hn1)
  have f0 := (hb6.cell (p := ⟨b4, o4 + 0, none⟩) (by show b4 < w5.heap.size; omega)).trans (unhide Hf0)
  have Hb6 := hide ((unhide Hb5).trans (below_le hb6 (by omega)))
  rw [Nat.add_zero] at n0 f0
  clear hb6 hf hbx6
  go_wp2
  go_ret
  exact ⟨rfl, unhide Hb6⟩
end Go.Proofs.YtagohbpbgjelaaaGreatDoor

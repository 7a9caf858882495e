/- Copies of actions: each in memory of its own. -/
import Derived.Test.YtagohbpbgjelaaaGreatDoorJA
import Derived.Test.YtagohbpbgjelaaaGreatDoorGC
import Derived.Deep.AppendLies
namespace Go.Proofs.YtagohbpbgjelaaaGreatDoor
open Go.RowKit

mutual
def AcO (P : Nat → Prop) (w : World) : Ac → Value → Value → Value → Value → Prop
  | .mk k p n ks, v0, v1, v2, v3 => v0 = .int .i64 k ∧ v1 = .int .i64 p ∧ v2 = .string (bs n) ∧ ∃ a c vs, v3 = .slice a ks.length c ∧ AcOs P w ks vs ∧ (ks = [] ∨ ∃ b off, a = some ⟨b, off, none⟩ ∧ P b ∧ ∀ j u, vs[j]? = some u → w.cell? ⟨b, off + j, none⟩ = some u)
def AcOs (P : Nat → Prop) (w : World) : List Ac → List Value → Prop
  | [], vs => vs = []
  | t :: ts, vs => ∃ u0 u1 u2 u3 rest, vs = u0 :: u1 :: u2 :: u3 :: rest ∧ AcO P w t u0 u1 u2 u3 ∧ AcOs P w ts rest
end
mutual
theorem acO_up {P P' : Nat → Prop} {w w' : World} (hP : ∀ b, P b → P' b) (hb : ∀ b, P b → w'.heap[b]? = w.heap[b]?) : ∀ (t : Ac) (v0 v1 v2 v3 : Value), AcO P w t v0 v1 v2 v3 → AcO P' w' t v0 v1 v2 v3
  | .mk k p n ks, v0, v1, v2, v3, h => by
    unfold AcO at h ⊢
    obtain ⟨h0, h1, h2, a, c, vs, h3, hts, hc⟩ := h
    refine ⟨h0, h1, h2, a, c, vs, h3, acOs_up hP hb ks vs hts, ?_⟩
    rcases hc with h | ⟨b, off, h, hlt, hcs⟩
    · exact .inl h
    · exact .inr ⟨b, off, h, hP b hlt, fun j u hj => (World.cell?_of_block (a := ⟨b, off + j, none⟩) (hb b hlt)).trans (hcs j u hj)⟩
theorem acOs_up {P P' : Nat → Prop} {w w' : World} (hP : ∀ b, P b → P' b) (hb : ∀ b, P b → w'.heap[b]? = w.heap[b]?) : ∀ (ts : List Ac) (vs : List Value), AcOs P w ts vs → AcOs P' w' ts vs
  | [], vs, h => by unfold AcOs at h ⊢; exact h
  | t :: ts, vs, h => by
    unfold AcOs at h ⊢
    obtain ⟨u0, u1, u2, u3, rest, rfl, h1, h2⟩ := h
    exact ⟨u0, u1, u2, u3, rest, rfl, acO_up hP hb t _ _ _ _ h1, acOs_up hP hb ts rest h2⟩
end
mutual
theorem acO_at {P : Nat → Prop} {B : Nat} {w : World} (hP : ∀ b, P b → b < B) : ∀ (t : Ac) (v0 v1 v2 v3 : Value), AcO P w t v0 v1 v2 v3 → AcAt B w t v0 v1 v2 v3
  | .mk k p n ks, v0, v1, v2, v3, h => by
    unfold AcO at h
    unfold AcAt
    obtain ⟨h0, h1, h2, a, c, vs, h3, hts, hc⟩ := h
    refine ⟨h0, h1, h2, a, c, vs, h3, acOs_at hP ks vs hts, ?_⟩
    rcases hc with h | ⟨b, off, h, hlt, hcs⟩
    · exact .inl h
    · exact .inr ⟨b, off, h, hP b hlt, hcs⟩
theorem acOs_at {P : Nat → Prop} {B : Nat} {w : World} (hP : ∀ b, P b → b < B) : ∀ (ts : List Ac) (vs : List Value), AcOs P w ts vs → AcTs B w ts vs
  | [], vs, h => by unfold AcOs at h; unfold AcTs; exact h
  | t :: ts, vs, h => by
    unfold AcOs at h
    unfold AcTs
    obtain ⟨u0, u1, u2, u3, rest, rfl, h1, h2⟩ := h
    exact ⟨u0, u1, u2, u3, rest, rfl, acO_at hP t _ _ _ _ h1, acOs_at hP ts rest h2⟩
end
theorem acOs_snoc {P : Nat → Prop} {w : World} {t : Ac} {u0 u1 u2 u3 : Value} (h : AcO P w t u0 u1 u2 u3) : ∀ (ts : List Ac) (vs : List Value), AcOs P w ts vs → AcOs P w (ts ++ [t]) (vs ++ [u0, u1, u2, u3])
  | [], vs, hs => by
    unfold AcOs at hs
    rw [hs]
    show AcOs P w [t] [u0, u1, u2, u3]
    unfold AcOs
    exact ⟨u0, u1, u2, u3, [], rfl, h, by unfold AcOs; rfl⟩
  | x :: xs, vs, hs => by
    unfold AcOs at hs
    obtain ⟨y0, y1, y2, y3, rest, rfl, h1, h2⟩ := hs
    show AcOs P w (x :: (xs ++ [t])) _
    unfold AcOs
    exact ⟨y0, y1, y2, y3, rest ++ [u0, u1, u2, u3], rfl, h1, acOs_snoc h xs rest h2⟩
theorem acO_form {P : Nat → Prop} {w : World} {t : Ac} {v0 v1 v2 v3 : Value} (h : AcO P w t v0 v1 v2 v3) : ∃ (k p : Int) (s : ByteArray) (a : Option Addr) (n c : Nat), v0 = .int .i64 k ∧ v1 = .int .i64 p ∧ v2 = .string s ∧ v3 = .slice a n c := by
  obtain ⟨k, p, n, ks⟩ := t
  unfold AcO at h
  obtain ⟨h0, h1, h2, a, c, vs, h3, -, -⟩ := h
  exact ⟨k, p, bs n, a, ks.length, c, h0, h1, h2, h3⟩

mutual
def acS : Ac → Prop
  | .mk _ _ _ ks => ks.length ≤ 256 ∧ acSL ks
def acSL : List Ac → Prop
  | [] => True
  | t :: ts => acS t ∧ acSL ts
end
theorem partsL_le : ∀ (ts : List Ac) (sy l : Int), partsL ts sy l ≤ l
  | [], sy, l => by unfold partsL; exact Int.le_refl _
  | t :: ts, sy, l => by
    unfold partsL
    split
    · exact Int.le_refl _
    · rename_i h
      have h1 := parts_bd t sy l (by omega)
      have h2 := partsL_le ts sy (partsA t sy l)
      omega
mutual
theorem acS_of : ∀ (t : Ac) (sy l : Int), l ≤ 256 → 0 ≤ partsA t sy l → acS t
  | .mk k p n ks, sy, l, hl, h => by
    unfold partsA at h
    unfold acS
    split at h
    · omega
    · split at h
      · obtain ⟨h1, h2⟩ := acSL_of ks sy (l - 1) (by omega) (by omega) h
        exact ⟨by omega, h1⟩
      · omega
theorem acSL_of : ∀ (ts : List Ac) (sy l : Int), 0 ≤ l → l ≤ 256 → 0 ≤ partsL ts sy l → acSL ts ∧ (ts.length : Int) ≤ l
  | [], sy, l, h0, hl, h => by unfold acSL; exact ⟨trivial, by simpa using h0⟩
  | t :: ts, sy, l, h0, hl, h => by
    unfold partsL at h
    unfold acSL
    rw [if_neg (by omega)] at h
    have h1 := parts_bd t sy l h0
    have h2 := partsL_le ts sy (partsA t sy l)
    have h3 := acS_of t sy l hl (by omega)
    obtain ⟨h4, h5⟩ := acSL_of ts sy (partsA t sy l) (by omega) (by omega) h
    exact ⟨⟨h3, h4⟩, by rw [List.length_cons]; omega⟩
end
theorem info87 : (Tryz.prog.info? 87).map (fun i => (i.zero, i.size, i.bytes)) = some (some (.agg #[.int .i64 0, .int .i64 0, .string ⟨#[]⟩, .slice none 0 0]), 4, 56) := by kernel_rfl
theorem callF130 : ∀ args W, Sem.run Tryz.prog (callFunc 130 args) W = .ok (.enter 130 args) W := fun _ _ => by simp [callFunc, Tryz.func130, Tryz.f130, go_sem, Result.andThen]

def CpC (t : Ac) : Prop := ∀ (w : World) (v0 v1 v2 v3 : Value), AcAt w.heap.size w t v0 v1 v2 v3 → Calls Tryz.prog 130 #[.agg #[v0, v1, v2, v3]] w fun e w' => ∃ v3', e = .returned (.agg #[v0, v1, v2, v3']) ∧ AcO (fun b => w.heap.size ≤ b ∧ b < w'.heap.size) w' t v0 v1 v2 v3' ∧ Below w.heap.size w w'
theorem snoc_take {ks : List Ac} {i : Nat} (hi : i < ks.length) : ks.take (i + 1) = ks.take i ++ [ks.getD i ac0] := by
  rw [List.take_add_one, List.getD_eq_getElem?_getD, List.getElem?_eq_getElem hi]; rfl

set_option maxHeartbeats 2000000 in
set_option maxRecDepth 100000 in
theorem each_any (ks : List Ac) (hA : ∀ t, t ∈ ks → CpC t) (hlen : ks.length ≤ 256) (a : Option Addr) (cap : Nat) (vs : List Value) (w : World) (hts : AcTs w.heap.size w ks vs) (hcs : ks = [] ∨ ∃ b off, a = some ⟨b, off, none⟩ ∧ b < w.heap.size ∧ ∀ j u, vs[j]? = some u → w.cell? ⟨b, off + j, none⟩ = some u) :
    Calls Tryz.prog 151 #[.slice a ks.length cap, .func (.func 130) #[] #[]] w fun e w' => ∃ a' c' vs', e = .returned (.slice a' ks.length c') ∧ AcOs (fun b => w.heap.size ≤ b ∧ b < w'.heap.size) w' ks vs' ∧ (ks = [] ∨ ∃ b off, a' = some ⟨b, off, none⟩ ∧ (w.heap.size ≤ b ∧ b < w'.heap.size) ∧ ∀ j u, vs'[j]? = some u → w'.cell? ⟨b, off + j, none⟩ = some u) ∧ Below w.heap.size w w' := by
  obtain ⟨i87, hi, hz0, hz1, hz2⟩ := info_parts info87
  have HA := hide hA; have Hts := hide hts; have Hcs := hide hcs
  have hcf := callF130
  clear hA hts hcs
  go_enter Tryz.func151, Tryz.ntmps151
  go_wp2
  go_loopw [5, 10] (fun o x W => ∃ (i : Nat) (vs' : List Value), x = .int .i64 i ∧ i ≤ ks.length ∧ W.ownsRow w.heap.size 87 4 o i vs' ∧ AcOs (fun b => (w.heap.size ≤ b ∧ b < W.heap.size) ∧ o.ownBlock ≠ some b) W (ks.take i) vs' ∧ Below w.heap.size w W) (fun _ x _ => ks.length - (intOf x).toNat)
  case atStart => exact ⟨0, [], rfl, Nat.zero_le _, World.ownsRow_nil _ _ _ _, by show AcOs _ _ [] []; unfold AcOs; rfl, Below.refl _ _⟩
  case round =>
    obtain ⟨i, vs', rfl, hi', hown, hacs, hb⟩ := hrel
    obtain ⟨ua, uc, rfl⟩ := own_form hown
    have hsz := hb.size
    by_cases hlt : i < ks.length
    · have hlt' : (i : Int) < ks.length := by omega
      obtain ⟨u0, u1, u2, u3, e0, e1, e2, e3, hu⟩ := acTs_get ks vs (unhide Hts) i hlt
      rcases unhide Hcs with h | ⟨b, off, rfl, hbB, hcs⟩
      · rw [h] at hlt; simp at hlt
      have c0 := (hb.cell (p := ⟨b, off + i * 4, none⟩) hbB).trans (hcs _ _ e0)
      have c1 := (hb.cell (p := ⟨b, off + i * 4 + 1, none⟩) hbB).trans (hcs _ _ e1)
      have c2 := (hb.cell (p := ⟨b, off + i * 4 + 2, none⟩) hbB).trans (hcs _ _ e2)
      have c3 := (hb.cell (p := ⟨b, off + i * 4 + 3, none⟩) hbB).trans (hcs _ _ e3)
      have hu2 := acAt_up hb hu
      obtain ⟨y0, y1, y2, y3, m3, d3, rfl, rfl, rfl, rfl⟩ := acAt_form hu2
      have hm : ks.getD i ac0 ∈ ks := by rw [List.getD_eq_getElem?_getD, List.getElem?_eq_getElem hlt]; exact List.getElem_mem hlt
      have Hsn := hide (snoc_take hlt)
      generalize ks.getD i ac0 = t at *
      have hb2 : Below wr.heap.size wr (wr.alloc (.cells #[.int .i64 y0, .int .i64 y1, .string y2, .slice y3 m3 d3] 87)) := (Below.refl _ _).alloc (Nat.le_refl _) _
      have hs2 : (wr.alloc (.cells #[.int .i64 y0, .int .i64 y1, .string y2, .slice y3 m3 d3] 87)).heap.size = wr.heap.size + 1 := by simp
      have HC := hide (unhide HA t hm _ _ _ _ _ (acAt_up hb2 hu2))
      have Hbl := hide (fun k hk => (hown.lt k hk).2)
      have Hown2 := hide (own_below hown hb2)
      have Hacs := hide hacs; have Hb := hide hb; have Hb2 := hide hb2
      clear hu hu2 e0 e1 e2 e3 hcs hb2 hown hacs hb hm
      go_wp2_with fail
      refine (unhide HC).mono ?_
      rintro e w3 ⟨v3', rfl, hac3, hb3⟩
      obtain ⟨_, _, _, z3, n3, q3, -, -, -, rfl⟩ := acO_form hac3
      rw [hs2] at hb3
      have hs3 := hb3.size
      have Hb23 := hide ((unhide Hb2).trans (below_le hb3 (by omega)))
      have Hown3 := hide (own_below (unhide Hown2) (below_le hb3 (by omega)))
      rw [hs2] at hac3
      have Hac3 := hide hac3
      clear hac3 hb3 HC Hown2 Hb2 c0 c1 c2 c3
      go_wp2_with (at_builtin; refine wpList_append_lies _ rfl _ _ 85 rfl w.heap.size 87 i87 (.agg #[.int .i64 0, .int .i64 0, .string ⟨#[]⟩, .slice none 0 0]) 4 56 Tryz.underlying85 hi hz0 hz1 hz2 rfl (by decide) _ _ _ rfl ((unhide Hown3).alloc _) ⟨w3.heap.size, 0, none⟩ 1 1 [.int .i64 y0, .int .i64 y1, .string y2, .slice z3 n3 q3] rfl rfl ?zc1 ?zc2 (by decide) ?zc3 ?zc4 ?zc5 _ rfl ?_)
      case zc1 => exact fun j u hu => cells_new (cs := #[.int .i64 y0, .int .i64 y1, .string y2, .slice z3 n3 q3]) _ _ hu
      case zc2 => intro u hu; simp at hu; rcases hu with rfl | rfl | rfl | rfl <;> rfl
      case zc3 => unfold maxLen; omega
      case zc4 => omega
      case zc5 => simp; omega
      intro g cap' W4 hown' hgrow hat hlt4
      have hb3' : Below w.heap.size w w3 := (unhide Hb).trans (below_le (unhide Hb23) (by omega))
      have Hb4 := hide ((hb3'.alloc (by omega) (.cells #[.int .i64 y0, .int .i64 y1, .string y2, .slice z3 n3 q3] 87)).grown hgrow (by simp; omega) (fun j hj => ((unhide Hown3).lt j hj).1))
      have hs4 := hgrow.size
      rw [show (w3.alloc (.cells #[.int .i64 y0, .int .i64 y1, .string y2, .slice z3 n3 q3] 87)).heap.size = w3.heap.size + 1 by simp] at hs4
      have hmem : ∀ b, b < w3.heap.size → (Value.slice ua i uc).ownBlock ≠ some b → W4.heap[b]? = w3.heap[b]? := fun b hb hne => (hgrow.block b (by simp; omega) (fun e => hne e.symm)).trans (Below.heap_alloc _ _ _ hb)
      have hk1 : AcOs (fun b => (w.heap.size ≤ b ∧ b < W4.heap.size) ∧ (Value.slice (some ⟨g, 0, none⟩) (i + 1) cap').ownBlock ≠ some b) W4 (ks.take i) vs' := acOs_up (fun b hP => ⟨⟨hP.1.1, by have := hP.1.2; omega⟩, fun e => by
        have e : some g = some b := e
        rcases hat with h | h
        · exact hP.2 (h.trans e)
        · have h9 := hP.1.2
          injection e with e
          omega⟩) (fun b hP => (hmem b (by have := hP.1.2; omega) hP.2).trans ((unhide Hb23).block b hP.1.2)) _ _ (unhide Hacs)
      have hk2 : AcO (fun b => (w.heap.size ≤ b ∧ b < W4.heap.size) ∧ (Value.slice (some ⟨g, 0, none⟩) (i + 1) cap').ownBlock ≠ some b) W4 t (.int .i64 y0) (.int .i64 y1) (.string y2) (.slice z3 n3 q3) := acO_up (fun b hP => ⟨⟨by have := hP.1; omega, by have := hP.2; omega⟩, fun e => by
        have e : some g = some b := e
        injection e with e
        obtain ⟨h8, h9⟩ := hP
        rcases hat with h | h
        · have := unhide Hbl g h
          omega
        · omega⟩) (fun b hP => hmem b hP.2 (fun e => by have := unhide Hbl b e; have := hP.1; omega)) _ _ _ _ _ (unhide Hac3)
      have Hk := hide (acOs_snoc hk2 _ _ hk1)
      rw [← unhide Hsn] at Hk
      have Hown' := hide hown'
      clear hown' hgrow hat hmem hk1 hk2 hb3'
      go_wp2
      go_roundw
      case rel => exact ⟨i + 1, _, by go_num, by omega, unhide Hown', unhide Hk, unhide Hb4⟩
      case measure => simp [intOf]; omega
    · obtain rfl : i = ks.length := by omega
      rw [List.take_of_length_le (Nat.le_refl _)] at hacs
      have Hfin : Hid (AcOs (fun b => w.heap.size ≤ b ∧ b < wr.heap.size) wr ks vs' ∧ (ks = [] ∨ ∃ b off, ua = some ⟨b, off, none⟩ ∧ (w.heap.size ≤ b ∧ b < wr.heap.size) ∧ ∀ j u, vs'[j]? = some u → wr.cell? ⟨b, off + j, none⟩ = some u) ∧ Below w.heap.size w wr) := hide ⟨acOs_up (fun b h => h.1) (fun _ _ => rfl) _ _ hacs, by
        rcases hown.2 with ⟨-, h0⟩ | ⟨g, cap', cur, hv, hg1, -⟩
        · exact .inl (List.length_eq_zero_iff.1 h0)
        · cases hv
          refine .inr ⟨g, 0, rfl, ?_, fun j u hu => ?_⟩
          · exact hown.lt g rfl
          · have := hown.cells (g := g) rfl j u hu
            rw [addr_addN] at this
            exact this, hb⟩
      clear hacs hown hb
      go_wp2
      go_ret
      exact ⟨ua, uc, vs', rfl, (unhide Hfin).1, (unhide Hfin).2.1, (unhide Hfin).2.2⟩
end Go.Proofs.YtagohbpbgjelaaaGreatDoor

namespace Go.Proofs.YtagohbpbgjelaaaGreatDoor
open Go.RowKit

theorem set4 {w : World} {b : Nat} {t : TypeId} {a0 a1 a2 a3 : Value} (h : w.heap[b]? = some (.cells #[a0, a1, a2, a3] t)) (v0 v1 v2 v3 : Value) :
    ((((w.setCell ⟨b, 0, none⟩ v0).setCell ⟨b, 1, none⟩ v1).setCell ⟨b, 2, none⟩ v2).setCell ⟨b, 3, none⟩ v3).heap[b]? = some (.cells #[v0, v1, v2, v3] t) ∧ Fr (· = b) w ((((w.setCell ⟨b, 0, none⟩ v0).setCell ⟨b, 1, none⟩ v1).setCell ⟨b, 2, none⟩ v2).setCell ⟨b, 3, none⟩ v3) :=
  ⟨set_blk (set_blk (set_blk (set_blk h v0) v1) v2) v3, fr_set (fr_set (fr_set (fr_set (fr_refl (· = b) w) (by rfl) _) (by rfl) _) (by rfl) _) (by rfl) _⟩
theorem four_cells {w : World} {b : Nat} {t : TypeId} {a0 a1 a2 a3 : Value} (h : w.heap[b]? = some (.cells #[a0, a1, a2, a3] t)) : w.cell? ⟨b, 0, none⟩ = some a0 ∧ w.cell? ⟨b, 1, none⟩ = some a1 ∧ w.cell? ⟨b, 2, none⟩ = some a2 ∧ w.cell? ⟨b, 3, none⟩ = some a3 ∧ w.frozen? ⟨b, 0, none⟩ = false ∧ w.frozen? ⟨b, 1, none⟩ = false ∧ w.frozen? ⟨b, 2, none⟩ = false ∧ w.frozen? ⟨b, 3, none⟩ = false := by
  refine ⟨?_, ?_, ?_, ?_, ?_, ?_, ?_, ?_⟩ <;> (first | (unfold World.cell?; rw [h]; rfl) | (unfold World.frozen?; rw [h]; rfl))

set_option maxHeartbeats 1000000 in
set_option maxRecDepth 100000 in
theorem copy_of (k p : Int) (n : List UInt8) (ks : List Ac) (hE : ∀ t, t ∈ ks → CpC t) (hlen : ks.length ≤ 256) : CpC (.mk k p n ks) := by
  intro w v0 v1 v2 v3 hA
  unfold AcAt at hA
  obtain ⟨rfl, rfl, rfl, ka, kc, vs, rfl, hts, hkc⟩ := hA
  obtain ⟨w0, hw0⟩ : ∃ w0, w0 = w.alloc (.cells #[.int .i64 k, .int .i64 p, .string (bs n), .slice ka ks.length kc] 87) := ⟨_, rfl⟩
  have hb0 : Below w.heap.size w w0 := by rw [hw0]; exact (Below.refl _ _).alloc (Nat.le_refl _) _
  have hs0 : w0.heap.size = w.heap.size + 1 := by rw [hw0]; simp
  have hbx0 : w0.heap[w.heap.size]? = some (.cells #[.int .i64 k, .int .i64 p, .string (bs n), .slice ka ks.length kc] 87) := by rw [hw0]; exact Go.Deep.blk_alloc_new _ _
  obtain ⟨w1, hw1⟩ : ∃ w1, w1 = w0.alloc (.cells #[.int .i64 0, .int .i64 0, .string ⟨#[]⟩, .slice none 0 0] 87) := ⟨_, rfl⟩
  have hb01 : Below w0.heap.size w0 w1 := by rw [hw1]; exact (Below.refl _ _).alloc (Nat.le_refl _) _
  have hs1 : w1.heap.size = w.heap.size + 1 + 1 := by rw [hw1]; simp; exact hs0
  have hbx : w1.heap[w.heap.size]? = some (.cells #[.int .i64 k, .int .i64 p, .string (bs n), .slice ka ks.length kc] 87) := (hb01.block _ (by omega)).trans hbx0
  have hbr : w1.heap[w.heap.size + 1]? = some (.cells #[.int .i64 0, .int .i64 0, .string ⟨#[]⟩, .slice none 0 0] 87) := by rw [hw1, ← hs0]; exact Go.Deep.blk_alloc_new _ _
  have hb1 : Below w.heap.size w w1 := hb0.trans (below_le hb01 (by omega))
  have Hbr := hide hbr; have Hw0 := hide hw0
  clear hw0 hbx0 hb01 hbr hb0
  have HE := hide (each_any ks hE hlen ka kc vs w1 (acTs_upB (by omega) _ _ (acTs_kept hb1 _ _ hts)) (hkc.imp id (fun ⟨b, off, h1, h2, h3⟩ => ⟨b, off, h1, by omega, fun j u hu => (hb1.cell (p := ⟨b, off + j, none⟩) h2).trans (h3 j u hu)⟩)))
  have Hb1 := hide hb1; have Hbx := hide hbx; have Hw1 := hide hw1
  clear hts hkc hE hb1 hbx hw1
  go_enter Tryz.func130, Tryz.ntmps130
  go_wp2_with fail
  rw [← unhide Hw0, ← unhide Hw1]
  clear Hw1 Hw0
  refine (unhide HE).mono ?_
  rintro e w2 ⟨a', c', vs', rfl, hac, hrow, hb2⟩
  have hs2 := hb2.size
  have hbx2 := (hb2.block w.heap.size (by omega)).trans (unhide Hbx)
  have hbr2 := (hb2.block (w.heap.size + 1) (by omega)).trans (unhide Hbr)
  obtain ⟨w3, hw3⟩ : ∃ w3, w3 = w2.setCell ⟨w.heap.size, 3, none⟩ (.slice a' ks.length c') := ⟨_, rfl⟩
  have hbx3 : w3.heap[w.heap.size]? = some (.cells #[.int .i64 k, .int .i64 p, .string (bs n), .slice a' ks.length c'] 87) := by rw [hw3]; exact set_blk hbx2 _
  have hf3 : Fr (· = w.heap.size) w2 w3 := by rw [hw3]; exact fr_set (fr_refl _ _) (by rfl) _
  have hbr3 := (hf3.2.1 (w.heap.size + 1) (by omega) (by show ¬ _ = _; omega)).trans hbr2
  obtain ⟨-, -, -, c3, -, -, -, f3⟩ := four_cells hbx2
  obtain ⟨d0, d1, d2, d3, -, -, -, -⟩ := four_cells hbx3
  obtain ⟨r0, r1, r2, r3, g0, g1, g2, g3⟩ := four_cells hbr3
  have hs4 := set4 hbr3 (.int .i64 k) (.int .i64 p) (.string (bs n)) (.slice a' ks.length c')
  have Hs4 := hide hs4; have Hac := hide hac; have Hrow := hide hrow; have Hb12 := hide ((unhide Hb1).trans (below_le hb2 (by omega))); have Hf3 := hide hf3
  clear hs4 hac hrow hb2 hf3 hbx2 hbr2 hbx3 hbr3
  rw [hw3] at d0 d1 d2 d3 r0 r1 r2 r3 g0 g1 g2 g3
  go_wp2
  rw [← hw3]
  obtain ⟨hbF, hfF⟩ := unhide Hs4
  obtain ⟨WF, hWF⟩ : ∃ WF, WF = (((w3.setCell ⟨w.heap.size + 1, 0, none⟩ (.int .i64 k)).setCell ⟨w.heap.size + 1, 1, none⟩ (.int .i64 p)).setCell ⟨w.heap.size + 1, 2, none⟩ (.string (bs n))).setCell ⟨w.heap.size + 1, 3, none⟩ (.slice a' ks.length c') := ⟨_, rfl⟩
  rw [← hWF] at hbF hfF ⊢
  obtain ⟨y0, y1, y2, y3, -, -, -, -⟩ := four_cells hbF
  have hF1 := (unhide Hf3).1; have hF2 := hfF.1
  have hmem : ∀ b, w1.heap.size ≤ b → b < w2.heap.size → WF.heap[b]? = w2.heap[b]? := fun b h1 h2 => (hfF.2.1 b (by omega) (by show ¬ _ = _; omega)).trans ((unhide Hf3).2.1 b h2 (by show ¬ _ = _; omega))
  refine bodyPost_ret (v := .agg #[.int .i64 k, .int .i64 p, .string (bs n), .slice a' ks.length c']) ?zz9 rfl ⟨.slice a' ks.length c', rfl, ?_, ?_⟩
  case zz9 => simp [results, Tryz.results130, go_sem, y0, y1, y2, y3]
  · unfold AcO
    refine ⟨rfl, rfl, rfl, a', c', vs', rfl, acOs_up (fun b hb => by omega) (fun b hb => hmem b hb.1 hb.2) _ _ (unhide Hac), ?_⟩
    rcases unhide Hrow with h | ⟨b, off, h1, h2, h3⟩
    · exact .inl h
    · exact .inr ⟨b, off, h1, by omega, fun j u hu => (World.cell?_of_block (a := ⟨b, off + j, none⟩) (hmem b h2.1 h2.2)).trans (h3 j u hu)⟩
  · exact (unhide Hb12).trans ((fr_below (unhide Hf3) (by omega) (fun j hj => by have hj : j = w.heap.size := hj; omega)).trans (fr_below hfF (by omega) (fun j hj => by have hj : j = w.heap.size + 1 := hj; omega)))
mutual
theorem copyAct : ∀ (t : Ac), acS t → CpC t
  | .mk k p n ks, h => by
    unfold acS at h
    exact copy_of k p n ks (copyActs ks h.2) h.1
theorem copyActs : ∀ (ts : List Ac), acSL ts → ∀ t, t ∈ ts → CpC t
  | [], _, t, ht => by simp at ht
  | x :: xs, h, t, ht => by
    unfold acSL at h
    have h1 := copyAct x h.1
    rcases List.mem_cons.1 ht with e | ht
    · rw [e]; exact h1
    · exact copyActs xs h.2 t ht
end
end Go.Proofs.YtagohbpbgjelaaaGreatDoor

namespace Go.Proofs.YtagohbpbgjelaaaGreatDoor
open Go.RowKit

theorem wpList_append_any {P : Program} {w : World} {ops : Array Oper} {rest : List Oper} {o : Oper} {a : Act} {Q : Exit → Act → World → Prop} (hgd : o.guard = none) (s x : Operand) (t : TypeId)
    (ho : o.op = .call { callee := .builtin .append, args := #[s, x], argTypes := #[t, t] })
    (base : Nat) (e : TypeId) (i : TypeInfo) (z : Value) (size bytes : Nat) (ht : P.underlying t = some (.slice e)) (hi : P.info? e = some i) (hz : i.zero = some z)
    (hsize : i.size = size) (hby : i.bytes = bytes) (hzs : z.cells.size = size) (hsz : 0 < size)
    (v : Value) (n : Nat) (xs : List Value) (hs : a.eval s = v) (hown : w.ownsRow base e size v n xs)
    (la : Option Addr) (m c : Nat) (vs : List Value) (hx : a.eval x = .slice la m c) (hl : vs.length = m * size) (hv : LieAt w la m vs) (h1 : ∀ u ∈ vs, u.oneCell' = true)
    (h63 : n + m ≤ maxLen) (hbytes : (n + m) * bytes ≤ 140737488355328) (hbase : base ≤ w.heap.size)
    (h : ∀ v' w', w'.ownsRow base e size v' (n + m) (xs ++ vs) → w.grownBy w' v.ownBlock → wpList P ops Q rest (a.put o.dst v') w') : wpList P ops Q (o :: rest) a w :=
  wpList_plain hgd fun _ hK => wp_append_any s x t ho base e i z size bytes ht hi hz hsize hby hzs hsz v n xs hs hown la m c vs hx hl hv h1 h63 hbytes hbase fun v' w' h2 h3 => hK _ _ (h v' w' h2 h3)
theorem srow_lies {B : Nat} {w : World} {a : Option Addr} {l : List (List UInt8)} (h : SRow B w a l) : LieAt w a l.length (vstrs l) := by
  rcases h with rfl | ⟨b, off, h1, -, h3⟩
  · exact .inl ⟨rfl, rfl⟩
  · refine .inr ⟨b, off, h1, fun j u hu => ?_⟩
    unfold vstrs at hu
    rw [List.getElem?_map] at hu
    obtain ⟨x, hx, rfl⟩ := Option.map_eq_some_iff.1 hu
    rw [h3 j (List.getElem?_eq_some_iff.1 hx).1, List.getD_eq_getElem?_getD, hx]
    rfl
theorem lrow_lies {B : Nat} {w : World} {a : Option Addr} {l : List (Int × Int)} (h : LRow B w a l) : LieAt w a l.length (vprecs l) := by
  rcases h with rfl | ⟨b, off, h1, -, h3⟩
  · exact .inl ⟨rfl, rfl⟩
  · refine .inr ⟨b, off, h1, fun j u hu => ?_⟩
    have hj := (List.getElem?_eq_some_iff.1 hu).1
    rw [vprecs_len] at hj
    obtain ⟨k, hk⟩ : ∃ k, j = k * 2 ∨ j = k * 2 + 1 := ⟨j / 2, by omega⟩
    have hkl : k < l.length := by omega
    obtain ⟨g1, g2⟩ := vprecs_get l k hkl
    obtain ⟨c1, c2⟩ := h3 k hkl
    rcases hk with rfl | rfl
    · rw [g1] at hu; injection hu with hu; rw [← hu]; exact c1
    · rw [g2] at hu; injection hu with hu; rw [← hu]; exact c2
set_option maxHeartbeats 1000000 in
set_option maxRecDepth 100000 in
theorem words_any (a : Option Addr) (c : Nat) (l : List (List UInt8)) (hl : l.length ≤ 4096) (w : World) (hrow : SRow w.heap.size w a l) :
    Calls Tryz.prog 101 #[.slice a l.length c] w fun e w' => ∃ v, e = .returned v ∧ w'.ownsRow w.heap.size 9 1 v l.length (vstrs l) ∧ Below w.heap.size w w' := by
  obtain ⟨i9, hi, hz0, hz1, hz2⟩ := info_parts info9
  have Hrow := hide (srow_lies hrow)
  clear hrow
  go_enter Tryz.func101, Tryz.ntmps101
  go_wp2_with (at_builtin; refine wpList_append_any rfl _ _ 22 rfl w.heap.size 9 i9 (.string ⟨#[]⟩) 1 16 Tryz.underlying22 hi hz0 hz1 hz2 rfl (by decide) _ 0 [] rfl (World.ownsRow_nil _ _ _ _) a l.length c (vstrs l) rfl (by simp [vstrs]) (unhide Hrow) (vstrs_one l) ?zc3 ?zc4 (Nat.le_refl _) ?_)
  case zc3 => unfold maxLen; omega
  case zc4 => omega
  intro v' w2 hown' hgrow
  have Hb := hide ((Below.refl w.heap.size w).grown hgrow (Nat.le_refl _) (fun j hj => by simp [Value.ownBlock] at hj))
  have Hown := hide hown'
  obtain ⟨va, vc, rfl⟩ := own_form hown'
  clear hown' hgrow
  go_wp2
  go_ret
  exact ⟨_, rfl, unhide Hown, unhide Hb⟩
end Go.Proofs.YtagohbpbgjelaaaGreatDoor

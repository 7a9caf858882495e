/- The code's actions. -/
import Derived.Test.YtagohbpbgjelaaaGreatDoorM1
import Derived.Test.YtagohbpbgjelaaaGreatDoorWkK1
namespace Go.Proofs.YtagohbpbgjelaaaGreatDoor
open Go.RowKit

def ActPost (pb : Nat) (l : Int) (w : World) (e : Ending) (w' : World) : Prop := ∃ c', e = .returned (.bool (decide (0 ≤ l))) ∧ (0 ≤ l → c' = 256 - l) ∧ w'.heap[pb]? = some (.cells #[.int .i64 c'] 3) ∧ Fr (· = pb) w w'
def ActC (B : Nat) (sy : Int) (N : Nat) : Prop := ∀ (t : Ac) (c : Int) (pb : Nat) (w : World) (v0 v1 v2 v3 : Value), B ≤ pb → B ≤ w.heap.size → AcAt B w t v0 v1 v2 v3 → 0 ≤ c → c ≤ 256 → 256 - c < N → w.heap[pb]? = some (.cells #[.int .i64 c] 3) →
  Calls Tryz.prog 142 #[.agg #[v0, v1, v2, v3], .int .i64 sy, .pointer (some ⟨pb, 0, none⟩)] w fun e w' => ActPost pb (partsA t sy (256 - c)) w e w'
def KidC (B : Nat) (sy : Int) (N : Nat) : Prop := ∀ (ks : List Ac) (c : Int) (pb : Nat) (w : World) (a : Option Addr) (cap : Nat) (vs : List Value), B ≤ pb → B ≤ w.heap.size → AcTs B w ks vs → (ks = [] ∨ ∃ b off, a = some ⟨b, off, none⟩ ∧ b < B ∧ ∀ j u, vs[j]? = some u → w.cell? ⟨b, off + j, none⟩ = some u) → 0 ≤ c → c ≤ 256 → 256 - c < N → w.heap[pb]? = some (.cells #[.int .i64 c] 3) →
  Calls Tryz.prog 160 #[.slice a ks.length cap, .int .i64 sy, .pointer (some ⟨pb, 0, none⟩)] w fun e w' => ActPost pb (partsL ks sy (256 - c)) w e w'
theorem ct_cell {w : World} {pb : Nat} {v : Value} (h : w.heap[pb]? = some (.cells #[v] 3)) : w.cell? ⟨pb, 0, none⟩ = some v ∧ w.frozen? ⟨pb, 0, none⟩ = false := by
  constructor
  · unfold World.cell?; rw [h]; rfl
  · unfold World.frozen?; rw [h]; rfl
set_option maxHeartbeats 1000000 in
set_option maxRecDepth 100000 in
theorem kids_of {B : Nat} {sy : Int} {N : Nat} (hA : ActC B sy N) : KidC B sy N := by
  intro ks c pb w a cap vs hpb hB hts hcs hc0 hc1 hN hct
  have HA := hide hA; have Hts := hide hts; have Hcs := hide hcs
  clear hA hts hcs
  have hnot := run_not
  obtain ⟨R, hR⟩ : ∃ R, R = partsL ks sy (256 - c) := ⟨_, rfl⟩
  rw [← hR]
  go_enter Tryz.func160, Tryz.ntmps160
  go_wp2
  go_loopw [11] (fun x wr => ∃ (i : Nat) (ci : Int), x = .int .i64 i ∧ i ≤ ks.length ∧ (i : Int) ≤ ci - c ∧ ci ≤ 256 ∧ 256 - ci < N ∧ R = partsL (ks.drop i) sy (256 - ci) ∧ wr.heap[pb]? = some (.cells #[.int .i64 ci] 3) ∧ Fr (· = pb) w wr) (fun x _ => ks.length - (intOf x).toNat)
  case atStart => exact ⟨0, c, rfl, Nat.zero_le _, by omega, hc1, hN, hR, hct, fr_refl _ _⟩
  case round =>
    obtain ⟨i, ci, rfl, hi, h0, h1, h2, hRi, hcti, hfr⟩ := hrel
    have hbW : Below B w wr := fr_below hfr hB (fun k hk => by have hk : k = pb := hk; omega)
    have Hfr := hide hfr
    have hszr := hfr.1
    clear hfr hR hct
    by_cases hlt : i < ks.length
    · have hlt' : (i : Int) < ks.length := by omega
      obtain ⟨u0, u1, u2, u3, e0, e1, e2, e3, hu⟩ := acTs_get ks vs (unhide Hts) i hlt
      rcases unhide Hcs with h | ⟨b, off, rfl, hbB, hcs⟩
      · rw [h] at hlt; simp at hlt
      have c0 := (hbW.cell (p := ⟨b, off + i * 4, none⟩) hbB).trans (hcs _ _ e0)
      have c1 := (hbW.cell (p := ⟨b, off + i * 4 + 1, none⟩) hbB).trans (hcs _ _ e1)
      have c2 := (hbW.cell (p := ⟨b, off + i * 4 + 2, none⟩) hbB).trans (hcs _ _ e2)
      have c3 := (hbW.cell (p := ⟨b, off + i * 4 + 3, none⟩) hbB).trans (hcs _ _ e3)
      have hu2 := acAt_kept hbW _ _ _ _ _ hu
      obtain ⟨y0, y1, y2, y3, m3, d3, rfl, rfl, rfl, rfl⟩ := acAt_form hu2
      have hpbl : pb < wr.heap.size := (Array.getElem?_eq_some_iff.1 hcti).1
      have hb2 : Below wr.heap.size wr (wr.alloc (.cells #[.int .i64 y0, .int .i64 y1, .string y2, .slice y3 m3 d3] 87)) := (Below.refl _ _).alloc (Nat.le_refl _) _
      have hs2 : (wr.alloc (.cells #[.int .i64 y0, .int .i64 y1, .string y2, .slice y3 m3 d3] 87)).heap.size = wr.heap.size + 1 := by simp
      have HC := hide (unhide HA (ks.getD i ac0) ci pb (wr.alloc (.cells #[.int .i64 y0, .int .i64 y1, .string y2, .slice y3 m3 d3] 87)) _ _ _ _ hpb (by omega) (acAt_kept (below_le hb2 (by omega)) _ _ _ _ _ hu2) (by omega) h1 h2 ((hb2.block pb hpbl).trans hcti))
      have Hfr2 := hide (fr_new (unhide Hfr) hb2)
      have hbd := parts_bd (ks.getD i ac0) sy (256 - ci) (by omega)
      have hRi2 : R = partsL (ks.drop (i + 1)) sy (partsA (ks.getD i ac0) sy (256 - ci)) := by rw [hRi, dropA hlt, partsL, if_neg (by omega)]
      generalize partsA (ks.getD i ac0) sy (256 - ci) = q2 at *
      clear hu hu2 hbW e0 e1 e2 e3 hcs hRi hb2
      go_wp2_with fail
      refine (unhide HC).mono ?_
      rintro e w3 ⟨c', rfl, hc', hct', hfr3⟩
      have Hfr3 := hide (fr_t (unhide Hfr2) hfr3)
      clear hfr3
      by_cases hq : 0 ≤ q2
      · have hd : decide (0 ≤ q2) = true := by simpa using hq
        have hc2 := hc' hq
        go_wp2
        go_roundw
        case rel => exact ⟨i + 1, c', by go_num, by omega, by omega, by omega, by omega, by rw [show (256 : Int) - c' = q2 by omega]; exact hRi2, hct', unhide Hfr3⟩
        case measure => simp [intOf]; omega
      · have hd : decide (0 ≤ q2) = false := decide_eq_false hq
        have hRq : R = q2 := by rw [hRi2]; exact partsL_neg _ _ _ (by omega)
        have Hr : Hid (decide (0 ≤ R) = false) := hide (by rw [hRq]; exact hd)
        have Hn : Hid (0 ≤ R → False) := hide (fun h => by omega)
        go_wp2
        go_ret
        refine ⟨c', ?_, fun h => (unhide Hn h).elim, hct', unhide Hfr3⟩
        rw [unhide Hr]; rfl
    · obtain rfl : i = ks.length := by omega
      have hR2 : R = 256 - ci := by rw [hRi, List.drop_length]; rfl
      have hd : decide (0 ≤ R) = true := by simp; omega
      go_wp2
      go_ret
      refine ⟨ci, ?_, fun _ => by omega, hcti, unhide Hfr⟩
      rw [hd]; rfl
set_option maxHeartbeats 1000000 in
set_option maxRecDepth 100000 in
theorem act_of {B : Nat} {sy : Int} {N : Nat} (hK : KidC B sy N) : ActC B sy (N + 1) := by
  rintro ⟨k, p, n, ks⟩ c pb w v0 v1 v2 v3 hpb hB hA hc0 hc1 hN hct
  unfold AcAt at hA
  obtain ⟨rfl, rfl, rfl, ka, kc, vs, rfl, hts, hkc⟩ := hA
  have hpbl : pb < w.heap.size := (Array.getElem?_eq_some_iff.1 hct).1
  obtain ⟨o1, ho1⟩ : ∃ o1, o1 = Obj.cells #[.int .i64 k, .int .i64 p, .string (bs n), .slice ka ks.length kc] 87 := ⟨_, rfl⟩
  obtain ⟨d0, df⟩ := ct_cell hct
  have hs1 : ((w.setCell ⟨pb, 0, none⟩ (.int .i64 (c + 1))).alloc o1).heap.size = w.heap.size + 1 := by simp
  have hne : w.heap.size ≠ pb := by omega
  obtain ⟨W1, hW1⟩ : ∃ W1, W1 = w.setCell ⟨pb, 0, none⟩ (.int .i64 (c + 1)) := ⟨_, rfl⟩
  have hct1 : W1.heap[pb]? = some (.cells #[.int .i64 (c + 1)] 3) := by rw [hW1]; exact Wk.block_set (i := 0) hct _
  have hf1 : Fr (· = pb) w W1 := by rw [hW1]; exact fr_set (fr_refl _ _) (by rfl) _
  have hsW1 : W1.heap.size = w.heap.size := by rw [hW1]; simp
  obtain ⟨W2, hW2⟩ : ∃ W2, W2 = W1.alloc o1 := ⟨_, rfl⟩
  have hb1 : Below W1.heap.size W1 W2 := by rw [hW2]; exact (Below.refl _ _).alloc (Nat.le_refl _) _
  have hct2 := (hb1.block pb (by omega)).trans hct1
  have hf : Fr (· = pb) w W2 := fr_new hf1 hb1
  have hbW : Below B w W2 := fr_below hf hB (fun k hk => by have hk : k = pb := hk; omega)
  have hsz2 := hf.1
  have z4 := (ct_cell hct1).1
  have Hf := hide hf; have Hct2 := hide hct2
  have hnot := run_not
  have hwc : IntKind.i64.wrap (c + 1) = c + 1 := by rw [IntKind.wrap_i64]; omega
  have Hts := hide (acTs_kept hbW _ _ hts)
  have Hkc := hide (show ks = [] ∨ ∃ b off, ka = some ⟨b, off, none⟩ ∧ b < B ∧ ∀ j u, vs[j]? = some u → W2.cell? ⟨b, off + j, none⟩ = some u from hkc.imp id (fun ⟨b, off, h1, h2, h3⟩ => ⟨b, off, h1, h2, fun j u hu => (hbW.cell (p := ⟨b, off + j, none⟩) h2).trans (h3 j u hu)⟩))
  have HK := hide hK
  have HE := hide (fun o : Obj => show ((w.setCell ⟨pb, 0, none⟩ (.int .i64 (c + 1))).alloc o).heap[pb]? = some (.cells #[.int .i64 (c + 1)] 3) ∧ Fr (· = pb) w ((w.setCell ⟨pb, 0, none⟩ (.int .i64 (c + 1))).alloc o) by
    rw [← hW1]
    have hbo : Below W1.heap.size W1 (W1.alloc o) := (Below.refl _ _).alloc (Nat.le_refl _) _
    exact ⟨(hbo.block pb (by omega)).trans hct1, fr_new hf1 hbo⟩)
  have HK2 := hide (fun o : Obj => show ∀ q : Unit, AcTs B ((w.setCell ⟨pb, 0, none⟩ (.int .i64 (c + 1))).alloc o) ks vs ∧ (ks = [] ∨ ∃ b off, ka = some ⟨b, off, none⟩ ∧ b < B ∧ ∀ j u, vs[j]? = some u → ((w.setCell ⟨pb, 0, none⟩ (.int .i64 (c + 1))).alloc o).cell? ⟨b, off + j, none⟩ = some u) by
    intro _
    have hbo := fr_below (unhide HE o).2 hB (fun k hk => by have hk : k = pb := hk; omega)
    exact ⟨acTs_kept hbo _ _ hts, hkc.imp id (fun ⟨b, off, h1, h2, h3⟩ => ⟨b, off, h1, h2, fun j u hu => (hbo.cell (p := ⟨b, off + j, none⟩) h2).trans (h3 j u hu)⟩)⟩)
  rw [hW1] at hW2 z4
  rw [ho1] at hW2
  clear Hts Hkc
  clear hct hct1 hb1 hf hf1 hbW hts hkc hct2 hK hW1 ho1 hs1
  by_cases hcm : c = 256
  · have hgt : (256 : Int) < c + 1 := by omega
    have Hp : Hid (decide (0 ≤ partsA (.mk k p n ks) sy (256 - c)) = false) := hide (by subst hcm; unfold partsA; rfl)
    have Hq : Hid (0 ≤ partsA (.mk k p n ks) sy (256 - c) → False) := hide (by subst hcm; unfold partsA; intro h; simp at h)
    clear hcm
    go_enter Tryz.func142, Tryz.ntmps142
    go_wp2
    rw [← hW2]
    go_ret
    refine ⟨c + 1, ?_, fun h => (unhide Hq h).elim, unhide Hct2, unhide Hf⟩
    rw [unhide Hp]; rfl
  · have hc257 : ¬ (256 : Int) < c + 1 := by omega
    have Hpa : Hid (partsA (.mk k p n ks) sy (256 - c) = if okA k p n ks.length sy then partsL ks sy (256 - (c + 1)) else -1) := hide (by unfold partsA; rw [if_neg (by omega), show (256 : Int) - c - 1 = 256 - (c + 1) by omega])
    obtain ⟨R, hR⟩ : ∃ R, R = partsA (.mk k p n ks) sy (256 - c) := ⟨_, rfl⟩
    rw [← hR] at Hpa ⊢
    clear hR
    go_enter Tryz.func142, Tryz.ntmps142
    have Hc1 : Hid (okA k p n ks.length sy → k ≠ 2 → R = 256 - (c + 1)) := hide (fun h hk => by
      have h0 : ks = [] := by
        rcases h with h | h | h | h
        · exact List.eq_nil_of_length_eq_zero h.2.2.2
        · exact List.eq_nil_of_length_eq_zero h.2.2.2.2
        · exact List.eq_nil_of_length_eq_zero h.2.2.2
        · exact absurd h.1 hk
      rw [unhide Hpa, if_pos h, h0]; rfl)
    have Hc0 : Hid (¬ okA k p n ks.length sy → R = -1) := hide (fun h => by rw [unhide Hpa, if_neg h])
    have hne0 : (n = []) ↔ n.length = 0 := List.length_eq_zero_iff.symm
    have Hne : Hid ((bs n).toList = [] ↔ n.length = 0) := hide (by rw [bs_toList]; exact hne0)
    have Hsz : Hid ((bs n).size = n.length) := hide rfl
    have Hfin : Hid (∀ (b : Bool) (W : World), (b = true ↔ (k = 0 ∧ p = 0 ∧ n.length = 0 ∧ ks.length = 0) ∨ (k = 1 ∧ 0 ≤ p ∧ p < sy ∧ n.length = 0 ∧ ks.length = 0) ∨ (k = 3 ∧ n.length ≤ 4096 ∧ p = 0 ∧ ks.length = 0) ∨ (k = 2 ∧ 1 ≤ n.length ∧ n.length ≤ 32 ∧ p = 0)) → (k = 2 → b = false) → (∃ o, W = (w.setCell ⟨pb, 0, none⟩ (.int .i64 (c + 1))).alloc o) → ActPost pb R w (.returned (.bool b)) W) := hide (by
      rintro b W h1 h2 ⟨o, rfl⟩
      have ho : okA k p n ks.length sy ↔ b = true := by rw [h1]; unfold okA; rw [hne0]
      refine ⟨c + 1, ret_bool ?_, ?_, (unhide HE _).1, (unhide HE _).2⟩
      · cases hb : b
        · have := unhide Hc0 (fun h => by rw [ho, hb] at h; cases h)
          rw [this]; rfl
        · have := unhide Hc1 (ho.2 hb) (fun h => by rw [h2 h] at hb; cases hb)
          rw [this]; symm; simp; omega
      · intro hR
        by_cases h : okA k p n ks.length sy
        · have := unhide Hc1 h (fun hk => by rw [ho, h2 hk] at h; cases h)
          omega
        · have := unhide Hc0 h; omega)
    have Hnode : Hid (k = 2 → p = 0 → ¬ n.length = 0 → n.length ≤ 32 → R = partsL ks sy (256 - (c + 1))) := hide (fun h1 h2 h3 h4 => by
      rw [unhide Hpa, if_pos (.inr (.inr (.inr ⟨h1, by omega, h4, h2⟩)))])
    clear hW2 Hf Hct2 hne0 Hc1 Hc0 Hpa
    go_wp2_with fail
    all_goals first
      | (go_ret
         refine unhide Hfin _ _ ?_ ?_ ⟨_, rfl⟩
         · have e2 := unhide Hne; have e3 := unhide Hsz
           clear Hfin Hnode Hne Hsz HE HK2 HK
           simp only [e2, e3, beq_iff_eq, beq_eq_false_iff_ne, ne_eq, Bool.false_eq_true, false_iff] at *
           omega
         · intro hk2
           first
             | rfl
             | (exfalso; clear Hfin Hnode Hne Hsz HE HK2 HK; simp only [beq_iff_eq, beq_eq_false_iff_ne, ne_eq] at *; omega))
      | skip
    refine (unhide HK ks (c + 1) pb _ ka kc vs hpb (by simp; omega) (unhide HK2 _ ()).1 (unhide HK2 _ ()).2 (by omega) (by omega) (by omega) (unhide HE _).1).mono ?_
    rintro e w3 ⟨c', rfl, h1, h2, h3⟩
    have hf4 := fr_t (unhide HE _).2 h3
    have Hz : Hid (∀ b : Bool, (!(bs n).toList.isEmpty && b) = b) := hide (fun b => by
      have hn : (bs n).toList.isEmpty = false := by rw [List.isEmpty_eq_false_iff]; assumption
      rw [hn]; rfl)
    have hRR : R = partsL ks sy (256 - (c + 1)) := by
      have e2 := unhide Hne; have e3 := unhide Hsz
      clear Hfin Hne Hsz HE HK2 HK h1 h2 h3 hf4 Hz
      simp only [e2, e3, beq_iff_eq] at *
      exact unhide Hnode (by omega) (by omega) (by omega) (by omega)
    have Hpost : Hid (ActPost pb R w (.returned (.bool (decide (0 ≤ partsL ks sy (256 - (c + 1)))))) w3) := hide (by rw [hRR]; exact ⟨c', rfl, h1, h2, hf4⟩)
    clear Hfin Hnode Hne Hsz HE HK2 HK h1 h2 h3 hf4 hRR
    generalize decide (0 ≤ partsL ks sy (256 - (c + 1))) = bb at *
    go_wp2
    go_ret
    have hp := unhide Hpost
    rw [← unhide Hz bb] at hp
    exact hp
theorem act_any (B : Nat) (sy : Int) : ∀ N, ActC B sy N
  | 0 => by
    intro t c pb w v0 v1 v2 v3 hpb hB hA hc0 hc1 hN hct
    have hN : (256 : Int) - c < ((0 : Nat) : Int) := hN
    exfalso; omega
  | N + 1 => act_of (kids_of (act_any B sy N))
end Go.Proofs.YtagohbpbgjelaaaGreatDoor

/- The document's Parts. (and what it leads to) -/
import Derived.Test.YtkimhfajfbcdmaaGreatDoorQU
/- The document's Parts. -/
namespace Go.Proofs.YtkimhfajfbcdmaaGreatDoor
open Go.RowKit Go.Maps

mutual
def partsT : Rx → Nat
  | .mk _ s ks => 1 + s.length + partsTs ks
def partsTs : List Rx → Nat
  | [] => 0
  | t :: ts => partsT t + partsTs ts
end
theorem partsTs_append (a b : List Rx) : partsTs (a ++ b) = partsTs a + partsTs b := by
  induction a with
  | nil => simp [partsTs]
  | cons t ts ih => simp [partsTs, ih]; omega
theorem partsTs_succ (ks : List Rx) (i : Nat) (hi : i < ks.length) : partsTs (ks.take (i + 1)) = partsTs (ks.take i) + partsT ks[i] := by
  rw [List.take_add_one, List.getElem?_eq_getElem hi, partsTs_append]
  simp [partsTs]
theorem partsTs_le (ks : List Rx) (i : Nat) : partsTs (ks.take i) ≤ partsTs ks := by
  have h := partsTs_append (ks.take i) (ks.drop i)
  rw [List.take_append_drop] at h
  omega
theorem partsT_pos (t : Rx) : 1 ≤ partsT t := by cases t; simp [partsT]; omega
theorem partsTs_len : ∀ ks : List Rx, ks.length ≤ partsTs ks
  | [] => by simp
  | t :: ts => by
    have h1 := partsT_pos t
    have h2 := partsTs_len ts
    simp [partsTs]; omega
set_option maxHeartbeats 1000000 in
set_option maxRecDepth 100000 in
theorem parts_any (Q : Nat → Prop) : ∀ (m : Nat), m < 1000000000000000000 → ∀ (t : Rx), partsT t ≤ m → ∀ (W : World) (v0 v1 v2 : Value), RxAt Q W t v0 v1 v2 →
    Calls Tryz.prog 48 #[.agg #[v0, v1, v2]] W fun e w' => e = .returned (.int .i64 (partsT t)) ∧ Below W.heap.size W w' := by
  intro m
  induction m with
  | zero => intro _ t ht; cases t; simp [partsT] at ht
  | succ m ih =>
    intro hm t hp W v0 v1 v2 hX
    obtain ⟨k, s, ks⟩ := t
    unfold RxAt at hX
    obtain ⟨rfl, ⟨sa, sc, rfl, hsr, hsq⟩, ka, kc, vs, rfl, hts, hcells⟩ := hX
    have hpt : partsT (.mk k s ks) = 1 + s.length + partsTs ks := by simp [partsT]
    rw [hpt] at hp ⊢
    have hkl := partsTs_len ks
    have hkl2 : ks.length < 1000000000000000000 := by omega
    have hb0 : Below W.heap.size W (W.alloc (.cells #[.int .i64 k, .slice sa s.length sc, .slice ka ks.length kc] 26)) := (Below.refl _ _).alloc (Nat.le_refl _) _
    have hbx : (W.alloc (.cells #[.int .i64 k, .slice sa s.length sc, .slice ka ks.length kc] 26)).heap[W.heap.size]? = some (.cells #[.int .i64 k, .slice sa s.length sc, .slice ka ks.length kc] 26 (0, 0)) := heap_new W _
    have Hts := hide hts; have Hcells := hide hcells; have Hb0 := hide hb0; have Hbx := hide hbx; have IH := hide (ih (by omega))
    clear hts hcells hb0 hbx ih hsr hsq hpt
    go_enter Tryz.func48, Tryz.ntmps48
    go_wp2_with fail
    have hs0 : (W.alloc (.cells #[.int .i64 k, .slice sa s.length sc, .slice ka ks.length kc] 26)).heap.size = W.heap.size + 1 := by simp
    have Hs0 := hide hs0
    clear hs0
    generalize W.alloc (.cells #[.int .i64 k, .slice sa s.length sc, .slice ka ks.length kc] 26) = W0 at *
    go_loopw [3, 4] (fun nv iv wr => ∃ i : Nat, nv = .int .i64 ((1 + s.length + partsTs (ks.take i) : Nat) : Int) ∧ iv = .int .i64 i ∧ i ≤ ks.length ∧ Below (W.heap.size + 1) W0 wr) (fun _ iv _ => ks.length - (intOf iv).toNat)
    case atStart => exact ⟨0, by simp [partsTs], rfl, Nat.zero_le _, Below.refl _ _⟩
    case round =>
      obtain ⟨i, rfl, rfl, hin, hbel⟩ := hrel
      have hbx := (hbel.block W.heap.size (by omega)).trans (unhide Hbx)
      have b2 := cell_block hbx 2 _ rfl
      have hbW : Below W.heap.size W wr := (unhide Hb0).trans (hbel.mono (by omega))
      have hsz : W.heap.size + 1 ≤ wr.heap.size := by have := hbel.size; rw [unhide Hs0] at this; exact this
      by_cases hlt : i < ks.length
      · have hlt' : (i : Int) < ks.length := by omega
        obtain ⟨u0, u1, u2, hu0, hu1, hu2, hkx⟩ := rxTs_get ks vs (unhide Hts) i hlt
        rcases unhide Hcells with h0 | ⟨g, off, rfl, hgQ, hgl, hcs⟩
        · rw [h0] at hlt; simp at hlt
        have hgb := hbW.block g hgl
        have e0 := (World.cell?_of_block (a := ⟨g, off + i * 3, none⟩) hgb).trans (hcs _ _ hu0)
        have e1 := (World.cell?_of_block (a := ⟨g, off + (i * 3 + 1), none⟩) hgb).trans (hcs _ _ hu1)
        have e2 := (World.cell?_of_block (a := ⟨g, off + (i * 3 + 2), none⟩) hgb).trans (hcs _ _ hu2)
        rw [← Nat.add_assoc] at e1 e2
        have hka : ks.getD i rx0 = ks[i] := by rw [List.getD_eq_getElem?_getD, List.getElem?_eq_getElem hlt]; rfl
        rw [hka] at hkx
        have hsucc := partsTs_succ ks i hlt
        have hle := partsTs_le ks (i + 1)
        have HK := hide (unhide IH ks[i] (by omega) wr _ _ _ (rxAt_kept (Q := Q) (Q' := Q) hbW.size (fun q _ hl => hbW.block q hl) (fun _ h _ => h) _ _ _ _ hkx))
        obtain ⟨kk, s1, n1, c1, s2, n2, c2, rfl, rfl, rfl⟩ := rxAt_formQ hkx
        have Hsucc := hide hsucc
        generalize hA : partsTs (ks.take (i + 1)) = A at *
        generalize hC : partsTs (ks.take i) = C at *
        generalize hD : partsT ks[i] = D at *
        have Hbel := hide hbel
        clear hgb hu0 hu1 hu2 hkx hcs hka hbel hbx hbW
        go_wp2_with fail
        refine (unhide HK).mono ?_
        rintro e9 w1 ⟨rfl, hb1⟩
        have Hb1 := hide ((unhide Hbel).trans (hb1.mono hsz))
        clear hb1 HK Hbel e0 e1 e2 b2
        go_wp2
        go_roundw
        case rel => exact ⟨i + 1, by rw [hA]; go_num, by go_num, by omega, unhide Hb1⟩
        case measure => simp [intOf]; omega
      · obtain rfl : i = ks.length := by omega
        rw [List.take_length]
        have HbW := hide hbW
        clear hbx hbel hbW
        go_wp2
        go_ret
        exact ⟨rfl, unhide HbW⟩
end Go.Proofs.YtkimhfajfbcdmaaGreatDoor

/- The document's Nest. -/
namespace Go.Proofs.YtkimhfajfbcdmaaGreatDoor
open Go.RowKit Go.Maps

mutual
def nestT : Rx → Nat
  | .mk _ _ ks => nestTs ks + 1
def nestTs : List Rx → Nat
  | [] => 0
  | t :: ts => max (nestT t) (nestTs ts)
end
theorem nestTs_append (a b : List Rx) : nestTs (a ++ b) = max (nestTs a) (nestTs b) := by
  induction a with
  | nil => simp [nestTs]
  | cons t ts ih => simp [nestTs, ih, Nat.max_assoc]
theorem nestTs_succ (ks : List Rx) (i : Nat) (hi : i < ks.length) : nestTs (ks.take (i + 1)) = max (nestTs (ks.take i)) (nestT ks[i]) := by
  rw [List.take_add_one, List.getElem?_eq_getElem hi, nestTs_append]
  simp [nestTs]
mutual
theorem nestT_le : ∀ t : Rx, nestT t ≤ partsT t
  | .mk _ s ks => by
    have := nestTs_le ks
    simp [nestT, partsT]; omega
theorem nestTs_le : ∀ ks : List Rx, nestTs ks ≤ partsTs ks
  | [] => by simp [nestTs]
  | t :: ts => by
    have h1 := nestT_le t
    have h2 := nestTs_le ts
    simp [nestTs, partsTs]; omega
end
theorem nestTs_take (ks : List Rx) (i : Nat) : nestTs (ks.take i) ≤ partsTs ks := Nat.le_trans (nestTs_le _) (partsTs_le ks i)
set_option maxHeartbeats 1000000 in
set_option maxRecDepth 100000 in
theorem nest_any (Q : Nat → Prop) : ∀ (m : Nat), m < 1000000000000000000 → ∀ (t : Rx), partsT t ≤ m → ∀ (W : World) (v0 v1 v2 : Value), RxAt Q W t v0 v1 v2 →
    Calls Tryz.prog 49 #[.agg #[v0, v1, v2]] W fun e w' => e = .returned (.int .i64 (nestT t)) ∧ Below W.heap.size W w' := by
  intro m
  induction m with
  | zero => intro _ t ht; cases t; simp [partsT] at ht
  | succ m ih =>
    intro hm t hp W v0 v1 v2 hX
    obtain ⟨k, s, ks⟩ := t
    unfold RxAt at hX
    obtain ⟨rfl, ⟨sa, sc, rfl, hsr, hsq⟩, ka, kc, vs, rfl, hts, hcells⟩ := hX
    have hpt : partsT (.mk k s ks) = 1 + s.length + partsTs ks := by simp [partsT]
    have hnt : nestT (.mk k s ks) = nestTs ks + 1 := by simp [nestT]
    have hnl := nestTs_le ks
    rw [hpt] at hp
    rw [hnt]
    have hkl := partsTs_len ks
    have hkl2 : ks.length < 1000000000000000000 := by omega
    have hb0 : Below W.heap.size W (W.alloc (.cells #[.int .i64 k, .slice sa s.length sc, .slice ka ks.length kc] 26)) := (Below.refl _ _).alloc (Nat.le_refl _) _
    have hbx : (W.alloc (.cells #[.int .i64 k, .slice sa s.length sc, .slice ka ks.length kc] 26)).heap[W.heap.size]? = some (.cells #[.int .i64 k, .slice sa s.length sc, .slice ka ks.length kc] 26 (0, 0)) := heap_new W _
    have Hts := hide hts; have Hcells := hide hcells; have Hb0 := hide hb0; have Hbx := hide hbx; have IH := hide (ih (by omega))
    clear hts hcells hb0 hbx ih hsr hsq hpt hnt
    go_enter Tryz.func49, Tryz.ntmps49
    go_wp2_with fail
    have hs0 : (W.alloc (.cells #[.int .i64 k, .slice sa s.length sc, .slice ka ks.length kc] 26)).heap.size = W.heap.size + 1 := by simp
    have Hs0 := hide hs0
    clear hs0
    generalize W.alloc (.cells #[.int .i64 k, .slice sa s.length sc, .slice ka ks.length kc] 26) = W0 at *
    go_loopw [3, 4] (fun nv iv wr => ∃ i : Nat, nv = .int .i64 (nestTs (ks.take i) : Int) ∧ iv = .int .i64 i ∧ i ≤ ks.length ∧ Below (W.heap.size + 1) W0 wr) (fun _ iv _ => ks.length - (intOf iv).toNat)
    case atStart => exact ⟨0, by simp [nestTs], rfl, Nat.zero_le _, Below.refl _ _⟩
    case round =>
      obtain ⟨i, rfl, rfl, hin, hbel⟩ := hrel
      have hbx := (hbel.block W.heap.size (by omega)).trans (unhide Hbx)
      have b2 := cell_block hbx 2 _ rfl
      have hbW : Below W.heap.size W wr := (unhide Hb0).trans (hbel.mono (by omega))
      have hsz : W.heap.size + 1 ≤ wr.heap.size := by have := hbel.size; rw [unhide Hs0] at this; exact this
      by_cases hlt : i < ks.length
      · have hlt' : (i : Int) < ks.length := by omega
        obtain ⟨u0, u1, u2, hu0, hu1, hu2, hkx⟩ := rxTs_get ks vs (unhide Hts) i hlt
        rcases unhide Hcells with h0 | ⟨g, off, rfl, hgQ, hgl, hcs⟩
        · rw [h0] at hlt; simp at hlt
        have hgb := hbW.block g hgl
        have e0 := (World.cell?_of_block (a := ⟨g, off + i * 3, none⟩) hgb).trans (hcs _ _ hu0)
        have e1 := (World.cell?_of_block (a := ⟨g, off + (i * 3 + 1), none⟩) hgb).trans (hcs _ _ hu1)
        have e2 := (World.cell?_of_block (a := ⟨g, off + (i * 3 + 2), none⟩) hgb).trans (hcs _ _ hu2)
        rw [← Nat.add_assoc] at e1 e2
        have hka : ks.getD i rx0 = ks[i] := by rw [List.getD_eq_getElem?_getD, List.getElem?_eq_getElem hlt]; rfl
        rw [hka] at hkx
        have hsucc := partsTs_succ ks i hlt
        have hle := partsTs_le ks (i + 1)
        have HK := hide (unhide IH ks[i] (by omega) wr _ _ _ (rxAt_kept (Q := Q) (Q' := Q) hbW.size (fun q _ hl => hbW.block q hl) (fun _ h _ => h) _ _ _ _ hkx))
        obtain ⟨kk, s1, n1, c1, s2, n2, c2, rfl, rfl, rfl⟩ := rxAt_formQ hkx
        have hns := nestTs_succ ks i hlt
        have hn1 := nestTs_take ks i
        have hn2 := nestT_le ks[i]
        have hD9 : nestT ks[i] < 1000000000000000000 := by omega
        clear hsucc hn2 hle
        generalize hA : nestTs (ks.take (i + 1)) = A at *
        generalize hC : nestTs (ks.take i) = C at *
        generalize hD : nestT ks[i] = D at *
        have hmx : maxI (C : Int) (D : Int) = (A : Int) := by rw [hns]; unfold maxI; split <;> omega
        have Hbel := hide hbel
        clear hgb hu0 hu1 hu2 hkx hcs hka hbel hbx hbW
        go_wp2_with fail
        refine (unhide HK).mono ?_
        rintro e9 w1 ⟨rfl, hb1⟩
        have Hb1 := hide ((unhide Hbel).trans (hb1.mono hsz))
        clear hb1 HK Hbel e0 e1 e2 b2
        go_wp2
        go_roundw
        case rel => exact ⟨i + 1, by rw [hA]; go_num, by go_num, by omega, unhide Hb1⟩
        case measure => simp [intOf]; omega
      · obtain rfl : i = ks.length := by omega
        rw [List.take_length]
        have HbW := hide hbW
        clear hbx hbel hbW
        go_wp2
        go_ret
        exact ⟨rfl, unhide HbW⟩
end Go.Proofs.YtkimhfajfbcdmaaGreatDoor

/- The document's Limits. -/
namespace Go.Proofs.YtkimhfajfbcdmaaGreatDoor
open Go.RowKit Go.Maps

def limV (t : Rx) : Int := if 4096 < partsT t then 41 else if 64 < nestT t then 42 else 0
set_option maxHeartbeats 1000000 in
set_option maxRecDepth 100000 in
theorem limits_any (Q : Nat → Prop) (t : Rx) (ht : partsT t < 1000000000000000000) (W : World) (v0 v1 v2 : Value) (hX : RxAt Q W t v0 v1 v2) :
    Calls Tryz.prog 29 #[.agg #[v0, v1, v2]] W fun e w' => e = .returned (.int .i64 (limV t)) ∧ Below W.heap.size W w' := by
  obtain ⟨kk, s1, n1, c1, s2, n2, c2, rfl, rfl, rfl⟩ := rxAt_formQ hX
  have hb0 : Below W.heap.size W (W.alloc (.cells #[.int .i64 kk, .slice s1 n1 c1, .slice s2 n2 c2] 26)) := (Below.refl _ _).alloc (Nat.le_refl _) _
  have hbx : (W.alloc (.cells #[.int .i64 kk, .slice s1 n1 c1, .slice s2 n2 c2] 26)).heap[W.heap.size]? = some (.cells #[.int .i64 kk, .slice s1 n1 c1, .slice s2 n2 c2] 26 (0, 0)) := heap_new W _
  have hs0 : (W.alloc (.cells #[.int .i64 kk, .slice s1 n1 c1, .slice s2 n2 c2] 26)).heap.size = W.heap.size + 1 := by simp
  have HX := hide (fun W' (hb : Below W.heap.size W W') => rxAt_kept (Q := Q) (Q' := Q) hb.size (fun q _ hl => hb.block q hl) (fun _ h _ => h) _ _ _ _ hX)
  have hnl := nestT_le t
  have Hb0 := hide hb0; have Hbx := hide hbx; have Hs0 := hide hs0
  have HV : Hid (limV t = if 4096 < partsT t then 41 else if 64 < nestT t then 42 else 0) := hide rfl
  have HPa := hide (fun W' h => parts_any Q _ ht t (Nat.le_refl _) W' _ _ _ (unhide HX W' h))
  have HNe := hide (fun W' h => nest_any Q _ ht t (Nat.le_refl _) W' _ _ _ (unhide HX W' h))
  clear hX hb0 hbx hs0
  generalize limV t = V at *
  generalize partsT t = P at *
  generalize nestT t = N at *
  go_enter Tryz.func29, Tryz.ntmps29
  go_wp2_with fail
  refine (unhide HPa _ (unhide Hb0)).mono ?_
  rintro e1 w1 ⟨rfl, hb1⟩
  rw [unhide Hs0] at hb1
  have hbW1 := (unhide Hb0).trans (hb1.mono (by omega))
  have hbx1 := (hb1.block W.heap.size (by omega)).trans (unhide Hbx)
  have b0 := cell_block hbx1 0 _ rfl
  have b1 := cell_block hbx1 1 _ rfl
  have b2 := cell_block hbx1 2 _ rfl
  have HN1 := hide (unhide HNe _ hbW1)
  have HbW1 := hide hbW1
  clear hbx1 hb1 hbW1 HPa HNe
  by_cases h1 : 4096 < P
  · have h1' : (4096 : Int) < P := by omega
    go_wp2
    go_ret
    exact ⟨by rw [unhide HV, if_pos h1]; rfl, unhide HbW1⟩
  · have h1' : ¬ (4096 : Int) < P := by omega
    go_wp2_with fail
    refine (unhide HN1).mono ?_
    rintro e2 w2 ⟨rfl, hb2⟩
    have HbW2 := hide ((unhide HbW1).trans (hb2.mono (unhide HbW1).size))
    clear hb2
    by_cases h2 : 64 < N
    · have h2' : (64 : Int) < N := by omega
      go_wp2
      go_ret
      exact ⟨by rw [unhide HV, if_neg h1, if_pos h2]; rfl, unhide HbW2⟩
    · have h2' : ¬ (64 : Int) < N := by omega
      go_wp2
      go_ret
      exact ⟨by rw [unhide HV, if_neg h1, if_neg h2]; rfl, unhide HbW2⟩
end Go.Proofs.YtkimhfajfbcdmaaGreatDoor

/- The document's limited. -/
namespace Go.Proofs.YtkimhfajfbcdmaaGreatDoor
open Go.RowKit Go.Maps

set_option maxHeartbeats 1000000 in
set_option maxRecDepth 100000 in
theorem limited_ok (Q : Nat → Prop) (t : Rx) (ht : partsT t < 1000000000000000000) (hl : limV t = 0) (W : World) (v0 v1 v2 : Value) (hX : RxAt Q W t v0 v1 v2) :
    Calls Tryz.prog 15 #[.agg #[v0, v1, v2], .int .i64 0] W fun e w' => e = .returned (.tuple #[.agg #[v0, v1, v2], .int .i64 0]) ∧ Below W.heap.size W w' ∧ (∀ k, k < W.heap.size → w'.heap[k]? = W.heap[k]?) := by
  obtain ⟨kk, s1, n1, c1, s2, n2, c2, rfl, rfl, rfl⟩ := rxAt_formQ hX
  have HX := hide (fun W' (hb : Below W.heap.size W W') => rxAt_kept (Q := Q) (Q' := Q) hb.size (fun q _ hl => hb.block q hl) (fun _ h _ => h) _ _ _ _ hX)
  have HL := hide (fun W' h => limits_any Q t ht W' _ _ _ (unhide HX W' h))
  have hb0 : Below W.heap.size W ((W.alloc (.cells #[.int .i64 kk, .slice s1 n1 c1, .slice s2 n2 c2] 26)).alloc (.cells #[.int .i64 0, .slice none 0 0, .slice none 0 0] 26)) := ((Below.refl _ _).alloc (Nat.le_refl _) _).alloc (by simp) _
  have hbr : ((W.alloc (.cells #[.int .i64 kk, .slice s1 n1 c1, .slice s2 n2 c2] 26)).alloc (.cells #[.int .i64 0, .slice none 0 0, .slice none 0 0] 26)).heap[W.heap.size]? = some (.cells #[.int .i64 kk, .slice s1 n1 c1, .slice s2 n2 c2] 26 (0, 0)) := (Below.heap_alloc _ _ _ (by simp)).trans (heap_new W _)
  have hbz : ((W.alloc (.cells #[.int .i64 kk, .slice s1 n1 c1, .slice s2 n2 c2] 26)).alloc (.cells #[.int .i64 0, .slice none 0 0, .slice none 0 0] 26)).heap[W.heap.size + 1]? = some (.cells #[.int .i64 0, .slice none 0 0, .slice none 0 0] 26 (0, 0)) := by
    have := heap_new (W.alloc (.cells #[.int .i64 kk, .slice s1 n1 c1, .slice s2 n2 c2] 26)) (.cells #[.int .i64 0, .slice none 0 0, .slice none 0 0] 26)
    rwa [show (W.alloc (.cells #[.int .i64 kk, .slice s1 n1 c1, .slice s2 n2 c2] 26)).heap.size = W.heap.size + 1 by simp] at this
  have hs0 : ((W.alloc (.cells #[.int .i64 kk, .slice s1 n1 c1, .slice s2 n2 c2] 26)).alloc (.cells #[.int .i64 0, .slice none 0 0, .slice none 0 0] 26)).heap.size = W.heap.size + 2 := by simp
  have Hb0 := hide hb0; have Hbr := hide hbr; have Hbz := hide hbz; have Hs0 := hide hs0
  rw [hl] at HL
  clear hl
  clear hX hb0 hbr hbz hs0
  go_enter Tryz.func15, Tryz.ntmps15
  go_wp2_with fail
  refine (unhide HL _ (unhide Hb0)).mono ?_
  rintro e1 w1 ⟨rfl, hb1⟩
  rw [unhide Hs0] at hb1
  have hbW1 := (unhide Hb0).trans (hb1.mono (by omega))
  have hbr1 := (hb1.block W.heap.size (by omega)).trans (unhide Hbr)
  have hbz1 := (hb1.block (W.heap.size + 1) (by omega)).trans (unhide Hbz)
  have r0 := cell_block hbr1 0 _ rfl
  have r1 := cell_block hbr1 1 _ rfl
  have r2 := cell_block hbr1 2 _ rfl
  have b0 := cell_block hbz1 0 _ rfl
  have b1 := cell_block hbz1 1 _ rfl
  have b2 := cell_block hbz1 2 _ rfl
  have f0 := frozen_block hbz1 0
  have f1 := frozen_block hbz1 1
  have f2 := frozen_block hbz1 2
  have HbW1 := hide hbW1; have Hbz1 := hide hbz1
  clear hbr1 hbz1 hb1 hbW1 HL HX
  go_wp2
  have hg3 := block_set (i := 2) (block_set (i := 1) (block_set (i := 0) (unhide Hbz1) (.int .i64 kk)) (.slice s1 n1 c1)) (.slice s2 n2 c2)
  have t0 := cell_block hg3 0 (.int .i64 kk) rfl
  have t1 := cell_block hg3 1 (.slice s1 n1 c1) rfl
  have t2 := cell_block hg3 2 (.slice s2 n2 c2) rfl
  refine bodyPost_ret (v := .tuple #[.agg #[.int .i64 kk, .slice s1 n1 c1, .slice s2 n2 c2], .int .i64 0]) (by simp [results, Tryz.results15, go_sem, t0, t1, t2]) rfl ?_
  have hbb := ((((unhide HbW1).setCell (p := ⟨W.heap.size + 1, 0, none⟩) (Nat.le_succ _) (.int .i64 kk)).setCell (p := ⟨W.heap.size + 1, 1, none⟩) (Nat.le_succ _) (.slice s1 n1 c1)).setCell (p := ⟨W.heap.size + 1, 2, none⟩) (Nat.le_succ _) (.slice s2 n2 c2))
  exact ⟨rfl, hbb, fun k hk => hbb.block k hk⟩
set_option maxHeartbeats 1000000 in
set_option maxRecDepth 100000 in
theorem limited_no (Q : Nat → Prop) (t : Rx) (ht : partsT t < 1000000000000000000) (hl : limV t ≠ 0) (W : World) (v0 v1 v2 : Value) (hX : RxAt Q W t v0 v1 v2) :
    Calls Tryz.prog 15 #[.agg #[v0, v1, v2], .int .i64 0] W fun e w' => e = .returned (.tuple #[.agg #[.int .i64 0, .slice none 0 0, .slice none 0 0], .int .i64 (limV t)]) ∧ Below W.heap.size W w' ∧ (∀ k, k < W.heap.size → w'.heap[k]? = W.heap[k]?) := by
  obtain ⟨kk, s1, n1, c1, s2, n2, c2, rfl, rfl, rfl⟩ := rxAt_formQ hX
  have HX := hide (fun W' (hb : Below W.heap.size W W') => rxAt_kept (Q := Q) (Q' := Q) hb.size (fun q _ hl => hb.block q hl) (fun _ h _ => h) _ _ _ _ hX)
  have HL := hide (fun W' h => limits_any Q t ht W' _ _ _ (unhide HX W' h))
  have hb0 : Below W.heap.size W ((W.alloc (.cells #[.int .i64 kk, .slice s1 n1 c1, .slice s2 n2 c2] 26)).alloc (.cells #[.int .i64 0, .slice none 0 0, .slice none 0 0] 26)) := ((Below.refl _ _).alloc (Nat.le_refl _) _).alloc (by simp) _
  have hbr : ((W.alloc (.cells #[.int .i64 kk, .slice s1 n1 c1, .slice s2 n2 c2] 26)).alloc (.cells #[.int .i64 0, .slice none 0 0, .slice none 0 0] 26)).heap[W.heap.size]? = some (.cells #[.int .i64 kk, .slice s1 n1 c1, .slice s2 n2 c2] 26 (0, 0)) := (Below.heap_alloc _ _ _ (by simp)).trans (heap_new W _)
  have hbz : ((W.alloc (.cells #[.int .i64 kk, .slice s1 n1 c1, .slice s2 n2 c2] 26)).alloc (.cells #[.int .i64 0, .slice none 0 0, .slice none 0 0] 26)).heap[W.heap.size + 1]? = some (.cells #[.int .i64 0, .slice none 0 0, .slice none 0 0] 26 (0, 0)) := by
    have := heap_new (W.alloc (.cells #[.int .i64 kk, .slice s1 n1 c1, .slice s2 n2 c2] 26)) (.cells #[.int .i64 0, .slice none 0 0, .slice none 0 0] 26)
    rwa [show (W.alloc (.cells #[.int .i64 kk, .slice s1 n1 c1, .slice s2 n2 c2] 26)).heap.size = W.heap.size + 1 by simp] at this
  have hs0 : ((W.alloc (.cells #[.int .i64 kk, .slice s1 n1 c1, .slice s2 n2 c2] 26)).alloc (.cells #[.int .i64 0, .slice none 0 0, .slice none 0 0] 26)).heap.size = W.heap.size + 2 := by simp
  have Hb0 := hide hb0; have Hbr := hide hbr; have Hbz := hide hbz; have Hs0 := hide hs0
  have hlb : (limV t == 0) = false := by simpa using hl
  have hln : (limV t != 0) = true := by simpa using hl
  generalize limV t = V at *
  clear hX hb0 hbr hbz hs0
  go_enter Tryz.func15, Tryz.ntmps15
  go_wp2_with fail
  refine (unhide HL _ (unhide Hb0)).mono ?_
  rintro e1 w1 ⟨rfl, hb1⟩
  rw [unhide Hs0] at hb1
  have hbW1 := (unhide Hb0).trans (hb1.mono (by omega))
  have hbr1 := (hb1.block W.heap.size (by omega)).trans (unhide Hbr)
  have hbz1 := (hb1.block (W.heap.size + 1) (by omega)).trans (unhide Hbz)
  have r0 := cell_block hbr1 0 _ rfl
  have r1 := cell_block hbr1 1 _ rfl
  have r2 := cell_block hbr1 2 _ rfl
  have b0 := cell_block hbz1 0 _ rfl
  have b1 := cell_block hbz1 1 _ rfl
  have b2 := cell_block hbz1 2 _ rfl
  have f0 := frozen_block hbz1 0
  have f1 := frozen_block hbz1 1
  have f2 := frozen_block hbz1 2
  have HbW1 := hide hbW1; have Hbz1 := hide hbz1
  clear hbr1 hbz1 hb1 hbW1 HL HX
  go_wp2
  have hg3 := block_set (i := 2) (block_set (i := 1) (block_set (i := 0) (unhide Hbz1) (.int .i64 0)) (.slice none 0 0)) (.slice none 0 0)
  have t0 := cell_block hg3 0 (.int .i64 0) rfl
  have t1 := cell_block hg3 1 (.slice none 0 0) rfl
  have t2 := cell_block hg3 2 (.slice none 0 0) rfl
  refine bodyPost_ret (v := .tuple #[.agg #[.int .i64 0, .slice none 0 0, .slice none 0 0], .int .i64 V]) (by simp [results, Tryz.results15, go_sem, t0, t1, t2]) rfl ?_
  have hbb := ((((unhide HbW1).setCell (p := ⟨W.heap.size + 1, 0, none⟩) (Nat.le_succ _) (.int .i64 0)).setCell (p := ⟨W.heap.size + 1, 1, none⟩) (Nat.le_succ _) (.slice none 0 0)).setCell (p := ⟨W.heap.size + 1, 2, none⟩) (Nat.le_succ _) (.slice none 0 0))
  exact ⟨rfl, hbb, fun k hk => hbb.block k hk⟩
end Go.Proofs.YtkimhfajfbcdmaaGreatDoor

/- Sets: Key. -/
import Derived.Test.YtdpphjedjhjdgaaDoorC2
import Derived.Test.YtdpphjedjhjdgaaDoorE6
import Derived.Laws.BytesArg
namespace Go.Proofs.YtdpphjedjhjdgaaDoor
open Go.RowKit Go.Maps

/-- A byte of a word. -/
def byteAt (Y : Nat) (i : Nat) : Int := ((Y / 2 ^ (8 * i) % 256 : Nat) : Int)
/-- The key of a block, of blocks. -/
def keyB (b : Blk) : List Int := [b.1 / 256 % 256, b.1 % 256] ++ (List.range 8).map (byteAt b.2.toNat)
def keyL (bl : List Blk) : List Int := bl.flatMap keyB
def byteV (l : List Int) : List Value := l.map fun m => .int .u8 m
theorem byteV_append (a b : List Int) : byteV (a ++ b) = byteV a ++ byteV b := List.map_append
theorem byteV_length (l : List Int) : (byteV l).length = l.length := List.length_map _
theorem byteV_one (l : List Int) : ∀ u ∈ byteV l, u.oneCell' = true := by
  intro u hu
  unfold byteV at hu
  obtain ⟨m, -, rfl⟩ := List.mem_map.1 hu
  rfl
theorem keyB_len (b : Blk) : (keyB b).length = 10 := by simp [keyB]
theorem keyL_len (bl : List Blk) : (keyL bl).length = 10 * bl.length := by
  induction bl with
  | nil => rfl
  | cons b l ih =>
    simp only [keyL, List.flatMap_cons, List.length_append, List.length_cons] at ih ⊢
    rw [keyB_len, ih]; omega
theorem keyL_succ (bl : List Blk) (k : Nat) (hk : k < bl.length) : keyL (bl.take (k + 1)) = keyL (bl.take k) ++ keyB (bl.getD k (0, 0)) := by
  unfold keyL
  rw [List.take_add_one, List.getElem?_eq_getElem hk, List.flatMap_append, getD_of _ _ hk]
  simp
theorem own_string {w : World} {B : Nat} {v : Value} {l : List Int} {n : Nat} (hn : n = l.length) (h : w.ownsRow B 5 1 v n (byteV l)) :
    (convert 80 9 v).run Tryd.prog w = .ok (.string (strOfNums l)) w := by
  subst hn
  rcases h.2 with ⟨rfl, h0⟩ | ⟨g, cap, cur, rfl, _⟩
  · obtain rfl : l = [] := List.length_eq_zero_iff.1 h0
    rw [run_convert_bytes_nil w 80 5 Tryd.underlying80 Tryd.underlying5 0 0 9 Tryd.underlying9]
    rfl
  · refine run_convert_bytes_arg w 80 5 Tryd.underlying80 Tryd.underlying5 g 0 l.length cap l rfl (fun i hi => ?_) 9 Tryd.underlying9
    rw [Nat.zero_add, own_cell h rfl i (by rw [byteV_length]; exact hi)]
    unfold byteV
    rw [List.getD_eq_getElem?_getD, List.getElem?_map, List.getElem?_eq_getElem hi, List.getD_eq_getElem?_getD, List.getElem?_eq_getElem hi]
    rfl
theorem u8_at (t : Int) : IntKind.u8.wrap t = t % 256 := by rw [IntKind.wrap_u8]
theorem shr_byte2 (Y i : Nat) : (Y : Int) / 2 ^ ((8 * i : Nat) : Int).toNat % 256 = byteAt Y i := by
  rw [Int.toNat_natCast]
  unfold byteAt
  rw [show (2 : Int) ^ (8 * i) = ((2 ^ (8 * i) : Nat) : Int) by push_cast; rfl]
  generalize 2 ^ (8 * i) = D
  rw [← Int.natCast_ediv]
  omega

set_option maxHeartbeats 8000000 in
set_option maxRecDepth 100000 in
theorem key_any (B : Nat) (O : Nat → Prop) (bl : List Blk) (sz : Int) (w : World) (h : SetOk w B O bl sz) :
    Calls Tryd.prog 19 #[.pointer (some ⟨B, 0, none⟩)] w fun e w' => e = .returned (.string (strOfNums (keyL bl))) ∧ Below w.heap.size w w' := by
  obtain ⟨i0, hi, hz0, hz1, hz2⟩ := info_parts hbyte
  obtain ⟨sv, hB, hr, hs⟩ := h.is.lies
  obtain ⟨va, vc, rfl⟩ := own_form hr
  have hrow := brow_own hr
  have hlen := fit_short h.is.up h.fit
  have hfit := h.fit
  have c0 := cell_block hB 0 _ rfl
  have hlt := lt_of_some hB
  have hmul : IntKind.i64.wrap (10 * (bl.length : Int)) = ((10 * bl.length : Nat) : Int) := by rw [IntKind.wrap_i64]; omega
  have Hrow := hide hrow; have Hfit := hide hfit
  clear hB hr hs h hrow hfit
  go_enter Tryd.func19, Tryd.ntmps19
  go_wp2_with (at_make; refine wpList_make_own _ rfl _ _ 80 rfl w.heap.size 5 i0 (.int .u8 0) 1 Tryd.underlying80 hi hz0 hz1 .i64 .i64 _ (10 * bl.length) rfl rfl rfl (by rw [hz2]; omega) (by unfold maxLen; omega) (Nat.le_refl _) ?_; intro w3 hown3 hgrow3; have hb3 : Below w.heap.size w w3 := (Below.refl _ w).grown hgrow3 (Nat.le_refl _) (fun k hk => by cases hk); have c3 : w3.cell? ⟨B, 0, none⟩ = some (.slice va bl.length vc) := (hb3.cell (p := ⟨B, 0, none⟩) hlt).trans c0; have Hb3 := hide hb3; have Hown3 := hide hown3; clear hown3 hgrow3 hb3)
  go_loopw [21, 3] (fun x v wr => ∃ k : Nat, x = .int .i64 k ∧ k ≤ bl.length ∧ Below w.heap.size w wr ∧ wr.ownsRow w.heap.size 5 1 v (10 * k) (byteV (keyL (bl.take k)))) (fun x _ _ => bl.length - (intOf x).toNat)
  case atStart => exact ⟨0, rfl, Nat.zero_le _, unhide Hb3, unhide Hown3⟩
  case round =>
    obtain ⟨wo, hwo⟩ : ∃ wo, wo = wr := ⟨_, rfl⟩
    subst hwo
    obtain ⟨k, rfl, hk, hbel, hown⟩ := hrel
    clear Hb3 Hown3 c3
    by_cases hkl : k < bl.length
    · have hkl' : (k : Int) < bl.length := by omega
      rcases unhide Hrow with h | ⟨g, rfl, hgl, hcells⟩
      · subst h; simp at hkl
      obtain ⟨d0, d1⟩ := hcells k hkl
      have e0 := (hbel.cell (p := ⟨g, k * 2, none⟩) hgl).trans d0
      have e1 := (hbel.cell (p := ⟨g, k * 2 + 1, none⟩) hgl).trans d1
      have hmem : bl.getD k (0, 0) ∈ bl := by rw [getD_of _ _ hkl]; exact List.getElem_mem _
      obtain ⟨hf1, hf2⟩ := unhide Hfit _ hmem
      have HKs := hide (keyL_succ bl k hkl)
      obtain ⟨va', vc', rfl⟩ := own_form hown
      have Hown := hide hown
      have Hbel := hide hbel
      have hbs := hbel.size
      clear d0 d1 hcells hmem hown hbel
      generalize bl.getD k (0, 0) = b at *
      obtain ⟨t, y⟩ := b
      simp only at e0 e1 hf1 hf2
      obtain ⟨Y, rfl⟩ := Int.eq_ofNat_of_zero_le hf1.1
      have HY := hide hf1.2
      have Hf2 := hide hf2
      have u1 := u8_at (t / 256)
      have u2 := u8_at t
      clear hf1 hf2
      generalize keyL (bl.take k) = L0 at *
      go_wp2_with (at_builtin; refine wpList_append_own _ rfl _ _ 80 rfl w.heap.size 5 i0 (.int .u8 0) 1 1 Tryd.underlying80 hi hz0 hz1 hz2 rfl (by decide) _ _ _ rfl (((unhide Hown).alloc _).alloc _) ⟨wo.heap.size + 1, 0, none⟩ 2 2 (byteV [t / 256 % 256, t % 256]) rfl rfl ?n1 (byteV_one _) (by unfold maxLen; omega) (by omega) (by simp; omega) ?_)
      case n1 =>
        have h := World.news_of_block (MapKept.heap_alloc (wo.alloc (.cells #[.int .i64 t, .int .u64 (Y : Int)] 73)) (.cells #[.int .u8 (t / 256 % 256), .int .u8 (t % 256)] 5)).1
        simpa [byteV] using h
      intro v2 W2 hown2 hg2 hv2
      have htb0 : (wo.alloc (.cells #[.int .i64 t, .int .u64 (Y : Int)] 73)).heap[wo.heap.size]? = some (.cells #[.int .i64 t, .int .u64 (Y : Int)] 73 (0, 0)) := (MapKept.heap_alloc wo _).1
      have htb1 : ((wo.alloc (.cells #[.int .i64 t, .int .u64 (Y : Int)] 73)).alloc (.cells #[.int .u8 (t / 256 % 256), .int .u8 (t % 256)] 5)).heap[wo.heap.size]? = some (.cells #[.int .i64 t, .int .u64 (Y : Int)] 73 (0, 0)) := (Below.heap_alloc _ _ _ (lt_of_some htb0)).trans htb0
      have hnb : (Value.slice va' (10 * k) vc').ownBlock ≠ some wo.heap.size := fun e => by have := ((unhide Hown).lt _ e).2; omega
      have htb2 : W2.heap[wo.heap.size]? = some (.cells #[.int .i64 t, .int .u64 (Y : Int)] 73 (0, 0)) := (hg2.block _ (lt_of_some htb1) (fun e => hnb e.symm)).trans htb1
      have hb2 : Below w.heap.size w W2 := (((unhide Hbel).alloc hbs _).alloc (by simp; omega) _).grown hg2 (by simp; omega) (fun j hj => ((unhide Hown).lt j hj).1)
      rw [← byteV_append] at hown2
      have Hown2 := hide hown2; have Hb2 := hide hb2; have Htb2 := hide htb2
      clear hown2 hb2 hg2 hv2 htb0 htb1 htb2 hnb Hown Hbel
      obtain ⟨va2, vc2, rfl⟩ := own_form (unhide Hown2)
      go_wp2
      go_loopw [6, 3] (fun x v W => ∃ i : Nat, x = .int .i64 ((8 * i : Nat) : Int) ∧ i ≤ 8 ∧ Below w.heap.size w W ∧ W.heap[wo.heap.size]? = some (.cells #[.int .i64 t, .int .u64 (Y : Int)] 73 (0, 0)) ∧ W.ownsRow w.heap.size 5 1 v (10 * k + 2 + i) (byteV (L0 ++ [t / 256 % 256, t % 256] ++ (List.range i).map (byteAt Y)))) (fun x _ _ => 64 - (intOf x).toNat)
      case atStart => exact ⟨0, rfl, Nat.zero_le _, unhide Hb2, unhide Htb2, by simpa using unhide Hown2⟩
      case round =>
        obtain ⟨i, rfl, hi8, hbW, htb, hownW⟩ := hrel
        obtain ⟨va3, vc3, rfl⟩ := own_form hownW
        by_cases hi0 : i = 8
        · subst hi0
          have hfin : wr.ownsRow w.heap.size 5 1 (.slice va3 (10 * k + 2 + 8) vc3) (10 * (k + 1)) (byteV (keyL (bl.take (k + 1)))) := by
            rw [unhide HKs]
            unfold keyB
            rw [← List.append_assoc, show 10 * (k + 1) = 10 * k + 2 + 8 by omega]
            exact hownW
          have Hfin := hide hfin; have HbW := hide hbW
          clear hfin hbW hownW htb Hown2 Hb2 Htb2
          go_wp2
          go_roundw
          case rel => exact ⟨k + 1, by go_num, by omega, unhide HbW, unhide Hfin⟩
          case measure => simp [intOf]; omega
        · have hi1 : ((8 * i : Nat) : Int) < 64 := by omega
          have z1 := cell_block htb 1 _ rfl
          have qs := shr_byte2 Y i
          have HbW := hide hbW; have HownW := hide hownW; have Htb := hide htb
          have hbWs := hbW.size
          obtain ⟨S, hS⟩ : ∃ S : Int, S = ((8 * i : Nat) : Int) := ⟨_, rfl⟩
          rw [← hS] at hi1 qs ⊢
          have hS0 : 0 ≤ S := by omega
          have hS8 : IntKind.i64.wrap (S + 8) = S + 8 := by rw [IntKind.wrap_i64]; omega
          have HS := hide hS
          have Hbb := hide qs
          clear hbW hownW htb Hown2 Hb2 Htb2 hS qs
          go_wp2_with (at_builtin; refine wpList_append_own _ rfl _ _ 80 rfl w.heap.size 5 i0 (.int .u8 0) 1 1 Tryd.underlying80 hi hz0 hz1 hz2 rfl (by decide) _ _ _ rfl ((unhide HownW).alloc _) ⟨wr.heap.size, 0, none⟩ 1 1 (byteV [(Y : Int) / 2 ^ S.toNat % 256]) rfl rfl ?n2 (byteV_one _) (by unfold maxLen; omega) (by omega) (by simp; omega) ?_)
          case n2 =>
            have h := World.news_of_block (MapKept.heap_alloc wr (.cells #[.int .u8 ((Y : Int) / 2 ^ S.toNat % 256)] 5)).1
            simpa [byteV] using h
          intro v4 W4 hown4 hg4 hv4
          have htb1 : (wr.alloc (.cells #[.int .u8 ((Y : Int) / 2 ^ S.toNat % 256)] 5)).heap[wo.heap.size]? = some (.cells #[.int .i64 t, .int .u64 (Y : Int)] 73 (0, 0)) := (Below.heap_alloc _ _ _ (lt_of_some (unhide Htb))).trans (unhide Htb)
          have hnb := row_not (unhide Htb) (unhide HownW) (by decide)
          have htb2 : W4.heap[wo.heap.size]? = some (.cells #[.int .i64 t, .int .u64 (Y : Int)] 73 (0, 0)) := (hg4.block _ (lt_of_some htb1) (fun e => hnb e.symm)).trans htb1
          have hb4 : Below w.heap.size w W4 := ((unhide HbW).alloc hbWs _).grown hg4 (by simp; omega) (fun j hj => ((unhide HownW).lt j hj).1)
          rw [← byteV_append] at hown4
          have Hown4 := hide hown4; have Hb4 := hide hb4; have Htb4 := hide htb2
          clear hown4 hb4 hg4 hv4 htb1 htb2 hnb
          obtain ⟨va4, vc4, rfl⟩ := own_form (unhide Hown4)
          go_wp2
          go_roundw
          case rel =>
            refine ⟨i + 1, by rw [unhide HS]; go_num, by omega, unhide Hb4, unhide Htb4, ?_⟩
            have h := unhide Hown4
            rw [unhide Hbb] at h
            rw [List.range_succ, List.map_append, ← List.append_assoc]
            simpa [Nat.add_assoc] using h
          case measure => simp [intOf]; omega
    · obtain rfl : k = bl.length := by omega
      have hkl' : ¬ ((bl.length : Int) < bl.length) := by omega
      rw [List.take_length] at hown
      obtain ⟨va3, vc3, rfl⟩ := own_form hown
      have hcv := own_string (by rw [keyL_len]) hown
      have Hbel := hide hbel
      clear hown hbel
      go_wp2
      go_ret
      exact ⟨rfl, unhide Hbel⟩

theorem nums_inj : ∀ {a b : List Int}, (∀ x ∈ a, 0 ≤ x ∧ x < 256) → (∀ x ∈ b, 0 ≤ x ∧ x < 256) → (a.map fun n => UInt8.ofNat n.toNat) = (b.map fun n => UInt8.ofNat n.toNat) → a = b
  | [], [], _, _, _ => rfl
  | [], _ :: _, _, _, h => by simp at h
  | _ :: _, [], _, _, h => by simp at h
  | x :: a, y :: b, ha, hb, h => by
    simp only [List.map_cons, List.cons.injEq] at h
    have hx := ha x (by simp)
    have hy := hb y (by simp)
    have e : x = y := by
      have := congrArg UInt8.toNat h.1
      rw [UInt8.toNat_ofNat', UInt8.toNat_ofNat'] at this
      omega
    rw [e, nums_inj (fun z hz => ha z (List.mem_cons_of_mem _ hz)) (fun z hz => hb z (List.mem_cons_of_mem _ hz)) h.2]
theorem keyB_fit (b : Blk) : ∀ x ∈ keyB b, 0 ≤ x ∧ x < 256 := by
  intro x hx
  unfold keyB at hx
  rcases List.mem_append.1 hx with h | h
  · simp only [List.mem_cons, List.not_mem_nil, or_false] at h
    rcases h with rfl | rfl <;> omega
  · obtain ⟨i, -, rfl⟩ := List.mem_map.1 h
    unfold byteAt
    omega
theorem keyL_fit (bl : List Blk) : ∀ x ∈ keyL bl, 0 ≤ x ∧ x < 256 := by
  intro x hx
  unfold keyL at hx
  obtain ⟨b, -, hb⟩ := List.mem_flatMap.1 hx
  exact keyB_fit b x hb
theorem keyB_inj {b c : Blk} (hb : (0 ≤ b.2 ∧ b.2 < 18446744073709551616) ∧ 0 ≤ b.1 ∧ b.1 < 16384) (hc : (0 ≤ c.2 ∧ c.2 < 18446744073709551616) ∧ 0 ≤ c.1 ∧ c.1 < 16384) (h : keyB b = keyB c) : b = c := by
  obtain ⟨t, y⟩ := b
  obtain ⟨u, z⟩ := c
  simp only at hb hc
  obtain ⟨Y, rfl⟩ := Int.eq_ofNat_of_zero_le hb.1.1
  obtain ⟨Z, rfl⟩ := Int.eq_ofNat_of_zero_le hc.1.1
  simp only [keyB, byteAt, Int.toNat_natCast, List.range, List.range.loop, List.map_cons, List.map_nil, List.cons_append, List.nil_append, List.cons.injEq, and_true, Int.natCast_inj] at h
  obtain ⟨h1, h2, b0, b1, b2, b3, b4, b5, b6, b7⟩ := h
  have e1 : t = u := by omega
  have e2 : Y = Z := by
    simp only [Nat.reduceMul, Nat.reducePow] at b0 b1 b2 b3 b4 b5 b6 b7
    omega
  rw [e1, e2]
theorem keyL_inj : ∀ {bl cl : List Blk}, FitB bl → FitB cl → keyL bl = keyL cl → bl = cl
  | [], [], _, _, _ => rfl
  | [], c :: cl, _, _, h => by have := congrArg List.length h; rw [keyL_len, keyL_len] at this; simp at this
  | b :: bl, [], _, _, h => by have := congrArg List.length h; rw [keyL_len, keyL_len] at this; simp at this
  | b :: bl, c :: cl, hb, hc, h => by
    simp only [keyL, List.flatMap_cons] at h
    obtain ⟨h1, h2⟩ := List.append_inj h (by rw [keyB_len, keyB_len])
    rw [keyB_inj (hb b (by simp)) (hc c (by simp)) h1, keyL_inj (fun x hx => hb x (List.mem_cons_of_mem _ hx)) (fun x hx => hc x (List.mem_cons_of_mem _ hx)) h2]
/-- Like keys, like blocks. -/
theorem key_eq {bl cl : List Blk} (hb : FitB bl) (hc : FitB cl) : strOfNums (keyL bl) = strOfNums (keyL cl) ↔ bl = cl := by
  constructor
  · intro h
    refine keyL_inj hb hc (nums_inj (keyL_fit bl) (keyL_fit cl) ?_)
    rw [← strOfNums_data, ← strOfNums_data, h]
  · rintro rfl; rfl
end Go.Proofs.YtdpphjedjhjdgaaDoor

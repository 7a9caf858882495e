/- TrailingZeros64; All. -/
import Derived.Test.YtdpphjedjhjdgaaDoorE4
import Derived.Deep.RegionLaw
import Derived.Deep.RegionHeld3
namespace Go.Proofs.YtdpphjedjhjdgaaDoor
open Go.RowKit Go.Maps

/-- The table lies where the program has laid it. -/
def Tab (w : World) : Prop := ∀ j, j < 64 → w.cell? ⟨0, j, none⟩ = some (.int .u8 (tzTab.getD j 0 : Nat))
theorem neg_u64 (X : Nat) (h0 : X ≠ 0) (h : X < 2 ^ 64) : IntKind.u64.wrap (-(X : Int)) = ((2 ^ 64 - X : Nat) : Int) := by
  rw [IntKind.wrap_u64]; omega
theorem mul_wrap (P : Nat) : IntKind.u64.wrap ((P : Int) * 285870213051353865) = ((P * 285870213051353865 % 18446744073709551616 : Nat) : Int) := by rw [IntKind.wrap_u64]; omega
set_option maxHeartbeats 4000000 in
set_option maxRecDepth 100000 in
theorem tz_any (k q : Nat) (h : 2 ^ k * (2 * q + 1) < 2 ^ 64) (w : World) (ht : Tab w) :
    Calls Tryd.prog 32 #[.int .u64 ((2 ^ k * (2 * q + 1) : Nat) : Int)] w fun e w' => e = .returned (.int .i64 k) ∧ w' = w := by
  have hk := low_lt h
  have hne : 2 ^ k * (2 * q + 1) ≠ 0 := Nat.ne_of_gt (Nat.mul_pos (Nat.two_pow_pos k) (by omega))
  have q1 := neg_u64 _ hne h
  have q2 : bits .and .u64 ((2 ^ k * (2 * q + 1) : Nat) : Int) ((2 ^ 64 - 2 ^ k * (2 * q + 1) : Nat) : Int) = ((2 ^ k : Nat) : Int) := by
    rw [and_u64 _ _ h (by omega), low_and h]
  have q3 : IntKind.u64.wrap (((2 ^ k : Nat) : Int) * 285870213051353865) = ((2 ^ k * 285870213051353865 % 18446744073709551616 : Nat) : Int) := by
    exact mul_wrap _
  have hx0 : ((((2 ^ k * (2 * q + 1) : Nat) : Int)) == 0) = false := by rw [beq_eq_false_iff_ne]; omega
  have c0 := ht ((2 ^ k * 285870213051353865 % 18446744073709551616) / 288230376151711744) (tz_lt _)
  have hj := tz_lt (2 ^ k * 285870213051353865)
  rw [tz_at ⟨k, hk⟩] at c0
  clear ht h hne
  generalize (2 ^ k * (2 * q + 1) : Nat) = X at *
  generalize (2 ^ 64 - X : Nat) = NX at *
  generalize (2 ^ k * 285870213051353865 % 18446744073709551616 : Nat) = Y at *
  generalize (2 ^ k : Nat) = P2 at *
  go_enter Tryd.func32, Tryd.ntmps32
  go_wp2
  go_ret
  exact ⟨rfl, rfl⟩
theorem step_append_own {P : Program} {w : World} {ops : Array Oper} {o : Oper} {a : Act} {K : Act → World → Prop} {Q : Exit → Act → World → Prop} {E : Prop} (hgd : o.guard = none) (s x : Operand) (t : TypeId)
    (ho : o.op = .call { callee := .builtin .append, args := #[s, x], argTypes := #[t, t] })
    (base : Nat) (e : TypeId) (i : TypeInfo) (z : Value) (size bytes : Nat) (ht : P.underlying t = some (.slice e)) (hi : P.info? e = some i) (hz : i.zero = some z)
    (hsize : i.size = size) (hby : i.bytes = bytes) (hzs : z.cells.size = size) (hsz : 0 < size)
    (v : Value) (n : Nat) (xs : List Value) (hs : a.eval s = v) (hown : w.ownsRow base e size v n xs)
    (ad : Addr) (m c : Nat) (news : List Value) (hx : a.eval x = .slice (some ad) m c) (hl : news.length = m * size) (hnews : ∀ j u, news[j]? = some u → w.cell? (ad.add j) = some u) (h1 : ∀ u ∈ news, u.oneCell' = true)
    (h63 : n + m ≤ maxLen) (hbytes : (n + m) * bytes ≤ 140737488355328) (hbase : base ≤ w.heap.size)
    (h : ∀ v' w', w'.ownsRow base e size v' (n + m) (xs ++ news) → w.grownBy w' v.ownBlock → (v' = .slice none 0 0 ↔ v = .slice none 0 0 ∧ m = 0) → K (a.put o.dst v') w') :
    if Region.wanted o (yielded ops a.tmps) = true then Oper.wp P o a w K Q else E := by
  have hw : Region.wanted o (yielded ops a.tmps) = true := by simp [Region.wanted, hgd]
  rw [if_pos hw]
  exact wp_append_own w s x t ho base e i z size bytes ht hi hz hsize hby hzs hsz v n xs hs hown ad m c news hx hl hnews h1 h63 hbytes hbase h

/-- The numbers of a block, of blocks. -/
def numL (b : Blk) : List Int := (bitsL b.2.toNat).map fun i : Nat => b.1 * 64 + (i : Int)
def allL (bl : List Blk) : List Int := bl.flatMap numL
def intV (l : List Int) : List Value := l.map fun m => .int .i64 m
theorem intV_append (a b : List Int) : intV (a ++ b) = intV a ++ intV b := List.map_append
theorem intV_length (l : List Int) : (intV l).length = l.length := List.length_map _
theorem bitsL_len (X : Nat) : (bitsL X).length ≤ 64 := by
  have := List.length_filter_le (fun i => X.testBit i) (List.range 64)
  simpa [bitsL] using this
theorem allL_len (bl : List Blk) : (allL bl).length ≤ 64 * bl.length := by
  induction bl with
  | nil => simp [allL]
  | cons b l ih =>
    have := bitsL_len b.2.toNat
    simp only [allL, List.flatMap_cons, List.length_append, List.length_cons] at ih ⊢
    have h2 : (numL b).length = (bitsL b.2.toNat).length := by simp [numL]
    omega
theorem allL_succ (bl : List Blk) (k : Nat) (hk : k < bl.length) : allL (bl.take (k + 1)) = allL (bl.take k) ++ numL (bl.getD k (0, 0)) := by
  unfold allL
  rw [List.take_add_one, List.getElem?_eq_getElem hk, List.flatMap_append, getD_of _ _ hk]
  simp

set_option maxHeartbeats 8000000 in
set_option maxRecDepth 100000 in
theorem all_any (B : Nat) (O : Nat → Prop) (bl : List Blk) (sz : Int) (hsz : 0 ≤ sz ∧ sz ≤ 1048576) (w : World) (h : SetOk w B O bl sz) (ht : Tab w) (h0 : 0 < w.heap.size) :
    Calls Tryd.prog 11 #[.pointer (some ⟨B, 0, none⟩)] w fun e w' => ∃ v, e = .returned v ∧ w'.ownsRow w.heap.size 3 1 v (allL bl).length (intV (allL bl)) ∧ Below w.heap.size w w' := by
  obtain ⟨i0, hi, hz0, hz1, hz2⟩ := info_parts hint
  obtain ⟨sv, hB, hr, hs⟩ := h.is.lies
  obtain ⟨va, vc, rfl⟩ := own_form hr
  have hrow := brow_own hr
  have hlen := fit_short h.is.up h.fit
  have hfit := h.fit
  have c0 := cell_block hB 0 _ rfl
  have c1 := cell_block hB 1 _ rfl
  have hlt := lt_of_some hB
  obtain ⟨S, rfl⟩ := Int.eq_ofNat_of_zero_le hsz.1
  have hS : (S : Int) ≤ 1048576 := hsz.2
  have hS0 : (0 : Int) ≤ S := by omega
  have Hrow := hide hrow; have Hfit := hide hfit; have Ht := hide ht
  clear hB hr hs h hrow hfit ht hsz
  go_enter Tryd.func11, Tryd.ntmps11
  go_wp2_with (at_make; refine wpList_make_own _ rfl _ _ 22 rfl w.heap.size 3 i0 (.int .i64 0) 1 Tryd.underlying22 hi hz0 hz1 .i64 .i64 _ S rfl rfl rfl (by rw [hz2]; omega) (by unfold maxLen; omega) (Nat.le_refl _) ?_; intro w3 hown3 hgrow3; have hb3 : Below w.heap.size w w3 := (Below.refl _ w).grown hgrow3 (Nat.le_refl _) (fun k hk => by cases hk); have c3 : w3.cell? ⟨B, 0, none⟩ = some (.slice va bl.length vc) := (hb3.cell (p := ⟨B, 0, none⟩) hlt).trans c0; have Hb3 := hide hb3; have Hown3 := hide hown3; clear hown3 hgrow3 hb3)
  go_loopw [19, 3] (fun x v wr => ∃ k : Nat, x = .int .i64 k ∧ k ≤ bl.length ∧ Below w.heap.size w wr ∧ wr.ownsRow w.heap.size 3 1 v (allL (bl.take k)).length (intV (allL (bl.take k)))) (fun x _ _ => bl.length - (intOf x).toNat)
  case atStart => exact ⟨0, rfl, Nat.zero_le _, unhide Hb3, unhide Hown3⟩
  case round =>
    obtain ⟨wo, hwo⟩ : ∃ wo, wo = wr := ⟨_, rfl⟩
    subst hwo
    obtain ⟨k, rfl, hk, hbel, hown⟩ := hrel
    clear Hb3 Hown3 c3
    by_cases hkl : k < bl.length
    · have hkl' : (k : Int) < bl.length := by omega
      rcases unhide Hrow with h | ⟨g, rfl, hgl, hcells⟩
      · subst h; simp at hkl
      obtain ⟨d0, d1⟩ := hcells k hkl
      have e0 := (hbel.cell (p := ⟨g, k * 2, none⟩) hgl).trans d0
      have e1 := (hbel.cell (p := ⟨g, k * 2 + 1, none⟩) hgl).trans d1
      have hmem : bl.getD k (0, 0) ∈ bl := by rw [getD_of _ _ hkl]; exact List.getElem_mem _
      obtain ⟨hf1, hf2⟩ := unhide Hfit _ hmem
      have HAs := hide (allL_succ bl k hkl)
      have hal := allL_len (bl.take k)
      rw [List.length_take, Nat.min_eq_left (by omega)] at hal
      obtain ⟨va', vc', rfl⟩ := own_form hown
      have Hown := hide hown
      have Hbel := hide hbel
      have hbs := hbel.size
      clear d0 d1 hcells hmem hown hbel
      generalize bl.getD k (0, 0) = b at *
      obtain ⟨t, y⟩ := b
      simp only at e0 e1 hf1 hf2
      obtain ⟨Y, rfl⟩ := Int.eq_ofNat_of_zero_le hf1.1
      have hY : Y < 2 ^ 64 := by have := hf1.2; omega
      have HY := hide hY
      have Hf2 := hide hf2
      have hAll : numL (t, (Y : Int)) = (bitsL Y).map fun i : Nat => t * 64 + (i : Int) := by unfold numL; rw [Int.toNat_natCast]
      have HAll := hide hAll
      clear hf1 hY hAll hf2
      generalize allL (bl.take k) = L0 at *
      go_wp2
      go_loopw [6, 3] (fun r v W => ∃ (X : Nat) (dn : List Nat), r = .int .u64 (X : Int) ∧ X < 2 ^ 64 ∧ bitsL Y = dn ++ bitsL X ∧ Below w.heap.size w W ∧ W.heap[wo.heap.size]? = some (.cells #[.int .i64 t, .int .u64 (Y : Int)] 73 (0, 0)) ∧ W.ownsRow w.heap.size 3 1 v (L0.length + dn.length) (intV (L0 ++ dn.map fun i : Nat => t * 64 + (i : Int)))) (fun r _ _ => (intOf r).toNat)
      case atStart => exact ⟨Y, [], rfl, unhide HY, rfl, (unhide Hbel).alloc hbs _, (MapKept.heap_alloc wo _).1, by simpa using (unhide Hown).alloc _⟩
      case round =>
        obtain ⟨X, dn, rfl, hX, hbits, hbW, htb, hownW⟩ := hrel
        by_cases hX0 : X = 0
        · subst hX0
          rw [bitsL_zero, List.append_nil] at hbits
          subst hbits
          obtain ⟨va3, vc3, rfl⟩ := own_form hownW
          have hfin : wr.ownsRow w.heap.size 3 1 (.slice va3 (L0.length + (bitsL Y).length) vc3) (allL (bl.take (k + 1))).length (intV (allL (bl.take (k + 1)))) := by
            rw [unhide HAs, unhide HAll, List.length_append, List.length_map]
            exact hownW
          have Hfin := hide hfin
          have HbW := hide hbW
          clear hfin hbW hownW htb Hown
          go_wp2
          go_roundw
          case rel => exact ⟨k + 1, by go_num, by omega, unhide HbW, unhide Hfin⟩
          case measure => simp [intOf]; omega
        · obtain ⟨kk, q, rfl⟩ := low_of X hX0
          have hx0 : ((((2 ^ kk * (2 * q + 1) : Nat) : Int)) == 0) = false := by rw [beq_eq_false_iff_ne]; omega
          have htW : Tab wr := fun j hj => (hbW.cell (p := ⟨0, j, none⟩) h0).trans (unhide Ht j hj)
          have HT := hide (fun q' => tz_any kk q hX (wr.drewN q') htW)
          have HT0 := hide (tz_any kk q hX wr.drew htW)
          have HS := hide (bitsL_step hX)
          have z0 := cell_block htb 0 _ rfl
          obtain ⟨va2, vc2, rfl⟩ := own_form hownW
          have q5 : IntKind.u64.wrap (((2 ^ kk * (2 * q + 1) : Nat) : Int) - 1) = ((2 ^ kk * (2 * q + 1) - 1 : Nat) : Int) := by rw [IntKind.wrap_u64]; omega
          have q6 := and_u64 (2 ^ kk * (2 * q + 1)) (2 ^ kk * (2 * q + 1) - 1) hX (by omega)
          have hk64 := low_lt hX
          have hdn : dn.length ≤ 64 := by have := bitsL_len Y; rw [hbits, List.length_append] at this; omega
          have ht64 := unhide Hf2
          have hsh : IntKind.i64.wrap (t * 64) = t * 64 := by rw [IntKind.wrap_i64]; omega
          have had : IntKind.i64.wrap (t * 64 + (kk : Int)) = t * 64 + (kk : Int) := by rw [IntKind.wrap_i64]; omega
          have hand : 2 ^ kk * (2 * q + 1) &&& (2 ^ kk * (2 * q + 1) - 1) ≤ 2 ^ kk * (2 * q + 1) - 1 := Nat.and_le_right
          have hXp : 0 < 2 ^ kk * (2 * q + 1) := by omega
          have n1 := row_not htb hownW (by decide)
          have Hn1 := hide n1
          have Hst := hide (And.intro hX (And.intro hbits (And.intro hbW (And.intro htb hownW))))
          clear hbits hbW htb hownW htW hX Hown n1 ht64
          generalize (2 ^ kk * (2 * q + 1) : Nat) = X at *
          generalize hX2 : X &&& (X - 1) = X2 at *
          have Hc1 : Hid (∀ j u, [Value.int .i64 (t * 64 + (kk : Int))][j]? = some u → (wr.alloc (.cells #[.int .i64 (t * 64 + (kk : Int))] 3)).drew.cell? ((⟨wr.heap.size, 0, none⟩ : Addr).add j) = some u) := hide (by
            have h := World.news_of_block (MapKept.heap_alloc wr (.cells #[.int .i64 (t * 64 + (kk : Int))] 3)).1
            simpa using h)
          have Hbs : Hid (w.heap.size ≤ (wr.alloc (.cells #[.int .i64 (t * 64 + (kk : Int))] 3)).drew.heap.size) := hide (by have := (unhide Hst).2.2.1.size; show _ ≤ (wr.alloc _).heap.size; rw [World.size_alloc]; omega)
          have HK : Hid (∀ W2, (wr.alloc (.cells #[.int .i64 (t * 64 + (kk : Int))] 3)).drew.grownBy W2 (Value.slice va2 (L0.length + dn.length) vc2).ownBlock → W2.heap[wo.heap.size]? = some (.cells #[.int .i64 t, .int .u64 (Y : Int)] 73 (0, 0)) ∧ Below w.heap.size w W2) := hide (fun W2 hg => by
            obtain ⟨-, -, hbW, htb, hownW⟩ := unhide Hst
            have h1 : (wr.alloc (.cells #[.int .i64 (t * 64 + (kk : Int))] 3)).drew.heap[wo.heap.size]? = _ := (Below.heap_alloc wr _ _ (lt_of_some htb)).trans htb
            exact ⟨(hg.block _ (lt_of_some h1) (fun e => (unhide Hn1) e.symm)).trans h1, ((hbW.alloc hbW.size _).drew).grown hg (unhide Hbs) (fun j hj => (hownW.lt j hj).1)⟩)
          go_wp2
          go_region_held3 (fun w' : World => w'.cell? ⟨wo.heap.size, 0, none⟩ = some (.int .i64 t))
            (first | exact z2 | exact z0 | go_keep)
            ((first | (go_at_call 32; refine (unhide HT0).mono ?_; rintro e w1 ⟨rfl, hw⟩; obtain rfl := hw.symm) | (refine step_append_own rfl (.tmp 31) (.tmp 38) 22 rfl w.heap.size 3 i0 (.int .i64 0) 1 8 Tryd.underlying22 hi hz0 hz1 hz2 rfl (by decide) (.slice va2 (L0.length + dn.length) vc2) (L0.length + dn.length) (intV (L0 ++ dn.map fun i : Nat => t * 64 + (i : Int))) (by simp [Act.eval]) ((unhide Hst).2.2.2.2.alloc _) ⟨wr.heap.size, 0, none⟩ 1 1 [.int .i64 (t * 64 + (kk : Int))] (by simp [Act.eval]) rfl (unhide Hc1) (by simp [Value.oneCell']) (by unfold maxLen; omega) (by omega) (unhide Hbs) ?_; intro v2 W2 hown2 hg2 hv2; obtain ⟨htb2, hb2⟩ := unhide HK W2 hg2; have z2 := cell_block htb2 0 _ rfl; have Hown2 := hide hown2; have Htb2 := hide htb2; have Hb2 := hide hb2; clear hown2 hg2 hv2 htb2 hb2)))
          obtain ⟨va3, vc3, rfl⟩ := own_form (unhide Hown2)
          go_wp2
          go_roundw
          case rel =>
            obtain ⟨hX, hbits, -⟩ := unhide Hst
            refine ⟨X2, dn ++ [kk], rfl, by omega, ?_, unhide Hb2, unhide Htb2, ?_⟩
            · rw [hbits, unhide HS, List.append_assoc]; rfl
            · have h := unhide Hown2
              rw [List.length_append, List.map_append, ← List.append_assoc, intV_append]
              exact h
          case measure => simp [intOf]; omega
    · obtain rfl : k = bl.length := by omega
      have hkl' : ¬ ((bl.length : Int) < bl.length) := by omega
      rw [List.take_length] at hown
      obtain ⟨va3, vc3, rfl⟩ := own_form hown
      have Hown := hide hown; have Hbel := hide hbel
      clear hown hbel
      go_wp2
      go_ret
      exact ⟨_, rfl, unhide Hown, unhide Hbel⟩
end Go.Proofs.YtdpphjedjhjdgaaDoor

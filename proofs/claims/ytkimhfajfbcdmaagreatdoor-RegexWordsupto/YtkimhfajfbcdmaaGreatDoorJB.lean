/- Pools: load. -/
import Derived.Test.YtkimhfajfbcdmaaGreatDoorQQ
namespace Go.Proofs.YtkimhfajfbcdmaaGreatDoor
open Go.RowKit Go.Maps

/-- A tree below the pool stays. -/
theorem rx_fr {B mb sb : Nat} {W W' : World} {t : Rx} {v0 v1 v2 : Value} (h : RxAt (fun q => q < B) W t v0 v1 v2) (hf : Fr B mb sb W W') : RxAt (fun q => q < B) W' t v0 v1 v2 :=
  rxAt_kept hf.size (fun k hk hl => hf.block k hl (.inl hk)) (fun _ hk _ => hk) _ _ _ _ h
/-- What madeOf makes of the kids. -/
def MadeC (B pb mb sb sn : Nat) (DS : DataW Unit) (k : Int) (s : List Rg) (xs : List Nat) (L1 L2 : List Ab) (x : Nat) : Prop :=
  ∀ (av : Nat → Prop) W sa sc (g : Nat), (∀ q, av q → B ≤ q ∧ q < W.heap.size) → B ≤ W.heap.size → Pool av W B pb mb sb L1 (cmpV pb) 0 sn DS → RRow W sa s → (s = [] ∨ ∀ y, sa = some y → y.block < B) → W.ownsRow B 3 1 (.slice (some ⟨g, 0, none⟩) xs.length xs.length) xs.length (intV (xs.map fun n : Nat => (n : Int))) → ¬ av g →
    Calls Tryz.prog 78 #[.pointer (some ⟨pb, 0, none⟩), .int .i64 k, .slice sa s.length sc, .slice (some ⟨g, 0, none⟩) xs.length xs.length] W fun e1 w1 => e1 = .returned (.int .i64 x) ∧ Pool av w1 B pb mb sb L2 (cmpV pb) 0 sn DS ∧ Fr B mb sb W w1
set_option maxHeartbeats 1000000 in
set_option maxRecDepth 100000 in
theorem load_any {B pb mb sb sn : Nat} {DS : DataW Unit} {k : Int} {s : List Rg} {ks : List Rx} {L L1 L2 : List Ab} {xs : List Nat} {x : Nat} (hks : LdKs B pb mb sb sn DS ks L L1 xs) (hkl : ks.length ≤ 4096) (hm : MadeC B pb mb sb sn DS k s xs L1 L2 x) (hx : x < L2.length) (hkx : (L2.getD x ab0).kind = k) (hkk : kidsA L2 x = xs.map fun n : Nat => (n : Int)) (h2 : 2 ≤ L2.length) (hL9 : L2.length ≤ 1500000000000) :
    LdC B pb mb sb sn DS (.mk k s ks) L L2 x := by
  intro av W v0 v1 v2 hav hB hP hX
  obtain ⟨i0, hi, hz0, hz1, hz2⟩ := info_parts hint
  have hlen := ldKs_len _ _ _ _ hks
  unfold RxAt at hX
  obtain ⟨rfl, ⟨sa, sc, rfl, hsr, hsq⟩, ka, kc, vs, rfl, hts, hcells⟩ := hX
  have hmk := run_makeSlice (P := Tryz.prog) (W.alloc (.cells #[.int .i64 k, .slice sa s.length sc, .slice ka ks.length kc] 26)) 63 3 i0 _ Tryz.underlying63 hi hz0 .i64 .i64 (ks.length : Int) (ks.length : Int) (by omega) (Int.le_refl _) (by rw [hz1]; simp; omega) (by rw [hz2]; simp; omega) (by omega)
  rw [Int.toNat_natCast, hz1, Nat.mul_one] at hmk
  have HL0 := hide (lst_zero xs (n := ks.length) #[.int .i64 k, .slice sa s.length sc, .slice ka ks.length kc] hkl hP)
  have Hts := hide hts; have Hcells := hide hcells; have Hsr := hide hsr; have Hsq := hide hsq; have Hks := hide hks; have Hm := hide hm
  clear hts hcells hsr hsq hP hks hm
  go_enter Tryz.func57, Tryz.ntmps57
  go_wp2_with fail
  clear hmk
  go_loopw [5, 17] (fun rv iv wr => ∃ (i : Nat) (Li : List Ab), rv = .bool true ∧ iv = .int .i64 i ∧ i ≤ ks.length ∧ LSt av W B pb mb sb sn DS xs ks.length i Li #[.int .i64 k, .slice sa s.length sc, .slice ka ks.length kc] wr ∧ LdKs B pb mb sb sn DS (ks.drop i) Li L1 (xs.drop i)) (fun _ iv _ => ks.length - (intOf iv).toNat)
  case atStart => exact ⟨0, L, rfl, rfl, Nat.zero_le _, unhide HL0, unhide Hks⟩
  case round =>
    obtain ⟨i, Li, rfl, rfl, hin, hst, hrest⟩ := hrel
    clear HL0 Hks
    by_cases hlt : i < ks.length
    · have hlt' : (i : Int) < ks.length := by omega
      obtain ⟨u0, u1, u2, hu0, hu1, hu2, hkx⟩ := rxTs_get ks vs (unhide Hts) i hlt
      rcases unhide Hcells with h0 | ⟨g, off, rfl, hgB, hgl, hcs⟩
      · rw [h0] at hlt; simp at hlt
      have hgb := hst.fr.block g hgl (.inl hgB)
      have e0 := (World.cell?_of_block (a := ⟨g, off + i * 3, none⟩) hgb).trans (hcs _ _ hu0)
      have e1 := (World.cell?_of_block (a := ⟨g, off + (i * 3 + 1), none⟩) hgb).trans (hcs _ _ hu1)
      have e2 := (World.cell?_of_block (a := ⟨g, off + (i * 3 + 2), none⟩) hgb).trans (hcs _ _ hu2)
      rw [← Nat.add_assoc] at e1 e2
      rw [List.drop_eq_getElem_cons hlt] at hrest
      obtain ⟨L', x', xr, hld, hrest', hxs⟩ := hrest
      have hix : i < xs.length := by omega
      rw [List.drop_eq_getElem_cons hix] at hxs
      obtain ⟨hx1, hx2⟩ := List.cons.inj hxs
      have hxd : xs.getD i 0 = x' := by rw [List.getD_eq_getElem?_getD, List.getElem?_eq_getElem hix]; exact hx1
      rw [← hx2] at hrest'
      have hka : ks.getD i rx0 = ks[i] := by rw [List.getD_eq_getElem?_getD, List.getElem?_eq_getElem hlt]; rfl
      rw [hka] at hkx
      obtain ⟨kk, s1, n1, c1, s2, n2, c2, rfl, rfl, rfl⟩ := rxAt_formQ hkx
      have hbr : Below wr.heap.size wr (wr.alloc (.cells #[.int .i64 kk, .slice s1 n1 c1, .slice s2 n2 c2] 26)) := (Below.refl _ _).alloc (Nat.le_refl _) _
      have hst2 := lst_below hst hbr
      have hsz := hst.fr.size
      have HLd := hide (hld (fun q => av q ∨ q = W.heap.size + 1) _ _ _ _ (fun q hq => by
        have hol := (hst2.own.lt (W.heap.size + 1) rfl).2
        rcases hq with h | h
        · have := hav q h; have := hbr.size; exact ⟨by omega, by omega⟩
        · exact ⟨by omega, by omega⟩) (by have := hbr.size; omega) hst2.pool (rx_fr hkx hst2.fr))
      have Hst2 := hide hst2; have Hrest := hide hrest'; have Hxd := hide hxd
      clear hgb hu0 hu1 hu2 hkx hcs hld hxs hx1 hx2 hka hbr hst2 hst hrest' hxd
      go_wp2_with fail
      refine (unhide HLd).mono ?_
      rintro e9 w1 ⟨rfl, hp1, hf1⟩
      obtain ⟨⟨u, d0⟩, f0, hst3⟩ := lst_step hlt (unhide Hxd) (lst_fr (unhide Hst2) hf1 hp1)
      have Hst3 := hide hst3
      clear hp1 hf1 hst3 HLd Hst2 e0 e1 e2
      go_wp2
      go_roundw
      case rel => exact ⟨i + 1, L', rfl, by go_num, by omega, unhide Hst3, unhide Hrest⟩
      case measure => simp [intOf]; omega
    · obtain rfl : i = ks.length := by omega
      rw [List.drop_length] at hrest
      obtain ⟨rfl, -⟩ := hrest
      have hsz := hst.fr.size
      have hown : wr.ownsRow B 3 1 (.slice (some ⟨W.heap.size + 1, 0, none⟩) xs.length xs.length) xs.length (intV (xs.map fun n : Nat => (n : Int))) := by
        have := hst.own
        rw [← hlen, kRow_all] at this
        exact own_lower this (by omega)
      have hrr : RRow wr sa s := by
        rcases unhide Hsr with h | ⟨g, off, rfl, hg, hc⟩
        · exact .inl h
        · rcases unhide Hsq with h | h
          · exact .inl h
          · have hb := hst.fr.block g hg (.inl (h _ rfl))
            exact .inr ⟨g, off, rfl, Nat.lt_of_lt_of_le hg hst.fr.size, fun j hj => ⟨(World.cell?_of_block (a := ⟨g, off + j * 2, none⟩) hb).trans (hc j hj).1, (World.cell?_of_block (a := ⟨g, off + j * 2 + 1, none⟩) hb).trans (hc j hj).2⟩⟩
      have hpl := pool_av0 (av' := av) hst.pool (fun q _ h => .inl h)
      have HMd := hide (unhide Hm av wr sa sc (W.heap.size + 1) (fun q hq => ⟨(hav q hq).1, by have := (hav q hq).2; omega⟩) (by omega) hpl hrr (unhide Hsq) hown (fun h => by have := (hav _ h).2; omega))
      rw [hlen] at HMd
      have b0 := cell_block hst.box 0 _ rfl
      have b1 := cell_block hst.box 1 _ rfl
      have Hst := hide hst; have Hown := hide hown
      clear hst hown hrr hpl Hm
      go_wp2_with fail
      refine (unhide HMd).mono ?_
      rintro e9 w2 ⟨rfl, hp2, hf2⟩
      have hfr2 := fr_t (unhide Hst).fr hf2
      have hbox2 := (hf2.block _ (lt_of_some (unhide Hst).box) (.inr (.inl ⟨_, 26, _, (unhide Hst).box, by decide, by decide, by decide⟩))).trans (unhide Hst).box
      have hown2 := own_fr (unhide Hown) hf2
      have Hp2 := hide hp2; have Hfr2 := hide hfr2; have Hbox2 := hide hbox2; have Hown2 := hide hown2
      clear hp2 hf2 hfr2 hbox2 hown2 b0 b1 Hst Hown HMd
      obtain ⟨g, nc, p0, hn⟩ := pool_node (unhide Hp2)
      obtain ⟨d, hd, hN⟩ := hn x hx
      have r0 := hN.c0
      have hdk : d.kind = k := by rw [← hkx, ← hd]; rfl
      rw [hdk] at r0
      obtain ⟨q0, q2, hpb⟩ := pool_pb (unhide Hp2)
      have p5 : w2.cell? ⟨pb, 5, none⟩ = some (.int .i64 0) := cell_block hpb 5 _ rfl
      have x0 : w2.cell? ⟨W.heap.size, 0, none⟩ = some (.int .i64 k) := cell_block (unhide Hbox2) 0 _ rfl
      have hxi : (x : Int) < L2.length := by omega
      have hx0 : (0 : Int) ≤ x := by omega
      have HbD : Hid (∀ {W'}, Below w2.heap.size w2.drew W' → Below w2.heap.size w2 W') := hide (fun hb => ⟨hb.os, hb.tape, hb.output, hb.size, hb.block⟩)
      have HS9 := hide (fun W' (hb : Below w2.heap.size w2.drew W') => And.intro ((hb.cell (World.block_lt_of_cell? w2 _ p5)).trans p5) (And.intro ((hb.cell (World.block_lt_of_cell? w2 _ p0)).trans p0) (And.intro ((hb.cell (World.block_lt_of_cell? w2 _ r0)).trans r0) ((hb.cell (World.block_lt_of_cell? w2 _ x0)).trans x0))))
      have HKd := hide (kids_any w2.drew B pb mb sb L2 (cmpV pb) 0 sn DS (pool_below (unhide Hp2) ((Below.refl _ _).drew)) x hx h2 hL9 (fun q hq => by have := (hav q hq).2; have := (unhide Hfr2).size; exact Nat.lt_of_lt_of_le (hav q hq).2 (unhide Hfr2).size))
      have Hkk := hide hkk; have Hlen := hide hlen
      clear hn hd hN hdk hpb hkk hlen
      go_wp2_with fail
      refine wp_region_held_drew (S := fun W' : World => W'.cell? ⟨pb, 5, none⟩ = some (.int .i64 0) ∧ W'.cell? ⟨pb, 0, none⟩ = some (.slice (some ⟨g, 0, none⟩) L2.length nc) ∧ W'.cell? ⟨g, x * 6, none⟩ = some (.int .i64 k) ∧ W'.cell? ⟨W.heap.size, 0, none⟩ = some (.int .i64 k)) (by kernel_rfl) (unhide HS9 _ (Below.refl _ _)) (fun hHeld => ?_)
      refine take_dst (i := 0) (dst := some 43) (v := ?_) rfl rfl (by kernel_rfl) (by kernel_rfl) (by kernel_rfl) (fun _ _ _ h => h) (Or.inl ⟨by rfl, ?_⟩) hHeld ?_
      rotate_left
      · intro w hSw; obtain ⟨z0, z1, z2, z3⟩ := hSw; go_simp; try (with_reducible rfl)
      simp only [Act.put, List.setIfInBounds_toArray, List.set_cons_zero, List.set_cons_succ]
      refine take_dst (i := 1) (dst := some 44) (v := ?_) rfl rfl (by kernel_rfl) (by kernel_rfl) (by kernel_rfl) (fun _ _ _ h => h) (Or.inl ⟨by rfl, ?_⟩) hHeld ?_
      rotate_left
      · intro w hSw; obtain ⟨z0, z1, z2, z3⟩ := hSw; go_simp; try (with_reducible rfl)
      simp only [Act.put, List.setIfInBounds_toArray, List.set_cons_zero, List.set_cons_succ]
      refine take_dst (i := 2) (dst := some 45) (v := ?_) rfl rfl (by kernel_rfl) (by kernel_rfl) (by kernel_rfl) (fun _ _ _ h => h) (Or.inl ⟨by rfl, ?_⟩) hHeld ?_
      rotate_left
      · intro w hSw; obtain ⟨z0, z1, z2, z3⟩ := hSw; go_simp; try (with_reducible rfl)
      simp only [Act.put, List.setIfInBounds_toArray, List.set_cons_zero, List.set_cons_succ]
      refine take_dst (i := 3) (dst := some 46) (v := ?_) rfl rfl (by kernel_rfl) (by kernel_rfl) (by kernel_rfl) (fun _ _ _ h => h) (Or.inl ⟨by rfl, ?_⟩) hHeld ?_
      rotate_left
      · intro w hSw; obtain ⟨z0, z1, z2, z3⟩ := hSw; go_simp; try (with_reducible rfl)
      simp only [Act.put, List.setIfInBounds_toArray, List.set_cons_zero, List.set_cons_succ]
      refine take_dst (i := 4) (dst := some 47) (v := ?_) rfl rfl (by kernel_rfl) (by kernel_rfl) (by kernel_rfl) (fun _ _ _ h => h) (Or.inl ⟨by rfl, ?_⟩) hHeld ?_
      rotate_left
      · intro w hSw; obtain ⟨z0, z1, z2, z3⟩ := hSw; go_simp; try (with_reducible rfl)
      simp only [Act.put, List.setIfInBounds_toArray, List.set_cons_zero, List.set_cons_succ]
      refine take_dst (i := 5) (dst := some 48) (v := ?_) rfl rfl (by kernel_rfl) (by kernel_rfl) (by kernel_rfl) (fun _ _ _ h => h) (Or.inl ⟨by rfl, ?_⟩) hHeld ?_
      rotate_left
      · intro w hSw; obtain ⟨z0, z1, z2, z3⟩ := hSw; go_simp; try (with_reducible rfl)
      simp only [Act.put, List.setIfInBounds_toArray, List.set_cons_zero, List.set_cons_succ]
      refine take_dst (i := 6) (dst := some 49) (v := ?_) rfl rfl (by kernel_rfl) (by kernel_rfl) (by kernel_rfl) (fun _ _ _ h => h) (Or.inl ⟨by rfl, ?_⟩) hHeld ?_
      rotate_left
      · intro w hSw; obtain ⟨z0, z1, z2, z3⟩ := hSw; go_simp; try (with_reducible rfl)
      simp only [Act.put, List.setIfInBounds_toArray, List.set_cons_zero, List.set_cons_succ]
      refine take_dst (i := 7) (dst := some 50) (v := ?_) rfl rfl (by kernel_rfl) (by kernel_rfl) (by kernel_rfl) (fun _ _ _ h => h) (Or.inl ⟨by rfl, ?_⟩) hHeld ?_
      rotate_left
      · intro w hSw; obtain ⟨z0, z1, z2, z3⟩ := hSw; go_simp; try (with_reducible rfl)
      simp only [Act.put, List.setIfInBounds_toArray, List.set_cons_zero, List.set_cons_succ]
      refine take_dst (i := 8) (dst := some 51) (v := ?_) rfl rfl (by kernel_rfl) (by kernel_rfl) (by kernel_rfl) (fun _ _ _ h => h) (Or.inl ⟨by rfl, ?_⟩) hHeld ?_
      rotate_left
      · intro w hSw; obtain ⟨z0, z1, z2, z3⟩ := hSw; go_simp; try (with_reducible rfl)
      simp only [Act.put, List.setIfInBounds_toArray, List.set_cons_zero, List.set_cons_succ]
      refine take_dst (i := 9) (dst := some 52) (v := ?_) rfl rfl (by kernel_rfl) (by kernel_rfl) (by kernel_rfl) (fun _ _ _ h => h) (Or.inl ⟨by rfl, ?_⟩) hHeld ?_
      rotate_left
      · intro w hSw; obtain ⟨z0, z1, z2, z3⟩ := hSw; go_simp; try (with_reducible rfl)
      simp only [Act.put, List.setIfInBounds_toArray, List.set_cons_zero, List.set_cons_succ]
      refine take_dst (i := 10) (dst := some 53) (v := ?_) rfl rfl (by kernel_rfl) (by kernel_rfl) (by kernel_rfl) (fun _ _ _ h => h) (Or.inl ⟨by rfl, ?_⟩) hHeld ?_
      rotate_left
      · intro w hSw; obtain ⟨z0, z1, z2, z3⟩ := hSw; go_simp; try (with_reducible rfl)
      simp only [Act.put, List.setIfInBounds_toArray, List.set_cons_zero, List.set_cons_succ]
      refine take_dst (i := 11) (dst := some 54) (v := ?_) rfl rfl (by kernel_rfl) (by kernel_rfl) (by kernel_rfl) (fun _ _ _ h => h) (Or.inl ⟨by rfl, ?_⟩) hHeld ?_
      rotate_left
      · intro w hSw; obtain ⟨z0, z1, z2, z3⟩ := hSw; go_simp; try (with_reducible rfl)
      simp only [Act.put, List.setIfInBounds_toArray, List.set_cons_zero, List.set_cons_succ]
      refine take_dst (i := 12) (dst := some 55) (v := ?_) rfl rfl (by kernel_rfl) (by kernel_rfl) (by kernel_rfl) (fun _ _ _ h => h) (Or.inl ⟨by rfl, ?_⟩) hHeld ?_
      rotate_left
      · intro w hSw; obtain ⟨z0, z1, z2, z3⟩ := hSw; go_simp; try (with_reducible rfl)
      simp only [Act.put, List.setIfInBounds_toArray, List.set_cons_zero, List.set_cons_succ]
      refine take_dst (i := 13) (dst := some 56) (v := ?_) rfl rfl (by kernel_rfl) (by kernel_rfl) (by kernel_rfl) (fun _ _ _ h => h) (Or.inl ⟨by rfl, ?_⟩) hHeld ?_
      rotate_left
      · intro w hSw; obtain ⟨z0, z1, z2, z3⟩ := hSw; go_simp; try (with_reducible rfl)
      simp only [Act.put, List.setIfInBounds_toArray, List.set_cons_zero, List.set_cons_succ]
      refine take_dst (i := 14) (dst := some 57) (v := ?_) rfl rfl (by kernel_rfl) (by kernel_rfl) (by kernel_rfl) (fun _ _ _ h => h) (Or.inl ⟨by rfl, ?_⟩) hHeld ?_
      rotate_left
      · intro w hSw; obtain ⟨z0, z1, z2, z3⟩ := hSw; go_simp; try (with_reducible rfl)
      simp only [Act.put, List.setIfInBounds_toArray, List.set_cons_zero, List.set_cons_succ]
      refine take_dst (i := 15) (dst := some 58) (v := ?_) rfl rfl (by kernel_rfl) (by kernel_rfl) (by kernel_rfl) (fun _ _ _ h => h) (Or.inl ⟨by rfl, ?_⟩) hHeld ?_
      rotate_left
      · intro w hSw; obtain ⟨z0, z1, z2, z3⟩ := hSw; go_simp; try (with_reducible rfl)
      simp only [Act.put, List.setIfInBounds_toArray, List.set_cons_zero, List.set_cons_succ]
      refine take_dst (i := 16) (dst := some 59) (v := ?_) rfl rfl (by kernel_rfl) (by kernel_rfl) (by kernel_rfl) (fun _ _ _ h => h) (Or.inl ⟨by rfl, ?_⟩) hHeld ?_
      rotate_left
      · intro w hSw; obtain ⟨z0, z1, z2, z3⟩ := hSw; go_simp; try (with_reducible rfl)
      simp only [Act.put, List.setIfInBounds_toArray, List.set_cons_zero, List.set_cons_succ]
      refine take_dst (i := 17) (dst := some 60) (v := ?_) rfl rfl (by kernel_rfl) (by kernel_rfl) (by kernel_rfl) (fun _ _ _ h => h) (Or.inl ⟨by rfl, ?_⟩) hHeld ?_
      rotate_left
      · intro w hSw; obtain ⟨z0, z1, z2, z3⟩ := hSw; go_simp; try (with_reducible rfl)
      simp only [Act.put, List.setIfInBounds_toArray, List.set_cons_zero, List.set_cons_succ]
      refine take_dst (i := 18) (dst := some 61) (v := ?_) rfl rfl (by kernel_rfl) (by kernel_rfl) (by kernel_rfl) (fun _ _ _ h => h) (Or.inl ⟨by rfl, ?_⟩) hHeld ?_
      rotate_left
      · intro w hSw; obtain ⟨z0, z1, z2, z3⟩ := hSw; go_simp; try (with_reducible rfl)
      simp only [Act.put, List.setIfInBounds_toArray, List.set_cons_zero, List.set_cons_succ]
      refine take_dst (i := 19) (dst := some 62) (v := ?_) rfl rfl (by kernel_rfl) (by kernel_rfl) (by kernel_rfl) (fun _ _ _ h => h) (Or.inl ⟨by rfl, ?_⟩) hHeld ?_
      rotate_left
      · intro w hSw; obtain ⟨z0, z1, z2, z3⟩ := hSw; go_simp; try (with_reducible rfl)
      simp only [Act.put, List.setIfInBounds_toArray, List.set_cons_zero, List.set_cons_succ]
      refine take_dst (i := 20) (dst := some 63) (v := ?_) rfl rfl (by kernel_rfl) (by kernel_rfl) (by kernel_rfl) (fun _ _ _ h => h) (Or.inl ⟨by rfl, ?_⟩) hHeld ?_
      rotate_left
      · intro w hSw; obtain ⟨z0, z1, z2, z3⟩ := hSw; go_simp; try (with_reducible rfl)
      simp only [Act.put, List.setIfInBounds_toArray, List.set_cons_zero, List.set_cons_succ]
      refine take_dst (i := 21) (dst := some 64) (v := ?_) rfl rfl (by kernel_rfl) (by kernel_rfl) (by kernel_rfl) (fun _ _ _ h => h) (Or.inl ⟨by rfl, ?_⟩) hHeld ?_
      rotate_left
      · intro w hSw; obtain ⟨z0, z1, z2, z3⟩ := hSw; go_simp; try (with_reducible rfl)
      simp only [Act.put, List.setIfInBounds_toArray, List.set_cons_zero, List.set_cons_succ]
      refine take_dst (i := 22) (dst := some 65) (v := ?_) rfl rfl (by kernel_rfl) (by kernel_rfl) (by kernel_rfl) (fun _ _ _ h => h) (Or.inl ⟨by rfl, ?_⟩) hHeld ?_
      rotate_left
      · intro w hSw; obtain ⟨z0, z1, z2, z3⟩ := hSw; go_simp; try (with_reducible rfl)
      simp only [Act.put, List.setIfInBounds_toArray, List.set_cons_zero, List.set_cons_succ]
      refine take_dst (i := 23) (dst := some 66) (v := ?_) rfl rfl (by kernel_rfl) (by kernel_rfl) (by kernel_rfl) (fun _ _ _ h => h) (Or.inl ⟨by rfl, ?_⟩) hHeld ?_
      rotate_left
      · intro w hSw; obtain ⟨z0, z1, z2, z3⟩ := hSw; go_simp; try (with_reducible rfl)
      simp only [Act.put, List.setIfInBounds_toArray, List.set_cons_zero, List.set_cons_succ]
      refine take_dst (i := 24) (dst := some 67) (v := ?_) rfl rfl (by kernel_rfl) (by kernel_rfl) (by kernel_rfl) (fun _ _ _ h => h) (Or.inl ⟨by rfl, ?_⟩) hHeld ?_
      rotate_left
      · intro w hSw; obtain ⟨z0, z1, z2, z3⟩ := hSw; go_simp; try (with_reducible rfl)
      simp only [Act.put, List.setIfInBounds_toArray, List.set_cons_zero, List.set_cons_succ]
      refine take_dst (i := 26) (dst := some 69) (v := ?_) rfl rfl (by kernel_rfl) (by kernel_rfl) (by kernel_rfl) (fun _ _ _ h => h) (Or.inl ⟨by rfl, ?_⟩) hHeld ?_
      rotate_left
      · intro w hSw; obtain ⟨z0, z1, z2, z3⟩ := hSw; go_simp; try (with_reducible rfl)
      simp only [Act.put, List.setIfInBounds_toArray, List.set_cons_zero, List.set_cons_succ]
      refine wpAnyH_ready (rs := [25]) (by kernel_rfl) (by simp) ?_
      refine AllReadyH.cons rfl (fun K hK => ?_) AllReadyH.nil
      go_simp
      go_at_call 47
      refine (unhide HKd).mono ?_
      rintro e10 w3 ⟨a3, c3, rfl, hn3, -, hb3⟩
      have Hn3 := hide hn3; have Hb3 := hide hb3
      have HEq := hide (equalI_any a3 (some ⟨W.heap.size + 1, 0, none⟩) c3 ks.length (kidsA L2 x) (xs.map fun n : Nat => (n : Int)) (by rw [unhide Hkk]; have := unhide Hlen; simp; omega) (by have := unhide Hlen; simp; omega) w3 hn3 (nrow_own (own_off (O := fun _ => False) (unhide Hown2) (off_below (unhide HbD hb3)) (fun _ _ h => h)) (by simp)))
      rw [show (xs.map fun n : Nat => (n : Int)).length = ks.length by have := unhide Hlen; simp; omega, decide_eq_true (unhide Hkk)] at HEq
      clear hn3 hb3
      go_wp2_with fail
      refine hK.out _ _ (unhide HS9 _ (unhide Hb3)) (fun hHeld => ?_)
      clear hK K
      refine wpAnyH_ready (rs := [27]) (by kernel_rfl) (by simp) ?_
      refine AllReadyH.cons rfl (fun K hK => ?_) AllReadyH.nil
      go_simp
      go_at_call 79
      refine (unhide HEq).mono ?_
      rintro e11 w4 ⟨rfl, hb4⟩
      have Hb4 := hide ((unhide Hb3).trans (hb4.mono (unhide Hb3).size))
      clear hb4
      go_wp2_with fail
      refine hK.out _ _ (unhide HS9 _ (unhide Hb4)) (fun hHeld => ?_)
      clear hK K
      refine take_dst (i := 28) (dst := some 71) (v := ?_) rfl rfl (by kernel_rfl) (by kernel_rfl) (by kernel_rfl) (fun _ _ _ h => h) (Or.inl ⟨by rfl, ?_⟩) hHeld ?_
      rotate_left
      · intro w hSw; obtain ⟨z0, z1, z2, z3⟩ := hSw; go_simp; try (with_reducible rfl)
      simp only [Act.put, List.setIfInBounds_toArray, List.set_cons_zero, List.set_cons_succ]
      refine wpAnyH_ready (rs := [29]) (by kernel_rfl) (by simp) ?_
      refine AllReadyH.cons rfl (fun K hK => ?_) AllReadyH.nil
      go_simp
      refine hK.out _ _ (unhide HS9 _ (unhide Hb4)) (fun hHeld => ?_)
      clear hK K
      refine wpAnyH_ready (rs := [30]) (by kernel_rfl) (by simp) ?_
      refine AllReadyH.cons rfl (fun K hK => ?_) AllReadyH.nil
      go_simp
      refine hK.out _ _ (unhide HS9 _ (unhide Hb4)) (fun hHeld => ?_)
      clear hK K
      refine wpAnyH_done (by kernel_rfl) ?_ _
      have hp5 := pool_below (unhide Hp2) (unhide HbD (unhide Hb4))
      have Hp5 := hide hp5
      have Hf5 := hide (fr_t (unhide Hfr2) (fr_below (unhide HbD (unhide Hb4))))
      clear hp5
      go_wp2
      refine bodyPost_ret (v := .tuple #[.int .i64 x, .bool true]) (by simp [results, Tryz.results57, go_sem]) rfl ⟨rfl, unhide Hp5, unhide Hf5⟩
end Go.Proofs.YtkimhfajfbcdmaaGreatDoor

/- The law TokenTells, walked. -/
import Derived.Test.YtkckcnjamlpadabDoorU3
import Derived.Test.YtkckcnjamlpadabDoorE1
import Derived.Deep.DeepCutAuto
import Derived.Deep.RegionHeld3
namespace Go.Proofs.YtkckcnjamlpadabDoor
open Go.RowKit Go.Maps

theorem trow_under {M : Nat} {w w' : World} {g : Nat} {l : List T3} (h : TRow w (some ⟨g, 0, none⟩) l) (hb : Below M w w') (hg : g < M) : TRow w' (some ⟨g, 0, none⟩) l := by
  rcases h with rfl | ⟨b, off, e, hlt, hc⟩
  · exact .inl rfl
  · simp only [Option.some.injEq, Addr.mk.injEq] at e
    obtain ⟨rfl, rfl, -⟩ := e
    refine .inr ⟨_, 0, rfl, Nat.lt_of_lt_of_le hlt hb.size, fun j hj => ?_⟩
    have e := hb.block _ hg
    rw [World.cell?_of_block (a := ⟨g, 0 + j * 3, none⟩) e, World.cell?_of_block (a := ⟨g, 0 + j * 3 + 1, none⟩) e, World.cell?_of_block (a := ⟨g, 0 + j * 3 + 2, none⟩) e]
    exact hc j hj
theorem CurAt.under {M : Nat} {w w' : World} {c g cap k : Nat} {l : List T3} (h : CurAt w c g cap l k) (hb : Below M w w') (hc : c < M) (hg : g < M) : CurAt w' c g cap l k :=
  ⟨(hb.block _ hc).trans h.box, trow_under h.row hb hg, h.ne, Nat.lt_of_lt_of_le h.gl hb.size, h.le⟩
theorem takeT_snoc {l : List T3} {k : Nat} (h : k < l.length) : l.take (k + 1) = l.take k ++ [l.getD k (0, 0, 0)] := by
  rw [List.take_add_one, List.getElem?_eq_getElem h, List.getD_eq_getElem?_getD, List.getElem?_eq_getElem h]; rfl
/-- What holds while the cursor tells its row. -/
structure TL (w : World) (M c g cap : Nat) (l : List T3) (k : Nat) (v : Value) (acc : List T3) (W : World) : Prop where
  own : W.ownsRow M 27 3 v acc.length (flat3 acc)
  cur : CurAt W c g cap l k
  bel : Below w.heap.size w W
  sz : M ≤ W.heap.size
theorem TL.next {w : World} {M c g cap k k' : Nat} {l : List T3} {v : Value} {acc : List T3} {W W' : World} (h : TL w M c g cap l k v acc W) (hw : w.heap.size ≤ c) (hM : w.heap.size ≤ M) (hc : c < M) (ho : OffR c W W') (hk : CurAt W' c g cap l k') : TL w M c g cap l k' v acc W' :=
  ⟨own_off h.own ho (fun e => by have := (h.own.lt _ e).1; omega), hk, below_off h.bel ho hw (Nat.le_trans hM h.sz), Nat.le_trans h.sz ho.size⟩
theorem TL.grow {w : World} {M c g cap k : Nat} {l : List T3} {v v' : Value} {acc : List T3} {x : T3} {W W3 : World} (h : TL w M c g cap l k v acc W) (hM : w.heap.size ≤ M) (hc : c < M) (hg : g < M) (o : Obj)
    (hown : W3.ownsRow M 27 3 v' (acc.length + 1) (flat3 acc ++ [.int .i64 x.1, .int .i64 x.2.1, .int .i64 x.2.2])) (hgr : (W.alloc o).grownBy W3 v.ownBlock) : TL w M c g cap l k v' (acc ++ [x]) W3 := by
  have hs := h.sz
  have hb : Below M W W3 := ((Below.refl _ _).alloc h.sz _).grown hgr (by simp; omega) (fun j hj => (h.own.lt j hj).1)
  refine ⟨?_, h.cur.under hb hc hg, h.bel.trans (hb.mono hM), Nat.le_trans h.sz hb.size⟩
  rw [flat3_snoc, List.length_append]; exact hown

/-- 'wpAnyH_take' with the slot that is written told outright. -/
theorem take_dst {P : Program} {md : Region.Mode} {ops : Array Oper} {Q : Exit → Act → World → Prop} {S : World → Prop} {i : Nat} {oi : Oper} {v : Value} {dst : Option Nat} {fuel : Nat} {listed : Array Bool} {a : Act} {w : World} (hi : ops[i]? = some oi) (hd : oi.dst = dst)
    (hs : Region.noSelect ops = true) (hf : Region.free md ops listed i = true) (hr : (Region.ready md ops listed).contains i = true)
    (hQ : ∀ c a w, Q (.panic c) (a.put dst v) w → Q (.panic c) a w) (hy : YieldsIf P ops S oi v a) (hS : S w)
    (h : wpAnyH P md ops Q S fuel (listed.setIfInBounds i true) (a.put dst v) w) : wpAnyH P md ops Q S (fuel + 1) listed a w := by
  subst hd; exact wpAnyH_take hi hs hf hr hQ hy hS h
theorem TL.below {w : World} {M c g cap k : Nat} {l : List T3} {v : Value} {acc : List T3} {W W' : World} (h : TL w M c g cap l k v acc W) (hb : Below W.heap.size W W') : TL w M c g cap l k v acc W' :=
  ⟨ownsRow_below h.own hb (Nat.le_refl _), h.cur.below hb, h.bel.trans (hb.mono h.bel.size), Nat.le_trans h.sz hb.size⟩
theorem TL.trow {w : World} {M c g cap k n vc : Nat} {l : List T3} {va : Option Addr} {acc : List T3} {W : World} (h : TL w M c g cap l k (.slice va n vc) acc W) : TRow W va acc := by
  obtain ⟨a, cap, e, ht, -⟩ := trow_own h.own
  cases e
  exact ht

set_option maxHeartbeats 16000000 in
set_option maxRecDepth 100000 in
theorem tells_walk (a : Option Addr) (ca : Nat) (l : List T3) (hl : l.length * 24 ≤ 140737488351232) (hnil : a = none → l = [] ∧ ca = 0) (more : Int) (w : World) (h1 : TRow w a l) (hE : Env w) :
    Calls Tryd.prog 3 #[.slice a l.length ca, .int .i64 more] w fun e w' => e = .returned (.bool true) ∧ Below w.heap.size w w' := by
  obtain ⟨i0, hi, hz0, hz1, hz2⟩ := info_parts htok
  have HC := hide (newCursor_any a ca l hl hnil w h1)
  have hl9 : l.length ≤ 281474976710656 := by omega
  have H1 := hide h1; have HE := hide hE
  clear h1 hE
  go_enter Tryd.func3, Tryd.ntmps3
  go_wp2_with fail
  refine (unhide HC).mono ?_
  rintro e w1 ⟨c0, g, cap, rfl, hc0, hg0, hb1, hcur⟩
  have HA := hide (alive_any w1 (env_below (unhide HE) hb1))
  have Hb1 := hide hb1; have Hcur := hide hcur
  clear hb1 hcur HC
  go_wp2_with fail
  refine (unhide HA).mono ?_
  rintro e w2 ⟨rfl, hb2⟩
  have Hcur2 := hide ((unhide Hcur).below hb2)
  have HB2 := hide ((unhide Hb1).trans (hb2.mono (unhide Hb1).size))
  have hcM : c0 < w2.heap.size := lt_of_some (unhide Hcur2).box
  have hgM : g < w2.heap.size := (unhide Hcur2).gl
  have hwM := (unhide HB2).size
  clear hb2 HA Hcur Hb1
  go_wp2
  go_loopw [6, 18] (fun v x wr => ∃ k : Nat, x = .int .i64 (k : Int) ∧ k ≤ l.length ∧ TL w w2.heap.size c0 g cap l k v (l.take k) wr) (fun _ x _ => l.length - (intOf x).toNat)
  case atStart => exact ⟨0, rfl, Nat.zero_le _, ⟨World.ownsRow_nil _ _ _ _, unhide Hcur2, unhide HB2, Nat.le_refl _⟩⟩
  case round =>
    obtain ⟨k, rfl, hk, hT⟩ := hrel
    obtain ⟨va, vc, rfl, -, -⟩ := trow_own hT.own
    have hlk : (l.take k).length = k := by simp; omega
    have Hlk := hide hlk
    have HT := hide hT
    clear hT Hcur2 HB2 hlk
    by_cases hlt : k < l.length
    · have hlt' : (k : Int) < l.length := by omega
      have HN := hide (next_go c0 g cap k l hl9 hlt wr (unhide HT).cur)
      have hwt : wantT l k = l.getD k (0, 0, 0) := if_pos hlt
      rw [hwt] at HN
      have Hsn := hide (takeT_snoc hlt)
      clear hwt
      generalize l.getD k (0, 0, 0) = x at *
      obtain ⟨x0, x1, x2⟩ := x
      unfold tokV at HN
      simp only at HN
      have hal := unhide Hlk
      generalize hacc : l.take k = acc at *
      have Hacc := hide hacc
      clear hacc
      rw [hal]
      have Hal := hide hal
      clear hal
      go_wp2_with fail
      refine (unhide HN).mono ?_
      rintro e W2 ⟨rfl, ho, hcur2⟩
      have HT2 := hide ((unhide HT).next hc0 hwM hcM ho hcur2)
      have hsz2 := (unhide HT2).sz
      have HO := hide (unhide HT2).own
      rw [show acc.length = k from unhide Hal] at HO
      clear ho hcur2 HN HT
      go_wp2_with (at_builtin; refine wpList_append_own _ rfl _ _ 22 rfl w2.heap.size 27 i0 (.agg #[.int .i64 0, .int .i64 0, .int .i64 0]) 3 24 Tryd.underlying22 hi hz0 hz1 hz2 rfl (by decide) _ _ _ rfl ((unhide HO).alloc _) ⟨W2.heap.size, 0, none⟩ 1 1 [.int .i64 x0, .int .i64 x1, .int .i64 x2] rfl rfl ?zc1 ?zc2 ?zc3 ?zc4 ?zc5 ?_)
      case zc1 => exact cells_three_new _ _ _ _ _
      case zc2 => intro u hu; simp at hu; rcases hu with rfl | rfl | rfl <;> rfl
      case zc3 => unfold maxLen; omega
      case zc4 => omega
      case zc5 => simp; omega
      intro v' W3 hown' hgrow _
      have HT3 := hide ((unhide HT2).grow (x := (x0, x1, x2)) hwM hcM hgM (.cells #[.int .i64 x0, .int .i64 x1, .int .i64 x2] 27) (by rw [show acc.length = k from unhide Hal]; exact hown') (by rw [show acc.length = k from unhide Hal]; exact hgrow))
      clear hown' hgrow
      go_wp2
      go_roundw
      case rel => exact ⟨k + 1, by go_num, by omega, by rw [unhide Hsn]; exact unhide HT3⟩
      case measure => simp [intOf]; omega
    · obtain rfl : k = l.length := by omega
      rw [List.take_length] at *
      clear Hlk
      go_wp2
      obtain ⟨m, hm, hm20⟩ : ∃ m : Nat, min (max more 0) 20 = (m : Int) ∧ m ≤ 20 := ⟨(min (max more 0) 20).toNat, by omega, by omega⟩
      rw [hm]
      clear hm
      have hll : ¬ l.length < l.length := by omega
      have HNx := hide (fun W (h : CurAt W c0 g cap l l.length) => next_stay c0 g cap l.length l hl9 hll W h)
      rw [show wantT l l.length = (0, lastTo l, lastTo l) from if_neg hll] at HNx
      unfold tokV at HNx
      simp only at HNx
      have HLf := hide (fun W (h : CurAt W c0 g cap l l.length) => left_any c0 g cap l.length l hl9 W h)
      clear hll
      generalize lastTo l = z at *
      have HT0 := HT
      clear HT
      go_loopw [7, 30] (fun _ y wr2 => ∃ j : Nat, y = .int .i64 (j : Int) ∧ j ≤ m ∧ TL w w2.heap.size c0 g cap l l.length (.slice va l.length vc) l wr2) (fun _ y _ => m - (intOf y).toNat)
      case atStart => exact ⟨0, rfl, Nat.zero_le _, unhide HT0⟩
      case round =>
        obtain ⟨j, rfl, hj, hT⟩ := hrel
        have HT := hide hT
        clear hT HT0
        by_cases hjm : j < m
        · have hjm' : (j : Int) < m := by omega
          have HN := hide (unhide HNx wr (unhide HT).cur)
          go_wp2_with fail
          refine (unhide HN).mono ?_
          rintro e W2 ⟨rfl, ho, hcur2⟩
          have HT2 := hide ((unhide HT).next hc0 hwM hcM ho hcur2)
          clear ho hcur2 HN HT
          go_wp2_with fail
          have HT2b := hide ((unhide HT2).below ((Below.refl _ _).alloc (Nat.le_refl _) (.cells #[.int .i64 0, .int .i64 z, .int .i64 z] 27)))
          have HL := hide (unhide HLf _ (unhide HT2b).cur)
          rw [show ((l.length : Int) - (l.length : Int)) = 0 by omega] at HL
          refine (unhide HL).mono ?_
          rintro e W4 ⟨rfl, hb4⟩
          have HT4 := hide ((unhide HT2b).below hb4)
          clear hb4 HL HT2b HT2
          go_wp2
          go_roundw
          case rel => exact ⟨j + 1, by go_num, by omega, unhide HT4⟩
          case measure => simp [intOf]; omega
        · obtain rfl : j = m := by omega
          go_wp2_with fail
          have HSm := hide (fun W (h : TL w w2.heap.size c0 g cap l l.length (.slice va l.length vc) l W) => same_any va a vc ca l l hl9 W h.trow (trow_below (unhide H1) (Nat.le_refl _) h.bel))
          rw [show decide (l = l) = true from decide_eq_true rfl] at HSm
          have HBk := hide (fun W (h : TL w w2.heap.size c0 g cap l l.length (.slice va l.length vc) l W) => back_yes c0 g cap l.length l.length l hl9 (Nat.le_refl _) W h.cur)
          rw [Nat.sub_self] at HBk
          have HAt := hide (fun W (h : TL w w2.heap.size c0 g cap l 0 (.slice va l.length vc) l W) => at_any c0 g cap 0 l W h.cur)
          have HT := hide ((unhide HT).below ((Below.refl _ _).drew))
          clear HNx HLf
          by_cases h0 : l.length = 0
          · have h0' : ((l.length : Int) == 0) = true := by rw [beq_iff_eq]; omega
            clear h0
            refine wp_region_held_drew (S := fun _ : World => True) (by kernel_rfl) (trivial) (fun hHeld => ?_)
            refine take_dst (i := 0) (dst := some 50) (v := ?_) rfl rfl (by kernel_rfl) (by kernel_rfl) (by kernel_rfl) (fun _ _ _ h => h) (Or.inl ⟨by rfl, ?_⟩) hHeld ?_
            rotate_left
            · intro w hSw; have hSw := hSw; go_simp; try (with_reducible rfl)
            simp only [Act.put, List.setIfInBounds_toArray, List.set_cons_zero, List.set_cons_succ]
            refine take_dst (i := 1) (dst := some 51) (v := ?_) rfl rfl (by kernel_rfl) (by kernel_rfl) (by kernel_rfl) (fun _ _ _ h => h) (Or.inl ⟨by rfl, ?_⟩) hHeld ?_
            rotate_left
            · intro w hSw; have hSw := hSw; go_simp; try (with_reducible rfl)
            simp only [Act.put, List.setIfInBounds_toArray, List.set_cons_zero, List.set_cons_succ]
            refine wpAnyH_ready (rs := [2]) (by kernel_rfl) (by simp) ?_
            refine AllReadyH.cons rfl (fun K hK => ?_) AllReadyH.nil
            go_simp
            go_at_call 9
            refine (unhide HSm _ (unhide HT)).mono ?_
            rintro e W9 ⟨rfl, hb9⟩
            have HT := hide ((unhide HT).below hb9)
            clear hb9
            go_wp2_with fail
            refine hK.out _ _ (trivial) (fun hHeld => ?_)
            clear hK K
            refine take_dst (i := 3) (dst := some 53) (v := ?_) rfl rfl (by kernel_rfl) (by kernel_rfl) (by kernel_rfl) (fun _ _ _ h => h) (Or.inl ⟨by rfl, ?_⟩) hHeld ?_
            rotate_left
            · intro w hSw; have hSw := hSw; go_simp; try (with_reducible rfl)
            simp only [Act.put, List.setIfInBounds_toArray, List.set_cons_zero, List.set_cons_succ]
            refine take_dst (i := 4) (dst := some 54) (v := ?_) rfl rfl (by kernel_rfl) (by kernel_rfl) (by kernel_rfl) (fun _ _ _ h => h) (Or.inl ⟨by rfl, ?_⟩) hHeld ?_
            rotate_left
            · intro w hSw; have hSw := hSw; go_simp; try (with_reducible rfl)
            simp only [Act.put, List.setIfInBounds_toArray, List.set_cons_zero, List.set_cons_succ]
            refine take_dst (i := 5) (dst := some 55) (v := ?_) rfl rfl (by kernel_rfl) (by kernel_rfl) (by kernel_rfl) (fun _ _ _ h => h) (Or.inl ⟨by rfl, ?_⟩) hHeld ?_
            rotate_left
            · intro w hSw; have hSw := hSw; go_simp; try (with_reducible rfl)
            simp only [Act.put, List.setIfInBounds_toArray, List.set_cons_zero, List.set_cons_succ]
            refine take_dst (i := 6) (dst := some 56) (v := ?_) rfl rfl (by kernel_rfl) (by kernel_rfl) (by kernel_rfl) (fun _ _ _ h => h) (Or.inl ⟨by rfl, ?_⟩) hHeld ?_
            rotate_left
            · intro w hSw; have hSw := hSw; go_simp; try (with_reducible rfl)
            simp only [Act.put, List.setIfInBounds_toArray, List.set_cons_zero, List.set_cons_succ]
            refine wpAnyH_ready (rs := [7]) (by kernel_rfl) (by simp) ?_
            refine AllReadyH.cons rfl (fun K hK => ?_) AllReadyH.nil
            go_simp
            go_at_call 10
            refine (unhide HBk _ (unhide HT)).mono ?_
            rintro e W9 ⟨rfl, ho9, hc9⟩
            have HT := hide ((unhide HT).next hc0 hwM hcM ho9 hc9)
            clear ho9 hc9
            go_wp2_with fail
            refine hK.out _ _ (trivial) (fun hHeld => ?_)
            clear hK K
            refine take_dst (i := 8) (dst := some 58) (v := ?_) rfl rfl (by kernel_rfl) (by kernel_rfl) (by kernel_rfl) (fun _ _ _ h => h) (Or.inl ⟨by rfl, ?_⟩) hHeld ?_
            rotate_left
            · intro w hSw; have hSw := hSw; go_simp; try (with_reducible rfl)
            simp only [Act.put, List.setIfInBounds_toArray, List.set_cons_zero, List.set_cons_succ]
            refine take_dst (i := 9) (dst := some 59) (v := ?_) rfl rfl (by kernel_rfl) (by kernel_rfl) (by kernel_rfl) (fun _ _ _ h => h) (Or.inl ⟨by rfl, ?_⟩) hHeld ?_
            rotate_left
            · intro w hSw; have hSw := hSw; go_simp; try (with_reducible rfl)
            simp only [Act.put, List.setIfInBounds_toArray, List.set_cons_zero, List.set_cons_succ]
            refine take_dst (i := 10) (dst := some 60) (v := ?_) rfl rfl (by kernel_rfl) (by kernel_rfl) (by kernel_rfl) (fun _ _ _ h => h) (Or.inl ⟨by rfl, ?_⟩) hHeld ?_
            rotate_left
            · intro w hSw; have hSw := hSw; go_simp; try (with_reducible rfl)
            simp only [Act.put, List.setIfInBounds_toArray, List.set_cons_zero, List.set_cons_succ]
            refine wpAnyH_ready (rs := [11]) (by kernel_rfl) (by simp) ?_
            refine AllReadyH.cons rfl (fun K hK => ?_) AllReadyH.nil
            go_simp
            go_at_call 11
            refine (unhide HAt _ (unhide HT)).mono ?_
            rintro e W9 ⟨rfl, hw9⟩
            obtain rfl := hw9
            go_wp2_with fail
            refine hK.out _ _ (trivial) (fun hHeld => ?_)
            clear hK K
            refine take_dst (i := 12) (dst := some 62) (v := ?_) rfl rfl (by kernel_rfl) (by kernel_rfl) (by kernel_rfl) (fun _ _ _ h => h) (Or.inl ⟨by rfl, ?_⟩) hHeld ?_
            rotate_left
            · intro w hSw; have hSw := hSw; go_simp; try (with_reducible rfl)
            simp only [Act.put, List.setIfInBounds_toArray, List.set_cons_zero, List.set_cons_succ]
            refine take_dst (i := 13) (dst := some 63) (v := ?_) rfl rfl (by kernel_rfl) (by kernel_rfl) (by kernel_rfl) (fun _ _ _ h => h) (Or.inl ⟨by rfl, ?_⟩) hHeld ?_
            rotate_left
            · intro w hSw; have hSw := hSw; go_simp; try (with_reducible rfl)
            simp only [Act.put, List.setIfInBounds_toArray, List.set_cons_zero, List.set_cons_succ]
            refine take_dst (i := 14) (dst := some 64) (v := ?_) rfl rfl (by kernel_rfl) (by kernel_rfl) (by kernel_rfl) (fun _ _ _ h => h) (Or.inl ⟨by rfl, ?_⟩) hHeld ?_
            rotate_left
            · intro w hSw; have hSw := hSw; go_simp; try (with_reducible rfl)
            simp only [Act.put, List.setIfInBounds_toArray, List.set_cons_zero, List.set_cons_succ]
            refine take_dst (i := 15) (dst := some 65) (v := ?_) rfl rfl (by kernel_rfl) (by kernel_rfl) (by kernel_rfl) (fun _ _ _ h => h) (Or.inl ⟨by rfl, ?_⟩) hHeld ?_
            rotate_left
            · intro w hSw; have hSw := hSw; go_simp; try (with_reducible rfl)
            simp only [Act.put, List.setIfInBounds_toArray, List.set_cons_zero, List.set_cons_succ]
            refine take_dst (i := 16) (dst := some 66) (v := ?_) rfl rfl (by kernel_rfl) (by kernel_rfl) (by kernel_rfl) (fun _ _ _ h => h) (Or.inl ⟨by rfl, ?_⟩) hHeld ?_
            rotate_left
            · intro w hSw; have hSw := hSw; go_simp; try (with_reducible rfl)
            simp only [Act.put, List.setIfInBounds_toArray, List.set_cons_zero, List.set_cons_succ]
            refine take_dst (i := 17) (dst := some 67) (v := ?_) rfl rfl (by kernel_rfl) (by kernel_rfl) (by kernel_rfl) (fun _ _ _ h => h) (Or.inl ⟨by rfl, ?_⟩) hHeld ?_
            rotate_left
            · intro w hSw; have hSw := hSw; go_simp; try (with_reducible rfl)
            simp only [Act.put, List.setIfInBounds_toArray, List.set_cons_zero, List.set_cons_succ]
            refine take_dst (i := 18) (dst := some 68) (v := ?_) rfl rfl (by kernel_rfl) (by kernel_rfl) (by kernel_rfl) (fun _ _ _ h => h) (Or.inl ⟨by rfl, ?_⟩) hHeld ?_
            rotate_left
            · intro w hSw; have hSw := hSw; go_simp; try (with_reducible rfl)
            simp only [Act.put, List.setIfInBounds_toArray, List.set_cons_zero, List.set_cons_succ]
            refine take_dst (i := 19) (dst := some 69) (v := undef) rfl rfl (by kernel_rfl) (by kernel_rfl) (by kernel_rfl) (fun _ _ _ h => h) (Or.inr ⟨by rfl, rfl⟩) hHeld ?_
            simp only [Act.put, List.setIfInBounds_toArray, List.set_cons_zero, List.set_cons_succ]
            refine take_dst (i := 20) (dst := some 70) (v := undef) rfl rfl (by kernel_rfl) (by kernel_rfl) (by kernel_rfl) (fun _ _ _ h => h) (Or.inr ⟨by rfl, rfl⟩) hHeld ?_
            simp only [Act.put, List.setIfInBounds_toArray, List.set_cons_zero, List.set_cons_succ]
            refine take_dst (i := 21) (dst := some 71) (v := undef) rfl rfl (by kernel_rfl) (by kernel_rfl) (by kernel_rfl) (fun _ _ _ h => h) (Or.inr ⟨by rfl, rfl⟩) hHeld ?_
            simp only [Act.put, List.setIfInBounds_toArray, List.set_cons_zero, List.set_cons_succ]
            refine take_dst (i := 22) (dst := some 72) (v := undef) rfl rfl (by kernel_rfl) (by kernel_rfl) (by kernel_rfl) (fun _ _ _ h => h) (Or.inr ⟨by rfl, rfl⟩) hHeld ?_
            simp only [Act.put, List.setIfInBounds_toArray, List.set_cons_zero, List.set_cons_succ]
            refine take_dst (i := 23) (dst := some 73) (v := undef) rfl rfl (by kernel_rfl) (by kernel_rfl) (by kernel_rfl) (fun _ _ _ h => h) (Or.inr ⟨by rfl, rfl⟩) hHeld ?_
            simp only [Act.put, List.setIfInBounds_toArray, List.set_cons_zero, List.set_cons_succ]
            refine take_dst (i := 24) (dst := some 74) (v := undef) rfl rfl (by kernel_rfl) (by kernel_rfl) (by kernel_rfl) (fun _ _ _ h => h) (Or.inr ⟨by rfl, rfl⟩) hHeld ?_
            simp only [Act.put, List.setIfInBounds_toArray, List.set_cons_zero, List.set_cons_succ]
            refine take_dst (i := 25) (dst := some 75) (v := ?_) rfl rfl (by kernel_rfl) (by kernel_rfl) (by kernel_rfl) (fun _ _ _ h => h) (Or.inl ⟨by rfl, ?_⟩) hHeld ?_
            rotate_left
            · intro w hSw; have hSw := hSw; go_simp; try (with_reducible rfl)
            simp only [Act.put, List.setIfInBounds_toArray, List.set_cons_zero, List.set_cons_succ]
            refine take_dst (i := 26) (dst := some 76) (v := ?_) rfl rfl (by kernel_rfl) (by kernel_rfl) (by kernel_rfl) (fun _ _ _ h => h) (Or.inl ⟨by rfl, ?_⟩) hHeld ?_
            rotate_left
            · intro w hSw; have hSw := hSw; go_simp; try (with_reducible rfl)
            simp only [Act.put, List.setIfInBounds_toArray, List.set_cons_zero, List.set_cons_succ]
            refine take_dst (i := 27) (dst := some 4) (v := ?_) rfl rfl (by kernel_rfl) (by kernel_rfl) (by kernel_rfl) (fun _ _ _ h => h) (Or.inl ⟨by rfl, ?_⟩) hHeld ?_
            rotate_left
            · intro w hSw; have hSw := hSw; go_simp; try (with_reducible rfl)
            simp only [Act.put, List.setIfInBounds_toArray, List.set_cons_zero, List.set_cons_succ]
            refine wpAnyH_done (by kernel_rfl) ?_ _
            go_simp
            go_wp2
            go_ret
            exact ⟨rfl, (unhide HT).bel⟩
          · have h0' : ((l.length : Int) == 0) = false := by rw [beq_eq_false_iff_ne]; omega
            have h0n : (0 : Int) < l.length := by omega
            have h0m : 0 < l.length := by omega
            obtain ⟨rb, ro, rfl, hrb, hrc⟩ := trow_pos (unhide H1) (show 0 < l.length by omega)
            have HS0 : Hid (∀ W, Below w.heap.size w W → W.cell? ⟨rb, ro, none⟩ = some (.int .i64 (l.getD 0 (0, 0, 0)).1) ∧ W.cell? ⟨rb, ro + 1, none⟩ = some (.int .i64 (l.getD 0 (0, 0, 0)).2.1) ∧ W.cell? ⟨rb, ro + 2, none⟩ = some (.int .i64 (l.getD 0 (0, 0, 0)).2.2)) := hide (fun W hb => by
              obtain ⟨q0, q1, q2⟩ := hrc 0 (by omega)
              simp only [Nat.zero_mul, Nat.add_zero] at q0 q1 q2
              exact ⟨(hb.cell (p := ⟨rb, ro, none⟩) hrb).trans q0, (hb.cell (p := ⟨rb, ro + 1, none⟩) hrb).trans q1, (hb.cell (p := ⟨rb, ro + 2, none⟩) hrb).trans q2⟩)
            have HNx0 := hide (fun W (h : TL w w2.heap.size c0 g cap l 0 (.slice va l.length vc) l W) => next_go c0 g cap 0 l hl9 (show 0 < l.length by omega) W h.cur)
            rw [show wantT l 0 = l.getD 0 (0, 0, 0) from if_pos (by omega)] at HNx0
            unfold tokV at HNx0
            clear hrc h0
            generalize l.getD 0 (0, 0, 0) = x at *
            obtain ⟨x0, x1, x2⟩ := x
            simp only at HS0 HNx0
            have qe := fun w => eql55 x0 x1 x2 x0 x1 x2 w
            rw [show decide ((x0, x1, x2) = (x0, x1, x2)) = true from decide_eq_true rfl] at qe
            have g55 := guard55
            refine wp_region_held_drew (S := fun W : World => W.cell? ⟨rb, ro, none⟩ = some (.int .i64 x0) ∧ W.cell? ⟨rb, ro + 1, none⟩ = some (.int .i64 x1) ∧ W.cell? ⟨rb, ro + 2, none⟩ = some (.int .i64 x2)) (by kernel_rfl) (unhide HS0 _ (unhide HT).bel) (fun hHeld => ?_)
            refine take_dst (i := 0) (dst := some 50) (v := ?_) rfl rfl (by kernel_rfl) (by kernel_rfl) (by kernel_rfl) (fun _ _ _ h => h) (Or.inl ⟨by rfl, ?_⟩) hHeld ?_
            rotate_left
            · intro w hSw; obtain ⟨z0, z1, z2⟩ := hSw; go_simp; try (with_reducible rfl)
            simp only [Act.put, List.setIfInBounds_toArray, List.set_cons_zero, List.set_cons_succ]
            refine take_dst (i := 1) (dst := some 51) (v := ?_) rfl rfl (by kernel_rfl) (by kernel_rfl) (by kernel_rfl) (fun _ _ _ h => h) (Or.inl ⟨by rfl, ?_⟩) hHeld ?_
            rotate_left
            · intro w hSw; obtain ⟨z0, z1, z2⟩ := hSw; go_simp; try (with_reducible rfl)
            simp only [Act.put, List.setIfInBounds_toArray, List.set_cons_zero, List.set_cons_succ]
            refine wpAnyH_ready (rs := [2]) (by kernel_rfl) (by simp) ?_
            refine AllReadyH.cons rfl (fun K hK => ?_) AllReadyH.nil
            go_simp
            go_at_call 9
            refine (unhide HSm _ (unhide HT)).mono ?_
            rintro e W9 ⟨rfl, hb9⟩
            have HT := hide ((unhide HT).below hb9)
            clear hb9
            go_wp2_with fail
            refine hK.out _ _ (unhide HS0 _ (unhide HT).bel) (fun hHeld => ?_)
            clear hK K
            refine take_dst (i := 3) (dst := some 53) (v := ?_) rfl rfl (by kernel_rfl) (by kernel_rfl) (by kernel_rfl) (fun _ _ _ h => h) (Or.inl ⟨by rfl, ?_⟩) hHeld ?_
            rotate_left
            · intro w hSw; obtain ⟨z0, z1, z2⟩ := hSw; go_simp; try (with_reducible rfl)
            simp only [Act.put, List.setIfInBounds_toArray, List.set_cons_zero, List.set_cons_succ]
            refine take_dst (i := 4) (dst := some 54) (v := ?_) rfl rfl (by kernel_rfl) (by kernel_rfl) (by kernel_rfl) (fun _ _ _ h => h) (Or.inl ⟨by rfl, ?_⟩) hHeld ?_
            rotate_left
            · intro w hSw; obtain ⟨z0, z1, z2⟩ := hSw; go_simp; try (with_reducible rfl)
            simp only [Act.put, List.setIfInBounds_toArray, List.set_cons_zero, List.set_cons_succ]
            refine take_dst (i := 5) (dst := some 55) (v := ?_) rfl rfl (by kernel_rfl) (by kernel_rfl) (by kernel_rfl) (fun _ _ _ h => h) (Or.inl ⟨by rfl, ?_⟩) hHeld ?_
            rotate_left
            · intro w hSw; obtain ⟨z0, z1, z2⟩ := hSw; go_simp; try (with_reducible rfl)
            simp only [Act.put, List.setIfInBounds_toArray, List.set_cons_zero, List.set_cons_succ]
            refine take_dst (i := 6) (dst := some 56) (v := ?_) rfl rfl (by kernel_rfl) (by kernel_rfl) (by kernel_rfl) (fun _ _ _ h => h) (Or.inl ⟨by rfl, ?_⟩) hHeld ?_
            rotate_left
            · intro w hSw; obtain ⟨z0, z1, z2⟩ := hSw; go_simp; try (with_reducible rfl)
            simp only [Act.put, List.setIfInBounds_toArray, List.set_cons_zero, List.set_cons_succ]
            refine wpAnyH_ready (rs := [7]) (by kernel_rfl) (by simp) ?_
            refine AllReadyH.cons rfl (fun K hK => ?_) AllReadyH.nil
            go_simp
            go_at_call 10
            refine (unhide HBk _ (unhide HT)).mono ?_
            rintro e W9 ⟨rfl, ho9, hc9⟩
            have HT := hide ((unhide HT).next hc0 hwM hcM ho9 hc9)
            clear ho9 hc9
            go_wp2_with fail
            refine hK.out _ _ (unhide HS0 _ (unhide HT).bel) (fun hHeld => ?_)
            clear hK K
            refine take_dst (i := 8) (dst := some 58) (v := ?_) rfl rfl (by kernel_rfl) (by kernel_rfl) (by kernel_rfl) (fun _ _ _ h => h) (Or.inl ⟨by rfl, ?_⟩) hHeld ?_
            rotate_left
            · intro w hSw; obtain ⟨z0, z1, z2⟩ := hSw; go_simp; try (with_reducible rfl)
            simp only [Act.put, List.setIfInBounds_toArray, List.set_cons_zero, List.set_cons_succ]
            refine take_dst (i := 9) (dst := some 59) (v := ?_) rfl rfl (by kernel_rfl) (by kernel_rfl) (by kernel_rfl) (fun _ _ _ h => h) (Or.inl ⟨by rfl, ?_⟩) hHeld ?_
            rotate_left
            · intro w hSw; obtain ⟨z0, z1, z2⟩ := hSw; go_simp; try (with_reducible rfl)
            simp only [Act.put, List.setIfInBounds_toArray, List.set_cons_zero, List.set_cons_succ]
            refine take_dst (i := 10) (dst := some 60) (v := ?_) rfl rfl (by kernel_rfl) (by kernel_rfl) (by kernel_rfl) (fun _ _ _ h => h) (Or.inl ⟨by rfl, ?_⟩) hHeld ?_
            rotate_left
            · intro w hSw; obtain ⟨z0, z1, z2⟩ := hSw; go_simp; try (with_reducible rfl)
            simp only [Act.put, List.setIfInBounds_toArray, List.set_cons_zero, List.set_cons_succ]
            refine wpAnyH_ready (rs := [11]) (by kernel_rfl) (by simp) ?_
            refine AllReadyH.cons rfl (fun K hK => ?_) AllReadyH.nil
            go_simp
            go_at_call 11
            refine (unhide HAt _ (unhide HT)).mono ?_
            rintro e W9 ⟨rfl, hw9⟩
            obtain rfl := hw9
            go_wp2_with fail
            refine hK.out _ _ (unhide HS0 _ (unhide HT).bel) (fun hHeld => ?_)
            clear hK K
            refine take_dst (i := 12) (dst := some 62) (v := ?_) rfl rfl (by kernel_rfl) (by kernel_rfl) (by kernel_rfl) (fun _ _ _ h => h) (Or.inl ⟨by rfl, ?_⟩) hHeld ?_
            rotate_left
            · intro w hSw; obtain ⟨z0, z1, z2⟩ := hSw; go_simp; try (with_reducible rfl)
            simp only [Act.put, List.setIfInBounds_toArray, List.set_cons_zero, List.set_cons_succ]
            refine take_dst (i := 13) (dst := some 63) (v := ?_) rfl rfl (by kernel_rfl) (by kernel_rfl) (by kernel_rfl) (fun _ _ _ h => h) (Or.inl ⟨by rfl, ?_⟩) hHeld ?_
            rotate_left
            · intro w hSw; obtain ⟨z0, z1, z2⟩ := hSw; go_simp; try (with_reducible rfl)
            simp only [Act.put, List.setIfInBounds_toArray, List.set_cons_zero, List.set_cons_succ]
            refine take_dst (i := 14) (dst := some 64) (v := ?_) rfl rfl (by kernel_rfl) (by kernel_rfl) (by kernel_rfl) (fun _ _ _ h => h) (Or.inl ⟨by rfl, ?_⟩) hHeld ?_
            rotate_left
            · intro w hSw; obtain ⟨z0, z1, z2⟩ := hSw; go_simp; try (with_reducible rfl)
            simp only [Act.put, List.setIfInBounds_toArray, List.set_cons_zero, List.set_cons_succ]
            refine take_dst (i := 15) (dst := some 65) (v := ?_) rfl rfl (by kernel_rfl) (by kernel_rfl) (by kernel_rfl) (fun _ _ _ h => h) (Or.inl ⟨by rfl, ?_⟩) hHeld ?_
            rotate_left
            · intro w hSw; obtain ⟨z0, z1, z2⟩ := hSw; go_simp; try (with_reducible rfl)
            simp only [Act.put, List.setIfInBounds_toArray, List.set_cons_zero, List.set_cons_succ]
            refine take_dst (i := 16) (dst := some 66) (v := ?_) rfl rfl (by kernel_rfl) (by kernel_rfl) (by kernel_rfl) (fun _ _ _ h => h) (Or.inl ⟨by rfl, ?_⟩) hHeld ?_
            rotate_left
            · intro w hSw; obtain ⟨z0, z1, z2⟩ := hSw; go_simp; try (with_reducible rfl)
            simp only [Act.put, List.setIfInBounds_toArray, List.set_cons_zero, List.set_cons_succ]
            refine take_dst (i := 17) (dst := some 67) (v := ?_) rfl rfl (by kernel_rfl) (by kernel_rfl) (by kernel_rfl) (fun _ _ _ h => h) (Or.inl ⟨by rfl, ?_⟩) hHeld ?_
            rotate_left
            · intro w hSw; obtain ⟨z0, z1, z2⟩ := hSw; go_simp; try (with_reducible rfl)
            simp only [Act.put, List.setIfInBounds_toArray, List.set_cons_zero, List.set_cons_succ]
            refine take_dst (i := 18) (dst := some 68) (v := ?_) rfl rfl (by kernel_rfl) (by kernel_rfl) (by kernel_rfl) (fun _ _ _ h => h) (Or.inl ⟨by rfl, ?_⟩) hHeld ?_
            rotate_left
            · intro w hSw; obtain ⟨z0, z1, z2⟩ := hSw; go_simp; try (with_reducible rfl)
            simp only [Act.put, List.setIfInBounds_toArray, List.set_cons_zero, List.set_cons_succ]
            refine take_dst (i := 19) (dst := some 69) (v := ?_) rfl rfl (by kernel_rfl) (by kernel_rfl) (by kernel_rfl) (fun _ _ _ h => h) (Or.inl ⟨by rfl, ?_⟩) hHeld ?_
            rotate_left
            · intro w hSw; obtain ⟨z0, z1, z2⟩ := hSw; go_simp; try (with_reducible rfl)
            simp only [Act.put, List.setIfInBounds_toArray, List.set_cons_zero, List.set_cons_succ]
            refine take_dst (i := 21) (dst := some 71) (v := ?_) rfl rfl (by kernel_rfl) (by kernel_rfl) (by kernel_rfl) (fun _ _ _ h => h) (Or.inl ⟨by rfl, ?_⟩) hHeld ?_
            rotate_left
            · intro w hSw; obtain ⟨z0, z1, z2⟩ := hSw; go_simp; try (with_reducible rfl)
            simp only [Act.put, List.setIfInBounds_toArray, List.set_cons_zero, List.set_cons_succ]
            refine take_dst (i := 22) (dst := some 72) (v := ?_) rfl rfl (by kernel_rfl) (by kernel_rfl) (by kernel_rfl) (fun _ _ _ h => h) (Or.inl ⟨by rfl, ?_⟩) hHeld ?_
            rotate_left
            · intro w hSw; obtain ⟨z0, z1, z2⟩ := hSw; go_simp; try (with_reducible rfl)
            simp only [Act.put, List.setIfInBounds_toArray, List.set_cons_zero, List.set_cons_succ]
            refine take_dst (i := 23) (dst := some 73) (v := ?_) rfl rfl (by kernel_rfl) (by kernel_rfl) (by kernel_rfl) (fun _ _ _ h => h) (Or.inl ⟨by rfl, ?_⟩) hHeld ?_
            rotate_left
            · intro w hSw; obtain ⟨z0, z1, z2⟩ := hSw; go_simp; try (with_reducible rfl)
            simp only [Act.put, List.setIfInBounds_toArray, List.set_cons_zero, List.set_cons_succ]
            refine wpAnyH_ready (rs := [20]) (by kernel_rfl) (by simp) ?_
            refine AllReadyH.cons rfl (fun K hK => ?_) AllReadyH.nil
            go_simp
            go_at_call 7
            refine (unhide HNx0 _ (unhide HT)).mono ?_
            rintro e W9 ⟨rfl, ho9, hc9⟩
            have HT := hide ((unhide HT).next hc0 hwM hcM ho9 hc9)
            clear ho9 hc9
            go_wp2_with fail
            refine hK.out _ _ (unhide HS0 _ (unhide HT).bel) (fun hHeld => ?_)
            clear hK K
            refine take_dst (i := 24) (dst := some 74) (v := ?_) rfl rfl (by kernel_rfl) (by kernel_rfl) (by kernel_rfl) (fun _ _ _ h => h) (Or.inl ⟨by rfl, ?_⟩) hHeld ?_
            rotate_left
            · intro w hSw; obtain ⟨z0, z1, z2⟩ := hSw; go_simp; try (with_reducible rfl)
            simp only [Act.put, List.setIfInBounds_toArray, List.set_cons_zero, List.set_cons_succ]
            refine take_dst (i := 25) (dst := some 75) (v := ?_) rfl rfl (by kernel_rfl) (by kernel_rfl) (by kernel_rfl) (fun _ _ _ h => h) (Or.inl ⟨by rfl, ?_⟩) hHeld ?_
            rotate_left
            · intro w hSw; obtain ⟨z0, z1, z2⟩ := hSw; go_simp; try (with_reducible rfl)
            simp only [Act.put, List.setIfInBounds_toArray, List.set_cons_zero, List.set_cons_succ]
            refine take_dst (i := 26) (dst := some 76) (v := ?_) rfl rfl (by kernel_rfl) (by kernel_rfl) (by kernel_rfl) (fun _ _ _ h => h) (Or.inl ⟨by rfl, ?_⟩) hHeld ?_
            rotate_left
            · intro w hSw; obtain ⟨z0, z1, z2⟩ := hSw; go_simp; try (with_reducible rfl)
            simp only [Act.put, List.setIfInBounds_toArray, List.set_cons_zero, List.set_cons_succ]
            refine take_dst (i := 27) (dst := some 4) (v := ?_) rfl rfl (by kernel_rfl) (by kernel_rfl) (by kernel_rfl) (fun _ _ _ h => h) (Or.inl ⟨by rfl, ?_⟩) hHeld ?_
            rotate_left
            · intro w hSw; obtain ⟨z0, z1, z2⟩ := hSw; go_simp; try (with_reducible rfl)
            simp only [Act.put, List.setIfInBounds_toArray, List.set_cons_zero, List.set_cons_succ]
            refine wpAnyH_done (by kernel_rfl) ?_ _
            go_simp
            go_wp2
            go_ret
            exact ⟨rfl, (unhide HT).bel⟩
end Go.Proofs.YtkckcnjamlpadabDoor

/- Pools: derive of a not, of a star. (and what it leads to) -/
import Derived.Test.YtkimhfajfbcdmaaGreatDoorQS
/- Pools: derive of a not, of a star. -/
namespace Go.Proofs.YtkimhfajfbcdmaaGreatDoor
open Go.RowKit Go.Maps

section
variable {B pb mb sb : Nat} {M M1 : Stp} {L L1 : List Ab} {x y d1 : Nat} {c : Int}
set_option maxHeartbeats 1000000 in
set_option maxRecDepth 100000 in
theorem derive_6 (hx : x < L.length) (hM : M1.length < 1000) (hk : keyOf Tryz.prog 102 (stV x c) = some (kS x c)) (hh : Maps.has (stM M) (kS x c) = false) (hkind : (L.getD x ab0).kind = 6) (hkids : (L.getD x ab0).kids = [(y : Int)]) (hD : DrC B pb mb sb M M1 L L1 y c d1) (hd1 : d1 < L1.length) (hL : L1.length < 1000) (dd : Nat) (hX : notX L1 d1 = dd) (hdd : dd < 1000) :
    DrC B pb mb sb M (M1 ++ [((x : Int), c, ((dd : Nat) : Int))]) L (notL L1 d1) x c dd := by
  intro av w hav hB hP
  obtain ⟨g, nc, p0, hn⟩ := pool_node hP
  obtain ⟨d, hd, hN⟩ := hn x hx
  have r0 := hN.c0
  have r1 := hN.c1
  have r2 := hN.c2
  have r3 := hN.c3
  have r4 := hN.c4
  have r5 := hN.c5
  rw [← hd] at hkind hkids
  have hkd : d.kind = 6 := hkind
  have hkk : d.kids = [(y : Int)] := hkids
  have hkr := hN.kr
  rw [hkk] at hkr r2
  rcases hkr with h | ⟨gk, off, hka, hgl, hc⟩
  · simp at h
  have k0 := hc 0 (by simp)
  rw [Nat.add_zero] at k0
  rw [hkd] at r0
  rw [hka] at r2
  have r2' : w.cell? ⟨g, x * 6 + 2, none⟩ = some (.slice (some ⟨gk, off, none⟩) 1 d.kc) := r2
  have k0' : w.cell? ⟨gk, off, none⟩ = some (.int .i64 y) := k0
  have hxi : (x : Int) < L.length := by omega
  obtain ⟨v0, v2, hbl⟩ := pool_pb hP
  have p3 := cell_block hbl 3 _ rfl
  obtain ⟨zd, hlk⟩ := look102 hP.steps x c hk hh
  have hb0 : Below w.heap.size w (w.alloc (.cells #[.int .i64 6, .slice d.sa d.set.length d.sc, .slice (some ⟨gk, off, none⟩) 1 d.kc, .int .i64 d.parts, .int .i64 d.levels, .bool d.nul] 65)) := (Below.refl _ _).alloc (Nat.le_refl _) _
  have HD := hide (hD av _ (fun k hk => ⟨(hav k hk).1, Nat.lt_of_lt_of_le (hav k hk).2 hb0.size⟩) (Nat.le_trans hB hb0.size) (pool_below hP hb0))
  have Hb0 := hide hb0; have Hk := hide hk
  clear hn hN hd hkind hkd hbl hP hb0 hk hh r2 k0 hc hkids hkk hka hD
  go_enter Tryz.func38, Tryz.ntmps38
  go_wp2_with fail
  refine (unhide HD).mono ?_
  rintro e1 w1 ⟨rfl, hp1, hf1⟩
  have hf01 := fr_t (fr_below (unhide Hb0)) hf1
  have hs1 := hf01.size
  have HN := hide (not_any w1 B pb mb sb L1 cmpC 0 M1.length (stM M1) hp1 (Nat.le_trans hB hs1) d1 hd1 (Nat.lt_trans hL (by decide)) (fun k hk => Nat.lt_of_lt_of_le (hav k hk).2 hs1))
  have Hf01 := hide hf01
  clear hp1 hf1 hf01 HD hlk p0 p3 r0 r1 r2' r3 r4 r5 k0'
  go_wp2_with fail
  refine (unhide HN).mono ?_
  rintro e2 w2 ⟨rfl, hp2, hf2⟩
  rw [hX] at *
  have hf02 := fr_t (unhide Hf01) hf2
  clear hf2 HN Hf01
  obtain ⟨v0', v2', hbl⟩ := pool_pb hp2
  have p3' := cell_block hbl 3 _ rfl
  obtain ⟨w3, hrun, hp3, hf3⟩ := upd102 hp2 (Nat.lt_trans hM (by decide)) x c (dd : Nat) (unhide Hk) (WalkArith.wf_i64 (by omega))
  have Hp3 := hide hp3; have Hf3 := hide (fr_t hf02 hf3)
  clear hp3 hf3 hp2 hf02 hbl
  go_wp2
  go_ret
  exact ⟨rfl, by first | exact pool_steps (unhide Hp3) | (rw [List.length_append]; exact pool_steps (unhide Hp3)), unhide Hf3⟩

set_option maxHeartbeats 1000000 in
set_option maxRecDepth 100000 in
theorem derive_7 (hx : x < L.length) (h2 : 2 ≤ L1.length) (hM : M1.length < 1000) (hk : keyOf Tryz.prog 102 (stV x c) = some (kS x c)) (hh : Maps.has (stM M) (kS x c) = false) (hkind : (L.getD x ab0).kind = 7) (hkids : (L.getD x ab0).kids = [(y : Int)]) (hD : DrC B pb mb sb M M1 L L1 y c d1) (hd1 : d1 < L1.length) (hL : L1.length < 1000) (dd : Nat) (hX : (catA L1 [(d1 : Int), x]).2 = dd) (hdd : dd < 1000) (hx1 : x < L1.length) :
    DrC B pb mb sb M (M1 ++ [((x : Int), c, ((dd : Nat) : Int))]) L (catA L1 [(d1 : Int), x]).1 x c dd := by
  intro av w hav hB hP
  obtain ⟨g, nc, p0, hn⟩ := pool_node hP
  obtain ⟨d, hd, hN⟩ := hn x hx
  have r0 := hN.c0
  have r1 := hN.c1
  have r2 := hN.c2
  have r3 := hN.c3
  have r4 := hN.c4
  have r5 := hN.c5
  rw [← hd] at hkind hkids
  have hkd : d.kind = 7 := hkind
  have hkk : d.kids = [(y : Int)] := hkids
  have hkr := hN.kr
  rw [hkk] at hkr r2
  rcases hkr with h | ⟨gk, off, hka, hgl, hc⟩
  · simp at h
  have k0 := hc 0 (by simp)
  rw [Nat.add_zero] at k0
  rw [hkd] at r0
  rw [hka] at r2
  have r2' : w.cell? ⟨g, x * 6 + 2, none⟩ = some (.slice (some ⟨gk, off, none⟩) 1 d.kc) := r2
  have k0' : w.cell? ⟨gk, off, none⟩ = some (.int .i64 y) := k0
  have hxi : (x : Int) < L.length := by omega
  obtain ⟨v0, v2, hbl⟩ := pool_pb hP
  have p3 := cell_block hbl 3 _ rfl
  obtain ⟨zd, hlk⟩ := look102 hP.steps x c hk hh
  have hb0 : Below w.heap.size w (w.alloc (.cells #[.int .i64 7, .slice d.sa d.set.length d.sc, .slice (some ⟨gk, off, none⟩) 1 d.kc, .int .i64 d.parts, .int .i64 d.levels, .bool d.nul] 65)) := (Below.refl _ _).alloc (Nat.le_refl _) _
  have HD := hide (hD av _ (fun k hk => ⟨(hav k hk).1, Nat.lt_of_lt_of_le (hav k hk).2 hb0.size⟩) (Nat.le_trans hB hb0.size) (pool_below hP hb0))
  have Hb0 := hide hb0; have Hk := hide hk
  clear hn hN hd hkind hkd hbl hP hb0 hk hh r2 k0 hc hkids hkk hka hD
  go_enter Tryz.func38, Tryz.ntmps38
  go_wp2_with fail
  refine (unhide HD).mono ?_
  rintro e1 w1 ⟨rfl, hp1, hf1⟩
  have hf01 := fr_t (fr_below (unhide Hb0)) hf1
  have hs1 := hf01.size
  have hbr : Below w1.heap.size w1 (w1.alloc (.cells #[.int .i64 d1, .int .i64 x] 3)) := (Below.refl _ _).alloc (Nat.le_refl _) _
  have hbx : (w1.alloc (.cells #[.int .i64 d1, .int .i64 x] 3)).heap[w1.heap.size]? = some (.cells #[.int .i64 d1, .int .i64 x] 3 (0, 0)) := heap_new w1 _
  have HC := hide (cat_any _ B pb mb sb L1 cmpC 0 M1.length (stM M1) (pool_below hp1 hbr) (by omega) (some ⟨w1.heap.size, 0, none⟩) 2 [(d1 : Int), x] (by simp) (by simp; omega) (by simp; omega) (nrow_two hbx) (held_new _ _ _ hbx (fun h => h) 0) (fun k hk => Nat.lt_of_lt_of_le (Nat.lt_of_lt_of_le (hav k hk).2 hs1) hbr.size))
  have Hf01 := hide (fr_t hf01 (fr_below hbr))
  clear hp1 hf1 hf01 HD hlk p0 p3 r0 r1 r2' r3 r4 r5 k0' hbr hbx
  go_wp2_with fail
  refine (unhide HC).mono ?_
  rintro e2 w2 ⟨rfl, hp2, hf2⟩
  rw [hX] at *
  have hf02 := fr_t (unhide Hf01) hf2
  clear hf2 HC Hf01
  obtain ⟨v0', v2', hbl⟩ := pool_pb hp2
  have p3' := cell_block hbl 3 _ rfl
  obtain ⟨w3, hrun, hp3, hf3⟩ := upd102 hp2 (Nat.lt_trans hM (by decide)) x c (dd : Nat) (unhide Hk) (WalkArith.wf_i64 (by omega))
  have Hp3 := hide hp3; have Hf3 := hide (fr_t hf02 hf3)
  clear hp3 hf3 hp2 hf02 hbl
  go_wp2
  go_ret
  exact ⟨rfl, by first | exact pool_steps (unhide Hp3) | (rw [List.length_append]; exact pool_steps (unhide Hp3)), unhide Hf3⟩

end
end Go.Proofs.YtkimhfajfbcdmaaGreatDoor

/- Pools: derive of an and. -/
namespace Go.Proofs.YtkimhfajfbcdmaaGreatDoor
open Go.RowKit Go.Maps

/-- derive of a row, one after another. -/
def DrKs (B pb mb sb : Nat) (c : Int) (M' : Stp) (L' : List Ab) : List Int → Stp → List Ab → List Nat → Prop
  | [], M, L, xs => M' = M ∧ L' = L ∧ xs = []
  | y :: ys, M, L, xs => ∃ M1 L1 x xr, ∃ yn : Nat, y = yn ∧ DrC B pb mb sb M M1 L L1 yn c x ∧ DrKs B pb mb sb c M' L' ys M1 L1 xr ∧ xs = x :: xr
theorem drKs_len {B pb mb sb : Nat} {c : Int} {M' : Stp} {L' : List Ab} : ∀ (ys : List Int) (M : Stp) (L : List Ab) (xs : List Nat), DrKs B pb mb sb c M' L' ys M L xs → xs.length = ys.length
  | [], _, _, xs, h => by rw [h.2.2]; rfl
  | _ :: ys, M, L, xs, h => by
    obtain ⟨M1, L1, x, xr, yn, -, -, h2, rfl⟩ := h
    simp [drKs_len ys M1 L1 xr h2]
/-- Under way: i kids are derived. -/
structure DSt (av : Nat → Prop) (W : World) (B pb mb sb : Nat) (M : Stp) (xs : List Nat) (n i : Nat) (Li : List Ab) (wr : World) : Prop where
  pool : Pool (fun q => av q ∨ q = W.heap.size + 1) wr B pb mb sb Li cmpC 0 M.length (stM M)
  own : wr.ownsRow (W.heap.size + 1) 3 1 (.slice (some ⟨W.heap.size + 1, 0, none⟩) n n) n (intV (kRow xs n i))
  fr : Fr B mb sb W wr
section
variable {av : Nat → Prop} {W : World} {B pb mb sb : Nat} {M M' : Stp} {xs : List Nat} {n i x : Nat} {Li L L' : List Ab} {wr W2 : World}
theorem dst_fr (h : DSt av W B pb mb sb M xs n i Li wr) (hf : Fr B mb sb wr W2) (hp : Pool (fun q => av q ∨ q = W.heap.size + 1) W2 B pb mb sb L' cmpC 0 M'.length (stM M')) : DSt av W B pb mb sb M' xs n i L' W2 :=
  ⟨hp, own_fr h.own hf, fr_t h.fr hf⟩
theorem dst_step (hi : i < n) (hx : xs.getD i 0 = x) (h : DSt av W B pb mb sb M xs n i Li wr) :
    (∃ u, wr.cell? ⟨W.heap.size + 1, i, none⟩ = some u) ∧ wr.frozen? ⟨W.heap.size + 1, i, none⟩ = false ∧ DSt av W B pb mb sb M xs n (i + 1) Li (wr.setCell ⟨W.heap.size + 1, i, none⟩ (.int .i64 (x : Int))) := by
  have hl : i < (intV (kRow xs n i)).length := by rw [intV_length, kRow_len]; exact hi
  obtain ⟨cs, hcs⟩ := own_block3 h.own
  obtain ⟨s1, s2⟩ := h.own.stored i (.int .i64 (x : Int))
  rw [kRow_set xs n i x hi hx] at s1
  refine ⟨⟨_, own_cell h.own rfl i hl⟩, frozen_block hcs i, pool_row h.pool hcs (.inr rfl) _, s1, ?_⟩
  exact ⟨h.fr.os, h.fr.tape, h.fr.output, by simpa using h.fr.size, fun j hj hs => (Below.heap_setCell wr ⟨W.heap.size + 1, i, none⟩ _ j (fun e => by simp only at e; omega)).trans (h.fr.block j hj hs)⟩
theorem dst_zero (xs : List Nat) (R : Array Value) (hn : n ≤ 4096) (hP : Pool av W B pb mb sb L cmpC 0 M.length (stM M)) : DSt av W B pb mb sb M xs n 0 L ((W.alloc (.cells R 65)).alloc (.cells (madeCells (Value.int .i64 0).cells n) 3)) := by
  have hb0 : Below W.heap.size W ((W.alloc (.cells R 65)).alloc (.cells (madeCells (Value.int .i64 0).cells n) 3)) := ((Below.refl _ _).alloc (Nat.le_refl _) _).alloc (by simp) _
  have hs : (W.alloc (.cells R 65)).heap.size = W.heap.size + 1 := by simp
  refine ⟨pool_below (pool_av0 hP (fun k hk ha => by rcases ha with ha | ha; exact ha; omega)) hb0, ?_, fr_below hb0⟩
  have h1 := World.ownsRow_lit (e := 3) (size := 1) (base := W.heap.size + 1) (W.alloc (.cells R 65)) (madeCells (Value.int .i64 0).cells n) n (by simp) (by unfold maxLen; omega) (by rw [size_madeCells, Nat.mul_one])
  have h3 : (madeCells (Value.int .i64 0).cells n).toList = intV (kRow xs n 0) := by
    rw [show (Value.int .i64 0).cells = #[.int .i64 0] from rfl, toList_madeCells_one]
    unfold intV kRow
    rw [List.map_map]
    refine List.ext_getElem? fun i => ?_
    by_cases hi : i < n
    · rw [List.getElem?_map, List.getElem?_range hi, List.getElem?_replicate, if_pos hi]
      simp
    · rw [List.getElem?_eq_none (by simpa using hi), List.getElem?_eq_none (by simpa using hi)]
  rw [h3, hs] at h1
  exact h1
end
section
variable {B pb mb sb : Nat} {M M1 : Stp} {L L1 : List Ab} {x dd : Nat} {c : Int} {ys : List Int} {xs : List Nat}
set_option maxHeartbeats 1000000 in
set_option maxRecDepth 100000 in
theorem derive_5 (hx : x < L.length) (hM : M1.length < 1000) (hk : keyOf Tryz.prog 102 (stV x c) = some (kS x c)) (hh : Maps.has (stM M) (kS x c) = false) (hkind : (L.getD x ab0).kind = 5) (hkids : (L.getD x ab0).kids = ys) (hy0 : ys ≠ []) (hyl : ys.length ≤ 4096) (hD : DrKs B pb mb sb c M1 L1 ys M L xs) (hL : L1.length < 1000)
    (hxs : ∀ z ∈ xs.map (fun n : Nat => (n : Int)), 0 ≤ z ∧ z.toNat < L1.length) (hne : ∀ y ∈ L1, y.kind = 5 → y.kids ≠ []) (hfew : ((splA L1 5 (xs.map fun n : Nat => (n : Int))).filter (isSet L1)).length < 2) (hr : (restA L1 5 (xs.map fun n : Nat => (n : Int))).length ≤ 12) (cf : Int → Int → Int)
    (hcf : ∀ (av : Nat → Prop) W, Pool av W B pb mb sb L1 cmpC 0 M1.length (stM M1) → ∀ x ∈ restA L1 5 (xs.map fun n : Nat => (n : Int)), ∀ y ∈ restA L1 5 (xs.map fun n : Nat => (n : Int)), Calls Tryz.prog 37 #[.int .i64 x, .int .i64 y] W fun e w' => e = .returned (.int .i64 (cf x y)) ∧ ∃ q, w' = W.drewN q)
    (hX : chX L1 5 cf (xs.map fun n : Nat => (n : Int)) = dd) (hdd : dd < 1000) :
    DrC B pb mb sb M (M1 ++ [((x : Int), c, (dd : Int))]) L (chL L1 5 cf (xs.map fun n : Nat => (n : Int))) x c dd := by
  intro av w hav hB hP
  obtain ⟨i0, hi, hz0, hz1, hz2⟩ := info_parts hint
  have hlen := drKs_len _ _ _ _ hD
  obtain ⟨g, nc, p0, hn⟩ := pool_node hP
  obtain ⟨d, hd, hN⟩ := hn x hx
  have r0 := hN.c0
  have r1 := hN.c1
  have r2 := hN.c2
  have r3 := hN.c3
  have r4 := hN.c4
  have r5 := hN.c5
  rw [← hd] at hkind hkids
  have hkd : d.kind = 5 := hkind
  have hkk : d.kids = ys := hkids
  have hkr := hN.kr
  have hkh := hN.kh
  rw [hkk] at hkr r2
  rw [hkd] at r0
  have hkr' := hkr
  rcases hkr with h | ⟨gk, off, hka, -, -⟩
  · exact absurd h hy0
  rw [hka] at hkr' hkh r2
  have hxi : (x : Int) < L.length := by omega
  obtain ⟨v0, v2, hbl⟩ := pool_pb hP
  have p3 := cell_block hbl 3 _ rfl
  obtain ⟨zd, hlk⟩ := look102 hP.steps x c hk hh
  have hmk := run_makeSlice (P := Tryz.prog) (w.alloc (.cells #[.int .i64 5, .slice d.sa d.set.length d.sc, .slice (some ⟨gk, off, none⟩) ys.length d.kc, .int .i64 d.parts, .int .i64 d.levels, .bool d.nul] 65)) 63 3 i0 _ Tryz.underlying63 hi hz0 .i64 .i64 (ys.length : Int) (ys.length : Int) (by omega) (Int.le_refl _) (by rw [hz1]; simp; omega) (by rw [hz2]; simp; omega) (by omega)
  rw [Int.toNat_natCast, hz1, Nat.mul_one] at hmk
  have HZ := hide (dst_zero xs (n := ys.length) #[.int .i64 5, .slice d.sa d.set.length d.sc, .slice (some ⟨gk, off, none⟩) ys.length d.kc, .int .i64 d.parts, .int .i64 d.levels, .bool d.nul] hyl hP)
  have Hk := hide hk; have HD := hide hD; have Hkr := hide hkr'; have Hkh := hide hkh
  have n2 : ((w.alloc (.cells #[.int .i64 5, .slice d.sa d.set.length d.sc, .slice (some ⟨gk, off, none⟩) ys.length d.kc, .int .i64 d.parts, .int .i64 d.levels, .bool d.nul] 65)).alloc (.cells (madeCells (Value.int .i64 0).cells ys.length) 3)).cell? ⟨w.heap.size, 2, none⟩ = some (.slice (some ⟨gk, off, none⟩) ys.length d.kc) := by
    refine cell_block ((Below.heap_alloc _ _ _ (by simp)).trans (heap_new w _)) 2 _ rfl
  clear hn hN hd hkind hkd hbl hP hk hh hkids hkk hD hkr' hkh hka
  go_enter Tryz.func38, Tryz.ntmps38
  go_wp2_with fail
  clear hmk hlk n2 p0 p3 r0 r1 r2 r3 r4 r5
  go_loopw [60] (fun iv wr => ∃ (i : Nat) (Mi : Stp) (Li : List Ab), iv = .int .i64 i ∧ i ≤ ys.length ∧ DSt av w B pb mb sb Mi xs ys.length i Li wr ∧ DrKs B pb mb sb c M1 L1 (ys.drop i) Mi Li (xs.drop i)) (fun iv _ => ys.length - (intOf iv).toNat)
  case atStart => exact ⟨0, M, L, rfl, Nat.zero_le _, unhide HZ, unhide HD⟩
  case round =>
    obtain ⟨i, Mi, Li, rfl, hin, hst, hrest⟩ := hrel
    clear HZ HD
    have hsz := hst.fr.size
    by_cases hlt : i < ys.length
    · have hlt' : (i : Int) < ys.length := by omega
      rcases nrow_fr (unhide Hkr) (unhide Hkh) hst.fr with h | ⟨gk', off', he, -, hc⟩
      · exact absurd h hy0
      simp only [Option.some.injEq, Addr.mk.injEq, and_true] at he
      obtain ⟨rfl, rfl⟩ := he
      have e0 := hc i hlt
      rw [List.drop_eq_getElem_cons hlt] at hrest
      obtain ⟨M2, L2, x', xr, yn, hyn, hdr, hrest', hxs'⟩ := hrest
      rw [List.getD_eq_getElem?_getD, List.getElem?_eq_getElem hlt, Option.getD_some, hyn] at e0
      have hix : i < xs.length := by omega
      rw [List.drop_eq_getElem_cons hix] at hxs'
      obtain ⟨hx1, hx2⟩ := List.cons.inj hxs'
      have hxd : xs.getD i 0 = x' := by rw [List.getD_eq_getElem?_getD, List.getElem?_eq_getElem hix]; exact hx1
      rw [← hx2] at hrest'
      have HDr := hide (hdr (fun q => av q ∨ q = w.heap.size + 1) wr (fun q hq => by
        have hol := (hst.own.lt (w.heap.size + 1) rfl).2
        rcases hq with h | h
        · have := hav q h; exact ⟨by omega, by omega⟩
        · exact ⟨by omega, by omega⟩) (by omega) hst.pool)
      have Hst := hide hst; have Hrest := hide hrest'; have Hxd := hide hxd
      clear hst hrest' hxd hx1 hx2 hxs' hdr hc hyn
      go_wp2_with fail
      refine (unhide HDr).mono ?_
      rintro e9 w1 ⟨rfl, hp1, hf1⟩
      obtain ⟨⟨u, d0⟩, f0, hst3⟩ := dst_step hlt (unhide Hxd) (dst_fr (unhide Hst) hf1 hp1)
      have Hst3 := hide hst3
      clear hp1 hf1 hst3 HDr Hst e0
      go_wp2
      go_roundw
      case rel => exact ⟨i + 1, M2, L2, by go_num, by omega, unhide Hst3, unhide Hrest⟩
      case measure => simp [intOf]; omega
    · obtain rfl : i = ys.length := by omega
      rw [List.drop_length] at hrest
      obtain ⟨rfl, rfl, -⟩ := hrest
      have hnr : NRow wr (some ⟨w.heap.size + 1, 0, none⟩) (xs.map fun n : Nat => (n : Int)) := by
        have := hst.own
        rw [← hlen, kRow_all] at this
        exact nrow_own this (by simp)
      have ha := andC_any wr B pb mb sb L1 0 M1.length (stM M1) (pool_av0 (av' := av) hst.pool (fun q _ h => .inl h)) (by omega) (some ⟨w.heap.size + 1, 0, none⟩) ys.length (xs.map fun n : Nat => (n : Int)) hnr hxs hne (by simp; omega) hfew hr cf (hcf av) (Nat.lt_trans hL (by decide)) (fun q hq => by have := (hav q hq).2; omega)
      rw [List.length_map, hlen, hX] at ha
      have HA := hide ha; have Hf := hide hst.fr
      clear ha hnr hst hcf hfew hr hne hxs
      go_wp2_with fail
      refine (unhide HA).mono ?_
      rintro e2 w2 ⟨rfl, hp2, hf2⟩
      have hf02 := fr_t (unhide Hf) hf2
      clear hf2 HA Hf
      obtain ⟨v0', v2', hbl⟩ := pool_pb hp2
      have p3' := cell_block hbl 3 _ rfl
      obtain ⟨w3, hrun, hp3, hf3⟩ := upd102 hp2 (Nat.lt_trans hM (by decide)) x c (dd : Nat) (unhide Hk) (WalkArith.wf_i64 (by omega))
      have Hp3 := hide hp3; have Hf3 := hide (fr_t hf02 hf3)
      clear hp3 hf3 hp2 hf02 hbl
      go_wp2
      go_ret
      exact ⟨rfl, by first | exact pool_steps (unhide Hp3) | (rw [List.length_append]; exact pool_steps (unhide Hp3)), unhide Hf3⟩
end
end Go.Proofs.YtkimhfajfbcdmaaGreatDoor

/- Pools: derive at awake's runes. -/
namespace Go.Proofs.YtkimhfajfbcdmaaGreatDoor
open Go.RowKit Go.Maps

theorem drc_eq {B pb mb sb : Nat} {M M' M'' : Stp} {L L' L'' : List Ab} {x d d' : Nat} {c : Int} (h : DrC B pb mb sb M M' L L' x c d) (em : M' = M'') (e : L' = L'') (ed : d = d') : DrC B pb mb sb M M'' L L'' x c d' := by subst em; subst e; subst ed; exact h
section
variable {B pb mb sb : Nat}
theorem dE1 : DrC B pb mb sb [] [(3, 97, 0)] C5 C5 3 97 0 := drc_eq (derive_2 (by decide) (by decide) (by kernel_rfl) (by kernel_rfl) (by kernel_rfl) false (by kernel_rfl)) rfl rfl rfl
theorem dE2 : DrC B pb mb sb [] [(3, 97, 0), (4, 97, 2)] C5 C5 4 97 2 := drc_eq (derive_6 (by decide) (by decide) (by kernel_rfl) (by kernel_rfl) (by kernel_rfl) (by kernel_rfl) dE1 (by decide) (by decide) 2 (by kernel_rfl) (by decide)) rfl (by kernel_rfl) rfl
theorem dE3 : DrC B pb mb sb [(3, 97, 0), (4, 97, 2)] [(3, 97, 0), (4, 97, 2), (5, 97, 1)] C5 C5 5 97 1 := drc_eq (derive_2 (by decide) (by decide) (by kernel_rfl) (by kernel_rfl) (by kernel_rfl) true (by kernel_rfl)) rfl rfl rfl
theorem dE4 : DrC B pb mb sb [(3, 97, 0), (4, 97, 2)] [(3, 97, 0), (4, 97, 2), (5, 97, 1), (6, 97, 6)] C5 C5 6 97 6 := drc_eq (derive_7 (by decide) (by decide) (by decide) (by kernel_rfl) (by kernel_rfl) (by kernel_rfl) (by kernel_rfl) dE3 (by decide) (by decide) 6 (by kernel_rfl) (by decide) (by decide)) rfl (by kernel_rfl) rfl
theorem splE : splA C5 5 [2, 6] = [2, 6] := by
  unfold splA
  rw [show flatA C5 5 [2, 6] = [2, 6] by kernel_rfl, List.mergeSort_of_pairwise (by decide)]
  kernel_rfl
theorem restE : restA C5 5 [2, 6] = [6] := by unfold restA; rw [splE]; kernel_rfl
theorem sortE : sortA cmpI [6] = [6] := by
  unfold sortA Go.Sort.insertionSort
  rw [Go.Sort.insOuter, if_neg (by decide)]
theorem chE : chX C5 5 cmpI [2, 6] = 6 ∧ chL C5 5 cmpI [2, 6] = C5 := by
  unfold chX chL
  rw [splE, restE, sortE]
  exact ⟨by kernel_rfl, by kernel_rfl⟩
theorem cmpE (x y : Int) (W : World) : Calls Tryz.prog 37 #[.int .i64 x, .int .i64 y] W fun e w' => e = .returned (.int .i64 (cmpI x y)) ∧ ∃ q, w' = W.drewN q :=
  (cmpI_any x y W).mono (by rintro e w ⟨rfl, rfl⟩; exact ⟨rfl, 0, rfl⟩)
theorem dE5 : DrC B pb mb sb [] [(3, 97, 0), (4, 97, 2), (5, 97, 1), (6, 97, 6), (7, 97, 6)] C5 C5 7 97 6 := drc_eq (derive_5 (ys := [4, 6]) (xs := [2, 6]) (L1 := C5) (M1 := [(3, 97, 0), (4, 97, 2), (5, 97, 1), (6, 97, 6)]) (by decide) (by decide) (by kernel_rfl) (by kernel_rfl) (by kernel_rfl) (by kernel_rfl) (by decide) (by decide) ⟨_, _, 2, [6], 4, rfl, dE2, ⟨_, _, 6, [], 6, rfl, dE4, ⟨rfl, rfl, rfl⟩, rfl⟩, rfl⟩ (by decide) (by decide) (by decide) (by show ((splA C5 5 [2, 6]).filter (isSet C5)).length < 2; rw [splE]; decide +kernel) (by show (restA C5 5 [2, 6]).length ≤ 12; rw [restE]; decide) cmpI (fun _ W _ a _ b _ => cmpE a b W) (dd := 6) chE.1 (by decide)) rfl chE.2 rfl
theorem ms2 (a b : Int) (h : ¬ a ≤ b) : List.mergeSort [a, b] (fun x y => decide (x ≤ y)) = [b, a] := by
  rw [List.mergeSort]
  simp [h]
theorem dE6 : DrC B pb mb sb [(3, 97, 0), (4, 97, 2), (5, 97, 1), (6, 97, 6), (7, 97, 6)] [(3, 97, 0), (4, 97, 2), (5, 97, 1), (6, 97, 6), (7, 97, 6), (5, 98, 1)] C5 C5 5 98 1 := drc_eq (derive_2 (by decide) (by decide) (by kernel_rfl) (by kernel_rfl) (by kernel_rfl) true (by kernel_rfl)) rfl rfl rfl
theorem dE7 : DrC B pb mb sb [(3, 97, 0), (4, 97, 2), (5, 97, 1), (6, 97, 6), (7, 97, 6)] [(3, 97, 0), (4, 97, 2), (5, 97, 1), (6, 97, 6), (7, 97, 6), (5, 98, 1), (6, 98, 6)] C5 C5 6 98 6 := drc_eq (derive_7 (by decide) (by decide) (by decide) (by kernel_rfl) (by kernel_rfl) (by kernel_rfl) (by kernel_rfl) dE6 (by decide) (by decide) 6 (by kernel_rfl) (by decide) (by decide)) rfl (by kernel_rfl) rfl
def D1 : List Ab := C5 ++ [⟨6, [], [1], 2, 2, false⟩]
def D2 : List Ab := D1 ++ [⟨5, [], [6, 8], 6, 3, false⟩]
theorem dF1 : DrC B pb mb sb [] [(3, 98, 1)] C5 C5 3 98 1 := drc_eq (derive_2 (by decide) (by decide) (by kernel_rfl) (by kernel_rfl) (by kernel_rfl) true (by kernel_rfl)) rfl rfl rfl
theorem dF2 : DrC B pb mb sb [] [(3, 98, 1), (4, 98, 8)] C5 D1 4 98 8 := drc_eq (derive_6 (by decide) (by decide) (by kernel_rfl) (by kernel_rfl) (by kernel_rfl) (by kernel_rfl) dF1 (by decide) (by decide) 8 (by kernel_rfl) (by decide)) rfl (by kernel_rfl) rfl
theorem dF3 : DrC B pb mb sb [(3, 98, 1), (4, 98, 8)] [(3, 98, 1), (4, 98, 8), (5, 98, 1)] D1 D1 5 98 1 := drc_eq (derive_2 (by decide) (by decide) (by kernel_rfl) (by kernel_rfl) (by kernel_rfl) true (by kernel_rfl)) rfl rfl rfl
theorem dF4 : DrC B pb mb sb [(3, 98, 1), (4, 98, 8)] [(3, 98, 1), (4, 98, 8), (5, 98, 1), (6, 98, 6)] D1 D1 6 98 6 := drc_eq (derive_7 (by decide) (by decide) (by decide) (by kernel_rfl) (by kernel_rfl) (by kernel_rfl) (by kernel_rfl) dF3 (by decide) (by decide) 6 (by kernel_rfl) (by decide) (by decide)) rfl (by kernel_rfl) rfl
theorem splF : splA D1 5 [8, 6] = [6, 8] := by
  unfold splA
  rw [show flatA D1 5 [8, 6] = [8, 6] by kernel_rfl, ms2 8 6 (by decide)]
  kernel_rfl
theorem restF : restA D1 5 [8, 6] = [6, 8] := by unfold restA; rw [splF]; kernel_rfl
theorem sortF : sortA cmpI [6, 8] = [6, 8] := by
  unfold sortA Go.Sort.insertionSort
  rw [Go.Sort.insOuter, if_pos (by decide), Go.Sort.insOuter, if_neg (by decide)]
  kernel_rfl
theorem chF : chX D1 5 cmpI [8, 6] = 9 ∧ chL D1 5 cmpI [8, 6] = D2 := by
  unfold chX chL
  rw [splF, restF, sortF]
  exact ⟨by kernel_rfl, by kernel_rfl⟩
theorem dF5 : DrC B pb mb sb [] [(3, 98, 1), (4, 98, 8), (5, 98, 1), (6, 98, 6), (7, 98, 9)] C5 D2 7 98 9 := drc_eq (derive_5 (ys := [4, 6]) (xs := [8, 6]) (L1 := D1) (M1 := [(3, 98, 1), (4, 98, 8), (5, 98, 1), (6, 98, 6)]) (by decide) (by decide) (by kernel_rfl) (by kernel_rfl) (by kernel_rfl) (by kernel_rfl) (by decide) (by decide) ⟨_, _, 8, [6], 4, rfl, dF2, ⟨_, _, 6, [], 6, rfl, dF4, ⟨rfl, rfl, rfl⟩, rfl⟩, rfl⟩ (by decide) (by decide) (by decide) (by show ((splA D1 5 [8, 6]).filter (isSet D1)).length < 2; rw [splF]; decide +kernel) (by show (restA D1 5 [8, 6]).length ≤ 12; rw [restF]; decide) cmpI (fun _ W _ a _ b _ => cmpE a b W) (dd := 9) chF.1 (by decide)) rfl chF.2 rfl
theorem dH1 : DrC B pb mb sb [] [(3, 100, 0)] C5 C5 3 100 0 := drc_eq (derive_2 (by decide) (by decide) (by kernel_rfl) (by kernel_rfl) (by kernel_rfl) false (by kernel_rfl)) rfl rfl rfl
theorem dH2 : DrC B pb mb sb [] [(3, 100, 0), (4, 100, 2)] C5 C5 4 100 2 := drc_eq (derive_6 (by decide) (by decide) (by kernel_rfl) (by kernel_rfl) (by kernel_rfl) (by kernel_rfl) dH1 (by decide) (by decide) 2 (by kernel_rfl) (by decide)) rfl (by kernel_rfl) rfl
theorem dH3 : DrC B pb mb sb [(3, 100, 0), (4, 100, 2)] [(3, 100, 0), (4, 100, 2), (5, 100, 0)] C5 C5 5 100 0 := drc_eq (derive_2 (by decide) (by decide) (by kernel_rfl) (by kernel_rfl) (by kernel_rfl) false (by kernel_rfl)) rfl rfl rfl
theorem dH4 : DrC B pb mb sb [(3, 100, 0), (4, 100, 2)] [(3, 100, 0), (4, 100, 2), (5, 100, 0), (6, 100, 0)] C5 C5 6 100 0 := drc_eq (derive_7 (by decide) (by decide) (by decide) (by kernel_rfl) (by kernel_rfl) (by kernel_rfl) (by kernel_rfl) dH3 (by decide) (by decide) 0 (by kernel_rfl) (by decide) (by decide)) rfl (by kernel_rfl) rfl
theorem splH : splA C5 5 [2, 0] = [0, 2] := by
  unfold splA
  rw [show flatA C5 5 [2, 0] = [2, 0] by kernel_rfl, ms2 2 0 (by decide)]
  kernel_rfl
theorem restH : restA C5 5 [2, 0] = [0] := by unfold restA; rw [splH]; kernel_rfl
theorem chH : chX C5 5 cmpI [2, 0] = 0 ∧ chL C5 5 cmpI [2, 0] = C5 := by
  unfold chX chL
  rw [splH]
  exact ⟨by kernel_rfl, by kernel_rfl⟩
theorem dH5 : DrC B pb mb sb [] [(3, 100, 0), (4, 100, 2), (5, 100, 0), (6, 100, 0), (7, 100, 0)] C5 C5 7 100 0 := drc_eq (derive_5 (ys := [4, 6]) (xs := [2, 0]) (L1 := C5) (M1 := [(3, 100, 0), (4, 100, 2), (5, 100, 0), (6, 100, 0)]) (by decide) (by decide) (by kernel_rfl) (by kernel_rfl) (by kernel_rfl) (by kernel_rfl) (by decide) (by decide) ⟨_, _, 2, [0], 4, rfl, dH2, ⟨_, _, 0, [], 6, rfl, dH4, ⟨rfl, rfl, rfl⟩, rfl⟩, rfl⟩ (by decide) (by decide) (by decide) (by show ((splA C5 5 [2, 0]).filter (isSet C5)).length < 2; rw [splH]; decide +kernel) (by show (restA C5 5 [2, 0]).length ≤ 12; rw [restH]; decide) cmpI (fun _ W _ a _ b _ => cmpE a b W) (dd := 0) chH.1 (by decide)) rfl chH.2 rfl
end
end Go.Proofs.YtkimhfajfbcdmaaGreatDoor

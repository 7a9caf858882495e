/- Pools: a new node is put. -/
import Derived.Test.YtkimhfajfbcdmaaGreatDoorQD
import Derived.Deep.RegionLaw
namespace Go.Proofs.YtkimhfajfbcdmaaGreatDoor
open Go.RowKit Go.Maps

variable {av : Nat → Prop}

theorem ndFit_of {l : List Nd} {L : List Ab} (h : l.map Nd.ab = L) (hw : WfA L) : NdFit l := fun d hd => by
  have := hw.fit d.ab (h ▸ List.mem_map_of_mem hd)
  exact this
theorem key_conv {w : World} {B gk kn cap : Nat} {kind : Int} {set : List Rg} {kids : List Int} (h : w.ownsRow B 5 1 (.slice (some ⟨gk, 0, none⟩) kn cap) (keyN kind set kids).length (byteV (keyN kind set kids))) (hn : kn = (keyN kind set kids).length) :
    (convert 58 9 (.slice (some ⟨gk, 0, none⟩) kn cap)).run Tryz.prog w = .ok (.string (bs (keyS kind set kids))) w := by
  rw [← strOf_key]
  refine run_convert_bytes_arg w 58 5 Tryz.underlying58 Tryz.underlying5 gk 0 kn cap (keyN kind set kids) hn.symm (fun i hi => ?_) 9 Tryz.underlying9
  rw [← hn] at h
  rw [Nat.zero_add, own_cell h rfl i (by rw [byteV_length]; omega), List.getD_eq_getElem?_getD, List.getD_eq_getElem?_getD]
  unfold byteV
  rw [List.getElem?_map, List.getElem?_eq_getElem (by omega)]
  rfl
theorem measA_ge {L : List Ab} (hf : WfA L) (kind : Int) (s : Nat) (kids : List Int) : ∀ k, (∀ j, j < k → (kids.getD j 0).toNat < L.length) → 1 ≤ (measA L kind s kids k).1 ∧ 1 ≤ (measA L kind s kids k).2 := by
  intro k
  induction k with
  | zero => intro _; simp only [measA]; omega
  | succ k ih =>
    intro hj
    have h1 := ih (fun j hjk => hj j (by omega))
    have hm : L.getD (kids.getD k 0).toNat ab0 ∈ L := by rw [List.getD_eq_getElem?_getD (l := L), List.getElem?_eq_getElem (hj k (by omega))]; exact List.getElem_mem _
    have hd := hf.fit _ hm
    have ho := ownI_01 kind k (L.getD (kids.getD k 0).toNat ab0).kind
    simp only [measA, maxI]
    split <;> omega
theorem wf_new {L : List Ab} (hw : WfA L) {kind : Int} {set : List Rg} {kids : List Int} (hs : set.length ≤ 4096) (hk : kids.length ≤ 4096) (hkv : ∀ j, j < kids.length → 0 ≤ kids.getD j 0 ∧ (kids.getD j 0).toNat < L.length) (hkind : 0 ≤ kind ∧ kind ≤ 7) (hform : (kind = 3 → kids.length = 2) ∧ (kind = 6 ∨ kind = 7 → kids.length = 1)) (hnew : keyS kind set kids ∉ keysA L) : WfA (L ++ [newA L kind set kids]) := by
  have hm := measA_ge hw kind set.length kids kids.length (fun j hj => (hkv j hj).2)
  refine ⟨?_, ?_, ?_, ?_, ?_, ?_⟩
  · rw [keysA_append, List.nodup_append]
    refine ⟨hw.nodup, by simp, fun a ha b hb e => hnew ?_⟩
    simp only [List.mem_singleton] at hb
    subst hb
    exact e ▸ ha
  · intro a ha
    rcases List.mem_append.1 ha with h | h
    · exact hw.fit a h
    · simp only [List.mem_singleton] at h
      subst h
      simp only [newA]
      omega
  · intro i a hi k hk'
    rw [List.getElem?_append] at hi
    split at hi
    · exact hw.kids i a hi k hk'
    · rename_i hlt
      have hi0 : i - L.length = 0 := by
        rcases Nat.eq_zero_or_pos (i - L.length) with h | h
        · exact h
        · rw [List.getElem?_eq_none (by simp; omega)] at hi; cases hi
      rw [hi0] at hi
      simp only [List.getElem?_cons_zero, Option.some.injEq] at hi
      subst hi
      obtain ⟨j, hj, rfl⟩ := List.mem_iff_getElem.1 hk'
      have hj2 : j < kids.length := hj
      have := hkv j hj2
      rw [List.getD_eq_getElem?_getD, List.getElem?_eq_getElem hj2] at this
      show 0 ≤ kids[j]'hj2 ∧ (kids[j]'hj2).toNat < i
      simp only [Option.getD_some] at this
      omega
  · intro a ha
    rcases List.mem_append.1 ha with h | h
    · exact hw.short a h
    · simp only [List.mem_singleton] at h
      subst h
      exact ⟨hs, hk⟩
  · intro a ha
    rcases List.mem_append.1 ha with h | h
    · exact hw.kind a h
    · simp only [List.mem_singleton] at h
      subst h
      exact hkind
  · intro a ha
    rcases List.mem_append.1 ha with h | h
    · exact hw.form a h
    · simp only [List.mem_singleton] at h
      subst h
      exact hform
/-- The box of the node that is put: its last field is set. -/
theorem put_box {w W : World} {B pb mb sb : Nat} {L : List Ab} {ov : Value} {e : Int} {l : List Nd} {g nc : Nat} {kv kv0 : Value} {kl : List Int} {D : DataW Unit} {cs : Array Value} {u : Value} (hBw : B ≤ w.heap.size)
    (hgl : B ≤ g ∧ g < w.heap.size ∧ g ≠ pb ∧ g ≠ mb ∧ kv0.ownBlock ≠ some g ∧ kv0.ownBlock ≠ some pb ∧ kv0.ownBlock ≠ some mb ∧ mb ≠ pb ∧ pb < w.heap.size)
    (hin : PoolIn av W B pb mb sb L ov e l g nc kv kl D) (hbx : W.heap[w.heap.size]? = some (.cells cs 65 (0, 0))) (hf : Fr B mb sb w W) (ho : Off (fun k => k = pb ∨ kv0.ownBlock = some k) w W) :
    PoolIn av (W.setCell ⟨w.heap.size, 5, none⟩ u) B pb mb sb L ov e l g nc kv kl D ∧ (W.setCell ⟨w.heap.size, 5, none⟩ u).heap[w.heap.size]? = some (.cells (cs.setIfInBounds 5 u) 65 (0, 0)) ∧ Fr B mb sb w (W.setCell ⟨w.heap.size, 5, none⟩ u) ∧ Off (fun k => k = pb ∨ kv0.ownBlock = some k) w (W.setCell ⟨w.heap.size, 5, none⟩ u) := by
  have hns : ¬ Stay B mb sb W w.heap.size := not_stay_cells hbx hBw (by decide)
  have hs := off_set (O := fun k => k = w.heap.size) (off_refl _ W) (p := ⟨w.heap.size, 5, none⟩) (.inl rfl) u
  have hO : ∀ k, k < W.heap.size → k = w.heap.size → ¬ Stay B mb sb W k := by rintro k - rfl; exact hns
  refine ⟨poolIn_off hin hs (by omega) (by omega) (fun k hk e => row_not hbx hin.key (by decide) (e ▸ hk)) (map_not hbx hin.map) hO, block_set hbx u, fr_t hf (fr_off hs hO), off_t' ho hs (fun k hk => .inr (by omega))⟩
set_option maxHeartbeats 4000000 in
set_option maxRecDepth 100000 in
theorem put_new (w : World) (B pb mb sb : Nat) (L : List Ab) (ov : Value) (e : Int) (sn : Nat) (DS : DataW Unit) (hP : Pool av w B pb mb sb L ov e sn DS) (hBw : B ≤ w.heap.size) (kind : Int) (sa ka : Option Addr) (sc kc : Nat) (set : List Rg) (kids : List Int)
    (hs : set.length ≤ 4096) (hk : kids.length ≤ 4096) (hsr : RRow w sa set) (hkr : NRow w ka kids) (hsh : Held av B mb sb w sa) (hkh : Held av B mb sb w ka) (hnew : keyS kind set kids ∉ keysA L)
    (hkv : ∀ j, j < kids.length → 0 ≤ kids.getD j 0 ∧ (kids.getD j 0).toNat < L.length) (hform : (kind = 3 → kids.length = 2) ∧ (kind = 6 ∨ kind = 7 → kids.length = 1)) (hkind : 0 ≤ kind ∧ kind ≤ 7) (hL : L.length < 1500000000000) :
    Calls Tryz.prog 26 #[.pointer (some ⟨pb, 0, none⟩), .agg #[.int .i64 kind, .slice sa set.length sc, .slice ka kids.length kc, .int .i64 0, .int .i64 0, .bool false]] w fun e' w' => e' = .returned (.int .i64 (putX L kind set kids)) ∧ Pool av w' B pb mb sb (putL L kind set kids) ov e sn DS ∧ Fr B mb sb w w' := by
  obtain ⟨l, g, nc, kv, kl, D, hin⟩ := hP.lies
  obtain ⟨a, c, rfl⟩ := own_form hin.key
  have hb0 : Below w.heap.size w (w.alloc (.cells #[.int .i64 kind, .slice sa set.length sc, .slice ka kids.length kc, .int .i64 0, .int .i64 0, .bool false] 65)) := (Below.refl _ _).alloc (Nat.le_refl _) _
  have hin0 := poolIn_below hin hb0
  have d2 := cell_block hin0.blk 2 _ rfl
  have hbox : (w.alloc (.cells #[.int .i64 kind, .slice sa set.length sc, .slice ka kids.length kc, .int .i64 0, .int .i64 0, .bool false] 65)).heap[w.heap.size]? = some (.cells #[.int .i64 kind, .slice sa set.length sc, .slice ka kids.length kc, .int .i64 0, .int .i64 0, .bool false] 65 (0, 0)) := (MapKept.heap_alloc w _).1
  have hob : (Value.slice a 0 c).ownBlock = (Value.slice a kl.length c).ownBlock := by cases a <;> rfl
  have HK := hide (appKey_any B (.slice a 0 c) _ (Nat.le_trans hBw hb0.size) (own_nil_of hin0.key) w.heap.size kind sa ka sc kc set kids _ _ _ hs hk hbox (rrow_fr hsr hsh (fr_below hb0)) (nrow_fr hkr hkh (fr_below hb0)) (fun x hx h => by rw [hob] at h; exact not_stay_kv hin0 h (rowy_stay (held_fr hsh (fr_below hb0) x hx).2.1)) (fun x hx h => by rw [hob] at h; exact not_stay_kv hin0 h (rowy_stay (held_fr hkh (fr_below hb0) x hx).2.1)))
  have HM := hide (fun W1 gk cap kn (hst : KSt B (fun k => (Value.slice a 0 c).ownBlock = some k) (w.alloc (.cells #[.int .i64 kind, .slice sa set.length sc, .slice ka kids.length kc, .int .i64 0, .int .i64 0, .bool false] 65)) W1 gk cap kn (keyN kind set kids)) => And.intro hst.len (put_mid hP.bp hin hst))
  have hval : posB (keysA L) (keyS kind set kids) = 0 := by simp [posB, hnew]
  have hdec : decide (keyS kind set kids ∈ keysA L) = false := by simpa using hnew
  have hsb : ¬ (sb = pb ∨ (Value.slice a kl.length c).ownBlock = some sb ∨ sb = g ∨ sb = mb) := by
    rintro (h | h | h | h)
    · exact map_not hin.blk hP.steps h
    · exact row_map hin.key hP.steps h
    · exact row_map hin.nodes hP.steps (by rw [h]; rfl)
    · exact hP.ne h.symm
  have hwf := wf_new hP.wf hs hk hkv hkind hform hnew
  have h6 : kind = 6 → kids ≠ [] := fun h e => by have := hform.2 (.inl h); rw [e] at this; simp at this
  have hputL : putL L kind set kids = L ++ [newA L kind set kids] := by simp [putL, hnew]
  have hputX : putX L kind set kids = L.length := by
    unfold putX
    rw [List.idxOf_eq_length hnew]
    simp [keysA]
  have Hwf := hide hwf; have HputL := hide hputL; have HputX := hide hputX
  clear hwf hputL hputX
  have hgl := poolIn_g hin
  have HP := hide hP; have Hv := hide hval; have Hsb := hide hsb; have Hgl := hide hgl; have Hin := hide hin; have Hsr := hide hsr; have Hkr := hide hkr; have Hsh := hide hsh; have Hkh := hide hkh; have Hnew := hide hnew; have Hkv := hide hkv; have H6 := hide h6
  clear hP hin hin0 hbox hval hnew hb0 hsr hkr hsh hkh hsb hgl hkv h6
  go_enter Tryz.func26, Tryz.ntmps26
  go_wp2_with fail
  refine (unhide HK).mono ?_
  rintro e1 W1 ⟨gk, cap, rfl, hst⟩
  obtain ⟨hlen, ⟨m1, m2⟩, hin2, hbx2, hf2, ho2⟩ := unhide HM W1 gk cap _ hst
  have m3 := hin2.blk
  obtain ⟨hcv, hlk⟩ := key_text (poolIn_below hin2 ((Below.refl _ _).drew)) hlen hs hk
  rw [unhide Hv, hdec] at hlk
  have e1 := cell_block m3 1 _ rfl
  have e2 := cell_block m3 2 _ rfl
  clear hst m3 HK HM d2
  have Hlen := hide hlen; have Hin2 := hide hin2; have Hbx2 := hide hbx2; have Hf2 := hide hf2; have Ho2 := hide ho2
  clear hlen hin2 hbx2 hf2 ho2
  go_wp2
  go_region
  all_goals
    go_wp2_with fail
    have hin2 := poolIn_below (unhide Hin2) ((Below.refl _ _).drew)
    have hbx2 : (W1.setCell ⟨pb, 2, none⟩ (.slice (some ⟨gk, 0, none⟩) (1 + 8 * set.length + 4 * kids.length) cap)).drew.heap[w.heap.size]? = _ := unhide Hbx2
    have hf2 := fr_t (unhide Hf2) (fr_below ((Below.refl _ _).drew))
    have ho2 := off_drew (unhide Ho2)
    clear Hin2 Hbx2 Hf2 Ho2 hcv hlk e1 e2 m1 m2
    generalize (W1.setCell ⟨pb, 2, none⟩ (.slice (some ⟨gk, 0, none⟩) (1 + 8 * set.length + 4 * kids.length) cap)).drew = W2 at *
    obtain ⟨hg1, hg2, hg3, hg4, hk1, hk2, hk3, hm1, hpl⟩ := unhide Hgl
    have hll := poolIn_len hin2
    have hkb : (Value.slice (some ⟨gk, 0, none⟩) (1 + 8 * set.length + 4 * kids.length) cap).ownBlock ≠ some w.heap.size := row_not hbx2 hin2.key (by decide)
    have hns : ¬ Stay B mb sb W2 w.heap.size := not_stay_cells hbx2 hBw (by decide)
    have hmbn : mb ≠ w.heap.size := map_not hbx2 hin2.map
    have hka2 := held_fr (unhide Hkh) hf2
    have hkr2 := nrow_fr (unhide Hkr) (unhide Hkh) hf2
    refine (measure_any pb w.heap.size g nc l (ndFit_of hin2.ab (unhide HP).wf) _ _ _ _ _ ⟨kind, sa, sc, set, ka, kc, kids, 0, 0, false⟩ hs hk (by rw [hll]; exact unhide Hkv) W2 (by rw [hll]; exact hin2.blk) hbx2 (ndRow_own (by rw [hll]; exact hin2.nodes)) (poolIn_g hin2).2.1 (by omega) hkr2 (held_ne hka2 hns)).mono ?_
    rintro e3 W3 ⟨rfl, ho3, hbx3⟩
    rw [measTo_ab, hin2.ab] at hbx3
    have hO3 : ∀ k, k < W2.heap.size → k = w.heap.size → ¬ Stay B mb sb W2 k := by rintro k - rfl; exact hns
    have hin3 := poolIn_off hin2 ho3 (by omega) (by omega) (fun k hk e => hkb (e ▸ hk)) hmbn hO3
    have hf3 := fr_t hf2 (fr_off ho3 hO3)
    have HE := hide (empty_any pb w.heap.size g nc l _ _ _ _ _ ⟨kind, sa, sc, set, ka, kc, kids, min (measA L kind set.length kids kids.length).1 4097, min (measA L kind set.length kids kids.length).2 65, false⟩ hk (by rw [hll]; exact unhide Hkv) (unhide H6) W3 (by rw [hll]; exact hin3.blk) hbx3 (ndRow_own (by rw [hll]; exact hin3.nodes)) (poolIn_g hin3).2.1 (nrow_fr (unhide Hkr) (unhide Hkh) hf3))
    have Hin3 := hide hin3; have Hbx3 := hide hbx3; have Hf3 := hide hf3
    have ho3' := off_t' ho2 (off_mono (O' := fun k => k = w.heap.size) ho3 (fun k hk => .inl hk)) (fun k hk => .inr (by omega))
    have Ho3 := hide ho3'
    clear hin2 hbx2 hf2 ho2 ho3 hbx3 hin3 hf3 hka2 hkr2 hkb hns hmbn hO3 ho3'
    go_wp2_with fail
    refine (unhide HE).mono ?_
    rintro e4 W4 ⟨rfl, hb4⟩
    rw [nulN_ab, (unhide Hin3).ab]
    have hin4 := poolIn_below (unhide Hin3) hb4
    have hbx4 : W4.heap[w.heap.size]? = _ := (hb4.block _ (lt_of_some (unhide Hbx3))).trans (unhide Hbx3)
    have n5 := cell_block hbx4 5 _ rfl
    have f5 := frozen_block hbx4 5
    have hf4 := fr_t (unhide Hf3) (fr_below hb4)
    have ho4 := off_t (unhide Ho3) (off_below hb4)
    have Hin4 := hide hin4; have Hbx4 := hide hbx4; have Hf4 := hide hf4; have Ho4 := hide ho4
    clear hin4 hbx4 hf4 ho4 Hin3 Hbx3 Hf3 Ho3 HE hb4
    have hP2 := unhide HP
    have hlw : w.heap.size ≤ W4.heap.size := (unhide Ho4).size
    have HF5 := hide (put_box (u := .bool (nulA L kind kids)) hBw (unhide Hgl) (unhide Hin4) (unhide Hbx4) (unhide Hf4) (unhide Ho4))
    have Hnd : Hid (newA L kind set kids = ⟨kind, set, kids, min (measA L kind set.length kids kids.length).1 4097, min (measA L kind set.length kids kids.length).2 65, nulA L kind kids⟩) := hide rfl
    generalize nulA L kind kids = nu at *
    generalize min (measA L kind set.length kids kids.length).1 4097 = P at *
    generalize min (measA L kind set.length kids kids.length).2 65 = V at *
    go_wp2_with fail
    obtain ⟨hin5, hbx5a, hf5, ho5⟩ := unhide HF5
    have hbx5 : (W4.setCell ⟨w.heap.size, 5, none⟩ (.bool nu)).heap[w.heap.size]? = some (.cells #[.int .i64 kind, .slice sa set.length sc, .slice ka kids.length kc, .int .i64 P, .int .i64 V, .bool nu] 65 (0, 0)) := hbx5a
    clear hbx5a
    clear Hin4 Hbx4 Hf4 Ho4 HF5 n5 f5
    generalize W4.setCell ⟨w.heap.size, 5, none⟩ (.bool nu) = W5 at *
    have p0 := cell_block hin5.blk 0 _ rfl
    have p0a : (W5.alloc (.cells #[.int .i64 kind, .slice sa set.length sc, .slice ka kids.length kc, .int .i64 P, .int .i64 V, .bool nu] 65)).cell? ⟨pb, 0, none⟩ = some (.slice (some ⟨g, 0, none⟩) L.length nc) := cell_block (poolIn_below hin5 ((Below.refl _ _).alloc (Nat.le_refl _) _)).blk 0 _ rfl
    have b0 := cell_block hbx5 0 _ rfl
    have b1 := cell_block hbx5 1 _ rfl
    have b2 := cell_block hbx5 2 _ rfl
    have b3 := cell_block hbx5 3 _ rfl
    have b4 := cell_block hbx5 4 _ rfl
    have b5 := cell_block hbx5 5 _ rfl
    obtain ⟨i0, hi, hz0, hz1, hz2⟩ := info_parts hnode
    have hlb : B ≤ W5.heap.size := by have := hf5.size; omega
    have HG := hide (fun W7 W9 g' cap' hown hg => put_end (W := W5.drew) (W7 := W7) (W9 := W9) (g' := g') (cap := cap') (d := ⟨kind, sa, sc, set, ka, kc, kids, P, V, nu⟩) (o := .cells #[.int .i64 kind, .slice sa set.length sc, .slice ka kids.length kc, .int .i64 P, .int .i64 V, .bool nu] 65) hP2.bp hP2.bm (poolIn_below hin5 ((Below.refl _ _).drew)) (unhide Hnew) ⟨rrow_fr (unhide Hsr) (unhide Hsh) (fr_t hf5 (fr_below ((Below.refl _ _).drew))), nrow_fr (unhide Hkr) (unhide Hkh) (fr_t hf5 (fr_below ((Below.refl _ _).drew))), held_fr (unhide Hsh) (fr_t hf5 (fr_below ((Below.refl _ _).drew))), held_fr (unhide Hkh) (fr_t hf5 (fr_below ((Below.refl _ _).drew)))⟩ hown hg)
    have Hn5 : Hid (W5.drew.ownsRow B 65 6 (.slice (some ⟨g, 0, none⟩) L.length nc) L.length (flatN l)) := hide ((poolIn_below hin5 ((Below.refl _ _).drew)).nodes)
    have Hc1 : Hid (∀ j u, (cellsN ⟨kind, sa, sc, set, ka, kc, kids, P, V, nu⟩)[j]? = some u → (W5.drew.alloc (.cells #[.int .i64 kind, .slice sa set.length sc, .slice ka kids.length kc, .int .i64 P, .int .i64 V, .bool nu] 65)).cell? ((⟨W5.heap.size, 0, none⟩ : Addr).add j) = some u) := hide (World.news_of_block (MapKept.heap_alloc W5.drew (.cells #[.int .i64 kind, .slice sa set.length sc, .slice ka kids.length kc, .int .i64 P, .int .i64 V, .bool nu] 65)).1)
    have Hf5 := hide hf5; have Ho5 := hide ho5; have Hin5 := hide hin5; have HPP := hide hP2
    clear hf5 ho5 hin5 hbx5 hP2
    go_region_law (refine step_append_lies _ rfl (.tmp 41) (.tmp 43) 55 rfl B 65 i0 _ 6 80 Tryz.underlying55 hi hz0 hz1 hz2 rfl (by decide) _ L.length (flatN l) (by simp [Act.eval]) ((unhide Hn5).alloc _) ⟨W5.heap.size, 0, none⟩ 1 1 (cellsN ⟨kind, sa, sc, set, ka, kc, kids, P, V, nu⟩) (by simp [Act.eval]) rfl (unhide Hc1) (by simp [cellsN, Value.oneCell']) (by decide) (by unfold maxLen; omega) (by omega) (by simp; omega) (W5.heap.size + 1) (by simp) ?_; intro g7 cap7 W7 hown7 hgr7 hgv7 hgl7; have hgr7' : World.grownBy (W5.drew.alloc (.cells #[.int .i64 kind, .slice sa set.length sc, .slice ka kids.length kc, .int .i64 P, .int .i64 V, .bool nu] 65)) W7 (some g) := ⟨hgr7.os, hgr7.tape, hgr7.output, hgr7.size, hgr7.block⟩; obtain ⟨⟨q0, q1⟩, ⟨hB8, hm8, hkey8⟩, -⟩ := unhide HG W7 W7 g7 cap7 hown7 hgr7'; have Hown7 := hide hown7; have Hgr7 := hide hgr7'; have HB8 := hide hB8; have Hm8 := hide hm8; have Hkey8 := hide hkey8; clear hown7 hgr7 hgr7' hB8 hm8 hkey8 hgv7 hgl7)
    all_goals
      go_wp2
      have hlen8 := keyS_len kind set kids
      have hconv := key_conv (own_off (O := fun _ => False) (unhide Hkey8) (off_below ((Below.refl _ _).drew)) (fun _ _ h => h)) (unhide Hlen)
      obtain ⟨W9, hrun9, hm9, hg9⟩ := (map_off (O := fun _ => False) (unhide Hm8) (off_below ((Below.refl _ _).drew)) (fun h => h)).update law9 Tryz.underlying56 (by unfold maxLen; omega) (keyOfS (keyS kind set kids) (by unfold maxLen; omega)) (plainElem_int Tryz.underlying3 (WalkArith.wf_i64 (by omega)) : plainElem (H := Unit) Tryz.prog 3 (.int .i64 (L.length : Int)) = _)
      have y1 := cell_block (unhide HB8) 1 _ rfl
      have y2 := cell_block (unhide HB8) 2 _ rfl
      have Hm9 := hide hm9; have Hg9 := hide hg9
      clear hm9 hg9 q0 q1 b0 b1 b2 b3 b4 b5 p0 p0a hlen8
      go_region
      all_goals
        go_wp2
        go_ret
        have hg9 := unhide Hg9
        obtain ⟨hin9, ho9, hf9⟩ := (unhide HG W7 W9 g7 cap7 (unhide Hown7) (unhide Hgr7)).2.2 (unhide Hm9) ⟨hg9.os, hg9.tape, hg9.output, hg9.size, hg9.block⟩
        have hP9 := unhide HPP
        have ho := off_t (off_mono (O' := fun k => k = pb ∨ (Value.slice a kl.length c).ownBlock = some k ∨ k = g ∨ k = mb) (off_drew (unhide Ho5)) (fun k hk => .inl (hk.imp id .inl))) (off_mono (O' := fun k => k = pb ∨ (Value.slice a kl.length c).ownBlock = some k ∨ k = g ∨ k = mb) ho9 (fun k hk => .inl (by rcases hk with h | h | h; exact .inl h; exact .inr (.inr (.inl h)); exact .inr (.inr (.inr h)))))
        refine ⟨by rw [unhide HputX]; rfl, ?_, fr_t (fr_t (unhide Hf5) (fr_below ((Below.refl _ _).drew))) hf9⟩
        have hwf := unhide Hwf
        rw [unhide HputL]
        rw [unhide Hnd] at hwf ⊢
        exact ⟨hP9.bp, hP9.bm, hP9.bs, hP9.ne, hwf, map_off hP9.steps ho (unhide Hsb), _, _, _, _, _, _, hin9⟩
/-- A node is put into a pool. -/
theorem put_any (w : World) (B pb mb sb : Nat) (L : List Ab) (ov : Value) (e : Int) (sn : Nat) (DS : DataW Unit) (hP : Pool av w B pb mb sb L ov e sn DS) (hBw : B ≤ w.heap.size) (kind : Int) (sa ka : Option Addr) (sc kc : Nat) (set : List Rg) (kids : List Int)
    (hs : set.length ≤ 4096) (hk : kids.length ≤ 4096) (hsr : RRow w sa set) (hkr : NRow w ka kids) (hsh : Held av B mb sb w sa) (hkh : Held av B mb sb w ka)
    (hkv : ∀ j, j < kids.length → 0 ≤ kids.getD j 0 ∧ (kids.getD j 0).toNat < L.length) (hform : (kind = 3 → kids.length = 2) ∧ (kind = 6 ∨ kind = 7 → kids.length = 1)) (hkind : 0 ≤ kind ∧ kind ≤ 7) (hL : L.length < 1500000000000) :
    Calls Tryz.prog 26 #[.pointer (some ⟨pb, 0, none⟩), .agg #[.int .i64 kind, .slice sa set.length sc, .slice ka kids.length kc, .int .i64 0, .int .i64 0, .bool false]] w fun e' w' => e' = .returned (.int .i64 (putX L kind set kids)) ∧ Pool av w' B pb mb sb (putL L kind set kids) ov e sn DS ∧ Fr B mb sb w w' := by
  by_cases hn : keyS kind set kids ∈ keysA L
  · exact put_old w B pb mb sb L ov e sn DS hP hBw kind sa ka sc kc set kids hs hk hsr hkr hsh hkh hn
  · exact put_new w B pb mb sb L ov e sn DS hP hBw kind sa ka sc kc set kids hs hk hsr hkr hsh hkh hn hkv hform hkind hL
end Go.Proofs.YtkimhfajfbcdmaaGreatDoor

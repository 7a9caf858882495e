/- The code's rounds. -/
import Derived.Test.YtagohbpbgjelaaaGreatDoorGV
import Derived.Test.YtagohbpbgjelaaaGreatDoorM1
namespace Go.Proofs.YtagohbpbgjelaaaGreatDoor
open Go.RowKit

def lfN (G : Gm) (q : Nat) : Nat := (G.prods.getD q pd0).left.toNat
def rlN (G : Gm) (q : Nat) : List Nat := (rulesL G.nk (G.prods.getD q pd0).right).map Int.toNat
theorem rulesL_pos {nk : Nat} {row : List Int} {x : Int} (h : x ∈ rulesL nk row) : 0 ≤ x := by
  obtain ⟨y, _, h2⟩ := List.mem_flatMap.1 h
  split at h2
  · simp at h2; omega
  · simp at h2
theorem count_toNat (r : Nat) : ∀ (l : List Int), (∀ x, x ∈ l → 0 ≤ x) → (l.map Int.toNat).count r = l.count (r : Int)
  | [], _ => by simp
  | x :: l, h => by
    rw [List.map_cons, List.count_cons, List.count_cons, count_toNat r l (fun y hy => h y (by simp [hy]))]
    have hx := h x (by simp)
    have e : (x.toNat == r) = (x == (r : Int)) := by rw [Bool.eq_iff_iff]; simp; omega
    rw [e]
theorem useN_count {G : Gm} {q r : Nat} (hq : q < G.prods.length) : (useN G r).count q = (rlN G q).count r := by
  unfold rlN
  rw [count_toNat r _ (fun x hx => rulesL_pos hx)]
  unfold useN
  have key : ∀ n, ((List.range n).flatMap fun i => List.replicate ((rulesL G.nk (G.prods.getD i pd0).right).count (r : Int)) i).count q = if q < n then (rulesL G.nk (G.prods.getD q pd0).right).count (r : Int) else 0 := by
    intro n
    induction n with
    | zero => simp
    | succ n ih =>
      rw [List.range_succ, List.flatMap_append, List.count_append, ih]
      simp only [List.flatMap_cons, List.flatMap_nil, List.append_nil, List.count_replicate]
      by_cases e : n = q
      · subst e; simp
      · have : (n == q) = false := by simpa using e
        by_cases h : q < n
        · have h2 : q < n + 1 := by omega
          simp only [this, h, h2, if_true, Bool.false_eq_true, if_false, Nat.add_zero]
        · have h2 : ¬ q < n + 1 := by omega
          simp only [this, h, h2, Bool.false_eq_true, if_false, Nat.add_zero]
  rw [key, if_pos hq]
structure RoI (G : Gm) (M : Nat) (w : World) (mv : Value) (ml : List Int) (bb lb : Nat) (c : Nat → Int) (rd : List Nat) (u : Value) (W : World) : Prop where
  by_ : W.rowIs bb 3 G.rules.length (fun r => .int .i64 (c r))
  left : LeftAt W lb G.rules.length (fun r => decide (r < G.rules.length) && decide (c r < 0))
  ms : ∃ ml', ml'.length = ml.length ∧ RInv (lfN G) (rlN G) (atZ ml) G.prods.length c (atZ ml') rd ∧ W.ownsRow M 3 1 mv ml'.length (vints ml') ∧ ∀ q, G.prods.length ≤ q → atZ ml' q = 0
  rd : ∃ base, bb < base ∧ lb < base ∧ w.heap.size ≤ base ∧ base ≤ W.heap.size ∧ W.ownsRow base 3 1 u (castL rd).length (vints (castL rd))
  st : ∃ n, c = stN (lfN G) (rlN G) (fun q => decide (atZ ml q = (rlN G q).length)) G.prods.length n
  cl : ∀ r, -1 ≤ c r
  fr : Fr (fun k => mv.ownBlock = some k) w W
theorem rowIs_rep {w : World} {b n t : Nat} {v : Value} (h : w.heap[b]? = some (.cells (List.replicate n v).toArray t)) : w.rowIs b t n (fun _ => v) :=
  ⟨_, h, by simp, fun i hi => by simp [hi]⟩
theorem fr_hi {O : Nat → Prop} {B : Nat} {a b c : World} (h : Fr O a b) (k : Below B b c) (hB : a.heap.size ≤ B) : Fr O a c := ⟨Nat.le_trans h.1 k.size, fun j hj ho => (k.block j (by omega)).trans (h.2.1 j hj ho), k.os.trans h.2.2.1, k.tape.trans h.2.2.2.1, k.output.trans h.2.2.2.2⟩
theorem own_blk {W W' : World} {B e s n : Nat} {v : Value} {xs : List Value} (h : W.ownsRow B e s v n xs) (hk : ∀ k, v.ownBlock = some k → W'.heap[k]? = W.heap[k]?) : W'.ownsRow B e s v n xs := by
  refine ⟨h.1, ?_⟩
  rcases h.2 with h1 | ⟨g, cap, cur, hv, hb, hh, rest⟩
  · exact .inl h1
  · exact .inr ⟨g, cap, cur, hv, hb, (hk g (by rw [hv]; rfl)).trans hh, rest⟩
theorem left_blk {W W' : World} {b n : Nat} {S : Nat → Bool} (h : LeftAt W b n S) (hk : W'.heap[b]? = W.heap[b]?) : LeftAt W' b n S := by
  obtain ⟨D, ⟨es, cc, h3, h4⟩, h2⟩ := h
  exact ⟨D, ⟨es, cc, hk.trans h3, h4⟩, h2⟩
theorem left_lt {W : World} {b n : Nat} {S : Nat → Bool} (h : LeftAt W b n S) : b < W.heap.size := by obtain ⟨D, h1, _⟩ := h; exact h1.lt
structure InI (G : Gm) (w5 : World) (bb lb : Nat) (c : Nat → Int) (l : List Nat) (v : Value) (W : World) : Prop where
  by_ : W.rowIs bb 3 G.rules.length (fun r => .int .i64 (chL (lfN G) l c r))
  left : LeftAt W lb G.rules.length (fun r => decide (r < G.rules.length) && decide (chL (lfN G) l c r < 0))
  fd : W.ownsRow w5.heap.size 3 1 v (castL (fnL (lfN G) l c)).length (vints (castL (fnL (lfN G) l c)))
  fr : Fr (fun k => k = bb ∨ k = lb) w5 W
set_option maxHeartbeats 1000000 in
set_option maxRecDepth 100000 in
theorem rounds_any (G : Gm) (hG : GOk G) (ka pa ra qa : Option Addr) (kc pc rc qc gb ob ub : Nat) (M : Nat) (mv : Value) (ml : List Int) (hml : ml.length = G.prods.length) (hm0 : ∀ q, q < G.prods.length → atZ ml q = (rlN G q).length ∨ ((rlN G q).length : Int) < atZ ml q ∨ atZ ml q < 0) (hmb : ∀ q, -1048 ≤ atZ ml q ∧ atZ ml q ≤ 1048)
    (w : World) (hM : M ≤ w.heap.size) (hg : GrAt M w G ka kc pa pc ra rc qa qc gb ob ub) (hm : w.ownsRow M 3 1 mv ml.length (vints ml)) :
    Calls Tryz.prog 86 #[.pointer (some ⟨gb, 0, none⟩), mv] w fun e w' => ∃ (b n : Nat) (c : Nat → Int), e = .returned (.slice (some ⟨b, 0, none⟩) G.rules.length G.rules.length) ∧ w'.rowIs b 3 G.rules.length (fun r => .int .i64 (c r)) ∧ c = stN (lfN G) (rlN G) (fun q => decide (atZ ml q = (rlN G q).length)) G.prods.length n ∧ stT (lfN G) (rlN G) (fun q => decide (atZ ml q = (rlN G q).length)) G.prods.length c = c ∧ w.heap.size ≤ b ∧ Fr (fun k => mv.ownBlock = some k) w w' := by
  obtain ⟨ma, mc, hmv⟩ := own_form hm
  subst hmv
  have c2 : w.cell? ⟨gb, 2, none⟩ = some (.slice ra G.rules.length rc) := by unfold World.cell?; rw [hg.box]; rfl
  have hgl : gb < w.heap.size := by have := hg.lt; omega
  have hr1 := hG.r1; have hr2 := hG.r2
  unfold Gm.nr at hr1 hr2
  have hml4 : ml.length ≤ 4096 := by have := hG.ps; omega
  have Hml := hide hml
  clear hml
  go_enter Tryz.func86, Tryz.ntmps86
  go_wp2_with fail
  have hb1 : Below w.heap.size w (w.alloc (.cells #[.int .i64 (-1)] 3)) := (Below.refl _ _).alloc (Nat.le_refl _) _
  have hs1 : (w.alloc (.cells #[.int .i64 (-1)] 3)).heap.size = w.heap.size + 1 := by simp
  refine (repeat_any w.heap.size G.rules.length (-1) hr1 hr2 _ (Go.Deep.blk_alloc_new _ _)).mono ?_
  rintro e w2 ⟨bb, rfl, hbb, hbl, hb2⟩
  have hbw2 : Below w.heap.size w w2 := hb1.trans (below_le hb2 (by omega))
  have hs2 := hb2.size
  have hbb2 : bb < w2.heap.size := (Array.getElem?_eq_some_iff.1 hbb).1
  have c2b := (hbw2.cell (p := ⟨gb, 2, none⟩) hgl).trans c2
  have HL := hide (allLeft_any gb G.rules.length ra rc hr2 w2 (by omega) c2b)
  have Hg := hide hg; have Hm := hide hm
  clear hb1 hb2 hg hm c2
  go_wp2_with fail
  refine (unhide HL).mono ?_
  rintro e w3 ⟨lb, rfl, hlf, hlb, hlb3, hb3⟩
  have hbw3 := hbw2.trans (below_le hb3 (by omega))
  have hs3 := hb3.size
  have hm3 := own_base (own_below (unhide Hm) hbw3) (Nat.le_refl _)
  obtain ⟨_, _, he, hmn⟩ := own_nrow hm3
  cases he
  have HP := hide (places_any ma mc ml 0 (by omega) w3 hmn)
  clear HL
  go_wp2_with fail
  refine (unhide HP).mono ?_
  rintro e w4 ⟨v4, rfl, how4, hb4⟩
  obtain ⟨va, vc, rfl⟩ := own_form how4
  have hbw4 := hbw3.trans (below_le hb4 (by omega))
  have hs4 := hb4.size
  have hplc : plcTo ml 0 ml.length = castL ((List.range G.prods.length).filter fun q => decide (atZ ml q = 0)) := by rw [plcTo_is, unhide Hml]; rfl
  have hR0 : RoI G M w (.slice ma ml.length mc) ml bb lb (fun _ => -1) ((List.range G.prods.length).filter fun q => decide (atZ ml q = 0)) (.slice va (plcTo ml 0 ml.length).length vc) w4 := by
    refine ⟨?_, ?_, ⟨ml, rfl, rinv_start hm0 rfl, own_base (own_below (unhide Hm) hbw4) (Nat.le_refl _), fun q hq => ?_⟩, ⟨w3.heap.size, by omega, hlb3, by omega, by omega, ?_⟩, ⟨0, rfl⟩, fun _ => by omega, below_fr hbw4⟩
    · exact (rowIs_rep (bx_below (bx_below hbb hb3) hb4))
    · obtain ⟨D, h1, h2⟩ := hlf
      have hl3 := h1.lt
      obtain ⟨es, cc, h3, h4⟩ := h1
      exact ⟨D, ⟨es, cc, (hb4.block lb hl3).trans h3, h4⟩, fun i => by rw [h2 i]; simp⟩
    · unfold atZ; rw [List.getD_eq_getElem?_getD, List.getElem?_eq_none (by have := unhide Hml; omega)]; rfl
    · rw [← hplc]; exact how4
  have hlen4 := plcTo_len ml 0 ml.length
  have HR0 := hide hR0
  have Hplc := hide hplc
  have hbbw : w.heap.size ≤ bb := by omega
  have hlbw : w.heap.size ≤ lb := by omega
  clear hR0 how4 hbb hlf hm3 hmn HP hb3 hb4 hplc c2b hbw2 hbw3
  have HKg : Hid (∀ W, Fr (fun k => (Value.slice ma ml.length mc).ownBlock = some k) w W → GrAt M W G ka kc pa pc ra rc qa qc gb ob ub) := hide (fun W hF => gr_kept (unhide Hg) (fr_below hF hM (fun k hk => ((unhide Hm).lt k hk).1)))
  have hMw : ∀ k, (Value.slice ma ml.length mc).ownBlock = some k → M ≤ k ∧ k < w.heap.size := fun k hk => (unhide Hm).lt k hk
  go_wp2
  go_loopw [7] (fun u W => ∃ c rd, RoI G M w (.slice ma ml.length mc) ml bb lb c rd u W) (fun u W => 2 * cntNeg (numW W bb) G.rules.length + if lenV u = 0 then 0 else 1)
  case atStart => exact ⟨_, _, unhide HR0⟩
  case round =>
    clear HR0 hbw4 hs4 hs3 hs2 hlen4
    obtain ⟨c, rd, hR⟩ := hrel
    obtain ⟨hby, hleft, ⟨ml', hl', hinv, hms, hz'⟩, ⟨base, hbs1, hbs2, hbs3, hbs4, hrd⟩, ⟨n, hst⟩, hcl, hfr⟩ := hR
    obtain ⟨ua, uc, rfl⟩ := own_form hrd
    have hcnt : cntNeg (numW wr bb) G.rules.length = cntNeg c G.rules.length := cntNeg_congr _ (fun r hr => numW_is hby r hr)
    have hrl : (castL rd).length = rd.length := castL_len rd
    by_cases hz : rd = []
    · subst hz
      have hend := round_end hinv
      have Hfin := hide (And.intro hby (And.intro hst (And.intro hend hfr)))
      clear hby hleft hinv hms hrd hst hfr hend
      go_wp2
      go_ret
      obtain ⟨h1, h2, h3, h4⟩ := unhide Hfin
      exact ⟨bb, n, c, rfl, h1, h2, h3, hbbw, h4⟩
    · have Hst := hide hst
      clear hst
      have hpos : 0 < rd.length := List.length_pos_iff.2 hz
      obtain ⟨rs, hsort, hup, hsn, hsm, hsl⟩ := sort_nat rd hinv.nd
      have hrdl : rd.length ≤ 4096 := by
        have h1 := List.Nodup.length_le_of_subset hinv.nd (l₂ := List.range G.prods.length) (fun q hq => List.mem_range.2 (hinv.lt q hq))
        have := hG.ps
        rw [List.length_range] at h1; omega
      have HSo := hide (sortI_any base ua uc (castL rd) (by rw [castL_len]; omega) wr hrd)
      rw [hsort] at HSo
      have hpos' : (0 : Int) < (castL rd).length := by rw [hrl]; omega
      have HA := hide (And.intro hby (And.intro hleft (And.intro hms (And.intro hfr hinv))))
      clear hby hleft hinv hms hfr hrd
      rw [hrl] at HSo
      go_wp2_with fail
      refine (unhide HSo).mono ?_
      rintro e w5 ⟨rfl, how5, hb5⟩
      obtain ⟨hby, hleft, hms, hfr, hinv⟩ := unhide HA
      have hs5 := hb5.size
      have hby5 := hby.of_block (hb5.block bb hbs1)
      have hleft5 := left_blk hleft (hb5.block lb hbs2)
      have hms5 := own_blk hms (fun k hk => hb5.block k (by have := (hMw k hk).2; omega))
      have hfr5 := fr_hi hfr hb5 hbs3
      have hsl' : rs.length = rd.length := hsl
      rw [← hsl', ← castL_len rs] at how5
      obtain ⟨_, _, he5, hn5⟩ := own_nrow how5
      rw [castL_len, hsl'] at he5
      cases he5
      have hrb : ∀ k, (Value.slice ua rd.length uc).ownBlock = some k → k ≠ bb ∧ k ≠ lb := fun k hk => by
        have h1 := how5
        rw [castL_len, hsl'] at h1
        have := (h1.lt k hk).1; omega
      have hne : bb ≠ lb := fun e => by
        subst e
        obtain ⟨D, ⟨es, cc, h3, _⟩, _⟩ := hleft5
        obtain ⟨cs, h5, _⟩ := hby5
        rw [h3] at h5; cases h5
      have HI0 : Hid (InI G w5 bb lb c [] (.slice none 0 0) w5) := hide ⟨hby5, hleft5, World.ownsRow_nil _ _ _ _, fr_refl _ _⟩
      have Hn5 : Hid (∀ W, Fr (fun k => k = bb ∨ k = lb) w5 W → NRow W.heap.size W ua (castL rs)) := hide (fun W hF => by
        rcases hn5 with h | ⟨b, o, h1, h2, h3⟩
        · exact .inl h
        · refine .inr ⟨b, o, h1, by have := hF.1; omega, fun j hj => (World.cell?_of_block (hF.2.1 b h2 (fun h => ?_))).trans (h3 j hj)⟩
          have := hrb b (by rw [h1]; rfl)
          rcases h with h | h <;> omega)
      have Hq5 : Hid (∀ W, Fr (fun k => k = bb ∨ k = lb) w5 W → GIn M W G ka pa ra qa ∧ W.cell? ⟨gb, 3, none⟩ = some (.slice qa G.prods.length qc)) := hide (fun W hF => by
        have hg5 := unhide HKg w5 hfr5
        have hg6 := gr_kept hg5 (fr_below hF (by omega) (fun k hk => by rcases hk with hk | hk <;> omega))
        exact ⟨hg6.gin, by unfold World.cell?; rw [hg6.box]; rfl⟩)
      have hrsl : ∀ q, q ∈ rs → q < G.prods.length := fun q hq => hinv.lt q ((hsm q).1 hq)
      have HB := hide (And.intro hms5 (And.intro hfr5 hinv))
      have hbb5 := hby5.lt
      have hlb5 := left_lt hleft5
      have Hrsl := hide hrsl
      clear hby hleft hms hfr hinv hby5 hleft5 hms5 hfr5 how5 hn5 hb5 HSo HA hrsl
      generalize hrdlen : rd.length = nd at *
      go_wp2
      go_loopw [8, 31] (fun v x W => ∃ i : Nat, x = .int .i64 i ∧ i ≤ nd ∧ InI G w5 bb lb c (rs.take i) v W) (fun _ x _ => nd - (intOf x).toNat)
      case atStart => exact ⟨0, rfl, Nat.zero_le _, by simpa using unhide HI0⟩
      case round =>
        clear HI0
        obtain ⟨i, rfl, hi, hI⟩ := hrel
        obtain ⟨va, vc, rfl⟩ := own_form hI.fd
        have hnr := unhide Hn5 wr hI.fr
        obtain ⟨hgin, c3⟩ := unhide Hq5 wr hI.fr
        by_cases hlt : i < nd
        · have hlt' : (i : Int) < nd := by omega
          have hir : i < rs.length := by omega
          obtain ⟨xb, xo, rfl, hxb, hcx⟩ := nrow_at hnr (k := i) (by rw [castL_len]; exact hir)
          rw [castL_get hir] at hcx
          have hq := unhide Hrsl _ (getD_memN hir)
          have HTs := hide (take_snocN rs i hir)
          generalize rs.getD i 0 = q at *
          obtain ⟨b, off, rfl, hbB, rr, rrc, x3, x4, x5, x6, n6, c6, -, -, q0, -⟩ := qrow_at hgin.prods hq
          have hpl := hG.pl _ (mem_getP hq)
          unfold Gm.nr at hpl
          have hll : (G.prods.getD q pd0).left = ((lfN G q : Nat) : Int) := by unfold lfN; omega
          have hl : lfN G q < G.rules.length := by unfold lfN; omega
          rw [hll] at q0
          have Hcs := hide (chL_snoc (lfN G) (rs.take i) q c)
          have Hfs := hide (fnL_snoc (lfN G) (rs.take i) q c)
          have HT := hide (take_any lb G.rules.length (lfN G q) _ (by omega) wr hI.left)
          rw [decide_eq_true hl, Bool.true_and] at HT
          have hnq : (q : Int) < G.prods.length := by omega
          have hcl2 := chL_cl (lf := lfN G) (rs.take i) c hcl (lfN G q)
          have HI := hide hI
          have hbl2 := hI.by_.lt
          have hs6 := hI.fr.1
          have hfl : (castL (fnL (lfN G) (rs.take i) c)).length ≤ 2048 := by
            rw [castL_len]
            have h1 := List.Nodup.length_le_of_subset (fnL_nodup (lfN G) (rs.take i) c) (l₂ := List.range G.rules.length) (fun r hr => by
              obtain ⟨_, k, hk, rfl⟩ := fnL_new _ _ _ _ hr
              have := hG.pl _ (mem_getP (unhide Hrsl k (List.mem_of_mem_take hk)))
              unfold Gm.nr at this
              exact List.mem_range.2 (by unfold lfN; omega))
            rw [List.length_range] at h1; omega
          clear hnr hgin hpl hll
          have Hout : Hid (∀ (w6 W8 : World) (v8 : Value) (c8 : Nat → Int) (f8 : List Nat), c8 = chL (lfN G) (rs.take (i + 1)) c → f8 = fnL (lfN G) (rs.take (i + 1)) c → W8.rowIs bb 3 G.rules.length (fun r => .int .i64 (c8 r)) → LeftAt W8 lb G.rules.length (fun r => decide (r < G.rules.length) && decide (c8 r < 0)) → W8.ownsRow w5.heap.size 3 1 v8 (castL f8).length (vints (castL f8)) → Fr (fun k => k = bb ∨ k = lb) w5 W8 → InI G w5 bb lb c (rs.take (i + 1)) v8 W8) := hide (by
            rintro w6 W8 v8 _ _ rfl rfl h1 h2 h3 h4
            exact ⟨h1, h2, h3, h4⟩)
          by_cases hneg : chL (lfN G) (rs.take i) c (lfN G q) < 0
          · rw [decide_eq_true hneg] at HT
            have Hc8 : Hid (upZ (chL (lfN G) (rs.take i) c) (lfN G q) q = chL (lfN G) (rs.take (i + 1)) c) := hide (by rw [unhide HTs, unhide Hcs, if_pos hneg])
            have Hf8 : Hid (fnL (lfN G) (rs.take i) c ++ [lfN G q] = fnL (lfN G) (rs.take (i + 1)) c) := hide (by rw [unhide HTs, unhide Hfs, if_pos hneg])
            clear Hcs Hfs HTs hI
            obtain ⟨i3, hi3, hz30, hz31, hz32⟩ := info_parts info3
            have Hneg := hide hneg
            clear hneg
            go_wp2_with fail
            refine (unhide HT).mono ?_
            rintro e w6 ⟨rfl, hleft6, hf6⟩
            have hI := unhide HI
            have hby6 := hI.by_.of_block (hf6.2.1 bb hbl2 hne)
            have hfd6 := own_blk hI.fd (fun k hk => hf6.2.1 k (hI.fd.lt k hk).2 (fun e => by have e : k = lb := e; have := (hI.fd.lt k hk).1; omega))
            have hF6 := fr_t hI.fr (fr_mono hf6 (fun k _ h => .inr h))
            have hfz := hby6.frozen (lfN G q)
            have hcz := hby6.cell hl
            have hbl6 := hby6.lt
            have hset : Fr (· = bb) w6 (w6.setCell ⟨bb, lfN G q, none⟩ (.int .i64 (q : Int))) := fr_set (fr_refl _ _) (by rfl) _
            have hby7 : (w6.setCell ⟨bb, lfN G q, none⟩ (.int .i64 (q : Int))).rowIs bb 3 G.rules.length (fun r => .int .i64 (upZ (chL (lfN G) (rs.take i) c) (lfN G q) q r)) := (hby6.set (lfN G q) _).congr (fun r _ => by unfold upZ; split <;> rfl)
            have hleft7 := left_blk hleft6 (hset.2.1 lb (left_lt hleft6) (fun e => hne e.symm))
            have hfd7 := own_blk hfd6 (fun k hk => hset.2.1 k (hfd6.lt k hk).2 (fun e => by have e : k = bb := e; have := (hfd6.lt k hk).1; omega))
            have hF7 : Fr (fun k => k = bb ∨ k = lb) w5 (w6.setCell ⟨bb, lfN G q, none⟩ (.int .i64 (q : Int))) := fr_t hF6 (fr_mono hset (fun k _ h => .inl h))
            have hs7 := hF7.1
            have HE := hide (And.intro hby7 (And.intro hleft7 (And.intro hfd7 hF7)))
            clear hby6 hleft6 hfd6 hF6 hf6 hset hby7 hleft7 hfd7 hF7 hI
            go_wp2_with (at_builtin; refine wpList_append_own _ rfl _ _ 27 rfl w5.heap.size 3 i3 (.int .i64 0) 1 8 Tryz.underlying27 hi3 hz30 hz31 hz32 rfl (by decide) _ _ _ rfl ((unhide HE).2.2.1.alloc _) ⟨w6.heap.size, 0, none⟩ 1 1 [.int .i64 (lfN G q : Int)] rfl rfl ?zc1 ?zc2 ?zc3 ?zc4 ?zc5 ?_)
            case zc1 => intro j u hu; have h := new1 (w6.setCell ⟨bb, lfN G q, none⟩ (.int .i64 (q : Int))) (.int .i64 (lfN G q : Int)) 3 j u hu; simpa using h
            case zc2 => intro u hu; simp at hu; rcases hu with rfl; rfl
            case zc3 => unfold maxLen; omega
            case zc4 => omega
            case zc5 => simp at hs7 ⊢; omega
            intro v' W3 hown' hgrow _
            obtain ⟨e1, e2, e3, e4⟩ := unhide HE
            have hb3 : Below w5.heap.size (w6.setCell ⟨bb, lfN G q, none⟩ (.int .i64 (q : Int))) W3 := ((Below.refl _ _).alloc (by simp at hs7 ⊢; omega) _).grown hgrow (by simp at hs7 ⊢; omega) (fun k hk => (e3.lt k hk).1)
            have HN := hide (unhide Hout w6 W3 v' _ _ (unhide Hc8) (unhide Hf8) (e1.of_block (hb3.block bb hbb5)) (by
              obtain ⟨D, h1, h2⟩ := left_blk e2 (hb3.block lb hlb5)
              refine ⟨D, h1, fun r => ?_⟩
              rw [h2 r]
              show (if r = lfN G q then false else _) = (_ && decide (upZ (chL (lfN G) (rs.take i) c) (lfN G q) q r < 0))
              by_cases e : r = lfN G q
              · subst e
                rw [if_pos rfl, upZ_self, show decide ((q : Int) < 0) = false from decide_eq_false (by omega), Bool.and_false]
              · rw [if_neg e, upZ_ne e]) (by
              have e5 : castL (fnL (lfN G) (rs.take i) c ++ [lfN G q]) = castL (fnL (lfN G) (rs.take i) c) ++ [(lfN G q : Int)] := by unfold castL; rw [List.map_append]; rfl
              rw [e5, ← vints_snoc, List.length_append]; exact hown') (fr_hi e4 hb3 (Nat.le_refl _)))
            clear hown' hgrow hb3 e1 e2 e3 e4
            go_wp2
            go_roundw
            case rel => exact ⟨i + 1, by go_num, by omega, unhide HN⟩
            case measure => simp [intOf]; omega
          · rw [decide_eq_false hneg] at HT
            have Hc8 : Hid (chL (lfN G) (rs.take i) c = chL (lfN G) (rs.take (i + 1)) c) := hide (by rw [unhide HTs, unhide Hcs, if_neg hneg])
            have Hf8 : Hid (fnL (lfN G) (rs.take i) c = fnL (lfN G) (rs.take (i + 1)) c) := hide (by rw [unhide HTs, unhide Hfs, if_neg hneg, List.append_nil])
            have Hneg : Hid (decide (chL (lfN G) (rs.take i) c (lfN G q) < 0) = false) := hide (decide_eq_false hneg)
            clear hI hneg
            go_wp2_with fail
            refine (unhide HT).mono ?_
            rintro e w6 ⟨rfl, hleft6, hf6⟩
            have hI := unhide HI
            have HN := hide (unhide Hout w6 w6 _ _ _ (unhide Hc8) (unhide Hf8) (hI.by_.of_block (hf6.2.1 bb hbl2 hne)) (by
              obtain ⟨D, h1, h2⟩ := hleft6
              refine ⟨D, h1, fun r => ?_⟩
              rw [h2 r]
              show (if r = lfN G q then false else _) = _
              by_cases e : r = lfN G q
              · subst e; rw [if_pos rfl]; show false = (_ && decide (chL (lfN G) (rs.take i) c (lfN G q) < 0)); rw [unhide Hneg, Bool.and_false]
              · rw [if_neg e]) (own_blk hI.fd (fun k hk => hf6.2.1 k (hI.fd.lt k hk).2 (fun e => by have e : k = lb := e; have := (hI.fd.lt k hk).1; omega))) (fr_t hI.fr (fr_mono hf6 (fun k _ h => .inr h))))
            clear hleft6 hf6 hI
            go_wp2
            go_roundw
            case rel => exact ⟨i + 1, by go_num, by omega, unhide HN⟩
            case measure => simp [intOf]; omega
        · obtain rfl : i = nd := by omega
          have e1 : rs.take i = rs := by rw [← hsl']; exact List.take_length
          rw [e1] at hI ⊢
          obtain ⟨hms5, hfr5, hinv⟩ := unhide HB
          have hb5 := hI.fr
          have hmsW := own_blk hms5 (fun k hk => hI.fr.2.1 k (by have := (hMw k hk).2; have := hfr5.1; omega) (fun h => by have := (hMw k hk).2; rcases h with h | h <;> omega))
          have hfrW : Fr (fun k => (Value.slice ma ml.length mc).ownBlock = some k) w wr := ⟨Nat.le_trans hfr5.1 hI.fr.1, fun k hk ho => (hI.fr.2.1 k (by have := hfr5.1; omega) (fun h => by rcases h with h | h <;> omega)).trans (hfr5.2.1 k hk ho), hI.fr.2.2.1.trans hfr5.2.2.1, hI.fr.2.2.2.1.trans hfr5.2.2.2.1, hI.fr.2.2.2.2.trans hfr5.2.2.2.2⟩
          have hgW := unhide HKg wr hfrW
          obtain ⟨_, _, hfe, hfn⟩ := own_nrow hI.fd
          cases hfe
          have hfr' : ∀ r, r ∈ fnL (lfN G) rs c → r < G.rules.length := fun r hr => by
            obtain ⟨_, k, hk, rfl⟩ := fnL_new _ _ _ _ hr
            have := hG.pl _ (mem_getP (unhide Hrsl k hk))
            unfold Gm.nr at this
            unfold lfN; omega
          have hfl : (fnL (lfN G) rs c).length ≤ 2048 := by
            have h1 := List.Nodup.length_le_of_subset (fnL_nodup (lfN G) rs c) (l₂ := List.range G.rules.length) (fun r hr => List.mem_range.2 (hfr' r hr))
            rw [List.length_range] at h1; omega
          have hmb' : ∀ q, -1048576 ≤ atZ ml' q ∧ atZ ml' q ≤ 1048576 := fun q => by
            by_cases hq : q < G.prods.length
            · rw [hinv.mi q hq]
              have h1 := hmb q
              have h2 : (rlN G q).countP (fd c) ≤ (rlN G q).length := List.countP_le_length
              have h3 : (rlN G q).length ≤ 64 := by
                unfold rlN
                rw [List.length_map]
                have h4 := rulesL_len (nk := G.nk) (G.prods.getD q pd0).right
                have h5 := hG.pr _ (mem_getP hq)
                omega
              omega
            · rw [hz' q (by omega)]; omega
          have hl'' : ml'.length = G.prods.length := by rw [hl']; exact unhide Hml
          have hfb : ∀ x, va = some x → (Value.slice ma ml.length mc).ownBlock ≠ some x.block := fun x hx h => by
            have h1 := (hMw _ h).2
            have h2 := (hI.fd.lt x.block (by rw [hx]; rfl)).1
            have := hfr5.1
            omega
          have HRB := hide (readyBy_any G hG ka pa ra qa kc pc rc qc gb ob ub M va vc (fnL (lfN G) rs c) hfl hfr' (.slice ma ml.length mc) ml' hl'' hmb' wr (by have := hfrW.1; omega) hgW hfn hmsW hfb)
          have HI := hide hI
          have HC := hide (And.intro hfrW hinv)
          rw [castL_len] at *
          clear hI hms5 hfr5 hinv hmsW hfrW hgW hfn hb5
          go_wp2_with fail
          refine (unhide HRB).mono ?_
          rintro e w7 ⟨v7, rfl, hrd7, ⟨ml7, hl7, hd7, hms7⟩, hfr7⟩
          have hI := unhide HI
          obtain ⟨hfrW, hinv⟩ := unhide HC
          have hbW := hI.by_.lt
          have hlW := left_lt hI.left
          have hby7 := hI.by_.of_block (hfr7.2.1 bb hbW (fun h => by have := (hMw _ h).2; omega))
          have hinv2 := rinv_step hm0 (fun q r hq => useN_count (G := G) (r := r) hq) (fun q r h => useN_lt (G := G) (r := r) h) (rinv_perm hinv hsn hsm)
          have hc2 := round_is hinv hup hsm
          have hR7 : RoI G M w (.slice ma ml.length mc) ml bb lb (chL (lfN G) rs c) (dcR ((fnL (lfN G) rs c).flatMap (useN G)) (atZ ml')) v7 w7 := by
            refine ⟨hby7, left_blk hI.left (hfr7.2.1 lb hlW (fun h => by have := (hMw _ h).2; omega)), ⟨ml7, hl7.trans hl', by rw [hd7]; exact hinv2, hms7, fun q hq => ?_⟩, ⟨wr.heap.size, hbW, hlW, hfrW.1, hfr7.1, hrd7⟩, ⟨n + 1, ?_⟩, chL_cl rs c hcl, fr_t hfrW hfr7⟩
            · rw [hd7, dcM_is, hz' q hq]
              have : ((fnL (lfN G) rs c).flatMap (useN G)).count q = 0 := List.count_eq_zero.2 (fun hm => by
                obtain ⟨r, _, hr⟩ := List.mem_flatMap.1 hm
                have := useN_lt hr; omega)
              rw [this]; rfl
            · rw [hc2]
              show _ = stT _ _ _ _ (stN _ _ _ _ n)
              rw [← unhide Hst]
          obtain ⟨ga, gc, rfl⟩ := own_form hrd7
          have hcnt7 : cntNeg (numW w7 bb) G.rules.length = cntNeg (chL (lfN G) rs c) G.rules.length := cntNeg_congr _ (fun r hr => numW_is hby7 r hr)
          have hup2 : ∀ r, r < G.rules.length → 0 ≤ c r → 0 ≤ chL (lfN G) rs c r := fun r _ h => by rw [chL_keep _ _ _ _ h]; exact h
          have Hme : Hid (2 * cntNeg (numW w7 bb) G.rules.length + (if (castL (dcR ((fnL (lfN G) rs c).flatMap (useN G)) (atZ ml'))).length = 0 then 0 else 1) < 2 * cntNeg c G.rules.length + 1) := hide (by
            rw [hcnt7]
            by_cases hfe : fnL (lfN G) rs c = []
            · rw [hfe]
              have h1 := cntNeg_le (f := c) (g := chL (lfN G) rs c) G.rules.length hup2
              rw [if_pos (by rfl)]
              omega
            · obtain ⟨r, hr⟩ := List.exists_mem_of_ne_nil _ hfe
              have h0 := (fnL_new _ _ _ _ hr).1
              have h1 := (chL_mem (lfN G) rs c r h0).2 hr
              have h2 := cntNeg_lt G.rules.length hup2 r (hfr' r hr) h0 h1
              split <;> omega)
          have HR7 := hide hR7
          clear hrd7 hms7 hd7 hfr7 hI hfrW hinv hby7 hinv2 hc2 hR7 hcnt7
          go_wp2
          go_roundw
          case rel => exact ⟨_, _, unhide HR7⟩
          case measure =>
            have h := unhide Hme
            have hb1 : (if lenV (Value.slice ua (castL rd).length uc) = 0 then 0 else 1) = 1 := if_neg (by show ¬ (castL rd).length = 0; rw [castL_len]; omega)
            rw [hcnt, hb1]
            exact h
end Go.Proofs.YtagohbpbgjelaaaGreatDoor

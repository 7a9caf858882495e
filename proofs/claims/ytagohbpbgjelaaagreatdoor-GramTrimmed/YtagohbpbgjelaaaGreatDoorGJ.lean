/- The code's places, areFound. -/
import Derived.Test.YtagohbpbgjelaaaGreatDoorGI
import Derived.Test.YtagohbpbgjelaaaGreatDoorRO
import Derived.Test.YtagohbpbgjelaaaGreatDoorRG
import Derived.Maps.OwnSet
namespace Go.Proofs.YtagohbpbgjelaaaGreatDoor
open Go.RowKit

def plcTo (l : List Int) (x : Int) : Nat → List Int
  | 0 => []
  | k + 1 => plcTo l x k ++ if l.getD k 0 = x then [(k : Int)] else []
theorem plcTo_len (l : List Int) (x : Int) : ∀ k, (plcTo l x k).length ≤ k
  | 0 => by simp [plcTo]
  | k + 1 => by unfold plcTo; rw [List.length_append]; have := plcTo_len l x k; split <;> simp <;> omega
theorem plcTo_is (l : List Int) (x : Int) : ∀ k, plcTo l x k = ((List.range k).filter fun q => decide (l.getD q 0 = x)).map fun (q : Nat) => (q : Int)
  | 0 => rfl
  | k + 1 => by
    unfold plcTo
    rw [plcTo_is l x k, List.range_succ, List.filter_append, List.map_append]
    congr 1
    by_cases h : l.getD k 0 = x
    · rw [if_pos h, List.filter_cons_of_pos (by simpa using h)]; rfl
    · rw [if_neg h, List.filter_cons_of_neg (by simpa using h)]; rfl
set_option maxHeartbeats 1000000 in
set_option maxRecDepth 100000 in
theorem places_any (a : Option Addr) (cap : Nat) (l : List Int) (x : Int) (hn : l.length ≤ 1048576) (w : World) (hrow : NRow w.heap.size w a l) :
    Calls Tryz.prog 124 #[.slice a l.length cap, .int .i64 x] w fun e w' => ∃ v, e = .returned v ∧ w'.ownsRow w.heap.size 3 1 v (plcTo l x l.length).length (vints (plcTo l x l.length)) ∧ Below w.heap.size w w' := by
  obtain ⟨i0, hi, hz0, hz1, hz2⟩ := info_parts info3
  have Hrow := hide hrow
  clear hrow
  go_enter Tryz.func124, Tryz.ntmps124
  go_wp2
  go_loopw [5, 10] (fun u y wr => ∃ k : Nat, y = .int .i64 k ∧ k ≤ l.length ∧ wr.ownsRow w.heap.size 3 1 u (plcTo l x k).length (vints (plcTo l x k)) ∧ Below w.heap.size w wr) (fun _ y _ => l.length - (intOf y).toNat)
  case atStart => exact ⟨0, rfl, Nat.zero_le _, World.ownsRow_nil _ _ _ _, Below.refl _ _⟩
  case round =>
    obtain ⟨k, rfl, hk, hown, hb⟩ := hrel
    obtain ⟨ua, uc, rfl⟩ := own_form hown
    have hsz := hb.size
    have hle := plcTo_len l x k
    have Hown := hide hown; have Hb := hide hb
    clear hown hb
    by_cases hlt : k < l.length
    · have hlt' : (k : Int) < l.length := by omega
      obtain ⟨b, off, rfl, hbl, hc⟩ := nrow_at (nrow_kept (unhide Hb) (unhide Hrow)) hlt
      have Hs : Hid (plcTo l x (k + 1) = plcTo l x k ++ if l.getD k 0 = x then [(k : Int)] else []) := hide rfl
      generalize l.getD k 0 = y at *
      by_cases hy : y = x
      · subst hy
        have hyy : (y == y) = true := by simp
        rw [if_pos rfl] at Hs
        generalize plcTo l y k = acc at *
        go_wp2_with (at_builtin; refine wpList_append_own _ rfl _ _ 27 rfl w.heap.size 3 i0 (.int .i64 0) 1 8 Tryz.underlying27 hi hz0 hz1 hz2 rfl (by decide) _ _ _ rfl ((unhide Hown).alloc _) ⟨wr.heap.size, 0, none⟩ 1 1 [.int .i64 (k : Int)] rfl rfl ?zc1 ?zc2 ?zc3 ?zc4 ?zc5 ?_)
        case zc1 => exact new1 _ _ _
        case zc2 => intro u hu; simp at hu; rcases hu with rfl; rfl
        case zc3 => unfold maxLen; omega
        case zc4 => omega
        case zc5 => simp; omega
        intro v' W3 hown' hgrow _
        have Hb4 := hide (((unhide Hb).alloc hsz _).grown hgrow (by simp; omega) (fun j hj => ((unhide Hown).lt j hj).1))
        have Ho4 := hide (show W3.ownsRow w.heap.size 3 1 v' (plcTo l y (k + 1)).length (vints (plcTo l y (k + 1))) by rw [unhide Hs, ← vints_snoc, List.length_append]; exact hown')
        clear hown' hgrow
        go_wp2
        go_roundw
        case rel => exact ⟨k + 1, by go_num, by omega, unhide Ho4, unhide Hb4⟩
        case measure => simp [intOf]; omega
      · have hyy : (y == x) = false := by simpa using hy
        rw [if_neg hy, List.append_nil] at Hs
        go_wp2
        go_roundw
        case rel => exact ⟨k + 1, by go_num, by omega, by rw [unhide Hs]; exact unhide Hown, unhide Hb⟩
        case measure => simp [intOf]; omega
    · obtain rfl : k = l.length := by omega
      go_wp2
      go_ret
      exact ⟨_, rfl, unhide Hown, unhide Hb⟩
def fdM (l : List Int) : Nat → Bool := fun r => decide (l.getD r 0 ≠ -1)
set_option maxHeartbeats 1000000 in
set_option maxRecDepth 100000 in
theorem areFound_any (a : Option Addr) (cap : Nat) (l : List Int) (hn : l.length ≤ 1048576) (w : World) (hrow : NRow w.heap.size w a l) :
    Calls Tryz.prog 85 #[.slice a l.length cap] w fun e w' => ∃ b, e = .returned (.slice (some ⟨b, 0, none⟩) l.length l.length) ∧ w'.rowIs b 4 l.length (fun r => .bool (fdM l r)) ∧ w.heap.size ≤ b ∧ Below w.heap.size w w' := by
  have hmk := fun w => run_make_row' (P := Tryz.prog) 28 4 (.bool false) 1 Tryz.underlying28 info4 rfl .i64 .i64 l.length (by omega) (by omega) w
  have Hrow := hide hrow
  clear hrow
  have hnot := run_not
  go_enter Tryz.func85, Tryz.ntmps85
  go_wp2
  have Hz := hide (World.rowIs_made w (.bool false) l.length 4)
  go_loopw [11] (fun y wr => ∃ k : Nat, y = .int .i64 k ∧ k ≤ l.length ∧ wr.rowIs w.heap.size 4 l.length (fun r => .bool (decide (r < k) && fdM l r)) ∧ Below w.heap.size w wr) (fun y _ => l.length - (intOf y).toNat)
  case atStart => exact ⟨0, rfl, Nat.zero_le _, (unhide Hz).congr (fun i _ => by simp), (Below.refl _ _).alloc (Nat.le_refl _) _⟩
  case round =>
    obtain ⟨k, rfl, hk, hr, hb⟩ := hrel
    have hsz := hb.size
    have hlb := hr.lt
    have Hb := hide hb
    clear hb Hz
    by_cases hlt : k < l.length
    · have hlt' : (k : Int) < l.length := by omega
      obtain ⟨b, off, rfl, hbl, hc⟩ := nrow_at (nrow_kept (unhide Hb) (unhide Hrow)) hlt
      have hfz := hr.frozen k
      have hcl := hr.cell hlt
      have Hr2 := hide (show (wr.setCell ⟨w.heap.size, k, none⟩ (.bool (l.getD k 0 != -1))).rowIs w.heap.size 4 l.length (fun r => .bool (decide (r < k + 1) && fdM l r)) from (hr.set k _).congr (fun i _ => by
        by_cases e : i = k
        · subst e; rw [if_pos rfl]; unfold fdM; simp; rw [Bool.eq_iff_iff]; simp
        · rw [if_neg e]
          have h1 : decide (i < k) = decide (i < k + 1) := by rw [decide_eq_decide]; omega
          rw [h1]))
      have Hb2 := hide ((unhide Hb).setCell (p := ⟨w.heap.size, k, none⟩) (Nat.le_refl _) (.bool (l.getD k 0 != -1)))
      generalize l.getD k 0 = y at *
      clear hr
      go_wp2
      go_roundw
      case rel => exact ⟨k + 1, by go_num, by omega, unhide Hr2, unhide Hb2⟩
      case measure => simp [intOf]; omega
    · obtain rfl : k = l.length := by omega
      have Hr2 := hide (hr.congr (g := fun r => .bool (fdM l r)) (fun i hi => by simp [hi]))
      clear hr
      go_wp2
      go_ret
      exact ⟨w.heap.size, rfl, unhide Hr2, Nat.le_refl _, unhide Hb⟩
end Go.Proofs.YtagohbpbgjelaaaGreatDoor

namespace Go.Proofs.YtagohbpbgjelaaaGreatDoor
open Go.RowKit

theorem own_store {W : World} {B g n c : Nat} {l : List Int} (h : W.ownsRow B 3 1 (.slice (some ⟨g, 0, none⟩) n c) n (vints l)) (i : Nat) (x : Int) : (W.setCell ⟨g, i, none⟩ (.int .i64 x)).ownsRow B 3 1 (.slice (some ⟨g, 0, none⟩) n c) n (vints (l.set i x)) := by
  obtain ⟨h1, h2⟩ := h
  rcases h2 with ⟨hv, _⟩ | ⟨g', cap, cur, hv, hb, hh, hn, hm, hs, ht⟩
  · cases hv
  · cases hv
    refine ⟨by rw [vints_len, List.length_set]; rw [vints_len] at h1; exact h1, .inr ⟨g, c, cur.setIfInBounds i (.int .i64 x), rfl, hb, Wk.block_set hh _, hn, hm, by simpa using hs, ?_⟩⟩
    rw [Array.toList_setIfInBounds, List.take_set, ht]
    unfold vints
    rw [List.map_set]
theorem own_at {W : World} {B : Nat} {v : Value} {l : List Int} (h : W.ownsRow B 3 1 v l.length (vints l)) {i : Nat} (hi : i < l.length) : ∃ g c, v = .slice (some ⟨g, 0, none⟩) l.length c ∧ g < W.heap.size ∧ W.cell? ⟨g, i, none⟩ = some (.int .i64 (l.getD i 0)) ∧ W.frozen? ⟨g, i, none⟩ = false := by
  obtain ⟨g, c, hv, -, hlt, -⟩ := Wk.own_pos h (by omega)
  subst hv
  refine ⟨g, c, rfl, hlt, ?_, ?_⟩
  · rw [Wk.own_cell h rfl i (by rw [vints_len]; exact hi)]
    unfold vints
    simp [List.getD_eq_getElem?_getD, hi]
  · exact h.frozenAt i
def atZ (l : List Int) : Nat → Int := fun q => l.getD q 0
theorem atZ_set {l : List Int} {i : Nat} {x : Int} (hi : i < l.length) : atZ (l.set i x) = upZ (atZ l) i x := by
  funext j
  unfold atZ upZ
  by_cases e : j = i
  · subst e; simp [List.getD_eq_getElem?_getD, hi]
  · rw [if_neg e]; simp [List.getD_eq_getElem?_getD, Ne.symm e]
def useN (G : Gm) (r : Nat) : List Nat := (List.range G.prods.length).flatMap fun i => List.replicate ((rulesL G.nk (G.prods.getD i pd0).right).count (r : Int)) i
def castL (l : List Nat) : List Int := l.map fun (r : Nat) => (r : Int)
theorem castL_len (l : List Nat) : (castL l).length = l.length := by simp [castL]
theorem castL_get {l : List Nat} {i : Nat} (h : i < l.length) : (castL l).getD i 0 = ((l.getD i 0 : Nat) : Int) := by
  unfold castL; rw [List.getD_eq_getElem?_getD, List.getElem?_map, List.getD_eq_getElem?_getD, List.getElem?_eq_getElem h]; rfl
theorem useN_is (G : Gm) (r : Nat) : useTo G G.prods.length r = castL (useN G r) := by
  unfold useTo useN castL
  rw [List.map_flatMap]
  congr 1
  funext i
  simp
theorem useN_lt {G : Gm} {r q : Nat} (h : q ∈ useN G r) : q < G.prods.length := by
  unfold useN at h
  obtain ⟨i, hi, hq⟩ := List.mem_flatMap.1 h
  have := (List.mem_replicate.1 hq).2
  have := List.mem_range.1 hi
  omega
theorem useN_len {G : Gm} (hG : GOk G) (r : Nat) : (useN G r).length ≤ 262144 := by
  have h1 := useTo_len hG r G.prods.length (Nat.le_refl _)
  rw [useN_is, castL_len] at h1
  have := hG.ps
  omega
theorem take_snocN (l : List Nat) (i : Nat) (h : i < l.length) : l.take (i + 1) = l.take i ++ [l.getD i 0] := take_snoc l i 0 h
theorem getD_memN {l : List Nat} {i : Nat} (h : i < l.length) : l.getD i 0 ∈ l := by
  rw [List.getD_eq_getElem?_getD, List.getElem?_eq_getElem h]; exact List.getElem_mem h
def doneP (G : Gm) (found : List Nat) (i : Nat) : List Nat := (found.take i).flatMap (useN G)
theorem doneP_succ {G : Gm} {found : List Nat} {i : Nat} (h : i < found.length) : doneP G found (i + 1) = doneP G found i ++ useN G (found.getD i 0) := by
  unfold doneP; rw [take_snocN _ _ h, List.flatMap_append]; simp
theorem doneP_len {G : Gm} (hG : GOk G) (found : List Nat) : ∀ i, i ≤ found.length → (doneP G found i).length ≤ i * 262144
  | 0, _ => by simp [doneP]
  | i + 1, h => by
    rw [doneP_succ (by omega), List.length_append]
    have := doneP_len hG found i (by omega)
    have := useN_len hG (found.getD i 0)
    omega
theorem dcR_lt {P : List Nat} {m : Nat → Int} {q : Nat} (h : q ∈ dcR P m) : q ∈ P := by
  have := (dcR_mem P m q).1 h
  exact List.count_pos_iff.1 (by omega)
theorem dcR_len {n : Nat} (P : List Nat) (m : Nat → Int) (h : ∀ q, q ∈ P → q < n) : (dcR P m).length ≤ n := by
  have hnd := dcR_nodup P m
  have := List.Nodup.length_le_of_subset hnd (l₂ := List.range n) (fun q hq => List.mem_range.2 (h q (dcR_lt hq)))
  simpa using this
theorem dcM_snoc (P : List Nat) (m : Nat → Int) (q : Nat) : dcM (P ++ [q]) m = upZ (dcM P m) q (dcM P m q - 1) := by rw [dcM_append]; rfl
theorem dcR_snoc (P : List Nat) (m : Nat → Int) (q : Nat) : dcR (P ++ [q]) m = dcR P m ++ if dcM P m q - 1 = 0 then [q] else [] := by rw [dcR_append]; simp [dcR]
structure RdI (M : Nat) (w : World) (mv : Value) (ml : List Int) (P : List Nat) (u : Value) (W : World) : Prop where
  rd : W.ownsRow w.heap.size 3 1 u (castL (dcR P (atZ ml))).length (vints (castL (dcR P (atZ ml))))
  ms : ∃ ml', ml'.length = ml.length ∧ atZ ml' = dcM P (atZ ml) ∧ W.ownsRow M 3 1 mv ml'.length (vints ml')
  fr : Fr (fun k => mv.ownBlock = some k) w W
set_option maxHeartbeats 2000000 in
set_option maxRecDepth 100000 in
theorem readyBy_any (G : Gm) (hG : GOk G) (ka pa ra qa : Option Addr) (kc pc rc qc gb ob ub : Nat) (M : Nat) (fa : Option Addr) (fc : Nat) (found : List Nat) (hfl : found.length ≤ 2048) (hfr : ∀ r, r ∈ found → r < G.rules.length) (mv : Value) (ml : List Int) (hml : ml.length = G.prods.length) (hmb : ∀ q, -1048576 ≤ atZ ml q ∧ atZ ml q ≤ 1048576)
    (w : World) (hM : M ≤ w.heap.size) (hg : GrAt M w G ka kc pa pc ra rc qa qc gb ob ub) (hf : NRow w.heap.size w fa (castL found)) (hm : w.ownsRow M 3 1 mv ml.length (vints ml)) (hfm : ∀ x, fa = some x → mv.ownBlock ≠ some x.block) :
    Calls Tryz.prog 109 #[.pointer (some ⟨gb, 0, none⟩), .slice fa found.length fc, mv] w fun e w' => ∃ v, e = .returned v ∧ RdI M w mv ml (found.flatMap (useN G)) v w' := by
  obtain ⟨i3, hi3, hz30, hz31, hz32⟩ := info_parts info3
  obtain ⟨ma, mc, hmv⟩ := own_form hm
  have hps := hG.ps
  have hMO : ∀ k, mv.ownBlock = some k → M ≤ k := fun k hk => (hm.lt k hk).1
  have hMw : ∀ k, mv.ownBlock = some k → k < w.heap.size := fun k hk => (hm.lt k hk).2
  have HK : Hid (∀ W, Fr (fun k => mv.ownBlock = some k) w W → GrAt M W G ka kc pa pc ra rc qa qc gb ob ub ∧ NRow W.heap.size W fa (castL found)) := hide (fun W hF => by
    have hb : Below M w W := fr_below hF hM hMO
    refine ⟨gr_kept hg hb, ?_⟩
    rcases hf with h | ⟨b, o, h1, h2, h3⟩
    · exact .inl h
    · exact .inr ⟨b, o, h1, by have := hF.1; omega, fun j hj => (World.cell?_of_block (hF.2.1 b h2 (hfm _ h1))).trans (h3 j hj)⟩)
  have Hstart : Hid (RdI M w mv ml (doneP G found 0) (.slice none 0 0) w) := hide ⟨World.ownsRow_nil _ _ _ _, ⟨ml, rfl, rfl, hm⟩, fr_refl _ _⟩
  have Hmb := hide hmb; have Hfr := hide hfr; have Hml := hide hml
  have hml4 : ml.length ≤ 4096 := by omega
  clear hg hf hfm hmb hfr hm hml
  subst hmv
  go_enter Tryz.func109, Tryz.ntmps109
  go_wp2
  go_loopw [7, 14] (fun u x W => ∃ i : Nat, x = .int .i64 i ∧ i ≤ found.length ∧ RdI M w (.slice ma ml.length mc) ml (doneP G found i) u W) (fun _ x _ => found.length - (intOf x).toNat)
  case atStart => exact ⟨0, rfl, Nat.zero_le _, unhide Hstart⟩
  case round =>
    clear Hstart
    obtain ⟨i, rfl, hi, hR⟩ := hrel
    obtain ⟨hgr, hfn⟩ := unhide HK wr hR.fr
    obtain ⟨ua, uc, rfl⟩ := own_form hR.rd
    have HR := hide hR
    by_cases hlt : i < found.length
    · have hlt' : (i : Int) < found.length := by omega
      obtain ⟨fb, fo, rfl, hfb, hcf⟩ := nrow_at hfn (k := i) (by rw [castL_len]; exact hlt)
      rw [castL_get hlt] at hcf
      have hrl := unhide Hfr _ (getD_memN hlt)
      have HPs := hide (doneP_succ (G := G) hlt)
      have hPl := doneP_len hG found i hi
      generalize found.getD i 0 = r at *
      have c6 : wr.cell? ⟨gb, 6, none⟩ = some (.slice (some ⟨ub, 0, none⟩) G.rules.length G.rules.length) := by unfold World.cell?; rw [hgr.box]; rfl
      obtain ⟨Ou, htu, -⟩ := hgr.uses
      obtain ⟨xa, xc, tcu, hxn⟩ := tab_at htu hrl
      rw [useN_is] at tcu hxn
      rw [castL_len] at tcu
      have hul := useN_len hG r
      have hux : ∀ q, q ∈ useN G r → q < ml.length := fun q hq => by rw [unhide Hml]; exact useN_lt hq
      have hPx : ∀ q, q ∈ doneP G found i → q < ml.length := fun q hq => by
        rw [unhide Hml]
        unfold doneP at hq
        obtain ⟨s, -, hs⟩ := List.mem_flatMap.1 hq
        exact useN_lt hs
      have HX := hide (And.intro hux hPx)
      -- the rule's row stays
      have HY : Hid (∀ W, Below M wr W → NRow W.heap.size W xa (castL (useN G r))) := hide (fun W hbW => by
        have hF : Fr (fun k => M ≤ k) wr W := ⟨hbW.size, fun k _ hk => hbW.block k (by omega), hbW.os, hbW.tape, hbW.output⟩
        obtain ⟨Ou2, ⟨V, hV⟩, hOu⟩ := hgr.uses
        obtain ⟨a1, c1, e1, e2, -, e3⟩ := tabV_form hV hrl
        have hV2 := tabV_off hV hF (fun k hk hk2 => by have := hOu k hk; omega)
        obtain ⟨a2, c2, e4, e5, -, e6⟩ := tabV_form hV2 hrl
        rw [e1] at e4; cases e4
        rw [useN_is, castL_len] at e2
        rw [useN_is] at e6
        rw [tcu] at e2; cases e2
        exact e6)
      generalize useN G r = L at *
      clear hgr hfn htu hux hPx
      go_wp2
      go_loopw [7, 26] (fun u x W => ∃ j : Nat, x = .int .i64 j ∧ j ≤ L.length ∧ RdI M w (.slice ma ml.length mc) ml (doneP G found i ++ L.take j) u W ∧ Below M wr W) (fun _ x _ => L.length - (intOf x).toNat)
      case atStart => exact ⟨0, rfl, Nat.zero_le _, by simpa using unhide HR, Below.refl _ _⟩
      case round =>
        clear tcu c6 hcf HR
        obtain ⟨j, rfl, hj, hR, hFo⟩ := hrel
        obtain ⟨hrd, ⟨ml', hl', hd', hms⟩, hFr⟩ := hR
        obtain ⟨va, vc, rfl⟩ := own_form hrd
        have hxn2 := unhide HY wr hFo
        have hsz := hFr.1
        by_cases hjl : j < L.length
        · have hjl' : (j : Int) < L.length := by omega
          obtain ⟨xb, xo, rfl, hxb, hcx⟩ := nrow_at hxn2 (k := j) (by rw [castL_len]; exact hjl)
          rw [castL_get hjl] at hcx
          have hqm := (unhide HX).1 _ (getD_memN hjl)
          have HTs := hide (take_snocN L j hjl)
          have hPm : ∀ q, q ∈ doneP G found i ++ L.take j → q < ml.length := fun q hq => (List.mem_append.1 hq).elim ((unhide HX).2 q) (fun h => (unhide HX).1 q (List.mem_of_mem_take h))
          have hrl2 := dcR_len (doneP G found i ++ L.take j) (atZ ml) hPm
          have hPc : ∀ q, (((doneP G found i ++ L.take j).count q : Nat) : Int) ≤ 2048 * 262144 + 262144 := fun q => by
            have h1 : (doneP G found i ++ L.take j).count q ≤ (doneP G found i ++ L.take j).length := List.count_le_length
            rw [List.length_append, List.length_take] at h1
            omega
          generalize hq : L.getD j 0 = q at *
          have hqv : ml'.getD q 0 = atZ ml q - (((doneP G found i ++ L.take j).count q : Nat) : Int) := by
            have h1 : atZ ml' q = dcM (doneP G found i ++ L.take j) (atZ ml) q := by rw [hd']
            rw [dcM_is] at h1
            exact h1
          have hqb := unhide Hmb q
          have hqc := hPc q
          have Hdm := hide (dcM_snoc (doneP G found i ++ L.take j) (atZ ml) q)
          have Hdr := hide (dcR_snoc (doneP G found i ++ L.take j) (atZ ml) q)
          have Hdq : Hid (dcM (doneP G found i ++ L.take j) (atZ ml) q = ml'.getD q 0) := hide (by rw [← hd']; rfl)
          have HPj : Hid (doneP G found i ++ L.take (j + 1) = (doneP G found i ++ L.take j) ++ [q]) := hide (by rw [unhide HTs, List.append_assoc])
          generalize doneP G found i ++ L.take j = P at *
          obtain ⟨mg, mc', hmv, hmgl, hcm, hfz⟩ := own_at hms (i := q) (by omega)
          simp only [Value.slice.injEq] at hmv
          obtain ⟨rfl, -, rfl⟩ := hmv
          rw [hl'] at hms
          have hq0 : q < ml'.length := by omega
          have Hat := hide (fun x => atZ_set (l := ml') (i := q) (x := x) hq0)
          generalize hx : ml'.getD q 0 = x at *
          have hwx : IntKind.i64.wrap (x - 1) = x - 1 := by rw [IntKind.wrap_i64]; omega
          have hms1 := own_store hms q (x - 1)
          have hset : Fr (· = mg) wr (wr.setCell ⟨mg, q, none⟩ (.int .i64 (x - 1))) := fr_set (fr_refl _ _) (by rfl) _
          have hmgw : mg < w.heap.size := hMw mg rfl
          have hrd1 := own_frN hrd hset hmgw
          have hF1 : Fr (fun k => (Value.slice (some ⟨mg, 0, none⟩) ml.length mc).ownBlock = some k) w (wr.setCell ⟨mg, q, none⟩ (.int .i64 (x - 1))) := fr_set hFr (by rfl) _
          have hmgM : M ≤ mg := hMO mg rfl
          have hF2 := hFo.setCell (p := ⟨mg, q, none⟩) hmgM (.int .i64 (x - 1))
          have hlset : (ml'.set q (x - 1)).length = ml.length := by rw [List.length_set, hl']
          have c1 : (wr.setCell ⟨mg, q, none⟩ (.int .i64 (x - 1))).cell? ⟨mg, q, none⟩ = some (.int .i64 (x - 1)) := by
            have h2 := hms1
            rw [← hlset] at h2
            obtain ⟨mg2, mc2, e1, -, e2, -⟩ := own_at h2 (i := q) (by omega)
            simp only [Value.slice.injEq, Option.some.injEq, Addr.mk.injEq] at e1
            obtain ⟨⟨rfl, -⟩, -, rfl⟩ := e1
            rw [e2]
            simp [List.getD_eq_getElem?_getD, hq0]
          have hmlq : (q : Int) < ml.length := by omega
          have Hnext : Hid (∀ (W' : World) (u' : Value), W'.ownsRow w.heap.size 3 1 u' (castL (dcR (P ++ [q]) (atZ ml))).length (vints (castL (dcR (P ++ [q]) (atZ ml)))) → Below w.heap.size (wr.setCell ⟨mg, q, none⟩ (.int .i64 (x - 1))) W' → RdI M w (.slice (some ⟨mg, 0, none⟩) ml.length mc) ml (P ++ [q]) u' W' ∧ Below M _ W') := hide (fun W' u' ho hb => by
            refine ⟨⟨ho, ⟨ml'.set q (x - 1), hlset, ?_, ?_⟩, ?_⟩, ?_⟩
            · rw [unhide Hat, unhide Hdm, hd', unhide Hdq]
            · rw [hlset]
              obtain ⟨e1, e2⟩ := hms1
              refine ⟨by rw [e1], ?_⟩
              rcases e2 with e2 | ⟨g', cap', cur', e3, e4, e5, rest⟩
              · exact .inl e2
              · have : g' = mg := by cases e3; rfl
                subst this
                exact .inr ⟨g', cap', cur', e3, e4, (hb.block g' hmgw).trans e5, rest⟩
            · exact ⟨Nat.le_trans hF1.1 hb.size, fun k hk ho => (hb.block k hk).trans (hF1.2.1 k hk ho), hb.os.trans hF1.2.2.1, hb.tape.trans hF1.2.2.2.1, hb.output.trans hF1.2.2.2.2⟩
            · exact hF2.trans (below_le hb hM))
          have HT2 := hide (And.intro hrd1 hF1)
          have hle1 := hF1.1
          clear hms hms1 hrd hrd1 hF1 hF2 hFr hFo hset hxn2 hd' Hat Hdm HX HTs hPm hqv hqb hqc hPc hx
          by_cases hz : x - 1 = 0
          · have hzz : (x - 1 == 0) = true := by simpa using hz
            have Hdr2 : Hid (dcR (P ++ [q]) (atZ ml) = dcR P (atZ ml) ++ [q]) := hide (by rw [unhide Hdr, unhide Hdq, if_pos hz])
            clear hz
            generalize hA : castL (dcR P (atZ ml)) = A at *
            have hAl : A.length ≤ ml.length := by rw [← hA, castL_len]; exact hrl2
            go_wp2_with (at_builtin; refine wpList_append_own _ rfl _ _ 27 rfl w.heap.size 3 i3 (.int .i64 0) 1 8 Tryz.underlying27 hi3 hz30 hz31 hz32 rfl (by decide) _ _ _ rfl ((unhide HT2).1.alloc _) ⟨wr.heap.size, 0, none⟩ 1 1 [.int .i64 (q : Int)] rfl rfl ?zc1 ?zc2 ?zc3 ?zc4 ?zc5 ?_)
            case zc1 => intro j u hu; have h := new1 (wr.setCell ⟨mg, q, none⟩ (.int .i64 (x - 1))) (.int .i64 (q : Int)) 3 j u hu; simpa using h
            case zc2 => intro u hu; simp at hu; rcases hu with rfl; rfl
            case zc3 => unfold maxLen; omega
            case zc4 => omega
            case zc5 => simp; omega
            intro v' W3 hown' hgrow _
            have hb3 : Below w.heap.size (wr.setCell ⟨mg, q, none⟩ (.int .i64 (x - 1))) W3 := ((Below.refl _ _).alloc (by simp; omega) _).grown hgrow (by simp; omega) (fun k hk => ((unhide HT2).1.lt k hk).1)
            have HN := hide (unhide Hnext W3 v' (by
              have e1 : castL (dcR (P ++ [q]) (atZ ml)) = A ++ [(q : Int)] := by rw [unhide Hdr2, ← hA]; unfold castL; rw [List.map_append]; rfl
              rw [e1, ← vints_snoc, List.length_append]; exact hown') hb3)
            clear hown' hgrow hb3
            go_wp2
            go_roundw
            case rel => exact ⟨j + 1, by go_num, by omega, by rw [unhide HPj]; exact (unhide HN).1, (unhide HN).2⟩
            case measure => simp [intOf]; omega
          · have hzz : (x - 1 == 0) = false := by simpa using hz
            have Hdr2 : Hid (dcR (P ++ [q]) (atZ ml) = dcR P (atZ ml)) := hide (by rw [unhide Hdr, unhide Hdq, if_neg hz, List.append_nil])
            clear hz
            have HN := hide (unhide Hnext _ _ (by rw [unhide Hdr2]; exact (unhide HT2).1) (Below.refl _ _))
            go_wp2
            go_roundw
            case rel => exact ⟨j + 1, by go_num, by omega, by rw [unhide HPj]; exact (unhide HN).1, (unhide HN).2⟩
            case measure => simp [intOf]; omega
        · obtain rfl : j = L.length := by omega
          have e1 : L.take L.length = L := List.take_length
          have hRx : RdI M w (.slice ma ml.length mc) ml (doneP G found (i + 1)) (.slice va (castL (dcR (doneP G found i ++ L.take L.length) (atZ ml))).length vc) wr := by
            rw [unhide HPs]
            rw [e1] at hrd hd' ⊢
            exact ⟨hrd, ⟨ml', hl', hd', hms⟩, hFr⟩
          have HRx := hide hRx
          clear hrd hd' hms hFr hFo hxn2 hRx
          go_wp2
          go_roundw
          case rel => exact ⟨i + 1, by go_num, by omega, unhide HRx⟩
          case measure => simp [intOf]; omega
    · obtain rfl : i = found.length := by omega
      have hall : doneP G found found.length = found.flatMap (useN G) := by unfold doneP; rw [List.take_length]
      rw [hall] at HR hR ⊢
      clear hgr hfn
      go_wp2
      go_ret
      exact ⟨_, rfl, unhide HR⟩
end Go.Proofs.YtagohbpbgjelaaaGreatDoor

namespace Go.Proofs.YtagohbpbgjelaaaGreatDoor
open Go.RowKit

structure TsV (B : Nat) (w : World) (vb : Nat) (wv : Value) (n mb lb ib : Nat) (ov mv : Value) (vs : List Value) (s : Ts) : Prop where
  box : w.heap[vb]? = some (.cells #[wv, .int .i64 (s.count : Nat), .slice (some ⟨mb, 0, none⟩) n n, .slice (some ⟨lb, 0, none⟩) n n, ov, .slice (some ⟨ib, 0, none⟩) n n, mv] 212 (0, 0))
  met : w.rowIs mb 3 n (fun r => .int .i64 (s.met r : Nat))
  low : w.rowIs lb 3 n (fun r => .int .i64 (s.low r : Nat))
  isO : w.rowIs ib 4 n (fun r => .bool (s.isO r))
  opn : w.ownsRow B 3 1 ov s.opn.length (vints (castL s.opn))
  made : w.ownsRow B 27 1 mv s.made.length vs
  ring : ∀ (i : Nat) (a : List Nat), s.made[i]? = some a → ∃ (g c : Nat) (cs : Array Value), vs[i]? = some (.slice (some ⟨g, 0, none⟩) a.length c) ∧ B ≤ g ∧ g ≠ mb ∧ g ≠ lb ∧ ov.ownBlock ≠ some g ∧ w.heap[g]? = some (.cells cs 3 (0, 0)) ∧ ∀ j x : Nat, a[j]? = some x → cs[j]? = some (Value.int .i64 (x : Nat))
  ml : mb ≠ lb
  om : ov.ownBlock ≠ some mb
  ol : ov.ownBlock ≠ some lb
  b1 : B ≤ vb
  b2 : B ≤ mb
  b3 : B ≤ lb
  b4 : B ≤ ib
theorem blk_ne {w : World} {a b t u : Nat} {cs ds : Array Value} {f g : Nat × Nat} (h : w.heap[a]? = some (.cells cs t f)) (k : w.heap[b]? = some (.cells ds u g)) (hn : t ≠ u) : a ≠ b := fun e => by
  subst e; rw [h] at k; simp only [Option.some.injEq, Obj.cells.injEq] at k; exact hn k.2.1
theorem own_ty {w : World} {B e size n : Nat} {v : Value} {xs : List Value} (h : w.ownsRow B e size v n xs) {k : Nat} (hk : v.ownBlock = some k) : ∃ cs, w.heap[k]? = some (.cells cs e (0, 0)) := by
  rcases h.2 with ⟨rfl, _⟩ | ⟨g, cap, cur, rfl, _, hh, _⟩
  · simp [Value.ownBlock] at hk
  · simp only [Value.ownBlock, Option.some.injEq] at hk
    subst hk; exact ⟨_, hh⟩
theorem rowIs_ty {w : World} {b t n : Nat} {f : Nat → Value} (h : w.rowIs b t n f) : ∃ cs, w.heap[b]? = some (.cells cs t (0, 0)) := by obtain ⟨cs, h1, _⟩ := h; exact ⟨cs, h1⟩
theorem heap_other (w : World) {b o k : Nat} {v : Value} (h : k ≠ b) : (w.setCell ⟨b, o, none⟩ v).heap[k]? = w.heap[k]? := Below.heap_setCell w ⟨b, o, none⟩ v k h
theorem own_blkB {w w' : World} {B e s n : Nat} {v : Value} {xs : List Value} (h : w.ownsRow B e s v n xs) (hb : Below w.heap.size w w') : w'.ownsRow B e s v n xs := by
  refine ⟨h.1, ?_⟩
  rcases h.2 with h1 | ⟨g, cap, cur, hv, hg, hh, rest⟩
  · exact .inl h1
  · exact .inr ⟨g, cap, cur, hv, hg, (hb.block g (Array.getElem?_eq_some_iff.1 hh).1).trans hh, rest⟩
section
variable {B : Nat} {w w' : World} {vb : Nat} {wv : Value} {n mb lb ib : Nat} {ov mv : Value} {vs : List Value} {s : Ts}
theorem tsv_below (h : TsV B w vb wv n mb lb ib ov mv vs s) (hb : Below w.heap.size w w') : TsV B w' vb wv n mb lb ib ov mv vs s := by
  have hl : ∀ {k : Nat} {o : Obj}, w.heap[k]? = some o → w'.heap[k]? = some o := fun {k o} hk => (hb.block k (Array.getElem?_eq_some_iff.1 hk).1).trans hk
  refine ⟨hl h.box, h.met.of_block (hb.block _ h.met.lt), h.low.of_block (hb.block _ h.low.lt), h.isO.of_block (hb.block _ h.isO.lt), own_blkB h.opn hb, own_blkB h.made hb, fun i a ha => ?_, h.ml, h.om, h.ol, h.b1, h.b2, h.b3, h.b4⟩
  obtain ⟨g, c, cs, h1, h2, h3, h4, h5, h6, h7⟩ := h.ring i a ha
  exact ⟨g, c, cs, h1, h2, h3, h4, h5, hl h6, h7⟩
theorem ring_set (h : TsV B w vb wv n mb lb ib ov mv vs s) {b o : Nat} {v : Value} (hn : ∀ g cs, w.heap[g]? = some (.cells cs 3 (0, 0)) → g ≠ mb → g ≠ lb → ov.ownBlock ≠ some g → g ≠ b) (i : Nat) (a : List Nat) (ha : s.made[i]? = some a) : ∃ (g c : Nat) (cs : Array Value), vs[i]? = some (.slice (some ⟨g, 0, none⟩) a.length c) ∧ B ≤ g ∧ g ≠ mb ∧ g ≠ lb ∧ ov.ownBlock ≠ some g ∧ (w.setCell ⟨b, o, none⟩ v).heap[g]? = some (.cells cs 3 (0, 0)) ∧ ∀ j x : Nat, a[j]? = some x → cs[j]? = some (Value.int .i64 (x : Nat)) := by
  obtain ⟨g, c, cs, h1, h2, h3, h4, h5, h6, h7⟩ := h.ring i a ha
  exact ⟨g, c, cs, h1, h2, h3, h4, h5, (heap_other w (hn g cs h6 h3 h4 h5)).trans h6, h7⟩
theorem own_set {w : World} {B e s n : Nat} {v : Value} {xs : List Value} (h : w.ownsRow B e s v n xs) {b o : Nat} {u : Value} (hn : v.ownBlock ≠ some b) : (w.setCell ⟨b, o, none⟩ u).ownsRow B e s v n xs := by
  refine ⟨h.1, ?_⟩
  rcases h.2 with h1 | ⟨g, cap, cur, hv, hg, hh, rest⟩
  · exact .inl h1
  · exact .inr ⟨g, cap, cur, hv, hg, (heap_other w (fun e => hn (by rw [hv, ← e]; rfl))).trans hh, rest⟩
theorem own_other {w : World} {B e s n b t : Nat} {v : Value} {xs : List Value} {cs : Array Value} {f : Nat × Nat} (h : w.ownsRow B e s v n xs) (hb : w.heap[b]? = some (.cells cs t f)) (hn : e ≠ t) : v.ownBlock ≠ some b := fun hk => by
  obtain ⟨ds, hd⟩ := own_ty h hk
  exact blk_ne hd hb hn rfl
theorem tsv_box (h : TsV B w vb wv n mb lb ib ov mv vs s) {i c : Nat} {u : Value} {s' : Ts} (hc : i = 1 ∧ u = .int .i64 (c : Nat) ∧ s' = { s with count := c }) : TsV B (w.setCell ⟨vb, i, none⟩ u) vb wv n mb lb ib ov mv vs s' := by
  obtain ⟨rfl, rfl, rfl⟩ := hc
  obtain ⟨m1, hm⟩ := rowIs_ty h.met
  obtain ⟨l1, hl⟩ := rowIs_ty h.low
  obtain ⟨i1, hi⟩ := rowIs_ty h.isO
  refine ⟨?_, h.met.of_block (heap_other w (blk_ne hm h.box (by decide))), h.low.of_block (heap_other w (blk_ne hl h.box (by decide))), h.isO.of_block (heap_other w (blk_ne hi h.box (by decide))), own_set h.opn (own_other h.opn h.box (by decide)), own_set h.made (own_other h.made h.box (by decide)), ring_set h (fun g cs hg _ _ _ => blk_ne hg h.box (by decide)), h.ml, h.om, h.ol, h.b1, h.b2, h.b3, h.b4⟩
  have := Wk.block_set (i := 1) h.box (.int .i64 (c : Nat))
  simpa using this
theorem tsv_met (h : TsV B w vb wv n mb lb ib ov mv vs s) (r v : Nat) : TsV B (w.setCell ⟨mb, r, none⟩ (.int .i64 (v : Nat))) vb wv n mb lb ib ov mv vs { s with met := upN s.met r v } := by
  obtain ⟨m1, hm⟩ := rowIs_ty h.met
  obtain ⟨l1, hl⟩ := rowIs_ty h.low
  obtain ⟨i1, hi⟩ := rowIs_ty h.isO
  refine ⟨(heap_other w (blk_ne h.box hm (by decide))).trans h.box, (h.met.set r _).congr (fun i _ => ?_), h.low.of_block (heap_other w (fun e => h.ml e.symm)), h.isO.of_block (heap_other w (blk_ne hi hm (by decide))), own_set h.opn h.om, own_set h.made (own_other h.made hm (by decide)), ring_set h (fun g cs hg h1 _ _ => h1), h.ml, h.om, h.ol, h.b1, h.b2, h.b3, h.b4⟩
  show (if i = r then _ else _) = Value.int .i64 ((upN s.met r v i : Nat) : Int)
  unfold upN
  split <;> rfl
theorem tsv_low (h : TsV B w vb wv n mb lb ib ov mv vs s) (r v : Nat) : TsV B (w.setCell ⟨lb, r, none⟩ (.int .i64 (v : Nat))) vb wv n mb lb ib ov mv vs { s with low := upN s.low r v } := by
  obtain ⟨m1, hm⟩ := rowIs_ty h.met
  obtain ⟨l1, hl⟩ := rowIs_ty h.low
  obtain ⟨i1, hi⟩ := rowIs_ty h.isO
  refine ⟨(heap_other w (blk_ne h.box hl (by decide))).trans h.box, h.met.of_block (heap_other w h.ml), (h.low.set r _).congr (fun i _ => ?_), h.isO.of_block (heap_other w (blk_ne hi hl (by decide))), own_set h.opn h.ol, own_set h.made (own_other h.made hl (by decide)), ring_set h (fun g cs hg _ h1 _ => h1), h.ml, h.om, h.ol, h.b1, h.b2, h.b3, h.b4⟩
  show (if i = r then _ else _) = Value.int .i64 ((upN s.low r v i : Nat) : Int)
  unfold upN
  split <;> rfl
theorem tsv_isO (h : TsV B w vb wv n mb lb ib ov mv vs s) (r : Nat) (v : Bool) : TsV B (w.setCell ⟨ib, r, none⟩ (.bool v)) vb wv n mb lb ib ov mv vs { s with isO := upB s.isO r v } := by
  obtain ⟨m1, hm⟩ := rowIs_ty h.met
  obtain ⟨l1, hl⟩ := rowIs_ty h.low
  obtain ⟨i1, hi⟩ := rowIs_ty h.isO
  refine ⟨(heap_other w (blk_ne h.box hi (by decide))).trans h.box, h.met.of_block (heap_other w (blk_ne hm hi (by decide))), h.low.of_block (heap_other w (blk_ne hl hi (by decide))), (h.isO.set r _).congr (fun i _ => ?_), own_set h.opn (own_other h.opn hi (by decide)), own_set h.made (own_other h.made hi (by decide)), ring_set h (fun g cs hg _ _ _ => blk_ne hg hi (by decide)), h.ml, h.om, h.ol, h.b1, h.b2, h.b3, h.b4⟩
  show (if i = r then _ else _) = Value.bool (upB s.isO r v i)
  unfold upB
  split <;> rfl
theorem tsv_push (h : TsV B w vb wv n mb lb ib ov mv vs s) {w1 w2 : World} (hb : Below w.heap.size w w1) {r g cap : Nat} (hg : w1.grownBy w2 ov.ownBlock) (ho : w2.ownsRow B 3 1 (.slice (some ⟨g, 0, none⟩) (s.opn.length + 1) cap) (s.opn.length + 1) (vints (castL s.opn) ++ [.int .i64 (r : Nat)])) (hw : ov.ownBlock = some g ∨ w1.heap.size ≤ g) :
    TsV B (w2.setCell ⟨vb, 4, none⟩ (.slice (some ⟨g, 0, none⟩) (s.opn.length + 1) cap)) vb wv n mb lb ib (.slice (some ⟨g, 0, none⟩) (s.opn.length + 1) cap) mv vs { s with opn := s.opn ++ [r] } := by
  have h1 := tsv_below h hb
  have hk : ∀ k, k < w1.heap.size → ov.ownBlock ≠ some k → w2.heap[k]? = w1.heap[k]? := fun k hk hne => hg.block k hk (fun e => hne e.symm)
  have hl : ∀ {k : Nat} {o : Obj}, w1.heap[k]? = some o → ov.ownBlock ≠ some k → w2.heap[k]? = some o := fun {k o} hk' hne => (hk k (Array.getElem?_eq_some_iff.1 hk').1 hne).trans hk'
  obtain ⟨m1, hm⟩ := rowIs_ty h1.met
  obtain ⟨l1, hlw⟩ := rowIs_ty h1.low
  obtain ⟨i1, hi⟩ := rowIs_ty h1.isO
  have nb := own_other h1.opn h1.box (by decide)
  have ni := own_other h1.opn hi (by decide)
  have hbox := hl h1.box nb
  have hm2 := hl hm h1.om
  have hl2 := hl hlw h1.ol
  have hi2 := hl hi ni
  have hgn : ∀ k, k < w1.heap.size → ov.ownBlock ≠ some k → g ≠ k := fun k hk' hne e => by
    subst e
    rcases hw with hw | hw
    · exact hne hw
    · omega
  have lt1 : ∀ {k : Nat} {o : Obj}, w1.heap[k]? = some o → k < w1.heap.size := fun hk' => (Array.getElem?_eq_some_iff.1 hk').1
  refine ⟨?_, (h1.met.of_block (hk _ (lt1 hm) h1.om)).of_block (heap_other w2 (blk_ne hm2 hbox (by decide))), (h1.low.of_block (hk _ (lt1 hlw) h1.ol)).of_block (heap_other w2 (blk_ne hl2 hbox (by decide))), (h1.isO.of_block (hk _ (lt1 hi) ni)).of_block (heap_other w2 (blk_ne hi2 hbox (by decide))), ?_, ?_, fun i a ha => ?_, h.ml, ?_, ?_, h.b1, h.b2, h.b3, h.b4⟩
  · have := Wk.block_set (i := 4) hbox (.slice (some ⟨g, 0, none⟩) (s.opn.length + 1) cap)
    simpa using this
  · have e1 : (s.opn ++ [r]).length = s.opn.length + 1 := by simp
    have e2 : vints (castL (s.opn ++ [r])) = vints (castL s.opn) ++ [.int .i64 (r : Nat)] := by simp [vints, castL]
    show (w2.setCell _ _).ownsRow B 3 1 _ (s.opn ++ [r]).length (vints (castL (s.opn ++ [r])))
    rw [e1, e2]
    refine own_set ho ?_
    obtain ⟨cs, hcs⟩ := own_ty ho rfl
    intro e
    simp only [Value.ownBlock, Option.some.injEq] at e
    exact blk_ne hcs hbox (by decide) e
  · have hmd : mv.ownBlock ≠ ov.ownBlock ∨ mv.ownBlock = none := by
      cases hmv : mv.ownBlock with
      | none => exact .inr rfl
      | some k =>
        left
        intro e
        obtain ⟨c1, d1⟩ := own_ty h1.made hmv
        obtain ⟨c2, d2⟩ := own_ty h1.opn e.symm
        exact blk_ne d1 d2 (by decide) rfl
    have hm3 : w2.ownsRow B 27 1 mv s.made.length vs := h1.made.kept hg (hmd.elim .inr .inl)
    exact own_set hm3 (own_other hm3 hbox (by decide))
  · obtain ⟨q, c, cs, h3, h4, h5, h6, h7, h8, h9⟩ := h1.ring i a ha
    have h10 := hl h8 h7
    exact ⟨q, c, cs, h3, h4, h5, h6, fun e => hgn q (lt1 h8) h7 (by simpa [Value.ownBlock] using e), (heap_other w2 (blk_ne h10 hbox (by decide))).trans h10, h9⟩
  · intro e
    exact hgn mb (lt1 hm) h1.om (by simpa [Value.ownBlock] using e)
  · intro e
    exact hgn lb (lt1 hlw) h1.ol (by simpa [Value.ownBlock] using e)
theorem tsv_cut (h : TsV B w vb wv n mb lb ib ov mv vs s) {g c p : Nat} (hv : ov = .slice (some ⟨g, 0, none⟩) s.opn.length c) (hp : p ≤ s.opn.length) : TsV B (w.setCell ⟨vb, 4, none⟩ (.slice (some ⟨g, 0, none⟩) p c)) vb wv n mb lb ib (.slice (some ⟨g, 0, none⟩) p c) mv vs { s with opn := s.opn.take p } := by
  subst hv
  obtain ⟨m1, hm⟩ := rowIs_ty h.met
  obtain ⟨l1, hl⟩ := rowIs_ty h.low
  obtain ⟨i1, hi⟩ := rowIs_ty h.isO
  have hob := own_other h.opn h.box (by decide)
  refine ⟨?_, h.met.of_block (heap_other w (blk_ne hm h.box (by decide))), h.low.of_block (heap_other w (blk_ne hl h.box (by decide))), h.isO.of_block (heap_other w (blk_ne hi h.box (by decide))), ?_, own_set h.made (own_other h.made h.box (by decide)), ring_set h (fun g cs hg _ _ _ => blk_ne hg h.box (by decide)), h.ml, h.om, h.ol, h.b1, h.b2, h.b3, h.b4⟩
  · have := Wk.block_set (i := 4) h.box (.slice (some ⟨g, 0, none⟩) p c)
    simpa using this
  · have e1 : (s.opn.take p).length = p := by rw [List.length_take]; omega
    show (w.setCell _ _).ownsRow B 3 1 _ (s.opn.take p).length (vints (castL (s.opn.take p)))
    rw [e1]
    refine own_set (v := .slice (some ⟨g, 0, none⟩) p c) ⟨?_, .inr ?_⟩ hob
    · rw [vints_len, castL_len, e1]; omega
    · rcases h.opn.2 with ⟨h1, -⟩ | ⟨g', cap', cur, hv', hb', hh, h2, h3, h4, h5⟩
      · cases h1
      · cases hv'
        refine ⟨g, c, cur, rfl, hb', hh, by omega, h3, h4, ?_⟩
        have : vints (castL (s.opn.take p)) = (vints (castL s.opn)).take p := by simp [vints, castL, List.map_take]
        rw [this, ← h5, List.take_take]
        congr 1
        omega
theorem tsv_made (h : TsV B w vb wv n mb lb ib ov mv vs s) {q qc : Nat} {cs : Array Value} {a : List Nat} (hq : w.heap[q]? = some (.cells cs 3 (0, 0))) (hqb : B ≤ q) (q1 : q ≠ mb) (q2 : q ≠ lb) (q3 : ov.ownBlock ≠ some q) (hc : ∀ j x : Nat, a[j]? = some x → cs[j]? = some (Value.int .i64 (x : Nat)))
    {w1 w2 : World} (hb : Below w.heap.size w w1) {mv' : Value} (hg : w1.grownBy w2 mv.ownBlock) (ho : w2.ownsRow B 27 1 mv' (s.made.length + 1) (vs ++ [.slice (some ⟨q, 0, none⟩) a.length qc])) :
    TsV B (w2.setCell ⟨vb, 6, none⟩ mv') vb wv n mb lb ib ov mv' (vs ++ [.slice (some ⟨q, 0, none⟩) a.length qc]) { s with made := s.made ++ [a] } := by
  have h1 := tsv_below h hb
  have hvl : vs.length = s.made.length := by have := h.made.1; omega
  have hl : ∀ {k t : Nat} {c : Array Value}, w1.heap[k]? = some (.cells c t (0, 0)) → t ≠ 27 → w2.heap[k]? = some (.cells c t (0, 0)) := fun {k t c} hk' hne => (hg.block k (Array.getElem?_eq_some_iff.1 hk').1 (fun e => by
    obtain ⟨c1, d1⟩ := own_ty h1.made e.symm
    exact blk_ne hk' d1 hne rfl)).trans hk'
  have hq1 : w1.heap[q]? = some (.cells cs 3 (0, 0)) := (hb.block q (Array.getElem?_eq_some_iff.1 hq).1).trans hq
  obtain ⟨m1, hm⟩ := rowIs_ty h1.met
  obtain ⟨l1, hlw⟩ := rowIs_ty h1.low
  obtain ⟨i1, hi⟩ := rowIs_ty h1.isO
  have hbox := hl h1.box (by decide)
  have hm2 := hl hm (by decide)
  have hl2 := hl hlw (by decide)
  have hi2 := hl hi (by decide)
  have hop : w2.ownsRow B 3 1 ov s.opn.length (vints (castL s.opn)) := by
    refine h1.opn.kept hg ?_
    cases hov : ov.ownBlock with
    | none => exact .inl rfl
    | some k =>
      right
      intro e
      obtain ⟨c1, d1⟩ := own_ty h1.opn hov
      obtain ⟨c2, d2⟩ := own_ty h1.made e.symm
      exact blk_ne d1 d2 (by decide) rfl
  refine ⟨?_, (h1.met.of_block (hm2.trans hm.symm)).of_block (heap_other w2 (blk_ne hm2 hbox (by decide))), (h1.low.of_block (hl2.trans hlw.symm)).of_block (heap_other w2 (blk_ne hl2 hbox (by decide))), (h1.isO.of_block (hi2.trans hi.symm)).of_block (heap_other w2 (blk_ne hi2 hbox (by decide))), own_set hop (own_other hop hbox (by decide)), ?_, fun i b hib => ?_, h.ml, h.om, h.ol, h.b1, h.b2, h.b3, h.b4⟩
  · have := Wk.block_set (i := 6) hbox mv'
    simpa using this
  · have e1 : (s.made ++ [a]).length = s.made.length + 1 := by simp
    show (w2.setCell _ _).ownsRow B 27 1 _ (s.made ++ [a]).length _
    rw [e1]
    exact own_set ho (own_other ho hbox (by decide))
  · have hib : (s.made ++ [a])[i]? = some b := hib
    by_cases hlt : i < s.made.length
    · rw [List.getElem?_append_left hlt] at hib
      obtain ⟨g, c, ds, h3, h4, h5, h6, h7, h8, h9⟩ := h1.ring i b hib
      have h10 := hl h8 (by decide)
      exact ⟨g, c, ds, by rw [List.getElem?_append_left (by omega)]; exact h3, h4, h5, h6, h7, (heap_other w2 (blk_ne h10 hbox (by decide))).trans h10, h9⟩
    · have hi3 : i = s.made.length := by
        have := (List.getElem?_eq_some_iff.1 hib).1
        simp at this
        omega
      subst hi3
      simp at hib
      subst hib
      have h10 := hl hq1 (by decide)
      exact ⟨q, qc, cs, by rw [← hvl]; simp, hqb, q1, q2, q3, (heap_other w2 (blk_ne h10 hbox (by decide))).trans h10, hc⟩
end
end Go.Proofs.YtagohbpbgjelaaaGreatDoor

namespace Go.Proofs.YtagohbpbgjelaaaGreatDoor
open Go.RowKit Go.Maps

theorem law3 : Keyed Tryz.prog 3 := int_keyed Tryz.underlying3
abbrev ki (i : Nat) : Lit := .int .i64 i
def LeftAt (w : World) (b n : Nat) (S : Nat → Bool) : Prop := ∃ D : DataW Unit, w.ownsMap Tryz.prog 3 unitElem b n D ∧ ∀ i : Nat, Maps.has D (ki i) = S i
theorem zero172 (w : World) : (zeroValue 172).run Tryz.prog w = .ok (.agg #[]) w := by kernel_rfl
set_option maxHeartbeats 1000000 in
set_option maxRecDepth 100000 in
theorem allLeft_any (gb nr : Nat) (ra : Option Addr) (rc : Nat) (hnr : nr ≤ 2048) (w : World) (hgb : gb < w.heap.size) (c2 : w.cell? ⟨gb, 2, none⟩ = some (.slice ra nr rc)) :
    Calls Tryz.prog 82 #[.pointer (some ⟨gb, 0, none⟩)] w fun e w' => ∃ b, e = .returned (.map (some b)) ∧ LeftAt w' b nr (fun i => decide (i < nr)) ∧ w.heap.size ≤ b ∧ b < w'.heap.size ∧ Below w.heap.size w w' := by
  have hmm := @run_makeMap Tryz.prog
  go_enter Tryz.func82, Tryz.ntmps82
  go_wp2
  go_loopw [12] (fun x W => ∃ (k : Nat) (D : DataW Unit), x = .int .i64 k ∧ k ≤ nr ∧ W.ownsMap Tryz.prog 3 unitElem w.heap.size k D ∧ (∀ i : Nat, Maps.has D (ki i) = decide (i < k)) ∧ Below w.heap.size w W) (fun x _ => nr - (intOf x).toNat)
  case atStart => exact ⟨0, .map [], rfl, Nat.zero_le _, World.ownsMap_made _ _ _ _, fun i => (by simp [Maps.has]), (Below.refl _ _).alloc (Nat.le_refl _) _⟩
  case round =>
    obtain ⟨k, D, rfl, hk, hown, hkt, hb⟩ := hrel
    by_cases hlt : k < nr
    · have hlt' : (k : Int) < nr := by omega
      have hwf : (Lit.int .i64 (k : Int)).wf = true := WalkArith.wf_i64 (by omega)
      have Hkt : Hid (∀ i : Nat, Maps.has (D.put (ki k) (.agg [])) (ki i) = decide (i < k + 1)) := hide (fun i => by
        by_cases e : i = k
        · subst e; rw [has_put_same hown.isMap (show WideAt.IsKeyLit (ki i) from trivial)]; simp
        · rw [has_put_other (fun e' => by simp at e'; omega), hkt i, decide_eq_decide]; omega)
      clear hkt
      go_wp2_with (first | (at_mapUpdate; refine wpList_mapUpdate_own _ rfl _ _ _ 116 rfl 3 172 law3 Tryz.underlying116 _ w.heap.size k D rfl hown (by unfold maxLen; omega) _ _ (ki k) rfl rfl (keyOf_int_mk Tryz.underlying3 hwf) _ [] unitElem_mk ?_; intro w1 hown1 hgrow1; go_frame) | go_in)
      go_roundw
      case rel => exact ⟨k + 1, _, by go_num, by omega, hown1, unhide Hkt, hb.grown hgrow1 hb.size (fun j hj => by cases hj; exact Nat.le_refl _)⟩
      case measure => simp [intOf]; omega
    · obtain rfl : k = nr := by omega
      have hlt2 := hown.lt
      go_wp2
      go_ret
      exact ⟨w.heap.size, rfl, ⟨D, hown, hkt⟩, Nat.le_refl _, hlt2, hb⟩
set_option maxHeartbeats 1000000 in
set_option maxRecDepth 100000 in
theorem take_any (b n r : Nat) (S : Nat → Bool) (hr : r ≤ 1048576) (w : World) (h : LeftAt w b n S) :
    Calls Tryz.prog 83 #[.map (some b), .int .i64 (r : Int)] w fun e w' => e = .returned (.bool (S r)) ∧ LeftAt w' b n (fun i => if i = r then false else S i) ∧ Fr (· = b) w w' := by
  obtain ⟨D, hown, hS⟩ := h
  have hwf : (Lit.int .i64 (r : Int)).wf = true := WalkArith.wf_i64 (by omega)
  have hkey := keyOf_int_mk Tryz.underlying3 hwf
  have hS2 : ∀ i : Nat, Maps.has (D.del (ki r)) (ki i) = if i = r then false else S i := fun i => by
    by_cases e : i = r
    · subst e; rw [has_del_same, if_pos rfl]
    · rw [has_del_other (fun e' => by simp at e'; omega), if_neg e, hS i]
  have hSr := hS r
  have HS2 := hide hS2
  generalize S r = R at *
  clear hS hS2
  have hbl := hown.lt
  have HOwn : Hid (∀ W, Below w.heap.size w W → W.ownsMap Tryz.prog 3 unitElem b n D) := hide (fun W hb => by
    obtain ⟨es, c, hh, rr⟩ := hown
    exact ⟨es, c, (hb.block b hbl).trans hh, rr⟩)
  clear hown
  go_enter Tryz.func83, Tryz.ntmps83
  go_wp2_with (first | (at_lookup; refine wpList_lookup_own_unit _ rfl _ _ 116 rfl 3 172 law3 Tryz.underlying116 (zero172 _) b n D rfl (unhide HOwn _ (by first | exact Below.refl _ _ | exact (Below.refl _ _).alloc (Nat.le_refl _) _)) _ _ rfl hkey ?_) | (at_delete; refine wpList_delete_own _ rfl _ _ 116 3 rfl 172 law3 Tryz.underlying116 _ b n D rfl (unhide HOwn _ (by first | exact Below.refl _ _ | exact (Below.refl _ _).alloc (Nat.le_refl _) _)) _ _ rfl hkey ?_; intro w1 hown1 hturn1; go_frame) | go_in)
  go_ret
  have hg := hturn1.grown
  refine ⟨rfl, ⟨_, hown1, unhide HS2⟩, ?_⟩
  have hb1 : Below w.heap.size w (w.alloc (.cells #[] 172)) := (Below.refl _ _).alloc (Nat.le_refl _) _
  exact ⟨by have := hg.size; have := hb1.size; omega, fun k hk ho => (hg.block k (by have := hb1.size; omega) (fun e => ho (by cases e; rfl))).trans (hb1.block k hk), hg.os.trans hb1.os, hg.tape.trans hb1.tape, hg.output.trans hb1.output⟩
end Go.Proofs.YtagohbpbgjelaaaGreatDoor

/- Pools: choice, of few kids. -/
import Derived.Test.YtkimhfajfbcdmaaGreatDoorGN
import Derived.Test.YtkimhfajfbcdmaaGreatDoorQI
import Derived.Test.YtkimhfajfbcdmaaGreatDoorS6
namespace Go.Proofs.YtkimhfajfbcdmaaGreatDoor
open Go.RowKit Go.Sort

variable {av : Nat → Prop}

/-- Numbers in their own order. -/
def cmpC : Value := .func (.func 37) #[] #[]
def swA (kind : Int) : Int := if kind = 5 then 0 else 2
def idA (kind : Int) : Int := if kind = 5 then 2 else 0
def restA (L : List Ab) (kind : Int) (l : List Int) : List Int := (splA L kind l).filter fun x => !(x == idA kind)
def sortA (cf : Int → Int → Int) (l : List Int) : List Int := (insertionSort (ltC cf) l.toArray 0 l.length).toList
def chX (L : List Ab) (kind : Int) (cf : Int → Int → Int) (l : List Int) : Int := if swA kind ∈ splA L kind l then swA kind else if (restA L kind l).length = 0 then idA kind else if (restA L kind l).length = 1 then (restA L kind l).getD 0 0 else putX L kind [] (sortA cf (restA L kind l))
def chL (L : List Ab) (kind : Int) (cf : Int → Int → Int) (l : List Int) : List Ab := if swA kind ∈ splA L kind l then L else if (restA L kind l).length = 0 then L else if (restA L kind l).length = 1 then L else putL L kind [] (sortA cf (restA L kind l))

theorem compact_mem {x : Int} {xs : List Int} (h : x ∈ Lib.compact xs) : x ∈ xs := by
  unfold Lib.compact Lib.compactUpTo at h
  obtain ⟨j, hj, rfl⟩ := List.mem_map.1 h
  have hj2 := List.mem_range.1 (List.mem_filter.1 hj).1
  have hj3 : j < xs.length := by simpa using hj2
  simp [hj3]
theorem splA_ok {L : List Ab} (hw : WfA L) (kind : Int) (l : List Int) (hl : ∀ x ∈ l, 0 ≤ x ∧ x.toNat < L.length) : ∀ x ∈ splA L kind l, 0 ≤ x ∧ x.toNat < L.length := by
  intro x hx
  unfold splA at hx
  have h1 := compact_mem hx
  rw [List.mem_mergeSort] at h1
  unfold flatA at h1
  obtain ⟨y, hy, hxy⟩ := List.mem_flatMap.1 h1
  unfold kidsOr at hxy
  have hyl := hl y hy
  by_cases hk : (L.getD y.toNat ab0).kind = kind
  · rw [if_pos hk] at hxy
    have hg : L[y.toNat]? = some (L.getD y.toNat ab0) := by rw [List.getD_eq_getElem?_getD, List.getElem?_eq_getElem hyl.2]; rfl
    have := hw.kids _ _ hg x hxy
    omega
  · rw [if_neg hk] at hxy
    simp only [List.mem_singleton] at hxy
    subst hxy
    exact hyl
theorem splA_len {L : List Ab} (hw : WfA L) (kind : Int) (l : List Int) (hl : ∀ x ∈ l, 0 ≤ x ∧ x.toNat < L.length) : (splA L kind l).length ≤ 4096 * l.length := by
  unfold splA
  refine Nat.le_trans (compact_le _) ?_
  rw [List.length_mergeSort]
  exact flatA_len hw kind l hl
theorem own_base {w : World} {B B' n : Nat} {e : TypeId} {size : Nat} {v : Value} {xs : List Value} (h : w.ownsRow B e size v n xs) (hb : ∀ k, v.ownBlock = some k → B' ≤ k) : w.ownsRow B' e size v n xs := by
  refine ⟨h.1, ?_⟩
  rcases h.2 with h0 | ⟨g, cap, cur, rfl, hg, rest⟩
  · exact .inl h0
  · exact .inr ⟨g, cap, cur, rfl, hb g rfl, rest⟩
theorem nw_of {w : World} {B g c : Nat} {xs : List Int} (h : w.ownsRow B 3 1 (.slice (some ⟨g, 0, none⟩) xs.length c) xs.length (intV xs)) : NW w g c xs.length xs.toArray :=
  ⟨by simp, own_base h (fun k hk => by simp only [Value.ownBlock, Option.some.injEq] at hk; omega)⟩
theorem nw_back {w : World} {g c n : Nat} {d : Array Int} (h : NW w g c n d) : w.ownsRow g 3 1 (.slice (some ⟨g, 0, none⟩) d.toList.length c) d.toList.length (intV d.toList) := by
  have h1 := h.1
  rw [show d.toList.length = n by simpa using h1]
  exact h.2
theorem good_mem (R : List Int) : Good (fun x => x ∈ R) R.toArray := fun i hi => by
  have hi2 : i < R.length := by simpa using hi
  simp [hi2]
theorem ofB_below {B b : Nat} {w w' : World} (h : OfB b w w') (hb : B ≤ b) (hB : B ≤ w.heap.size) : Below B w w' := ⟨h.2.2.1, h.2.2.2.1, h.2.2.2.2, h.1, fun k hk => h.2.1 k (by omega) (by omega)⟩

set_option maxHeartbeats 4000000 in
set_option maxRecDepth 100000 in
theorem choiceP4_any (w : World) (B pb mb sb : Nat) (L : List Ab) (e : Int) (sn : Nat) (DS : DataW Unit) (hP : Pool av w B pb mb sb L (cmpV pb) e sn DS) (hBw : B ≤ w.heap.size) (a : Option Addr) (c : Nat) (l : List Int) (hkr : NRow w a l) (hl : ∀ x ∈ l, 0 ≤ x ∧ x.toNat < L.length) (hne : ∀ y ∈ L, y.kind = 4 → y.kids ≠ []) (hlen : l.length ≤ 262144)
    (hfew : ((splA L 4 l).filter (isSet L)).length < 2) (hr : (restA L 4 l).length ≤ 12) (cf : Int → Int → Int) (hcf : ∀ W, Pool av W B pb mb sb L (cmpV pb) e sn DS → ∀ x ∈ restA L 4 l, ∀ y ∈ restA L 4 l, Calls Tryz.prog 25 #[.pointer (some ⟨pb, 0, none⟩), .int .i64 x, .int .i64 y] W fun e w' => e = .returned (.int .i64 (cf x y)) ∧ ∃ q, w' = W.drewN q)
    (hL : L.length < 1500000000000) (hav : ∀ k, av k → k < w.heap.size) :
    Calls Tryz.prog 80 #[.pointer (some ⟨pb, 0, none⟩), .int .i64 4, .slice a l.length c] w fun e' w' => e' = .returned (.int .i64 (chX L 4 cf l)) ∧ Pool av w' B pb mb sb (chL L 4 cf l) (cmpV pb) e sn DS ∧ Fr B mb sb w w' := by
  have hb0 : Below w.heap.size w (w.alloc (.cells #[.int .i64 0] 3)) := (Below.refl _ _).alloc (Nat.le_refl _) _
  have hsz0 : (w.alloc (.cells #[.int .i64 0] 3)).heap.size = w.heap.size + 1 := by simp
  have hbx : (w.alloc (.cells #[.int .i64 0] 3)).heap[w.heap.size]? = some (.cells #[.int .i64 0] 3 (0, 0)) := (MapKept.heap_alloc w _).1
  have hkr0 : NRow (w.alloc (.cells #[.int .i64 0] 3)) a l := by
    rcases hkr with h | ⟨gk, off, ha, hgl, hc⟩
    · exact .inl h
    · exact .inr ⟨gk, off, ha, by rw [hsz0]; omega, fun j hj => (World.cell?_of_block (a := ⟨gk, off + j, none⟩) (hb0.block gk hgl)).trans (hc j hj)⟩
  have HSp := hide (spliced_any _ B pb mb sb L (cmpV pb) e sn DS (pool_below hP hb0) 4 a c l hkr0 hl hne (by omega))
  have hok := splA_ok hP.wf 4 l hl
  have hSl := splA_len hP.wf 4 l hl
  have hw1 : ∀ W, Below (w.heap.size + 1) (w.alloc (.cells #[.int .i64 0] 3)) W → Below w.heap.size w W := fun W h => hb0.trans (below_le h (by omega))
  have hbi : ∀ W, Below (w.heap.size + 1) (w.alloc (.cells #[.int .i64 0] 3)) W → W.cell? ⟨w.heap.size, 0, none⟩ = some (.int .i64 0) := fun W h => (World.cell?_of_block (a := ⟨w.heap.size, 0, none⟩) (h.block w.heap.size (by omega))).trans (cell_block hbx 0 _ rfl)
  rw [hsz0] at HSp
  have Hok := hide hok; have HW1 := hide hw1; have HBi := hide hbi
  have HP := hide hP; have Hcf := hide hcf; have Hfew := hide hfew; have Hav := hide hav
  have hSl2 : (splA L 4 l).length ≤ 1073741824 := by omega
  clear hok hw1 hbi hP hcf hfew hav hkr hkr0 hl hne hSl hb0 hbx
  go_enter Tryz.func80, Tryz.ntmps80
  go_wp2_with fail
  refine (unhide HSp).mono ?_
  rintro e1 w1 ⟨a1, c1, rfl, hown1, hb1⟩
  have hwb1 := unhide HW1 w1 hb1
  have hP1 := pool_below (unhide HP) hwb1
  have HC1 := hide (containsI_any a1 c1 (splA L 4 l) hSl2 2 w1 (nrow_own hown1 rfl))
  have HO1 := hide (oneSet0_any w1 B pb mb sb L (cmpV pb) e sn DS hP1 4 a1 c1 (splA L 4 l) (nrow_own hown1 rfl) (unhide Hok) (by omega) (unhide Hfew))
  have Hown1 := hide hown1; have Hb1 := hide hb1; have HP1 := hide hP1; have Hwb1 := hide hwb1
  clear hown1 hb1 hP1 HSp hwb1
  by_cases hsw : (2 : Int) ∈ splA L 4 l
  · have HX : Hid (chX L 4 cf l = 2) := hide (by unfold chX; rw [if_pos (by simpa [swA] using hsw)]; rfl)
    have HLL : Hid (chL L 4 cf l = L) := hide (by unfold chL; rw [if_pos (by simpa [swA] using hsw)])
    rw [decide_eq_true hsw] at HC1
    clear hsw
    go_wp2_with fail
    refine (unhide HC1).mono ?_
    rintro e2 w2 ⟨rfl, hw⟩
    obtain rfl := hw.symm
    go_wp2
    go_ret
    exact ⟨by rw [unhide HX]; rfl, by rw [unhide HLL]; exact unhide HP1, fr_below (unhide Hwb1)⟩
  · rw [decide_eq_false hsw] at HC1
    have Hsw := hide hsw
    clear hsw
    go_wp2_with fail
    refine (unhide HC1).mono ?_
    rintro e2 w2 ⟨rfl, hw⟩
    obtain rfl := hw.symm
    go_wp2_with fail
    refine (unhide HO1).mono ?_
    rintro e3 w3 ⟨rfl, hb3⟩
    have hb3' : Below (w.heap.size + 1) _ w3 := (unhide Hb1).trans (below_le hb3 (by rw [← hsz0]; exact (unhide Hb1).size))
    have hown3 := own_off (O := fun _ => False) (unhide Hown1) (off_below hb3) (fun _ _ h => h)
    have hwb3 := unhide HW1 w3 hb3'
    have HC3 := hide (containsI_any a1 c1 (splA L 4 l) hSl2 2 w3 (nrow_own hown3 rfl))
    rw [decide_eq_false (unhide Hsw)] at HC3
    have HD := hide (deleteI_any (w.heap.size + 1) a1 c1 (splA L 4 l) (by omega) w3 hown3 w.heap.size 0 (unhide HBi w3 hb3') (by omega) (by have := hb3'.size; omega))
    have HR : Hid (((splA L 4 l).filter fun x => !(x == 0)) = restA L 4 l) := hide (by unfold restA idA; rfl)
    rw [unhide HR] at HD
    have Hb3 := hide hb3'
    clear hb3 hb3' hown3 hwb3 HC1 HO1 Hown1 HP1 Hwb1
    go_wp2_with fail
    refine (unhide HC3).mono ?_
    rintro e4 w4 ⟨rfl, hw⟩
    obtain rfl := hw.symm
    go_wp2_with fail
    refine (unhide HD).mono ?_
    rintro e5 w5 ⟨rfl, hown5, hb5⟩
    have hb5' : Below (w.heap.size + 1) _ w5 := (unhide Hb3).trans hb5
    have ci := unhide HBi w5 hb5'
    have hwb5 := unhide HW1 w5 hb5'
    have hP5 := pool_below (unhide HP) hwb5
    have HokR : Hid (∀ x ∈ restA L 4 l, 0 ≤ x ∧ x.toNat < L.length) := hide (fun x hx => unhide Hok x (List.mem_filter.1 hx).1)
    have HX : Hid (chX L 4 cf l = if (restA L 4 l).length = 0 then 0 else if (restA L 4 l).length = 1 then (restA L 4 l).getD 0 0 else putX L 4 [] (sortA cf (restA L 4 l))) := hide (by unfold chX; rw [if_neg (by simpa [swA] using unhide Hsw)]; rfl)
    have HLL : Hid (chL L 4 cf l = if (restA L 4 l).length = 0 then L else if (restA L 4 l).length = 1 then L else putL L 4 [] (sortA cf (restA L 4 l))) := hide (by unfold chL; rw [if_neg (by simpa [swA] using unhide Hsw)])
    clear HR HD HC3 Hsw
    generalize restA L 4 l = R at *
    have Hwb5 := hide hwb5; have HP5 := hide hP5
    clear hb5 hb5' hwb5
    by_cases h0 : R.length = 0
    · rw [if_pos h0] at HX HLL
      have h0i : ((R.length : Int) == 0) = true := by simp [h0]
      clear h0 hown5 hP5
      go_wp2
      go_ret
      exact ⟨by rw [unhide HX]; rfl, by rw [unhide HLL]; exact unhide HP5, fr_below (unhide Hwb5)⟩
    · rw [if_neg h0] at HX HLL
      obtain ⟨g, c', hv, hg, hgl, hle, hmx⟩ := own_pos hown5 (by omega)
      simp only [Value.slice.injEq] at hv
      obtain ⟨rfl, -, rfl⟩ := hv
      have h0i : ((R.length : Int) == 0) = false := by rw [beq_eq_false_iff_ne]; omega
      by_cases h1 : R.length = 1
      · rw [if_pos h1] at HX HLL
        obtain ⟨x, rfl⟩ := List.length_eq_one_iff.1 h1
        have cx := own_cell hown5 rfl 0 (by simp [intV])
        simp [intV] at cx
        clear h0 h1 hown5 hP5 h0i
        simp only [List.length_singleton] at *
        go_wp2
        go_ret
        exact ⟨by rw [unhide HX]; rfl, by rw [unhide HLL]; exact unhide HP5, fr_below (unhide Hwb5)⟩
      · rw [if_neg h1] at HX HLL
        have h1i : ((R.length : Int) == 1) = false := by rw [beq_eq_false_iff_ne]; omega
        obtain ⟨v0, v2, hpb⟩ := pool_pb hP5
        have c4 := cell_block hpb 4 _ rfl
        have hwb := unhide Hwb5
        have HSo := hide (sortFP_any pb (fun x => x ∈ R) cf g c1 R.length R.toArray hr w5 (nw_of hown5) (good_mem R) (fun W hW x y hx hy => unhide Hcf W (pool_below (unhide HP) (hwb.trans (ofB_below hW (by omega) hwb.size))) x hx y hy))
        have hwg : w.heap.size ≤ g := by omega
        clear h0 h1 hown5 hP5 hpb hwb Hcf
        unfold cmpV at c4
        go_wp2_with fail
        refine (unhide HSo).mono ?_
        rintro e6 w6 ⟨⟨v, rfl⟩, hn6, ho6, hg6⟩
        have hlen6 : (sortA cf R).length = R.length := by unfold sortA; simpa using hn6.1
        have hwb6 : Below w.heap.size w w6 := (unhide Hwb5).trans (ofB_below ho6 hwg (unhide Hwb5).size)
        have hown6 := nw_back hn6
        have hok6 : ∀ j, j < (sortA cf R).length → 0 ≤ (sortA cf R).getD j 0 ∧ ((sortA cf R).getD j 0).toNat < L.length := fun j hj => by
          have hj2 : j < (insertionSort (ltC cf) R.toArray 0 R.length).size := by unfold sortA at hj; simpa using hj
          have h := unhide HokR _ (hg6 j hj2)
          have e7 : (sortA cf R).getD j 0 = (insertionSort (ltC cf) R.toArray 0 R.length)[j]! := by unfold sortA; simp [List.getD_eq_getElem?_getD, hj2]
          rw [e7]
          exact h
        have HPut := hide (put_any w6 B pb mb sb L (cmpV pb) e sn DS (pool_below (unhide HP) hwb6) (Nat.le_trans hBw hwb6.size) 4 none (some ⟨g, 0, none⟩) 0 c1 [] (sortA cf R) (by simp) (by omega) (rrow_nil _ _) (nrow_own hown6 rfl) (held_none _ _ _ _) (held_own hown6 (fun k hk ha => by have := unhide Hav k ha; omega)) hok6 (by simp) (by simp) hL)
        rw [hlen6] at HPut
        have Hwb6 := hide hwb6
        clear hn6 ho6 hg6 hlen6 hwb6 hown6 hok6 HSo
        go_wp2_with fail
        refine (unhide HPut).mono ?_
        rintro e8 w8 ⟨rfl, hp8, hf8⟩
        have Hp8 := hide hp8; have Hf8 := hide hf8
        clear hp8 hf8
        go_wp2
        go_ret
        exact ⟨by rw [unhide HX]; rfl, by rw [unhide HLL]; exact unhide Hp8, fr_t (fr_below (unhide Hwb6)) (unhide Hf8)⟩

set_option maxHeartbeats 4000000 in
set_option maxRecDepth 100000 in
theorem choiceP5_any (w : World) (B pb mb sb : Nat) (L : List Ab) (e : Int) (sn : Nat) (DS : DataW Unit) (hP : Pool av w B pb mb sb L (cmpV pb) e sn DS) (hBw : B ≤ w.heap.size) (a : Option Addr) (c : Nat) (l : List Int) (hkr : NRow w a l) (hl : ∀ x ∈ l, 0 ≤ x ∧ x.toNat < L.length) (hne : ∀ y ∈ L, y.kind = 5 → y.kids ≠ []) (hlen : l.length ≤ 262144)
    (hfew : ((splA L 5 l).filter (isSet L)).length < 2) (hr : (restA L 5 l).length ≤ 12) (cf : Int → Int → Int) (hcf : ∀ W, Pool av W B pb mb sb L (cmpV pb) e sn DS → ∀ x ∈ restA L 5 l, ∀ y ∈ restA L 5 l, Calls Tryz.prog 25 #[.pointer (some ⟨pb, 0, none⟩), .int .i64 x, .int .i64 y] W fun e w' => e = .returned (.int .i64 (cf x y)) ∧ ∃ q, w' = W.drewN q)
    (hL : L.length < 1500000000000) (hav : ∀ k, av k → k < w.heap.size) :
    Calls Tryz.prog 80 #[.pointer (some ⟨pb, 0, none⟩), .int .i64 5, .slice a l.length c] w fun e' w' => e' = .returned (.int .i64 (chX L 5 cf l)) ∧ Pool av w' B pb mb sb (chL L 5 cf l) (cmpV pb) e sn DS ∧ Fr B mb sb w w' := by
  have hb0 : Below w.heap.size w (w.alloc (.cells #[.int .i64 2] 3)) := (Below.refl _ _).alloc (Nat.le_refl _) _
  have hsz0 : (w.alloc (.cells #[.int .i64 2] 3)).heap.size = w.heap.size + 1 := by simp
  have hbx : (w.alloc (.cells #[.int .i64 2] 3)).heap[w.heap.size]? = some (.cells #[.int .i64 2] 3 (0, 0)) := (MapKept.heap_alloc w _).1
  have hkr0 : NRow (w.alloc (.cells #[.int .i64 2] 3)) a l := by
    rcases hkr with h | ⟨gk, off, ha, hgl, hc⟩
    · exact .inl h
    · exact .inr ⟨gk, off, ha, by rw [hsz0]; omega, fun j hj => (World.cell?_of_block (a := ⟨gk, off + j, none⟩) (hb0.block gk hgl)).trans (hc j hj)⟩
  have HSp := hide (spliced_any _ B pb mb sb L (cmpV pb) e sn DS (pool_below hP hb0) 5 a c l hkr0 hl hne (by omega))
  have hok := splA_ok hP.wf 5 l hl
  have hSl := splA_len hP.wf 5 l hl
  have hw1 : ∀ W, Below (w.heap.size + 1) (w.alloc (.cells #[.int .i64 2] 3)) W → Below w.heap.size w W := fun W h => hb0.trans (below_le h (by omega))
  have hbi : ∀ W, Below (w.heap.size + 1) (w.alloc (.cells #[.int .i64 2] 3)) W → W.cell? ⟨w.heap.size, 0, none⟩ = some (.int .i64 2) := fun W h => (World.cell?_of_block (a := ⟨w.heap.size, 0, none⟩) (h.block w.heap.size (by omega))).trans (cell_block hbx 0 _ rfl)
  rw [hsz0] at HSp
  have Hok := hide hok; have HW1 := hide hw1; have HBi := hide hbi
  have HP := hide hP; have Hcf := hide hcf; have Hfew := hide hfew; have Hav := hide hav
  have hSl2 : (splA L 5 l).length ≤ 1073741824 := by omega
  clear hok hw1 hbi hP hcf hfew hav hkr hkr0 hl hne hSl hb0 hbx
  go_enter Tryz.func80, Tryz.ntmps80
  go_wp2_with fail
  refine (unhide HSp).mono ?_
  rintro e1 w1 ⟨a1, c1, rfl, hown1, hb1⟩
  have hwb1 := unhide HW1 w1 hb1
  have hP1 := pool_below (unhide HP) hwb1
  have HC1 := hide (containsI_any a1 c1 (splA L 5 l) hSl2 0 w1 (nrow_own hown1 rfl))
  have HO1 := hide (oneSet0_any w1 B pb mb sb L (cmpV pb) e sn DS hP1 5 a1 c1 (splA L 5 l) (nrow_own hown1 rfl) (unhide Hok) (by omega) (unhide Hfew))
  have Hown1 := hide hown1; have Hb1 := hide hb1; have HP1 := hide hP1; have Hwb1 := hide hwb1
  clear hown1 hb1 hP1 HSp hwb1
  by_cases hsw : (0 : Int) ∈ splA L 5 l
  · have HX : Hid (chX L 5 cf l = 0) := hide (by unfold chX; rw [if_pos (by simpa [swA] using hsw)]; rfl)
    have HLL : Hid (chL L 5 cf l = L) := hide (by unfold chL; rw [if_pos (by simpa [swA] using hsw)])
    rw [decide_eq_true hsw] at HC1
    clear hsw
    go_wp2_with fail
    refine (unhide HC1).mono ?_
    rintro e2 w2 ⟨rfl, hw⟩
    obtain rfl := hw.symm
    go_wp2
    go_ret
    exact ⟨by rw [unhide HX]; rfl, by rw [unhide HLL]; exact unhide HP1, fr_below (unhide Hwb1)⟩
  · rw [decide_eq_false hsw] at HC1
    have Hsw := hide hsw
    clear hsw
    go_wp2_with fail
    refine (unhide HC1).mono ?_
    rintro e2 w2 ⟨rfl, hw⟩
    obtain rfl := hw.symm
    go_wp2_with fail
    refine (unhide HO1).mono ?_
    rintro e3 w3 ⟨rfl, hb3⟩
    have hb3' : Below (w.heap.size + 1) _ w3 := (unhide Hb1).trans (below_le hb3 (by rw [← hsz0]; exact (unhide Hb1).size))
    have hown3 := own_off (O := fun _ => False) (unhide Hown1) (off_below hb3) (fun _ _ h => h)
    have hwb3 := unhide HW1 w3 hb3'
    have HC3 := hide (containsI_any a1 c1 (splA L 5 l) hSl2 0 w3 (nrow_own hown3 rfl))
    rw [decide_eq_false (unhide Hsw)] at HC3
    have HD := hide (deleteI_any (w.heap.size + 1) a1 c1 (splA L 5 l) (by omega) w3 hown3 w.heap.size 2 (unhide HBi w3 hb3') (by omega) (by have := hb3'.size; omega))
    have HR : Hid (((splA L 5 l).filter fun x => !(x == 2)) = restA L 5 l) := hide (by unfold restA idA; rfl)
    rw [unhide HR] at HD
    have Hb3 := hide hb3'
    clear hb3 hb3' hown3 hwb3 HC1 HO1 Hown1 HP1 Hwb1
    go_wp2_with fail
    refine (unhide HC3).mono ?_
    rintro e4 w4 ⟨rfl, hw⟩
    obtain rfl := hw.symm
    go_wp2_with fail
    refine (unhide HD).mono ?_
    rintro e5 w5 ⟨rfl, hown5, hb5⟩
    have hb5' : Below (w.heap.size + 1) _ w5 := (unhide Hb3).trans hb5
    have ci := unhide HBi w5 hb5'
    have hwb5 := unhide HW1 w5 hb5'
    have hP5 := pool_below (unhide HP) hwb5
    have HokR : Hid (∀ x ∈ restA L 5 l, 0 ≤ x ∧ x.toNat < L.length) := hide (fun x hx => unhide Hok x (List.mem_filter.1 hx).1)
    have HX : Hid (chX L 5 cf l = if (restA L 5 l).length = 0 then 2 else if (restA L 5 l).length = 1 then (restA L 5 l).getD 0 0 else putX L 5 [] (sortA cf (restA L 5 l))) := hide (by unfold chX; rw [if_neg (by simpa [swA] using unhide Hsw)]; rfl)
    have HLL : Hid (chL L 5 cf l = if (restA L 5 l).length = 0 then L else if (restA L 5 l).length = 1 then L else putL L 5 [] (sortA cf (restA L 5 l))) := hide (by unfold chL; rw [if_neg (by simpa [swA] using unhide Hsw)])
    clear HR HD HC3 Hsw
    generalize restA L 5 l = R at *
    have Hwb5 := hide hwb5; have HP5 := hide hP5
    clear hb5 hb5' hwb5
    by_cases h0 : R.length = 0
    · rw [if_pos h0] at HX HLL
      have h0i : ((R.length : Int) == 0) = true := by simp [h0]
      clear h0 hown5 hP5
      go_wp2
      go_ret
      exact ⟨by rw [unhide HX]; rfl, by rw [unhide HLL]; exact unhide HP5, fr_below (unhide Hwb5)⟩
    · rw [if_neg h0] at HX HLL
      obtain ⟨g, c', hv, hg, hgl, hle, hmx⟩ := own_pos hown5 (by omega)
      simp only [Value.slice.injEq] at hv
      obtain ⟨rfl, -, rfl⟩ := hv
      have h0i : ((R.length : Int) == 0) = false := by rw [beq_eq_false_iff_ne]; omega
      by_cases h1 : R.length = 1
      · rw [if_pos h1] at HX HLL
        obtain ⟨x, rfl⟩ := List.length_eq_one_iff.1 h1
        have cx := own_cell hown5 rfl 0 (by simp [intV])
        simp [intV] at cx
        clear h0 h1 hown5 hP5 h0i
        simp only [List.length_singleton] at *
        go_wp2
        go_ret
        exact ⟨by rw [unhide HX]; rfl, by rw [unhide HLL]; exact unhide HP5, fr_below (unhide Hwb5)⟩
      · rw [if_neg h1] at HX HLL
        have h1i : ((R.length : Int) == 1) = false := by rw [beq_eq_false_iff_ne]; omega
        obtain ⟨v0, v2, hpb⟩ := pool_pb hP5
        have c4 := cell_block hpb 4 _ rfl
        have hwb := unhide Hwb5
        have HSo := hide (sortFP_any pb (fun x => x ∈ R) cf g c1 R.length R.toArray hr w5 (nw_of hown5) (good_mem R) (fun W hW x y hx hy => unhide Hcf W (pool_below (unhide HP) (hwb.trans (ofB_below hW (by omega) hwb.size))) x hx y hy))
        have hwg : w.heap.size ≤ g := by omega
        clear h0 h1 hown5 hP5 hpb hwb Hcf
        unfold cmpV at c4
        go_wp2_with fail
        refine (unhide HSo).mono ?_
        rintro e6 w6 ⟨⟨v, rfl⟩, hn6, ho6, hg6⟩
        have hlen6 : (sortA cf R).length = R.length := by unfold sortA; simpa using hn6.1
        have hwb6 : Below w.heap.size w w6 := (unhide Hwb5).trans (ofB_below ho6 hwg (unhide Hwb5).size)
        have hown6 := nw_back hn6
        have hok6 : ∀ j, j < (sortA cf R).length → 0 ≤ (sortA cf R).getD j 0 ∧ ((sortA cf R).getD j 0).toNat < L.length := fun j hj => by
          have hj2 : j < (insertionSort (ltC cf) R.toArray 0 R.length).size := by unfold sortA at hj; simpa using hj
          have h := unhide HokR _ (hg6 j hj2)
          have e7 : (sortA cf R).getD j 0 = (insertionSort (ltC cf) R.toArray 0 R.length)[j]! := by unfold sortA; simp [List.getD_eq_getElem?_getD, hj2]
          rw [e7]
          exact h
        have HPut := hide (put_any w6 B pb mb sb L (cmpV pb) e sn DS (pool_below (unhide HP) hwb6) (Nat.le_trans hBw hwb6.size) 5 none (some ⟨g, 0, none⟩) 0 c1 [] (sortA cf R) (by simp) (by omega) (rrow_nil _ _) (nrow_own hown6 rfl) (held_none _ _ _ _) (held_own hown6 (fun k hk ha => by have := unhide Hav k ha; omega)) hok6 (by simp) (by simp) hL)
        rw [hlen6] at HPut
        have Hwb6 := hide hwb6
        clear hn6 ho6 hg6 hlen6 hwb6 hown6 hok6 HSo
        go_wp2_with fail
        refine (unhide HPut).mono ?_
        rintro e8 w8 ⟨rfl, hp8, hf8⟩
        have Hp8 := hide hp8; have Hf8 := hide hf8
        clear hp8 hf8
        go_wp2
        go_ret
        exact ⟨by rw [unhide HX]; rfl, by rw [unhide HLL]; exact unhide Hp8, fr_t (fr_below (unhide Hwb6)) (unhide Hf8)⟩

set_option maxHeartbeats 4000000 in
set_option maxRecDepth 100000 in
theorem choiceC4_any (w : World) (B pb mb sb : Nat) (L : List Ab) (e : Int) (sn : Nat) (DS : DataW Unit) (hP : Pool av w B pb mb sb L cmpC e sn DS) (hBw : B ≤ w.heap.size) (a : Option Addr) (c : Nat) (l : List Int) (hkr : NRow w a l) (hl : ∀ x ∈ l, 0 ≤ x ∧ x.toNat < L.length) (hne : ∀ y ∈ L, y.kind = 4 → y.kids ≠ []) (hlen : l.length ≤ 262144)
    (hfew : ((splA L 4 l).filter (isSet L)).length < 2) (hr : (restA L 4 l).length ≤ 12) (cf : Int → Int → Int) (hcf : ∀ W, Pool av W B pb mb sb L cmpC e sn DS → ∀ x ∈ restA L 4 l, ∀ y ∈ restA L 4 l, Calls Tryz.prog 37 #[.int .i64 x, .int .i64 y] W fun e w' => e = .returned (.int .i64 (cf x y)) ∧ ∃ q, w' = W.drewN q)
    (hL : L.length < 1500000000000) (hav : ∀ k, av k → k < w.heap.size) :
    Calls Tryz.prog 80 #[.pointer (some ⟨pb, 0, none⟩), .int .i64 4, .slice a l.length c] w fun e' w' => e' = .returned (.int .i64 (chX L 4 cf l)) ∧ Pool av w' B pb mb sb (chL L 4 cf l) cmpC e sn DS ∧ Fr B mb sb w w' := by
  have hb0 : Below w.heap.size w (w.alloc (.cells #[.int .i64 0] 3)) := (Below.refl _ _).alloc (Nat.le_refl _) _
  have hsz0 : (w.alloc (.cells #[.int .i64 0] 3)).heap.size = w.heap.size + 1 := by simp
  have hbx : (w.alloc (.cells #[.int .i64 0] 3)).heap[w.heap.size]? = some (.cells #[.int .i64 0] 3 (0, 0)) := (MapKept.heap_alloc w _).1
  have hkr0 : NRow (w.alloc (.cells #[.int .i64 0] 3)) a l := by
    rcases hkr with h | ⟨gk, off, ha, hgl, hc⟩
    · exact .inl h
    · exact .inr ⟨gk, off, ha, by rw [hsz0]; omega, fun j hj => (World.cell?_of_block (a := ⟨gk, off + j, none⟩) (hb0.block gk hgl)).trans (hc j hj)⟩
  have HSp := hide (spliced_any _ B pb mb sb L cmpC e sn DS (pool_below hP hb0) 4 a c l hkr0 hl hne (by omega))
  have hok := splA_ok hP.wf 4 l hl
  have hSl := splA_len hP.wf 4 l hl
  have hw1 : ∀ W, Below (w.heap.size + 1) (w.alloc (.cells #[.int .i64 0] 3)) W → Below w.heap.size w W := fun W h => hb0.trans (below_le h (by omega))
  have hbi : ∀ W, Below (w.heap.size + 1) (w.alloc (.cells #[.int .i64 0] 3)) W → W.cell? ⟨w.heap.size, 0, none⟩ = some (.int .i64 0) := fun W h => (World.cell?_of_block (a := ⟨w.heap.size, 0, none⟩) (h.block w.heap.size (by omega))).trans (cell_block hbx 0 _ rfl)
  rw [hsz0] at HSp
  have Hok := hide hok; have HW1 := hide hw1; have HBi := hide hbi
  have HP := hide hP; have Hcf := hide hcf; have Hfew := hide hfew; have Hav := hide hav
  have hSl2 : (splA L 4 l).length ≤ 1073741824 := by omega
  clear hok hw1 hbi hP hcf hfew hav hkr hkr0 hl hne hSl hb0 hbx
  go_enter Tryz.func80, Tryz.ntmps80
  go_wp2_with fail
  refine (unhide HSp).mono ?_
  rintro e1 w1 ⟨a1, c1, rfl, hown1, hb1⟩
  have hwb1 := unhide HW1 w1 hb1
  have hP1 := pool_below (unhide HP) hwb1
  have HC1 := hide (containsI_any a1 c1 (splA L 4 l) hSl2 2 w1 (nrow_own hown1 rfl))
  have HO1 := hide (oneSet0_any w1 B pb mb sb L cmpC e sn DS hP1 4 a1 c1 (splA L 4 l) (nrow_own hown1 rfl) (unhide Hok) (by omega) (unhide Hfew))
  have Hown1 := hide hown1; have Hb1 := hide hb1; have HP1 := hide hP1; have Hwb1 := hide hwb1
  clear hown1 hb1 hP1 HSp hwb1
  by_cases hsw : (2 : Int) ∈ splA L 4 l
  · have HX : Hid (chX L 4 cf l = 2) := hide (by unfold chX; rw [if_pos (by simpa [swA] using hsw)]; rfl)
    have HLL : Hid (chL L 4 cf l = L) := hide (by unfold chL; rw [if_pos (by simpa [swA] using hsw)])
    rw [decide_eq_true hsw] at HC1
    clear hsw
    go_wp2_with fail
    refine (unhide HC1).mono ?_
    rintro e2 w2 ⟨rfl, hw⟩
    obtain rfl := hw.symm
    go_wp2
    go_ret
    exact ⟨by rw [unhide HX]; rfl, by rw [unhide HLL]; exact unhide HP1, fr_below (unhide Hwb1)⟩
  · rw [decide_eq_false hsw] at HC1
    have Hsw := hide hsw
    clear hsw
    go_wp2_with fail
    refine (unhide HC1).mono ?_
    rintro e2 w2 ⟨rfl, hw⟩
    obtain rfl := hw.symm
    go_wp2_with fail
    refine (unhide HO1).mono ?_
    rintro e3 w3 ⟨rfl, hb3⟩
    have hb3' : Below (w.heap.size + 1) _ w3 := (unhide Hb1).trans (below_le hb3 (by rw [← hsz0]; exact (unhide Hb1).size))
    have hown3 := own_off (O := fun _ => False) (unhide Hown1) (off_below hb3) (fun _ _ h => h)
    have hwb3 := unhide HW1 w3 hb3'
    have HC3 := hide (containsI_any a1 c1 (splA L 4 l) hSl2 2 w3 (nrow_own hown3 rfl))
    rw [decide_eq_false (unhide Hsw)] at HC3
    have HD := hide (deleteI_any (w.heap.size + 1) a1 c1 (splA L 4 l) (by omega) w3 hown3 w.heap.size 0 (unhide HBi w3 hb3') (by omega) (by have := hb3'.size; omega))
    have HR : Hid (((splA L 4 l).filter fun x => !(x == 0)) = restA L 4 l) := hide (by unfold restA idA; rfl)
    rw [unhide HR] at HD
    have Hb3 := hide hb3'
    clear hb3 hb3' hown3 hwb3 HC1 HO1 Hown1 HP1 Hwb1
    go_wp2_with fail
    refine (unhide HC3).mono ?_
    rintro e4 w4 ⟨rfl, hw⟩
    obtain rfl := hw.symm
    go_wp2_with fail
    refine (unhide HD).mono ?_
    rintro e5 w5 ⟨rfl, hown5, hb5⟩
    have hb5' : Below (w.heap.size + 1) _ w5 := (unhide Hb3).trans hb5
    have ci := unhide HBi w5 hb5'
    have hwb5 := unhide HW1 w5 hb5'
    have hP5 := pool_below (unhide HP) hwb5
    have HokR : Hid (∀ x ∈ restA L 4 l, 0 ≤ x ∧ x.toNat < L.length) := hide (fun x hx => unhide Hok x (List.mem_filter.1 hx).1)
    have HX : Hid (chX L 4 cf l = if (restA L 4 l).length = 0 then 0 else if (restA L 4 l).length = 1 then (restA L 4 l).getD 0 0 else putX L 4 [] (sortA cf (restA L 4 l))) := hide (by unfold chX; rw [if_neg (by simpa [swA] using unhide Hsw)]; rfl)
    have HLL : Hid (chL L 4 cf l = if (restA L 4 l).length = 0 then L else if (restA L 4 l).length = 1 then L else putL L 4 [] (sortA cf (restA L 4 l))) := hide (by unfold chL; rw [if_neg (by simpa [swA] using unhide Hsw)])
    clear HR HD HC3 Hsw
    generalize restA L 4 l = R at *
    have Hwb5 := hide hwb5; have HP5 := hide hP5
    clear hb5 hb5' hwb5
    by_cases h0 : R.length = 0
    · rw [if_pos h0] at HX HLL
      have h0i : ((R.length : Int) == 0) = true := by simp [h0]
      clear h0 hown5 hP5
      go_wp2
      go_ret
      exact ⟨by rw [unhide HX]; rfl, by rw [unhide HLL]; exact unhide HP5, fr_below (unhide Hwb5)⟩
    · rw [if_neg h0] at HX HLL
      obtain ⟨g, c', hv, hg, hgl, hle, hmx⟩ := own_pos hown5 (by omega)
      simp only [Value.slice.injEq] at hv
      obtain ⟨rfl, -, rfl⟩ := hv
      have h0i : ((R.length : Int) == 0) = false := by rw [beq_eq_false_iff_ne]; omega
      by_cases h1 : R.length = 1
      · rw [if_pos h1] at HX HLL
        obtain ⟨x, rfl⟩ := List.length_eq_one_iff.1 h1
        have cx := own_cell hown5 rfl 0 (by simp [intV])
        simp [intV] at cx
        clear h0 h1 hown5 hP5 h0i
        simp only [List.length_singleton] at *
        go_wp2
        go_ret
        exact ⟨by rw [unhide HX]; rfl, by rw [unhide HLL]; exact unhide HP5, fr_below (unhide Hwb5)⟩
      · rw [if_neg h1] at HX HLL
        have h1i : ((R.length : Int) == 1) = false := by rw [beq_eq_false_iff_ne]; omega
        obtain ⟨v0, v2, hpb⟩ := pool_pb hP5
        have c4 := cell_block hpb 4 _ rfl
        have hwb := unhide Hwb5
        have HSo := hide (sortFC_any (fun x => x ∈ R) cf g c1 R.length R.toArray hr w5 (nw_of hown5) (good_mem R) (fun W hW x y hx hy => unhide Hcf W (pool_below (unhide HP) (hwb.trans (ofB_below hW (by omega) hwb.size))) x hx y hy))
        have hwg : w.heap.size ≤ g := by omega
        clear h0 h1 hown5 hP5 hpb hwb Hcf
        unfold cmpC at c4
        go_wp2_with fail
        refine (unhide HSo).mono ?_
        rintro e6 w6 ⟨⟨v, rfl⟩, hn6, ho6, hg6⟩
        have hlen6 : (sortA cf R).length = R.length := by unfold sortA; simpa using hn6.1
        have hwb6 : Below w.heap.size w w6 := (unhide Hwb5).trans (ofB_below ho6 hwg (unhide Hwb5).size)
        have hown6 := nw_back hn6
        have hok6 : ∀ j, j < (sortA cf R).length → 0 ≤ (sortA cf R).getD j 0 ∧ ((sortA cf R).getD j 0).toNat < L.length := fun j hj => by
          have hj2 : j < (insertionSort (ltC cf) R.toArray 0 R.length).size := by unfold sortA at hj; simpa using hj
          have h := unhide HokR _ (hg6 j hj2)
          have e7 : (sortA cf R).getD j 0 = (insertionSort (ltC cf) R.toArray 0 R.length)[j]! := by unfold sortA; simp [List.getD_eq_getElem?_getD, hj2]
          rw [e7]
          exact h
        have HPut := hide (put_any w6 B pb mb sb L cmpC e sn DS (pool_below (unhide HP) hwb6) (Nat.le_trans hBw hwb6.size) 4 none (some ⟨g, 0, none⟩) 0 c1 [] (sortA cf R) (by simp) (by omega) (rrow_nil _ _) (nrow_own hown6 rfl) (held_none _ _ _ _) (held_own hown6 (fun k hk ha => by have := unhide Hav k ha; omega)) hok6 (by simp) (by simp) hL)
        rw [hlen6] at HPut
        have Hwb6 := hide hwb6
        clear hn6 ho6 hg6 hlen6 hwb6 hown6 hok6 HSo
        go_wp2_with fail
        refine (unhide HPut).mono ?_
        rintro e8 w8 ⟨rfl, hp8, hf8⟩
        have Hp8 := hide hp8; have Hf8 := hide hf8
        clear hp8 hf8
        go_wp2
        go_ret
        exact ⟨by rw [unhide HX]; rfl, by rw [unhide HLL]; exact unhide Hp8, fr_t (fr_below (unhide Hwb6)) (unhide Hf8)⟩

set_option maxHeartbeats 4000000 in
set_option maxRecDepth 100000 in
theorem choiceC5_any (w : World) (B pb mb sb : Nat) (L : List Ab) (e : Int) (sn : Nat) (DS : DataW Unit) (hP : Pool av w B pb mb sb L cmpC e sn DS) (hBw : B ≤ w.heap.size) (a : Option Addr) (c : Nat) (l : List Int) (hkr : NRow w a l) (hl : ∀ x ∈ l, 0 ≤ x ∧ x.toNat < L.length) (hne : ∀ y ∈ L, y.kind = 5 → y.kids ≠ []) (hlen : l.length ≤ 262144)
    (hfew : ((splA L 5 l).filter (isSet L)).length < 2) (hr : (restA L 5 l).length ≤ 12) (cf : Int → Int → Int) (hcf : ∀ W, Pool av W B pb mb sb L cmpC e sn DS → ∀ x ∈ restA L 5 l, ∀ y ∈ restA L 5 l, Calls Tryz.prog 37 #[.int .i64 x, .int .i64 y] W fun e w' => e = .returned (.int .i64 (cf x y)) ∧ ∃ q, w' = W.drewN q)
    (hL : L.length < 1500000000000) (hav : ∀ k, av k → k < w.heap.size) :
    Calls Tryz.prog 80 #[.pointer (some ⟨pb, 0, none⟩), .int .i64 5, .slice a l.length c] w fun e' w' => e' = .returned (.int .i64 (chX L 5 cf l)) ∧ Pool av w' B pb mb sb (chL L 5 cf l) cmpC e sn DS ∧ Fr B mb sb w w' := by
  have hb0 : Below w.heap.size w (w.alloc (.cells #[.int .i64 2] 3)) := (Below.refl _ _).alloc (Nat.le_refl _) _
  have hsz0 : (w.alloc (.cells #[.int .i64 2] 3)).heap.size = w.heap.size + 1 := by simp
  have hbx : (w.alloc (.cells #[.int .i64 2] 3)).heap[w.heap.size]? = some (.cells #[.int .i64 2] 3 (0, 0)) := (MapKept.heap_alloc w _).1
  have hkr0 : NRow (w.alloc (.cells #[.int .i64 2] 3)) a l := by
    rcases hkr with h | ⟨gk, off, ha, hgl, hc⟩
    · exact .inl h
    · exact .inr ⟨gk, off, ha, by rw [hsz0]; omega, fun j hj => (World.cell?_of_block (a := ⟨gk, off + j, none⟩) (hb0.block gk hgl)).trans (hc j hj)⟩
  have HSp := hide (spliced_any _ B pb mb sb L cmpC e sn DS (pool_below hP hb0) 5 a c l hkr0 hl hne (by omega))
  have hok := splA_ok hP.wf 5 l hl
  have hSl := splA_len hP.wf 5 l hl
  have hw1 : ∀ W, Below (w.heap.size + 1) (w.alloc (.cells #[.int .i64 2] 3)) W → Below w.heap.size w W := fun W h => hb0.trans (below_le h (by omega))
  have hbi : ∀ W, Below (w.heap.size + 1) (w.alloc (.cells #[.int .i64 2] 3)) W → W.cell? ⟨w.heap.size, 0, none⟩ = some (.int .i64 2) := fun W h => (World.cell?_of_block (a := ⟨w.heap.size, 0, none⟩) (h.block w.heap.size (by omega))).trans (cell_block hbx 0 _ rfl)
  rw [hsz0] at HSp
  have Hok := hide hok; have HW1 := hide hw1; have HBi := hide hbi
  have HP := hide hP; have Hcf := hide hcf; have Hfew := hide hfew; have Hav := hide hav
  have hSl2 : (splA L 5 l).length ≤ 1073741824 := by omega
  clear hok hw1 hbi hP hcf hfew hav hkr hkr0 hl hne hSl hb0 hbx
  go_enter Tryz.func80, Tryz.ntmps80
  go_wp2_with fail
  refine (unhide HSp).mono ?_
  rintro e1 w1 ⟨a1, c1, rfl, hown1, hb1⟩
  have hwb1 := unhide HW1 w1 hb1
  have hP1 := pool_below (unhide HP) hwb1
  have HC1 := hide (containsI_any a1 c1 (splA L 5 l) hSl2 0 w1 (nrow_own hown1 rfl))
  have HO1 := hide (oneSet0_any w1 B pb mb sb L cmpC e sn DS hP1 5 a1 c1 (splA L 5 l) (nrow_own hown1 rfl) (unhide Hok) (by omega) (unhide Hfew))
  have Hown1 := hide hown1; have Hb1 := hide hb1; have HP1 := hide hP1; have Hwb1 := hide hwb1
  clear hown1 hb1 hP1 HSp hwb1
  by_cases hsw : (0 : Int) ∈ splA L 5 l
  · have HX : Hid (chX L 5 cf l = 0) := hide (by unfold chX; rw [if_pos (by simpa [swA] using hsw)]; rfl)
    have HLL : Hid (chL L 5 cf l = L) := hide (by unfold chL; rw [if_pos (by simpa [swA] using hsw)])
    rw [decide_eq_true hsw] at HC1
    clear hsw
    go_wp2_with fail
    refine (unhide HC1).mono ?_
    rintro e2 w2 ⟨rfl, hw⟩
    obtain rfl := hw.symm
    go_wp2
    go_ret
    exact ⟨by rw [unhide HX]; rfl, by rw [unhide HLL]; exact unhide HP1, fr_below (unhide Hwb1)⟩
  · rw [decide_eq_false hsw] at HC1
    have Hsw := hide hsw
    clear hsw
    go_wp2_with fail
    refine (unhide HC1).mono ?_
    rintro e2 w2 ⟨rfl, hw⟩
    obtain rfl := hw.symm
    go_wp2_with fail
    refine (unhide HO1).mono ?_
    rintro e3 w3 ⟨rfl, hb3⟩
    have hb3' : Below (w.heap.size + 1) _ w3 := (unhide Hb1).trans (below_le hb3 (by rw [← hsz0]; exact (unhide Hb1).size))
    have hown3 := own_off (O := fun _ => False) (unhide Hown1) (off_below hb3) (fun _ _ h => h)
    have hwb3 := unhide HW1 w3 hb3'
    have HC3 := hide (containsI_any a1 c1 (splA L 5 l) hSl2 0 w3 (nrow_own hown3 rfl))
    rw [decide_eq_false (unhide Hsw)] at HC3
    have HD := hide (deleteI_any (w.heap.size + 1) a1 c1 (splA L 5 l) (by omega) w3 hown3 w.heap.size 2 (unhide HBi w3 hb3') (by omega) (by have := hb3'.size; omega))
    have HR : Hid (((splA L 5 l).filter fun x => !(x == 2)) = restA L 5 l) := hide (by unfold restA idA; rfl)
    rw [unhide HR] at HD
    have Hb3 := hide hb3'
    clear hb3 hb3' hown3 hwb3 HC1 HO1 Hown1 HP1 Hwb1
    go_wp2_with fail
    refine (unhide HC3).mono ?_
    rintro e4 w4 ⟨rfl, hw⟩
    obtain rfl := hw.symm
    go_wp2_with fail
    refine (unhide HD).mono ?_
    rintro e5 w5 ⟨rfl, hown5, hb5⟩
    have hb5' : Below (w.heap.size + 1) _ w5 := (unhide Hb3).trans hb5
    have ci := unhide HBi w5 hb5'
    have hwb5 := unhide HW1 w5 hb5'
    have hP5 := pool_below (unhide HP) hwb5
    have HokR : Hid (∀ x ∈ restA L 5 l, 0 ≤ x ∧ x.toNat < L.length) := hide (fun x hx => unhide Hok x (List.mem_filter.1 hx).1)
    have HX : Hid (chX L 5 cf l = if (restA L 5 l).length = 0 then 2 else if (restA L 5 l).length = 1 then (restA L 5 l).getD 0 0 else putX L 5 [] (sortA cf (restA L 5 l))) := hide (by unfold chX; rw [if_neg (by simpa [swA] using unhide Hsw)]; rfl)
    have HLL : Hid (chL L 5 cf l = if (restA L 5 l).length = 0 then L else if (restA L 5 l).length = 1 then L else putL L 5 [] (sortA cf (restA L 5 l))) := hide (by unfold chL; rw [if_neg (by simpa [swA] using unhide Hsw)])
    clear HR HD HC3 Hsw
    generalize restA L 5 l = R at *
    have Hwb5 := hide hwb5; have HP5 := hide hP5
    clear hb5 hb5' hwb5
    by_cases h0 : R.length = 0
    · rw [if_pos h0] at HX HLL
      have h0i : ((R.length : Int) == 0) = true := by simp [h0]
      clear h0 hown5 hP5
      go_wp2
      go_ret
      exact ⟨by rw [unhide HX]; rfl, by rw [unhide HLL]; exact unhide HP5, fr_below (unhide Hwb5)⟩
    · rw [if_neg h0] at HX HLL
      obtain ⟨g, c', hv, hg, hgl, hle, hmx⟩ := own_pos hown5 (by omega)
      simp only [Value.slice.injEq] at hv
      obtain ⟨rfl, -, rfl⟩ := hv
      have h0i : ((R.length : Int) == 0) = false := by rw [beq_eq_false_iff_ne]; omega
      by_cases h1 : R.length = 1
      · rw [if_pos h1] at HX HLL
        obtain ⟨x, rfl⟩ := List.length_eq_one_iff.1 h1
        have cx := own_cell hown5 rfl 0 (by simp [intV])
        simp [intV] at cx
        clear h0 h1 hown5 hP5 h0i
        simp only [List.length_singleton] at *
        go_wp2
        go_ret
        exact ⟨by rw [unhide HX]; rfl, by rw [unhide HLL]; exact unhide HP5, fr_below (unhide Hwb5)⟩
      · rw [if_neg h1] at HX HLL
        have h1i : ((R.length : Int) == 1) = false := by rw [beq_eq_false_iff_ne]; omega
        obtain ⟨v0, v2, hpb⟩ := pool_pb hP5
        have c4 := cell_block hpb 4 _ rfl
        have hwb := unhide Hwb5
        have HSo := hide (sortFC_any (fun x => x ∈ R) cf g c1 R.length R.toArray hr w5 (nw_of hown5) (good_mem R) (fun W hW x y hx hy => unhide Hcf W (pool_below (unhide HP) (hwb.trans (ofB_below hW (by omega) hwb.size))) x hx y hy))
        have hwg : w.heap.size ≤ g := by omega
        clear h0 h1 hown5 hP5 hpb hwb Hcf
        unfold cmpC at c4
        go_wp2_with fail
        refine (unhide HSo).mono ?_
        rintro e6 w6 ⟨⟨v, rfl⟩, hn6, ho6, hg6⟩
        have hlen6 : (sortA cf R).length = R.length := by unfold sortA; simpa using hn6.1
        have hwb6 : Below w.heap.size w w6 := (unhide Hwb5).trans (ofB_below ho6 hwg (unhide Hwb5).size)
        have hown6 := nw_back hn6
        have hok6 : ∀ j, j < (sortA cf R).length → 0 ≤ (sortA cf R).getD j 0 ∧ ((sortA cf R).getD j 0).toNat < L.length := fun j hj => by
          have hj2 : j < (insertionSort (ltC cf) R.toArray 0 R.length).size := by unfold sortA at hj; simpa using hj
          have h := unhide HokR _ (hg6 j hj2)
          have e7 : (sortA cf R).getD j 0 = (insertionSort (ltC cf) R.toArray 0 R.length)[j]! := by unfold sortA; simp [List.getD_eq_getElem?_getD, hj2]
          rw [e7]
          exact h
        have HPut := hide (put_any w6 B pb mb sb L cmpC e sn DS (pool_below (unhide HP) hwb6) (Nat.le_trans hBw hwb6.size) 5 none (some ⟨g, 0, none⟩) 0 c1 [] (sortA cf R) (by simp) (by omega) (rrow_nil _ _) (nrow_own hown6 rfl) (held_none _ _ _ _) (held_own hown6 (fun k hk ha => by have := unhide Hav k ha; omega)) hok6 (by simp) (by simp) hL)
        rw [hlen6] at HPut
        have Hwb6 := hide hwb6
        clear hn6 ho6 hg6 hlen6 hwb6 hown6 hok6 HSo
        go_wp2_with fail
        refine (unhide HPut).mono ?_
        rintro e8 w8 ⟨rfl, hp8, hf8⟩
        have Hp8 := hide hp8; have Hf8 := hide hf8
        clear hp8 hf8
        go_wp2
        go_ret
        exact ⟨by rw [unhide HX]; rfl, by rw [unhide HLL]; exact unhide Hp8, fr_t (fr_below (unhide Hwb6)) (unhide Hf8)⟩

set_option maxRecDepth 100000 in
theorem altP_any (w : World) (B pb mb sb : Nat) (L : List Ab) (e : Int) (sn : Nat) (DS : DataW Unit) (hP : Pool av w B pb mb sb L (cmpV pb) e sn DS) (hBw : B ≤ w.heap.size) (a : Option Addr) (c : Nat) (l : List Int) (hkr : NRow w a l) (hl : ∀ x ∈ l, 0 ≤ x ∧ x.toNat < L.length) (hne : ∀ y ∈ L, y.kind = 4 → y.kids ≠ []) (hlen : l.length ≤ 262144)
    (hfew : ((splA L 4 l).filter (isSet L)).length < 2) (hr : (restA L 4 l).length ≤ 12) (cf : Int → Int → Int) (hcf : ∀ W, Pool av W B pb mb sb L (cmpV pb) e sn DS → ∀ x ∈ restA L 4 l, ∀ y ∈ restA L 4 l, Calls Tryz.prog 25 #[.pointer (some ⟨pb, 0, none⟩), .int .i64 x, .int .i64 y] W fun e w' => e = .returned (.int .i64 (cf x y)) ∧ ∃ q, w' = W.drewN q)
    (hL : L.length < 1500000000000) (hav : ∀ k, av k → k < w.heap.size) :
    Calls Tryz.prog 60 #[.pointer (some ⟨pb, 0, none⟩), .slice a l.length c] w fun e' w' => e' = .returned (.int .i64 (chX L 4 cf l)) ∧ Pool av w' B pb mb sb (chL L 4 cf l) (cmpV pb) e sn DS ∧ Fr B mb sb w w' := by
  have HC := hide (choiceP4_any w B pb mb sb L e sn DS hP hBw a c l hkr hl hne hlen hfew hr cf hcf hL hav)
  clear hP hkr hl hne hfew hcf
  go_enter Tryz.func60, Tryz.ntmps60
  go_wp2_with fail
  refine (unhide HC).mono ?_
  rintro e8 w8 ⟨rfl, hp8, hf8⟩
  have Hp8 := hide hp8; have Hf8 := hide hf8
  clear hp8 hf8
  go_wp2
  go_ret
  exact ⟨rfl, unhide Hp8, unhide Hf8⟩

set_option maxRecDepth 100000 in
theorem andP_any (w : World) (B pb mb sb : Nat) (L : List Ab) (e : Int) (sn : Nat) (DS : DataW Unit) (hP : Pool av w B pb mb sb L (cmpV pb) e sn DS) (hBw : B ≤ w.heap.size) (a : Option Addr) (c : Nat) (l : List Int) (hkr : NRow w a l) (hl : ∀ x ∈ l, 0 ≤ x ∧ x.toNat < L.length) (hne : ∀ y ∈ L, y.kind = 5 → y.kids ≠ []) (hlen : l.length ≤ 262144)
    (hfew : ((splA L 5 l).filter (isSet L)).length < 2) (hr : (restA L 5 l).length ≤ 12) (cf : Int → Int → Int) (hcf : ∀ W, Pool av W B pb mb sb L (cmpV pb) e sn DS → ∀ x ∈ restA L 5 l, ∀ y ∈ restA L 5 l, Calls Tryz.prog 25 #[.pointer (some ⟨pb, 0, none⟩), .int .i64 x, .int .i64 y] W fun e w' => e = .returned (.int .i64 (cf x y)) ∧ ∃ q, w' = W.drewN q)
    (hL : L.length < 1500000000000) (hav : ∀ k, av k → k < w.heap.size) :
    Calls Tryz.prog 62 #[.pointer (some ⟨pb, 0, none⟩), .slice a l.length c] w fun e' w' => e' = .returned (.int .i64 (chX L 5 cf l)) ∧ Pool av w' B pb mb sb (chL L 5 cf l) (cmpV pb) e sn DS ∧ Fr B mb sb w w' := by
  have HC := hide (choiceP5_any w B pb mb sb L e sn DS hP hBw a c l hkr hl hne hlen hfew hr cf hcf hL hav)
  clear hP hkr hl hne hfew hcf
  go_enter Tryz.func62, Tryz.ntmps62
  go_wp2_with fail
  refine (unhide HC).mono ?_
  rintro e8 w8 ⟨rfl, hp8, hf8⟩
  have Hp8 := hide hp8; have Hf8 := hide hf8
  clear hp8 hf8
  go_wp2
  go_ret
  exact ⟨rfl, unhide Hp8, unhide Hf8⟩

set_option maxRecDepth 100000 in
theorem altC_any (w : World) (B pb mb sb : Nat) (L : List Ab) (e : Int) (sn : Nat) (DS : DataW Unit) (hP : Pool av w B pb mb sb L cmpC e sn DS) (hBw : B ≤ w.heap.size) (a : Option Addr) (c : Nat) (l : List Int) (hkr : NRow w a l) (hl : ∀ x ∈ l, 0 ≤ x ∧ x.toNat < L.length) (hne : ∀ y ∈ L, y.kind = 4 → y.kids ≠ []) (hlen : l.length ≤ 262144)
    (hfew : ((splA L 4 l).filter (isSet L)).length < 2) (hr : (restA L 4 l).length ≤ 12) (cf : Int → Int → Int) (hcf : ∀ W, Pool av W B pb mb sb L cmpC e sn DS → ∀ x ∈ restA L 4 l, ∀ y ∈ restA L 4 l, Calls Tryz.prog 37 #[.int .i64 x, .int .i64 y] W fun e w' => e = .returned (.int .i64 (cf x y)) ∧ ∃ q, w' = W.drewN q)
    (hL : L.length < 1500000000000) (hav : ∀ k, av k → k < w.heap.size) :
    Calls Tryz.prog 60 #[.pointer (some ⟨pb, 0, none⟩), .slice a l.length c] w fun e' w' => e' = .returned (.int .i64 (chX L 4 cf l)) ∧ Pool av w' B pb mb sb (chL L 4 cf l) cmpC e sn DS ∧ Fr B mb sb w w' := by
  have HC := hide (choiceC4_any w B pb mb sb L e sn DS hP hBw a c l hkr hl hne hlen hfew hr cf hcf hL hav)
  clear hP hkr hl hne hfew hcf
  go_enter Tryz.func60, Tryz.ntmps60
  go_wp2_with fail
  refine (unhide HC).mono ?_
  rintro e8 w8 ⟨rfl, hp8, hf8⟩
  have Hp8 := hide hp8; have Hf8 := hide hf8
  clear hp8 hf8
  go_wp2
  go_ret
  exact ⟨rfl, unhide Hp8, unhide Hf8⟩

set_option maxRecDepth 100000 in
theorem andC_any (w : World) (B pb mb sb : Nat) (L : List Ab) (e : Int) (sn : Nat) (DS : DataW Unit) (hP : Pool av w B pb mb sb L cmpC e sn DS) (hBw : B ≤ w.heap.size) (a : Option Addr) (c : Nat) (l : List Int) (hkr : NRow w a l) (hl : ∀ x ∈ l, 0 ≤ x ∧ x.toNat < L.length) (hne : ∀ y ∈ L, y.kind = 5 → y.kids ≠ []) (hlen : l.length ≤ 262144)
    (hfew : ((splA L 5 l).filter (isSet L)).length < 2) (hr : (restA L 5 l).length ≤ 12) (cf : Int → Int → Int) (hcf : ∀ W, Pool av W B pb mb sb L cmpC e sn DS → ∀ x ∈ restA L 5 l, ∀ y ∈ restA L 5 l, Calls Tryz.prog 37 #[.int .i64 x, .int .i64 y] W fun e w' => e = .returned (.int .i64 (cf x y)) ∧ ∃ q, w' = W.drewN q)
    (hL : L.length < 1500000000000) (hav : ∀ k, av k → k < w.heap.size) :
    Calls Tryz.prog 62 #[.pointer (some ⟨pb, 0, none⟩), .slice a l.length c] w fun e' w' => e' = .returned (.int .i64 (chX L 5 cf l)) ∧ Pool av w' B pb mb sb (chL L 5 cf l) cmpC e sn DS ∧ Fr B mb sb w w' := by
  have HC := hide (choiceC5_any w B pb mb sb L e sn DS hP hBw a c l hkr hl hne hlen hfew hr cf hcf hL hav)
  clear hP hkr hl hne hfew hcf
  go_enter Tryz.func62, Tryz.ntmps62
  go_wp2_with fail
  refine (unhide HC).mono ?_
  rintro e8 w8 ⟨rfl, hp8, hf8⟩
  have Hp8 := hide hp8; have Hf8 := hide hf8
  clear hp8 hf8
  go_wp2
  go_ret
  exact ⟨rfl, unhide Hp8, unhide Hf8⟩
end Go.Proofs.YtkimhfajfbcdmaaGreatDoor

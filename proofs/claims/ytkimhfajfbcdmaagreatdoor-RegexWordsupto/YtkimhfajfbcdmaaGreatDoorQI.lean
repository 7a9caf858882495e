/- Pools: spliced. (and what it leads to) -/
import Derived.Test.YtkimhfajfbcdmaaGreatDoorQH
import Derived.Test.YtkimhfajfbcdmaaGreatDoorS4
/- Pools: spliced. -/
namespace Go.Proofs.YtkimhfajfbcdmaaGreatDoor
open Go.RowKit Go.Maps

variable {av : Nat → Prop}

def kidsOr (L : List Ab) (kind : Int) (x : Int) : List Int := if (L.getD x.toNat ab0).kind = kind then (L.getD x.toNat ab0).kids else [x]
def flatA (L : List Ab) (kind : Int) (l : List Int) : List Int := l.flatMap (kidsOr L kind)
def splA (L : List Ab) (kind : Int) (l : List Int) : List Int := Lib.compact ((flatA L kind l).mergeSort fun x y => decide (x ≤ y))
theorem flatA_take {L : List Ab} {kind : Int} {l : List Int} {k : Nat} (hk : k < l.length) : flatA L kind (l.take (k + 1)) = flatA L kind (l.take k) ++ kidsOr L kind (l.getD k 0) := by
  unfold flatA
  have h : l.take (k + 1) = l.take k ++ [l.getD k 0] := by rw [List.take_add_one, List.getElem?_eq_getElem hk, List.getD_eq_getElem?_getD, List.getElem?_eq_getElem hk]; rfl
  rw [h, List.flatMap_append]
  simp
theorem kidsOr_len {L : List Ab} (hw : WfA L) (kind x : Int) (hx : x.toNat < L.length) : (kidsOr L kind x).length ≤ 4096 := by
  unfold kidsOr
  split
  · have hm : L.getD x.toNat ab0 ∈ L := by rw [List.getD_eq_getElem?_getD, List.getElem?_eq_getElem hx]; exact List.getElem_mem _
    exact (hw.short _ hm).2
  · simp
theorem flatA_len {L : List Ab} (hw : WfA L) (kind : Int) : ∀ (l : List Int), (∀ x ∈ l, 0 ≤ x ∧ x.toNat < L.length) → (flatA L kind l).length ≤ 4096 * l.length
  | [], _ => by simp [flatA]
  | x :: l, h => by
    have h1 := kidsOr_len hw kind x (h x (by simp)).2
    have h2 := flatA_len hw kind l (fun y hy => h y (by simp [hy]))
    unfold flatA at *
    simp only [List.flatMap_cons, List.length_append, List.length_cons]
    omega

set_option maxHeartbeats 2000000 in
set_option maxRecDepth 100000 in
theorem spliced_any (w : World) (B pb mb sb : Nat) (L : List Ab) (ov : Value) (e : Int) (sn : Nat) (DS : DataW Unit) (hP : Pool av w B pb mb sb L ov e sn DS) (kind : Int) (a : Option Addr) (c : Nat) (l : List Int) (hkr : NRow w a l) (hl : ∀ x ∈ l, 0 ≤ x ∧ x.toNat < L.length) (hne : ∀ y ∈ L, y.kind = kind → y.kids ≠ []) (hlen : l.length ≤ 1048576) :
    Calls Tryz.prog 90 #[.pointer (some ⟨pb, 0, none⟩), .int .i64 kind, .slice a l.length c] w fun e' w' => ∃ a' c', e' = .returned (.slice a' (splA L kind l).length c') ∧ w'.ownsRow w.heap.size 3 1 (.slice a' (splA L kind l).length c') (splA L kind l).length (intV (splA L kind l)) ∧ Below w.heap.size w w' := by
  obtain ⟨i0, hi, hz0, hz1, hz2⟩ := info_parts hint
  have HP := hide hP
  have Hkr := hide hkr
  clear hP hkr
  have Hl := hide hl
  have Hne := hide hne
  clear hl hne
  go_enter Tryz.func90, Tryz.ntmps90
  go_wp2
  go_loopw [12, 7] (fun iv kv wr => ∃ (k : Nat) (a' : Option Addr) (c' : Nat) (dn : List Int), iv = .int .i64 k ∧ k ≤ l.length ∧ kv = .slice a' dn.length c' ∧ dn = flatA L kind (l.take k) ∧ wr.ownsRow w.heap.size 3 1 (.slice a' dn.length c') dn.length (intV dn) ∧ Below w.heap.size w wr) (fun iv _ _ => l.length - (intOf iv).toNat)
  case atStart => exact ⟨0, none, 0, [], rfl, Nat.zero_le _, rfl, by simp [flatA], World.ownsRow_nil _ _ _ _, Below.refl _ _⟩
  case round =>
    obtain ⟨k, a', c', dn, rfl, hk, rfl, hdn, hown, hb⟩ := hrel
    by_cases hlt : k < l.length
    · have hlt' : (k : Int) < l.length := by omega
      have hy : l.getD k 0 ∈ l := by rw [List.getD_eq_getElem?_getD, List.getElem?_eq_getElem hlt]; exact List.getElem_mem _
      have hft := flatA_take (L := L) (kind := kind) hlt
      have hfl := flatA_len (unhide HP).wf kind (l.take (k + 1)) (fun x hx => unhide Hl x (List.mem_of_mem_take hx))
      have hfk := hfl
      rw [hft, List.length_append, ← hdn] at hfl
      rw [List.length_take, Nat.min_eq_left (by omega)] at hfl
      have hcx : ∃ gk off, a = some ⟨gk, off, none⟩ ∧ wr.cell? ⟨gk, off + k, none⟩ = some (.int .i64 (l.getD k 0)) := by
        rcases unhide Hkr with h | ⟨gk, off, ha, hgl, hc⟩
        · rw [h] at hlt; simp at hlt
        · exact ⟨gk, off, ha, (World.cell?_of_block (a := ⟨gk, off + k, none⟩) (hb.block gk hgl)).trans (hc k hlt)⟩
      obtain ⟨gk, off, rfl, c0⟩ := hcx
      obtain ⟨hy0, hyl⟩ := unhide Hl _ hy
      generalize l.getD k 0 = yi at *
      obtain ⟨y, rfl⟩ := Int.eq_ofNat_of_zero_le hy0
      have hyn : y < L.length := by omega
      have hyi : (y : Int) < L.length := by omega
      obtain ⟨g, nc, p0, hn⟩ := pool_node (pool_below (unhide HP) hb)
      obtain ⟨d, hd, hN⟩ := hn y hyn
      have r0 := hN.c0
      have r2 := hN.c2
      have hnr := hN.kr
      have hm : L.getD y ab0 ∈ L := by rw [List.getD_eq_getElem?_getD, List.getElem?_eq_getElem hyn]; exact List.getElem_mem _
      have hnn := unhide Hne _ hm
      have hks : kidsOr L kind (y : Int) = if d.kind = kind then d.kids else [(y : Int)] := by unfold kidsOr; rw [Int.toNat_natCast, ← hd]; rfl
      rw [← hd] at hnn
      have Hft := hide hft; have Hown := hide hown; have Hb := hide hb; have Hdn := hide hdn
      clear hft hown hb hdn hn hN hm hy hy0 hyl hfk hd
      by_cases hkk : d.kind = kind
      · rw [if_pos hkk] at hks
        have hb1 : (d.kind == kind) = true := by simpa using hkk
        have hnn2 : d.kids ≠ [] := hnn hkk
        have hkl : 0 < d.kids.length := List.length_pos_iff.2 hnn2
        rw [hks] at hfl
        have Hks := hide hks
        rcases hnr with h | ⟨gd, offd, hka, hgdl, hcd⟩
        · exact absurd h hnn2
        rw [hka] at r2
        have Hcd := hide hcd
        clear hks hnn hnn2 hkk hcd hka
        go_wp2_with (at_builtin; refine wpList_append_lies _ rfl _ _ 63 rfl w.heap.size 3 i0 (.int .i64 0) 1 8 Tryz.underlying63 hi hz0 hz1 hz2 rfl (by decide) _ dn.length (intV dn) rfl (unhide Hown) ⟨gd, offd, none⟩ d.kids.length d.kc (intV d.kids) rfl (by rw [intV_length]; omega) ?zz1 (intV_one _) hkl (by unfold maxLen; omega) (by omega) (unhide Hb).size wr.heap.size rfl ?_)
        case zz1 =>
          intro j u hu
          unfold intV at hu
          rw [List.getElem?_map] at hu
          by_cases hj : j < d.kids.length
          · rw [List.getElem?_eq_getElem hj] at hu
            have hc := unhide Hcd j hj
            rw [List.getD_eq_getElem?_getD, List.getElem?_eq_getElem hj] at hc
            simp only [Option.map_some, Option.some.injEq] at hu
            have e : (⟨gd, offd, none⟩ : Addr).add j = ⟨gd, offd + j, none⟩ := by unfold Addr.add; split <;> simp_all
            rw [e, hc, ← hu]; rfl
          · rw [List.getElem?_eq_none (by omega)] at hu; simp at hu
        intro g4 cap4 w4 hown4 hg4 hgv4 hgl4
        have hb4 : Below w.heap.size w w4 := (unhide Hb).grown hg4 (unhide Hb).size (fun k hk => (row_lt (unhide Hown) hk).1)
        have Hown4 := hide hown4; have Hb4 := hide hb4
        clear hown4 hg4 hgv4 hgl4 hb4
        go_wp2
        go_roundw
        case rel => exact ⟨k + 1, some ⟨g4, 0, none⟩, cap4, dn ++ d.kids, by go_num, by omega, by simp, by rw [unhide Hft, ← unhide Hdn, unhide Hks], by simpa [intV] using unhide Hown4, unhide Hb4⟩
        case measure => simp [intOf]; omega
      · rw [if_neg hkk] at hks
        have hb1 : (d.kind == kind) = false := by simpa using hkk
        rw [hks] at hfl
        have hfl' : dn.length + 1 ≤ 4096 * (k + 1) := hfl
        have Hks := hide hks
        clear hks hnn hnr hkk hfl
        go_wp2_with (at_builtin; refine wpList_append_lies _ rfl _ _ 63 rfl w.heap.size 3 i0 (.int .i64 0) 1 8 Tryz.underlying63 hi hz0 hz1 hz2 rfl (by decide) _ dn.length (intV dn) rfl ((unhide Hown).alloc _) ⟨wr.heap.size, 0, none⟩ 1 1 (intV [(y : Int)]) rfl rfl ?zz1 (intV_one _) (by decide) (by unfold maxLen; omega) (by omega) (by have := (unhide Hb).size; simp; omega) (wr.heap.size + 1) (by simp) ?_)
        case zz1 =>
          have h := World.news_of_block (MapKept.heap_alloc wr (.cells #[.int .i64 y] 3)).1
          simpa [intV] using h
        intro g4 cap4 w4 hown4 hg4 hgv4 hgl4
        have hb4 : Below w.heap.size w w4 := ((unhide Hb).alloc (unhide Hb).size _).grown hg4 (by have := (unhide Hb).size; simp; omega) (fun k hk => (row_lt (unhide Hown) hk).1)
        have Hown4 := hide hown4; have Hb4 := hide hb4
        clear hown4 hg4 hgv4 hgl4 hb4
        go_wp2
        go_roundw
        case rel => exact ⟨k + 1, some ⟨g4, 0, none⟩, cap4, dn ++ [(y : Int)], by go_num, by omega, by simp, by rw [unhide Hft, ← unhide Hdn, unhide Hks], by simpa [intV] using unhide Hown4, unhide Hb4⟩
        case measure => simp [intOf]; omega
    · obtain rfl : k = l.length := by omega
      have hlt' : ¬ ((l.length : Int) < l.length) := by omega
      rw [List.take_length] at hdn
      subst hdn
      have hfl := flatA_len (unhide HP).wf kind l (unhide Hl)
      have HC := hide (sortI_any w.heap.size a' c' (flatA L kind l) (by omega) wr hown)
      have HD := hide (fun (W' : World) (h : W'.ownsRow w.heap.size 3 1 (.slice a' (flatA L kind l).length c') (flatA L kind l).length (intV ((flatA L kind l).mergeSort fun x y => decide (x ≤ y)))) => by
        have h2 := compactI_any w.heap.size a' c' ((flatA L kind l).mergeSort fun x y => decide (x ≤ y)) (by rw [List.length_mergeSort]; omega) W' (by rw [List.length_mergeSort]; exact h)
        rw [List.length_mergeSort] at h2
        exact h2)
      have HS : Hid (Lib.compact ((flatA L kind l).mergeSort fun x y => decide (x ≤ y)) = splA L kind l) := hide rfl
      have Hb := hide hb
      clear hown hb hfl
      go_wp2_with fail
      refine (unhide HC).mono ?_
      rintro e2 w2 ⟨rfl, hown2, hb2⟩
      have HD2 := hide (unhide HD w2 hown2)
      have Hb2 := hide ((unhide Hb).trans hb2)
      clear hown2 hb2 HD HC
      go_wp2_with fail
      refine (unhide HD2).mono ?_
      rintro e3 w3 ⟨rfl, hown3, hb3⟩
      have Hown3 := hide hown3; have Hb3 := hide ((unhide Hb2).trans hb3)
      clear hown3 hb3
      go_wp2
      go_ret
      exact ⟨a', c', by rw [← unhide HS]; rfl, by rw [← unhide HS]; exact unhide Hown3, unhide Hb3⟩
end Go.Proofs.YtkimhfajfbcdmaaGreatDoor

/- Pools: Compare of numbers; compare, where the kinds part. -/
namespace Go.Proofs.YtkimhfajfbcdmaaGreatDoor
open Go.RowKit Go.Maps

variable {av : Nat → Prop}

theorem nanI_any (x : Int) (w : World) : Calls Tryz.prog 58 #[.int .i64 x] w fun e w' => e = .returned (.bool false) ∧ w' = w := by
  go_enter Tryz.func58, Tryz.ntmps58
  go_wp2
  go_ret
  simp
def cmpI (x y : Int) : Int := if x < y then -1 else if y < x then 1 else 0
set_option maxRecDepth 100000 in
theorem cmpI_any (x y : Int) (w : World) : Calls Tryz.prog 37 #[.int .i64 x, .int .i64 y] w fun e w' => e = .returned (.int .i64 (cmpI x y)) ∧ w' = w := by
  have HX := hide (nanI_any x)
  have HY := hide (nanI_any y)
  by_cases h1 : x < y
  · have HC : Hid (cmpI x y = -1) := hide (by simp [cmpI, h1])
    go_enter Tryz.func37, Tryz.ntmps37
    go_wp2_with fail
    refine (unhide HX _).mono ?_
    rintro e w' ⟨rfl, hw⟩
    obtain rfl := hw.symm
    go_wp2_with fail
    refine (unhide HY _).mono ?_
    rintro e w' ⟨rfl, hw⟩
    obtain rfl := hw.symm
    go_wp2
    go_ret
    exact ⟨by rw [unhide HC]; rfl, rfl⟩
  · have h1d : decide (x < y) = false := by simpa using h1
    by_cases h2 : y < x
    · have HC : Hid (cmpI x y = 1) := hide (by unfold cmpI; rw [if_neg h1, if_pos h2])
      clear h1
      go_enter Tryz.func37, Tryz.ntmps37
      go_wp2_with fail
      refine (unhide HX _).mono ?_
      rintro e w' ⟨rfl, hw⟩
      obtain rfl := hw.symm
      go_wp2_with fail
      refine (unhide HY _).mono ?_
      rintro e w' ⟨rfl, hw⟩
      obtain rfl := hw.symm
      go_wp2
      go_ret
      exact ⟨by rw [unhide HC]; rfl, rfl⟩
    · have HC : Hid (cmpI x y = 0) := hide (by unfold cmpI; rw [if_neg h1, if_neg h2])
      have h2d : decide (y < x) = false := by simpa using h2
      clear h1 h2
      go_enter Tryz.func37, Tryz.ntmps37
      go_wp2_with fail
      refine (unhide HX _).mono ?_
      rintro e w' ⟨rfl, hw⟩
      obtain rfl := hw.symm
      go_wp2_with fail
      refine (unhide HY _).mono ?_
      rintro e w' ⟨rfl, hw⟩
      obtain rfl := hw.symm
      go_wp2
      go_ret
      exact ⟨by rw [unhide HC]; rfl, rfl⟩
set_option maxHeartbeats 1000000 in
set_option maxRecDepth 100000 in
theorem compareK_any (w : World) (B pb mb sb : Nat) (L : List Ab) (ov : Value) (e : Int) (sn : Nat) (DS : DataW Unit) (hP : Pool av w B pb mb sb L ov e sn DS) (a b : Nat) (ha : a < L.length) (hb : b < L.length) (hk : (L.getD a ab0).kind ≠ (L.getD b ab0).kind) :
    Calls Tryz.prog 25 #[.pointer (some ⟨pb, 0, none⟩), .int .i64 a, .int .i64 b] w fun e' w' => e' = .returned (.int .i64 (cmpI (L.getD a ab0).kind (L.getD b ab0).kind)) ∧ ∃ q, w' = w.drewN q := by
  obtain ⟨g, nc, p0, hn⟩ := pool_node hP
  obtain ⟨d, hd, hN⟩ := hn a ha
  obtain ⟨d', hd', hN'⟩ := hn b hb
  have hne : (a : Int) ≠ b := by
    intro h
    have : a = b := by omega
    subst this
    exact hk rfl
  have hneb : ((a : Int) == b) = false := by simpa using hne
  rw [← hd, ← hd'] at hk ⊢
  have hk' : d.kind ≠ d'.kind := hk
  have r0 := hN.c0
  have s0 := hN'.c0
  have hai : (a : Int) < L.length := by omega
  have hbi : (b : Int) < L.length := by omega
  have HC := hide (fun W => cmpI_any d.kind d'.kind W)
  have hcn : cmpI d.kind d'.kind ≠ 0 := by unfold cmpI; split; decide; split; decide; omega
  have hcb : (cmpI d.kind d'.kind != 0) = true := by simpa using hcn
  have HE : Hid (cmpI d.ab.kind d'.ab.kind = cmpI d.kind d'.kind) := hide rfl
  rw [unhide HE]
  clear hP hn hN hN' hd hd' hk hne hcn hk'
  generalize cmpI d.kind d'.kind = z at *
  go_enter Tryz.func25, Tryz.ntmps25
  go_wp2_with fail
  go_region
  all_goals
    go_wp2_with fail
    go_region_with (go_at_call 37; refine (unhide HC _).mono ?_; rintro e2 w2 ⟨rfl, hw⟩; obtain rfl := hw.symm)
    all_goals
      go_wp2
      go_ret
      exact ⟨rfl, 2, rfl⟩
end Go.Proofs.YtkimhfajfbcdmaaGreatDoor

/- Pools: oneSet, where there are fewer than two sets. -/
namespace Go.Proofs.YtkimhfajfbcdmaaGreatDoor
open Go.RowKit Go.Maps

variable {av : Nat → Prop}

theorem hsetT : (Tryz.prog.info? 22).map (fun i => (i.zero, i.size, i.bytes)) = some (some (.slice none 0 0), 1, 24) := by kernel_rfl
def isSet (L : List Ab) (x : Int) : Bool := (L.getD x.toNat ab0).kind == 2
theorem filter_take {p : Int → Bool} {l : List Int} {k : Nat} (hk : k < l.length) : (l.take (k + 1)).filter p = (l.take k).filter p ++ (if p (l.getD k 0) then [l.getD k 0] else []) := by
  have h : l.take (k + 1) = l.take k ++ [l.getD k 0] := by rw [List.take_add_one, List.getElem?_eq_getElem hk, List.getD_eq_getElem?_getD, List.getElem?_eq_getElem hk]; rfl
  rw [h, List.filter_append, List.filter_cons]
  simp
theorem filter_take_le (p : Int → Bool) (l : List Int) (k : Nat) : ((l.take k).filter p).length ≤ k := Nat.le_trans (List.length_filter_le _ _) (by rw [List.length_take]; omega)
theorem own_apart {w : World} {B B' n n' : Nat} {e e' : TypeId} {size size' : Nat} {v v' : Value} {xs xs' : List Value} (h : w.ownsRow B e size v n xs) (h' : w.ownsRow B' e' size' v' n' xs') (he : e ≠ e') : v.ownBlock = none ∨ v.ownBlock ≠ v'.ownBlock := by
  rcases h.2 with ⟨rfl, _⟩ | ⟨g, cap, cur, rfl, _, hh, _⟩
  · exact .inl rfl
  · rcases h'.2 with ⟨rfl, _⟩ | ⟨g', cap', cur', rfl, _, hh', _⟩
    · exact .inr (by simp [Value.ownBlock])
    · refine .inr (fun hx => he ?_)
      simp only [Value.ownBlock, Option.some.injEq] at hx
      subst hx
      rw [hh] at hh'
      simp only [Option.some.injEq, Obj.cells.injEq] at hh'
      exact hh'.2.1
set_option maxHeartbeats 2000000 in
set_option maxRecDepth 100000 in
theorem oneSet0_any (w : World) (B pb mb sb : Nat) (L : List Ab) (ov : Value) (e : Int) (sn : Nat) (DS : DataW Unit) (hP : Pool av w B pb mb sb L ov e sn DS) (kind : Int) (a : Option Addr) (c : Nat) (l : List Int) (hkr : NRow w a l) (hl : ∀ x ∈ l, 0 ≤ x ∧ x.toNat < L.length) (hlen : l.length ≤ 4294967296) (hfew : (l.filter (isSet L)).length < 2) :
    Calls Tryz.prog 91 #[.pointer (some ⟨pb, 0, none⟩), .int .i64 kind, .slice a l.length c] w fun e' w' => e' = .returned (.slice a l.length c) ∧ Below w.heap.size w w' := by
  obtain ⟨i0, hi, hz0, hz1, hz2⟩ := info_parts hint
  obtain ⟨i2, hi2, hy0, hy1, hy2⟩ := info_parts hsetT
  have HP := hide hP
  have Hkr := hide hkr
  have Hl := hide hl
  clear hP hkr hl
  go_enter Tryz.func91, Tryz.ntmps91
  go_wp2
  go_loopw [17, 7, 8] (fun iv sv kv wr => ∃ (k : Nat) (a' : Option Addr) (c' : Nat) (dn : List Int) (a2 : Option Addr) (c2 : Nat) (sn2 : Nat) (vs : List Value), iv = .int .i64 k ∧ k ≤ l.length ∧ kv = .slice a' dn.length c' ∧ dn.length ≤ k ∧ wr.ownsRow w.heap.size 3 1 (.slice a' dn.length c') dn.length (intV dn) ∧ sv = .slice a2 sn2 c2 ∧ sn2 = ((l.take k).filter (isSet L)).length ∧ wr.ownsRow w.heap.size 22 1 (.slice a2 sn2 c2) sn2 vs ∧ Below w.heap.size w wr) (fun iv _ _ _ => l.length - (intOf iv).toNat)
  case atStart => exact ⟨0, none, 0, [], none, 0, 0, [], rfl, Nat.zero_le _, rfl, Nat.le_refl _, World.ownsRow_nil _ _ _ _, rfl, rfl, World.ownsRow_nil _ _ _ _, Below.refl _ _⟩
  case round =>
    obtain ⟨k, a', c', dn, a2, c2, sn2, vs, rfl, hk, rfl, hdl, hown, rfl, hsn, hown2, hb⟩ := hrel
    by_cases hlt : k < l.length
    · have hlt' : (k : Int) < l.length := by omega
      have hy : l.getD k 0 ∈ l := by rw [List.getD_eq_getElem?_getD, List.getElem?_eq_getElem hlt]; exact List.getElem_mem _
      have hft := filter_take (p := isSet L) hlt
      have hfl := filter_take_le (isSet L) l k
      have hcx : ∃ gk off, a = some ⟨gk, off, none⟩ ∧ wr.cell? ⟨gk, off + k, none⟩ = some (.int .i64 (l.getD k 0)) := by
        rcases unhide Hkr with h | ⟨gk, off, ha, hgl, hc⟩
        · rw [h] at hlt; simp at hlt
        · exact ⟨gk, off, ha, (World.cell?_of_block (a := ⟨gk, off + k, none⟩) (hb.block gk hgl)).trans (hc k hlt)⟩
      obtain ⟨gk, off, rfl, c0⟩ := hcx
      obtain ⟨hyz, hyl⟩ := unhide Hl _ hy
      generalize l.getD k 0 = yi at *
      obtain ⟨y, rfl⟩ := Int.eq_ofNat_of_zero_le hyz
      have hyn : y < L.length := by omega
      have hyi : (y : Int) < L.length := by omega
      obtain ⟨g, nc, p0, hn⟩ := pool_node (pool_below (unhide HP) hb)
      obtain ⟨d, hd, hN⟩ := hn y hyn
      have r0 := hN.c0
      have r1 := hN.c1
      have hks : isSet L (y : Int) = (d.kind == 2) := by unfold isSet; rw [Int.toNat_natCast, ← hd]; rfl
      rw [hks] at hft
      rw [← hsn] at hfl
      have hap := own_apart hown hown2 (by decide)
      have hap2 := own_apart hown2 hown (by decide)
      have Hft := hide hft; have Hown := hide hown; have Hown2 := hide hown2; have Hb := hide hb; have Hsn := hide hsn; have Hap := hide hap; have Hap2 := hide hap2
      clear hft hown hown2 hb hsn hap hap2 hn hN hy hyz hyl hd hks
      by_cases hkk : d.kind = 2
      · have hb1 : (d.kind == 2) = true := by simpa using hkk
        have Hkk := hide hb1
        rw [hkk] at r0
        clear hkk hb1
        go_wp2_with (at_builtin; refine wpList_append_lies _ rfl _ _ 124 rfl w.heap.size 22 i2 (.slice none 0 0) 1 24 Tryz.underlying124 hi2 hy0 hy1 hy2 rfl (by decide) _ sn2 vs rfl ((unhide Hown2).alloc _) ⟨wr.heap.size, 0, none⟩ 1 1 [.slice d.sa d.set.length d.sc] rfl rfl ?zz1 (by intro u hu; simp at hu; subst hu; rfl) (by decide) (by unfold maxLen; omega) (by omega) (by have := (unhide Hb).size; simp; omega) (wr.heap.size + 1) (by simp) ?_)
        case zz1 =>
          have h := World.news_of_block (MapKept.heap_alloc wr (.cells #[.slice d.sa d.set.length d.sc] 22)).1
          simpa using h
        intro g4 cap4 w4 hown4 hg4 hgv4 hgl4
        have hb4 : Below w.heap.size w w4 := ((unhide Hb).alloc (unhide Hb).size _).grown hg4 (by have := (unhide Hb).size; simp; omega) (fun k hk => (row_lt (unhide Hown2) hk).1)
        have hown5 := ((unhide Hown).alloc (.cells #[.slice d.sa d.set.length d.sc] 22)).kept hg4 (unhide Hap)
        have Hown4 := hide hown4; have Hb4 := hide hb4; have Hown5 := hide hown5
        clear hown4 hg4 hgv4 hgl4 hb4 hown5
        go_wp2
        go_roundw
        case rel => exact ⟨k + 1, a', c', dn, some ⟨g4, 0, none⟩, cap4, sn2 + 1, _, by go_num, by omega, rfl, by omega, unhide Hown5, rfl, by rw [unhide Hft, if_pos (unhide Hkk), List.length_append, ← unhide Hsn]; rfl, unhide Hown4, unhide Hb4⟩
        case measure => simp [intOf]; omega
      · have hb1 : (d.kind == 2) = false := by simpa using hkk
        have Hkk := hide hkk
        clear hkk
        go_wp2_with (at_builtin; refine wpList_append_lies _ rfl _ _ 63 rfl w.heap.size 3 i0 (.int .i64 0) 1 8 Tryz.underlying63 hi hz0 hz1 hz2 rfl (by decide) _ dn.length (intV dn) rfl ((unhide Hown).alloc _) ⟨wr.heap.size, 0, none⟩ 1 1 (intV [(y : Int)]) rfl rfl ?zz1 (intV_one _) (by decide) (by unfold maxLen; omega) (by omega) (by have := (unhide Hb).size; simp; omega) (wr.heap.size + 1) (by simp) ?_)
        case zz1 =>
          have h := World.news_of_block (MapKept.heap_alloc wr (.cells #[.int .i64 y] 3)).1
          simpa [intV] using h
        intro g4 cap4 w4 hown4 hg4 hgv4 hgl4
        have hb4 : Below w.heap.size w w4 := ((unhide Hb).alloc (unhide Hb).size _).grown hg4 (by have := (unhide Hb).size; simp; omega) (fun k hk => (row_lt (unhide Hown) hk).1)
        have hown5 := ((unhide Hown2).alloc (.cells #[.int .i64 (y : Int)] 3)).kept hg4 (unhide Hap2)
        have Hown4 := hide hown4; have Hb4 := hide hb4; have Hown5 := hide hown5
        clear hown4 hg4 hgv4 hgl4 hb4 hown5
        go_wp2
        go_roundw
        case rel => exact ⟨k + 1, some ⟨g4, 0, none⟩, cap4, dn ++ [(y : Int)], a2, c2, sn2, vs, by go_num, by omega, by simp, by simp; omega, by simpa [intV] using unhide Hown4, rfl, by rw [unhide Hft, if_neg (by simpa using unhide Hkk), List.append_nil]; exact unhide Hsn, unhide Hown5, unhide Hb4⟩
        case measure => simp [intOf]; omega
    · obtain rfl : k = l.length := by omega
      have hlt' : ¬ ((l.length : Int) < l.length) := by omega
      rw [List.take_length] at hsn
      have hs2 : (sn2 : Int) < 2 := by omega
      have Hb := hide hb
      clear hown hown2 hb hsn hfew
      go_wp2
      go_ret
      exact ⟨rfl, unhide Hb⟩
end Go.Proofs.YtkimhfajfbcdmaaGreatDoor

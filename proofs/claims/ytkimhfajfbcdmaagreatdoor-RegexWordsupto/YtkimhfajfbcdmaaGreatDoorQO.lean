/- Pools: oneSet, where there are fewer than two sets. (and what it leads to) -/
import Derived.Test.YtkimhfajfbcdmaaGreatDoorQI
import Derived.Shelf.SlGeneric
import Derived.Shelf.SlicesE.DeleteFunc
import Derived.Test.YtkimhfajfbcdmaaGreatDoorRows
import Derived.Test.YtkimhfajfbcdmaaGreatDoorQH
/- Pools: oneSet, where there are fewer than two sets. -/
namespace Go.Proofs.YtkimhfajfbcdmaaGreatDoor
open Go.RowKit Go.Maps

variable {av : Nat → Prop}

theorem hsetT : (Tryz.prog.info? 22).map (fun i => (i.zero, i.size, i.bytes)) = some (some (.slice none 0 0), 1, 24) := by kernel_rfl
def isSet (L : List Ab) (x : Int) : Bool := (L.getD x.toNat ab0).kind == 2
theorem filter_take {p : Int → Bool} {l : List Int} {k : Nat} (hk : k < l.length) : (l.take (k + 1)).filter p = (l.take k).filter p ++ (if p (l.getD k 0) then [l.getD k 0] else []) := by
  have h : l.take (k + 1) = l.take k ++ [l.getD k 0] := by rw [List.take_add_one, List.getElem?_eq_getElem hk, List.getD_eq_getElem?_getD, List.getElem?_eq_getElem hk]; rfl
  rw [h, List.filter_append, List.filter_cons]
  simp
theorem filter_take_le (p : Int → Bool) (l : List Int) (k : Nat) : ((l.take k).filter p).length ≤ k := Nat.le_trans (List.length_filter_le _ _) (by rw [List.length_take]; omega)
theorem own_apart {w : World} {B B' n n' : Nat} {e e' : TypeId} {size size' : Nat} {v v' : Value} {xs xs' : List Value} (h : w.ownsRow B e size v n xs) (h' : w.ownsRow B' e' size' v' n' xs') (he : e ≠ e') : v.ownBlock = none ∨ v.ownBlock ≠ v'.ownBlock := by
  rcases h.2 with ⟨rfl, _⟩ | ⟨g, cap, cur, rfl, _, hh, _⟩
  · exact .inl rfl
  · rcases h'.2 with ⟨rfl, _⟩ | ⟨g', cap', cur', rfl, _, hh', _⟩
    · exact .inr (by simp [Value.ownBlock])
    · refine .inr (fun hx => he ?_)
      simp only [Value.ownBlock, Option.some.injEq] at hx
      subst hx
      rw [hh] at hh'
      simp only [Option.some.injEq, Obj.cells.injEq] at hh'
      exact hh'.2.1
set_option maxHeartbeats 2000000 in
set_option maxRecDepth 100000 in
theorem oneSet0_any (w : World) (B pb mb sb : Nat) (L : List Ab) (ov : Value) (e : Int) (sn : Nat) (DS : DataW Unit) (hP : Pool av w B pb mb sb L ov e sn DS) (kind : Int) (a : Option Addr) (c : Nat) (l : List Int) (hkr : NRow w a l) (hl : ∀ x ∈ l, 0 ≤ x ∧ x.toNat < L.length) (hlen : l.length ≤ 4294967296) (hfew : (l.filter (isSet L)).length < 2) :
    Calls Tryz.prog 91 #[.pointer (some ⟨pb, 0, none⟩), .int .i64 kind, .slice a l.length c] w fun e' w' => e' = .returned (.slice a l.length c) ∧ Below w.heap.size w w' := by
  obtain ⟨i0, hi, hz0, hz1, hz2⟩ := info_parts hint
  obtain ⟨i2, hi2, hy0, hy1, hy2⟩ := info_parts hsetT
  have HP := hide hP
  have Hkr := hide hkr
  have Hl := hide hl
  clear hP hkr hl
  go_enter Tryz.func91, Tryz.ntmps91
  go_wp2
  go_loopw [17, 7, 8] (fun iv sv kv wr => ∃ (k : Nat) (a' : Option Addr) (c' : Nat) (dn : List Int) (a2 : Option Addr) (c2 : Nat) (sn2 : Nat) (vs : List Value), iv = .int .i64 k ∧ k ≤ l.length ∧ kv = .slice a' dn.length c' ∧ dn.length ≤ k ∧ wr.ownsRow w.heap.size 3 1 (.slice a' dn.length c') dn.length (intV dn) ∧ sv = .slice a2 sn2 c2 ∧ sn2 = ((l.take k).filter (isSet L)).length ∧ wr.ownsRow w.heap.size 22 1 (.slice a2 sn2 c2) sn2 vs ∧ Below w.heap.size w wr) (fun iv _ _ _ => l.length - (intOf iv).toNat)
  case atStart => exact ⟨0, none, 0, [], none, 0, 0, [], rfl, Nat.zero_le _, rfl, Nat.le_refl _, World.ownsRow_nil _ _ _ _, rfl, rfl, World.ownsRow_nil _ _ _ _, Below.refl _ _⟩
  case round =>
    obtain ⟨k, a', c', dn, a2, c2, sn2, vs, rfl, hk, rfl, hdl, hown, rfl, hsn, hown2, hb⟩ := hrel
    by_cases hlt : k < l.length
    · have hlt' : (k : Int) < l.length := by omega
      have hy : l.getD k 0 ∈ l := by rw [List.getD_eq_getElem?_getD, List.getElem?_eq_getElem hlt]; exact List.getElem_mem _
      have hft := filter_take (p := isSet L) hlt
      have hfl := filter_take_le (isSet L) l k
      have hcx : ∃ gk off, a = some ⟨gk, off, none⟩ ∧ wr.cell? ⟨gk, off + k, none⟩ = some (.int .i64 (l.getD k 0)) := by
        rcases unhide Hkr with h | ⟨gk, off, ha, hgl, hc⟩
        · rw [h] at hlt; simp at hlt
        · exact ⟨gk, off, ha, (World.cell?_of_block (a := ⟨gk, off + k, none⟩) (hb.block gk hgl)).trans (hc k hlt)⟩
      obtain ⟨gk, off, rfl, c0⟩ := hcx
      obtain ⟨hyz, hyl⟩ := unhide Hl _ hy
      generalize l.getD k 0 = yi at *
      obtain ⟨y, rfl⟩ := Int.eq_ofNat_of_zero_le hyz
      have hyn : y < L.length := by omega
      have hyi : (y : Int) < L.length := by omega
      obtain ⟨g, nc, p0, hn⟩ := pool_node (pool_below (unhide HP) hb)
      obtain ⟨d, hd, hN⟩ := hn y hyn
      have r0 := hN.c0
      have r1 := hN.c1
      have hks : isSet L (y : Int) = (d.kind == 2) := by unfold isSet; rw [Int.toNat_natCast, ← hd]; rfl
      rw [hks] at hft
      rw [← hsn] at hfl
      have hap := own_apart hown hown2 (by decide)
      have hap2 := own_apart hown2 hown (by decide)
      have Hft := hide hft; have Hown := hide hown; have Hown2 := hide hown2; have Hb := hide hb; have Hsn := hide hsn; have Hap := hide hap; have Hap2 := hide hap2
      clear hft hown hown2 hb hsn hap hap2 hn hN hy hyz hyl hd hks
      by_cases hkk : d.kind = 2
      · have hb1 : (d.kind == 2) = true := by simpa using hkk
        have Hkk := hide hb1
        rw [hkk] at r0
        clear hkk hb1
        go_wp2_with (at_builtin; refine wpList_append_lies _ rfl _ _ 124 rfl w.heap.size 22 i2 (.slice none 0 0) 1 24 Tryz.underlying124 hi2 hy0 hy1 hy2 rfl (by decide) _ sn2 vs rfl ((unhide Hown2).alloc _) ⟨wr.heap.size, 0, none⟩ 1 1 [.slice d.sa d.set.length d.sc] rfl rfl ?zz1 (by intro u hu; simp at hu; subst hu; rfl) (by decide) (by unfold maxLen; omega) (by omega) (by have := (unhide Hb).size; simp; omega) (wr.heap.size + 1) (by simp) ?_)
        case zz1 =>
          have h := World.news_of_block (MapKept.heap_alloc wr (.cells #[.slice d.sa d.set.length d.sc] 22)).1
          simpa using h
        intro g4 cap4 w4 hown4 hg4 hgv4 hgl4
        have hb4 : Below w.heap.size w w4 := ((unhide Hb).alloc (unhide Hb).size _).grown hg4 (by have := (unhide Hb).size; simp; omega) (fun k hk => (row_lt (unhide Hown2) hk).1)
        have hown5 := ((unhide Hown).alloc (.cells #[.slice d.sa d.set.length d.sc] 22)).kept hg4 (unhide Hap)
        have Hown4 := hide hown4; have Hb4 := hide hb4; have Hown5 := hide hown5
        clear hown4 hg4 hgv4 hgl4 hb4 hown5
        go_wp2
        go_roundw
        case rel => exact ⟨k + 1, a', c', dn, some ⟨g4, 0, none⟩, cap4, sn2 + 1, _, by go_num, by omega, rfl, by omega, unhide Hown5, rfl, by rw [unhide Hft, if_pos (unhide Hkk), List.length_append, ← unhide Hsn]; rfl, unhide Hown4, unhide Hb4⟩
        case measure => simp [intOf]; omega
      · have hb1 : (d.kind == 2) = false := by simpa using hkk
        have Hkk := hide hkk
        clear hkk
        go_wp2_with (at_builtin; refine wpList_append_lies _ rfl _ _ 63 rfl w.heap.size 3 i0 (.int .i64 0) 1 8 Tryz.underlying63 hi hz0 hz1 hz2 rfl (by decide) _ dn.length (intV dn) rfl ((unhide Hown).alloc _) ⟨wr.heap.size, 0, none⟩ 1 1 (intV [(y : Int)]) rfl rfl ?zz1 (intV_one _) (by decide) (by unfold maxLen; omega) (by omega) (by have := (unhide Hb).size; simp; omega) (wr.heap.size + 1) (by simp) ?_)
        case zz1 =>
          have h := World.news_of_block (MapKept.heap_alloc wr (.cells #[.int .i64 y] 3)).1
          simpa [intV] using h
        intro g4 cap4 w4 hown4 hg4 hgv4 hgl4
        have hb4 : Below w.heap.size w w4 := ((unhide Hb).alloc (unhide Hb).size _).grown hg4 (by have := (unhide Hb).size; simp; omega) (fun k hk => (row_lt (unhide Hown) hk).1)
        have hown5 := ((unhide Hown2).alloc (.cells #[.int .i64 (y : Int)] 3)).kept hg4 (unhide Hap2)
        have Hown4 := hide hown4; have Hb4 := hide hb4; have Hown5 := hide hown5
        clear hown4 hg4 hgv4 hgl4 hb4 hown5
        go_wp2
        go_roundw
        case rel => exact ⟨k + 1, some ⟨g4, 0, none⟩, cap4, dn ++ [(y : Int)], a2, c2, sn2, vs, by go_num, by omega, by simp, by simp; omega, by simpa [intV] using unhide Hown4, rfl, by rw [unhide Hft, if_neg (by simpa using unhide Hkk), List.append_nil]; exact unhide Hsn, unhide Hown5, unhide Hb4⟩
        case measure => simp [intOf]; omega
    · obtain rfl : k = l.length := by omega
      have hlt' : ¬ ((l.length : Int) < l.length) := by omega
      rw [List.take_length] at hsn
      have hs2 : (sn2 : Int) < 2 := by omega
      have Hb := hide hb
      clear hown hown2 hb hsn hfew
      go_wp2
      go_ret
      exact ⟨rfl, unhide Hb⟩
end Go.Proofs.YtkimhfajfbcdmaaGreatDoor

/- The library's DeleteFunc at []int at this program: its bodies are the ones that the library's contract speaks of. -/
namespace Go.Proofs
open Go.Shelf
def Tryz.delI_ren : Go.Shelf.Ren := ⟨fun | 10 => 92 | 6 => 83 | n => n, fun | 22 => 63 | 23 => 3 | 25 => 100 | 3 => 3 | 4 => 4 | 0 => 0 | n => n, fun | n => n⟩
theorem Tryz.delI : Go.Proofs.SlLaysH.n10 Tryz.prog Tryz.delI_ren := {
  mixed := by kernel_rfl
  f6 := ⟨Tryz.f83.name, by decide, Tryz.func83.trans (congrArg some (by kernel_rfl))⟩
  f10 := ⟨Tryz.f92.name, by decide, Tryz.func92.trans (congrArg some (by kernel_rfl))⟩
  t0 := Tryz.underlying0
  a0 := Tryz.isAgg0
  z0 := Tryz.sizeOf0
  v0 := Tryz.zeroValue0
  t3 := Tryz.underlying3
  a3 := Tryz.isAgg3
  z3 := Tryz.sizeOf3
  v3 := Tryz.zeroValue3
  t4 := Tryz.underlying4
  a4 := Tryz.isAgg4
  z4 := Tryz.sizeOf4
  v4 := Tryz.zeroValue4
  t22 := Tryz.underlying63
  a22 := Tryz.isAgg63
  z22 := Tryz.sizeOf63
  v22 := Tryz.zeroValue63
  a23 := Tryz.isAgg3
  z23 := Tryz.sizeOf3
  t25 := Tryz.underlying100
  a25 := Tryz.isAgg100
  z25 := Tryz.sizeOf100
  v25 := Tryz.zeroValue100 }
end Go.Proofs

/- DeleteFunc of a row of numbers. -/
namespace Go.Proofs.YtkimhfajfbcdmaaGreatDoor
open Go.RowKit Go.Sort Go.Shelf

set_option maxRecDepth 100000 in
theorem idle_any (ib : Nat) (idle x : Int) (w : World) (hb : w.cell? ⟨ib, 0, none⟩ = some (.int .i64 idle)) :
    Calls Tryz.prog 93 #[.int .i64 x, .pointer (some ⟨ib, 0, none⟩)] w fun e w' => e = .returned (.bool (x == idle)) ∧ w' = w := by
  go_enter Tryz.func93, Tryz.ntmps93
  go_wp2
  go_ret
  exact ⟨rfl, rfl⟩
set_option maxRecDepth 100000 in
theorem index0_any (a : Option Addr) (c : Nat) (f : Value) (w : World) :
    Calls Tryz.prog 83 #[.slice a 0 c, f] w fun e w' => e = .returned (.int .i64 (-1)) ∧ w' = w := by
  go_enter Tryz.func83, Tryz.ntmps83
  go_wp2
  go_loop [8] (fun x => x = .int .i64 0) (fun _ => 0)
  case atStart => rfl
  case round =>
    subst hrel
    go_wp2
    go_ret
    exact ⟨rfl, rfl⟩
set_option maxRecDepth 100000 in
theorem delete0_any (a : Option Addr) (c : Nat) (f : Value) (w : World) :
    Calls Tryz.prog 92 #[.slice a 0 c, f] w fun e w' => e = .returned (.slice a 0 c) ∧ w' = w := by
  have HI := hide (index0_any a c f w)
  go_enter Tryz.func92, Tryz.ntmps92
  go_wp2_with fail
  refine (unhide HI).mono ?_
  rintro e w' ⟨rfl, hw⟩
  obtain rfl := hw.symm
  go_wp2
  go_ret
  exact ⟨rfl, rfl⟩
theorem deleteI_any (B : Nat) (a : Option Addr) (c : Nat) (xs : List Int) (hn : xs.length ≤ 281474976710656) (w : World) (h : w.ownsRow B 3 1 (.slice a xs.length c) xs.length (intV xs)) (ib : Nat) (idle : Int) (hib : w.cell? ⟨ib, 0, none⟩ = some (.int .i64 idle)) (hB : ib < B) (hBw : B ≤ w.heap.size) :
    Calls Tryz.prog 92 #[.slice a xs.length c, .func (.func 93) #[] #[.pointer (some ⟨ib, 0, none⟩)]] w fun e w' => e = .returned (.slice a (xs.filter fun x => !(x == idle)).length c) ∧ w'.ownsRow B 3 1 (.slice a (xs.filter fun x => !(x == idle)).length c) (xs.filter fun x => !(x == idle)).length (intV (xs.filter fun x => !(x == idle))) ∧ Below B w w' := by
  by_cases h0 : xs.length = 0
  · obtain rfl : xs = [] := List.length_eq_zero_iff.1 h0
    refine (delete0_any a c _ w).mono ?_
    rintro e w' ⟨rfl, rfl⟩
    exact ⟨rfl, h, Below.refl _ _⟩
  · obtain ⟨g, c', hv, hg, hlt, hle, hmx⟩ := own_pos h (by omega)
    simp only [Value.slice.injEq] at hv
    obtain ⟨rfl, -, rfl⟩ := hv
    have hp : PredAt Tryz.prog 93 #[.pointer (some ⟨ib, 0, none⟩)] (Value.int .i64) (fun x => x == idle) w := fun W x hb => by
      refine (idle_any ib idle x W ((World.cell?_of_block (a := ⟨ib, 0, none⟩) (hb.block ib (by omega))).trans hib)).mono ?_
      rintro e w' ⟨rfl, rfl⟩
      exact ⟨rfl, 0, rfl⟩
    have hpo : PredOver Tryz.prog 93 #[.pointer (some ⟨ib, 0, none⟩)] (Value.int .i64) (fun x => x == idle) g 0 xs.toArray.size w := fun n os dk x hd => by
      refine (idle_any ib idle x _ ?_).mono ?_
      · unfold sortWorld
        rw [cell?_grow _ os _ (by rw [size_putRow]; show ib < w.heap.size; omega), cell?_putRow_other _ _ _ _ _ _ (.inl (by show ib ≠ g; omega))]
        exact hib
      · rintro e w' ⟨rfl, rfl⟩
        exact ⟨rfl, 0, rfl⟩
    have hc := AnyE.slices_DeleteFunc (ρ := Tryz.delI_ren) Tryz.delI (Value.int .i64) (fun _ => rfl) (fun x => x == idle) 93 #[.pointer (some ⟨ib, 0, none⟩)] (enters_of Tryz.func93 (by kernel_rfl) rfl) 0 Tryz.zeroValue3 g 0 c xs.toArray w hp hpo (holds_own h) (by simp; omega) (by simpa using hle)
    simp only [List.size_toArray] at hc
    refine hc.mono ?_
    rintro e w' ⟨rfl, q, rfl⟩
    have hfl := List.length_filter_le (fun x => !(x == idle)) xs
    exact ⟨rfl, own_put h q (xs.filter fun x => !(x == idle)) _ (by simp; omega), off_to (put_offI w q g 0 _) (fun i hi => by omega) (by omega)⟩
end Go.Proofs.YtkimhfajfbcdmaaGreatDoor

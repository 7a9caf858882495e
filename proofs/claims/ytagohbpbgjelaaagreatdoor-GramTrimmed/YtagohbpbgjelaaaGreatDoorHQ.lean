/- The code's alone: the rules of a row that can stand alone. -/
import Derived.Test.YtagohbpbgjelaaaGreatDoorGY
import Derived.Test.YtagohbpbgjelaaaGreatDoorA5
import Derived.Test.YtagohbpbgjelaaaGreatDoorRG
import Derived.Test.YtagohbpbgjelaaaGreatDoorM1
import Derived.Test.YtagohbpbgjelaaaGreatDoorGX
import Derived.Test.YtagohbpbgjelaaaGreatDoorSP
import Derived.Test.YtagohbpbgjelaaaGreatDoorY1
import Derived.Test.YtagohbpbgjelaaaGreatDoorWkT3
namespace Go.Proofs.YtagohbpbgjelaaaGreatDoor
open Go.RowKit

noncomputable def firmB (G : Gm) (x : Int) : Bool := !(decide ((G.nk : Int) ≤ x) && nullF G (x - G.nk).toNat)
noncomputable def firmL (G : Gm) (row : List Int) : List Int := row.filter (firmB G)
theorem firmL_take (G : Gm) (row : List Int) (k : Nat) (hk : k < row.length) : firmL G (row.take (k + 1)) = firmL G (row.take k) ++ if firmB G (row.getD k 0) then [row.getD k 0] else [] := by
  unfold firmL
  rw [take_snoc row k 0 hk, List.filter_append]
  congr 1
  generalize row.getD k 0 = x
  by_cases h : firmB G x = true
  · rw [if_pos h]; simp [h]
  · rw [if_neg h]; simp [h]
theorem firmL_len (G : Gm) (row : List Int) : (firmL G row).length ≤ row.length := List.length_filter_le _ _
noncomputable def aloneL (G : Gm) (row : List Int) : List Int := if (firmL G row).length = 0 then rulesL G.nk row else if (firmL G row).length = 1 then rulesL G.nk (firmL G row) else []
theorem bgAt_below {M : Nat} {w w' : World} {G : Gm} {bb nb sb sc gb : Nat} {A : Nat → Nat} (h : BgAt M w G bb nb sb sc gb A) (hb : Below w.heap.size w w') : BgAt M w' G bb nb sb sc gb A := by
  obtain ⟨OO, rep, C, h1, h2⟩ := h.st
  exact ⟨(hb.block _ (Array.getElem?_eq_some_iff.1 h.bx).1).trans h.bx, h.nu.of_block (hb.block _ h.nu.lt), ⟨OO, rep, C, sets_below h1 hb, h2⟩, h.b1, h.b2⟩
set_option maxHeartbeats 2000000 in
set_option maxRecDepth 100000 in
theorem alone_any (G : Gm) (hG : GOk G) (ka : Option Addr) (kc gb bb nb : Nat) (sv : Value) (ro : Option Addr) (rowc : Nat) (row : List Int) (hl : row.length ≤ 64) (hx : symsIn (G.nk + G.nr) row) (w : World) (hgb : gb < w.heap.size) (hc0 : w.cell? ⟨gb, 0, none⟩ = some (.slice ka G.kinds.length kc)) (hbx : w.heap[bb]? = some (.cells #[.pointer (some ⟨gb, 0, none⟩), .slice (some ⟨nb, 0, none⟩) G.rules.length G.rules.length, sv] 64 (0, 0))) (hnu : w.rowIs nb 4 G.rules.length (fun r => .bool (nullF G r))) (hrow : NRow w.heap.size w ro row) :
    Calls Tryz.prog 88 #[.pointer (some ⟨bb, 0, none⟩), .slice ro row.length rowc] w fun e w' => ∃ v, e = .returned v ∧ w'.ownsRow w.heap.size 3 1 v (aloneL G row).length (vints (aloneL G row)) ∧ Below w.heap.size w w' := by
  obtain ⟨i3, hi3, hz30, hz31, hz32⟩ := info_parts info3
  have hk3 := hG.k3; have hr2 := hG.r2
  unfold Gm.nk at hk3
  unfold Gm.nr at hr2
  have hnot := run_not
  have Hc0 := hide hc0; have Hrow := hide hrow; have Hx := hide hx; have Hbx := hide hbx; have Hnu := hide hnu
  clear hc0 hrow hx hbx hnu
  go_enter Tryz.func88, Tryz.ntmps88
  go_wp2
  go_loopw [5, 12] (fun u x W => ∃ k : Nat, x = .int .i64 k ∧ k ≤ row.length ∧ W.ownsRow w.heap.size 3 1 u (firmL G (row.take k)).length (vints (firmL G (row.take k))) ∧ Below w.heap.size w W) (fun _ x _ => row.length - (intOf x).toNat)
  case atStart => exact ⟨0, rfl, Nat.zero_le _, World.ownsRow_nil _ _ _ _, Below.refl _ _⟩
  case round =>
    obtain ⟨k, rfl, hk, hown, hb⟩ := hrel
    obtain ⟨ua, uc, rfl⟩ := own_form hown
    have hsz := hb.size
    have hle := firmL_len G (row.take k)
    rw [List.length_take] at hle
    have hbx := (hb.block _ (Array.getElem?_eq_some_iff.1 (unhide Hbx)).1).trans (unhide Hbx)
    have hnuw := (unhide Hnu).of_block (hb.block _ (unhide Hnu).lt)
    have b0 : wr.cell? ⟨bb, 0, none⟩ = some (.pointer (some ⟨gb, 0, none⟩)) := by unfold World.cell?; rw [hbx]; rfl
    have b1 : wr.cell? ⟨bb, 1, none⟩ = some (.slice (some ⟨nb, 0, none⟩) G.rules.length G.rules.length) := by unfold World.cell?; rw [hbx]; rfl
    have c0 := (hb.cell (p := ⟨gb, 0, none⟩) hgb).trans (unhide Hc0)
    have Hown := hide hown; have Hb := hide hb
    clear hbx
    by_cases hlt : k < row.length
    · have hlt' : (k : Int) < row.length := by omega
      obtain ⟨b, off, rfl, hbl, hc⟩ := nrow_at (nrow_kept hb (unhide Hrow)) hlt
      have hxk := unhide Hx _ (mem_getD hlt)
      unfold Gm.nk Gm.nr at hxk
      have Hs := hide (firmL_take G row k hlt)
      have HR := hide (rule_any gb (row.getD k 0) G.kinds.length ka kc hk3 (by omega) wr c0)
      have hfb : firmB G (row.getD k 0) = !(decide ((G.kinds.length : Int) ≤ row.getD k 0) && nullF G (row.getD k 0 - (G.kinds.length : Nat)).toNat) := rfl
      clear hown hb
      generalize row.getD k 0 = x at *
      generalize hFm : firmL G (row.take k) = acc at *
      have App : ∀ (hf : firmB G x = true), Hid (firmL G (row.take (k + 1)) = acc ++ [x]) := fun hf => hide (by have := unhide Hs; rw [if_pos hf] at this; exact this)
      by_cases hr : (G.kinds.length : Int) ≤ x
      · rw [if_pos hr, decide_eq_true hr] at HR
        rw [decide_eq_true hr, Bool.true_and] at hfb
        obtain ⟨y, hy⟩ : ∃ y : Nat, x - G.kinds.length = (y : Int) := ⟨(x - G.kinds.length).toNat, by omega⟩
        rw [hy] at HR hfb
        rw [Int.toNat_natCast] at hfb
        have hyn : y < G.rules.length := by omega
        have hyn' : (y : Int) < G.rules.length := by omega
        have ny := hnuw.cell hyn
        cases hnu : nullF G y with
        | true =>
          rw [hnu] at hfb ny
          have Hs2 : Hid (firmL G (row.take (k + 1)) = acc) := hide (by have := unhide Hs; rw [hfb] at this; simpa using this)
          clear App Hs hfb hnuw
          go_wp2_with fail
          refine (unhide HR).mono ?_
          rintro e w9 ⟨rfl, rfl⟩
          go_wp2
          go_roundw
          case rel => exact ⟨k + 1, by go_num, by omega, by rw [unhide Hs2]; exact unhide Hown, unhide Hb⟩
          case measure => simp [intOf]; omega
        | false =>
          rw [hnu] at hfb ny
          have Hs2 := App hfb
          clear App Hs hfb hnuw
          go_wp2_with fail
          refine (unhide HR).mono ?_
          rintro e w9 ⟨rfl, rfl⟩
          go_wp2_with (at_builtin; refine wpList_append_own _ rfl _ _ 27 rfl w.heap.size 3 i3 (.int .i64 0) 1 8 Tryz.underlying27 hi3 hz30 hz31 hz32 rfl (by decide) _ _ _ rfl ((unhide Hown).alloc _) ⟨wr.heap.size, 0, none⟩ 1 1 [.int .i64 x] rfl rfl (new1 _ _ _) ?zc2 ?zc3 ?zc4 ?zc5 ?_)
          case zc2 => intro u hu; simp at hu; rcases hu with rfl; rfl
          case zc3 => unfold maxLen; omega
          case zc4 => omega
          case zc5 => simp; omega
          intro v' W3 hown' hgrow _
          have Hb4 := hide (((unhide Hb).alloc hsz _).grown hgrow (by simp; omega) (fun j hj => ((unhide Hown).lt j hj).1))
          have Ho4 := hide (show W3.ownsRow w.heap.size 3 1 v' (firmL G (row.take (k + 1))).length (vints (firmL G (row.take (k + 1)))) by rw [unhide Hs2, ← vints_snoc, List.length_append]; exact hown')
          clear hown' hgrow
          go_wp2
          go_roundw
          case rel => exact ⟨k + 1, by go_num, by omega, unhide Ho4, unhide Hb4⟩
          case measure => simp [intOf]; omega
      · rw [if_neg hr, decide_eq_false hr] at HR
        rw [decide_eq_false hr] at hfb
        have Hs2 := App hfb
        clear App Hs hfb hnuw
        go_wp2_with fail
        refine (unhide HR).mono ?_
        rintro e w9 ⟨rfl, rfl⟩
        go_wp2_with (at_builtin; refine wpList_append_own _ rfl _ _ 27 rfl w.heap.size 3 i3 (.int .i64 0) 1 8 Tryz.underlying27 hi3 hz30 hz31 hz32 rfl (by decide) _ _ _ rfl ((unhide Hown).alloc _) ⟨wr.heap.size, 0, none⟩ 1 1 [.int .i64 x] rfl rfl (new1 _ _ _) ?zc2 ?zc3 ?zc4 ?zc5 ?_)
        case zc2 => intro u hu; simp at hu; rcases hu with rfl; rfl
        case zc3 => unfold maxLen; omega
        case zc4 => omega
        case zc5 => simp; omega
        intro v' W3 hown' hgrow _
        have Hb4 := hide (((unhide Hb).alloc hsz _).grown hgrow (by simp; omega) (fun j hj => ((unhide Hown).lt j hj).1))
        have Ho4 := hide (show W3.ownsRow w.heap.size 3 1 v' (firmL G (row.take (k + 1))).length (vints (firmL G (row.take (k + 1)))) by rw [unhide Hs2, ← vints_snoc, List.length_append]; exact hown')
        clear hown' hgrow
        go_wp2
        go_roundw
        case rel => exact ⟨k + 1, by go_num, by omega, unhide Ho4, unhide Hb4⟩
        case measure => simp [intOf]; omega
    · obtain rfl : k = row.length := by omega
      rw [List.take_length] at Hown hown ⊢
      have hsr : ∀ x, x ∈ row → 0 ≤ x ∧ x ≤ 281474976710656 := fun x hx => by have := unhide Hx x hx; unfold Gm.nk Gm.nr at this; omega
      have HA := hide (rulesOf_any gb G.kinds.length ka kc hk3 ro rowc row (by omega) hsr wr c0 (by omega) (nrow_big hsz (nrow_kept hb (unhide Hrow))))
      have hfn : NRow wr.heap.size wr ua (firmL G row) := by
        obtain ⟨_, _, he, hn⟩ := own_nrow hown
        cases he
        exact hn
      have hfl := firmL_len G row
      have HF := hide (rulesOf_any gb G.kinds.length ka kc hk3 ua uc (firmL G row) (by omega) (fun x hx => hsr x (List.mem_filter.1 hx).1) wr c0 (by omega) hfn)
      have Hal : Hid (aloneL G row = if (firmL G row).length = 0 then rulesL G.kinds.length row else if (firmL G row).length = 1 then rulesL G.kinds.length (firmL G row) else []) := hide rfl
      clear hown hb hfn hnuw
      by_cases h0 : (firmL G row).length = 0
      · rw [if_pos h0] at Hal
        have h0' : ((firmL G row).length : Int) = 0 := by omega
        rw [h0] at HF ⊢
        go_wp2_with fail
        refine (unhide HA).mono ?_
        rintro e w9 ⟨v9, rfl, ho9, hb9⟩
        have Ho9 := hide (show w9.ownsRow w.heap.size 3 1 v9 (aloneL G row).length (vints (aloneL G row)) by rw [unhide Hal]; exact own_base ho9 hsz)
        have Hb9 := hide ((unhide Hb).trans (below_le hb9 hsz))
        clear ho9 hb9
        go_wp2
        go_ret
        exact ⟨v9, rfl, unhide Ho9, unhide Hb9⟩
      · rw [if_neg h0] at Hal
        by_cases h1 : (firmL G row).length = 1
        · rw [if_pos h1] at Hal
          rw [h1] at HF ⊢
          go_wp2_with fail
          refine (unhide HF).mono ?_
          rintro e w9 ⟨v9, rfl, ho9, hb9⟩
          have Ho9 := hide (show w9.ownsRow w.heap.size 3 1 v9 (aloneL G row).length (vints (aloneL G row)) by rw [unhide Hal]; exact own_base ho9 hsz)
          have Hb9 := hide ((unhide Hb).trans (below_le hb9 hsz))
          clear ho9 hb9
          go_wp2
          go_ret
          exact ⟨v9, rfl, unhide Ho9, unhide Hb9⟩
        · rw [if_neg h1] at Hal
          have h0' : ¬ ((firmL G row).length : Int) = 0 := by omega
          have h1' : ¬ ((firmL G row).length : Int) = 1 := by omega
          generalize (firmL G row).length = fl at *
          go_wp2
          go_ret
          exact ⟨_, rfl, by rw [unhide Hal]; exact World.ownsRow_nil _ _ _ _, unhide Hb⟩
end Go.Proofs.YtagohbpbgjelaaaGreatDoor

namespace Go.Proofs.YtagohbpbgjelaaaGreatDoor
open Go.RowKit

def kcN (G : Gm) (q : Nat) : Int := ((G.prods.getD q pd0).right.length : Int) - (rlN G q).length
def lfQ (G : Gm) (q : Nat) : Nat := (G.prods.getD q pd0).left.toNat
theorem rulesL_cons (nk : Nat) (x : Int) (l : List Int) : rulesL nk (x :: l) = (if (nk : Int) ≤ x then [x - nk] else []) ++ rulesL nk l := rfl
theorem lenR_sumQ {nk : Nat} {f : Nat → Int} : ∀ (row : List Int) (acc : Int), 0 ≤ acc → acc ≤ 65537 → (∀ x, x ∈ row → (nk : Int) ≤ x → 0 ≤ f (x - nk).toNat) →
    lenR nk f row acc = min (acc + ((row.length : Int) - (rulesL nk row).length) + sumL f ((rulesL nk row).map Int.toNat)) 65537
  | [], acc, h0, h1, _ => by unfold lenR; simp [rulesL, sumL]; omega
  | x :: xs, acc, h0, h1, h => by
    have hr := fun y hy => h y (List.mem_cons_of_mem _ hy)
    have hs := (sumL_ge f ((rulesL nk xs).map Int.toNat)).1
    have hl := rulesL_len (nk := nk) xs
    unfold lenR
    rw [rulesL_cons]
    by_cases hk : (nk : Int) ≤ x
    · have hf := h x (by simp) hk
      rw [if_pos hk, if_pos hk, if_neg (by omega), lenR_sumQ xs _ (by omega) (by omega) hr]
      simp only [List.singleton_append, List.map_cons, List.length_cons, sumL]
      rw [if_pos hf]
      push_cast
      omega
    · rw [if_neg hk, if_neg hk, lenR_sumQ xs _ (by omega) (by omega) hr]
      simp only [List.nil_append, List.length_cons]
      push_cast
      omega
theorem lenR_q {G : Gm} {f : Nat → Int} {q : Nat} (h : ∀ x, x ∈ rlN G q → 0 ≤ f x) : lenR G.nk f (G.prods.getD q pd0).right 0 = min (kcN G q + sumL f (rlN G q)) 65537 := by
  rw [lenR_sumQ _ 0 (Int.le_refl _) (by decide) (fun x hx hk => h _ (rlN_mem.2 ⟨x, hx, hk, rfl⟩))]
  unfold kcN rlN
  rw [List.length_map]
  congr 1
  omega
theorem lng_good {G : Gm} (f : Nat → Int) (q : Nat) (hq : q < G.prods.length) (h : ∀ x, x ∈ rlN G q → 0 ≤ f x ∧ f x ≤ 65537 ∧ Lng G x (f x)) : Lng G (lfQ G q) (min (kcN G q + sumL f (rlN G q)) 65537) := by
  have e := lenR_q (G := G) (f := f) (q := q) (fun x hx => (h x hx).1)
  rw [← e]
  have hk : 0 ≤ kcN G q := by unfold kcN rlN; rw [List.length_map]; have := rulesL_len (nk := G.nk) (G.prods.getD q pd0).right; omega
  have hs := (sumL_ge f (rlN G q)).1
  exact .mk _ (mem_getP hq) f (fun x hx hkx => (h _ (rlN_mem.2 ⟨x, hx, hkx, rfl⟩)).2.2) (by rw [e]; omega)
theorem kcN_nn (G : Gm) (q : Nat) : 0 ≤ kcN G q := by unfold kcN rlN; rw [List.length_map]; have := rulesL_len (nk := G.nk) (G.prods.getD q pd0).right; omega
abbrev LsI (G : Gm) (L mi su : Nat → Int) (H : Nat → Option Int) (rem : List Nat) : Prop := KInv (lfQ G) (rlN G) (kcN G) G.prods.length (Lng G) 65537 L mi su H rem
theorem ls_end {G : Gm} {L mi su : Nat → Int} {H : Nat → Option Int} (h : LsI G L mi su H []) (hH : ∀ r, H r = none) : LeastIs G L := by
  obtain ⟨h1, h2⟩ := kinv_end h hH
  refine lng_done h1 (fun i hi => ?_)
  rintro ⟨h3, h4⟩
  have hall : ∀ x, x ∈ rlN G i → 0 ≤ L x := fun x hx => by
    obtain ⟨y, hy, hk, rfl⟩ := rlN_mem.1 hx
    exact lenR_all _ 0 (Int.le_refl _) h3 y hy hk
  have h5 := h2 i hi hall
  rw [lenR_q hall] at h4
  unfold lfQ at h5
  omega
theorem ls_pop {G : Gm} {L mi su : Nat → Int} {H : Nat → Option Int} {r : Nat} {v : Int} (h : LsI G L mi su H []) (hr : H r = some v) (hmin : ∀ s u, H s = some u → v ≤ u) :
    L r < 0 ∧ 0 ≤ v ∧ v ≤ 65537 ∧ LsI G (upZ L r v) (dcM (useN G r) mi) (fun q => su q + v * ((useN G r).count q : Nat)) (upH H r none) (dcR (useN G r) mi) :=
  kinv_pop (uses := useN G) (fun q r hq => useN_count hq) (fun q r hq => useN_lt hq) (fun q _ => kcN_nn G q) (by decide) (fun f q hq hx => lng_good f q hq hx) h hr hmin
end Go.Proofs.YtagohbpbgjelaaaGreatDoor

namespace Go.Proofs.YtagohbpbgjelaaaGreatDoor
open Go.RowKit

theorem smG_ok {G : Gm} (hG : GOk G) : smG G := fun p hp => by have := hG.pr p hp; omega
end Go.Proofs.YtagohbpbgjelaaaGreatDoor

namespace Go.Proofs.YtagohbpbgjelaaaGreatDoor
open Go.RowKit

theorem rulesL_mem {nk : Nat} {row : List Int} {y : Int} : y ∈ rulesL nk row ↔ ∃ x, x ∈ row ∧ (nk : Int) ≤ x ∧ y = x - nk := by
  unfold rulesL
  rw [List.mem_flatMap]
  constructor
  · rintro ⟨x, h1, h2⟩
    split at h2
    · rename_i h; simp at h2; exact ⟨x, h1, by first | omega | (simp at h; omega), h2⟩
    · simp at h2
  · rintro ⟨x, h1, h2, rfl⟩
    exact ⟨x, h1, by rw [if_pos (by first | omega | (simp; omega))]; simp⟩
theorem nxtL_mem {G : Gm} {ok : Nat → Bool} {r : Nat} {y : Int} : y ∈ nxtL G ok (ownN G r) ↔ ∃ q, q < G.prods.length ∧ (G.prods.getD q pd0).left.toNat = r ∧ ok q = true ∧ y ∈ rulesL G.nk (G.prods.getD q pd0).right := by
  unfold nxtL ownN
  rw [List.mem_flatMap]
  constructor
  · rintro ⟨q, h1, h2⟩
    simp only [List.mem_filter, List.mem_range, decide_eq_true_eq] at h1
    split at h2
    · rename_i h; exact ⟨q, h1.1, h1.2, h, h2⟩
    · simp at h2
  · rintro ⟨q, h1, h2, h3, h4⟩
    exact ⟨q, by simp only [List.mem_filter, List.mem_range, decide_eq_true_eq]; exact ⟨h1, h2⟩, by rw [if_pos h3]; exact h4⟩
structure RcI (G : Gm) (ok : Nat → Bool) (okP : Pd → Bool) (fs : List Nat) (a : Nat) : Prop where
  nd : fs.Nodup
  lt : ∀ x, x ∈ fs → x < G.rules.length
  st : G.start.toNat ∈ fs
  snd : ∀ x, x ∈ fs → Rchd G okP x
  le : a ≤ fs.length
  shut : ∀ j, j < a → ∀ y, y ∈ nxtL G ok (ownN G (fs.getD j 0)) → y.toNat ∈ fs
theorem getD_app {l : List Nat} {y j : Nat} (h : j < l.length) : (l ++ [y]).getD j 0 = l.getD j 0 := by
  rw [List.getD_eq_getElem?_getD, List.getElem?_append_left h, ← List.getD_eq_getElem?_getD]
theorem rc_start {G : Gm} (hG : GOk G) (ok : Nat → Bool) (okP : Pd → Bool) : RcI G ok okP [G.start.toNat] 0 := by
  have h0 := hG.s0; have h1 := hG.s1
  unfold Gm.nr at h1
  exact ⟨by simp, fun x hx => by simp at hx; subst hx; omega, by simp, fun x hx => by simp at hx; subst hx; exact .start, Nat.zero_le _, fun j hj => by omega⟩
theorem rc_push {G : Gm} {ok : Nat → Bool} {okP : Pd → Bool} {fs : List Nat} {a y : Nat} (h : RcI G ok okP fs a) (hy : y < G.rules.length) (hr : Rchd G okP y) (hn : y ∉ fs) : RcI G ok okP (fs ++ [y]) a := by
  refine ⟨?_, fun x hx => ?_, List.mem_append_left _ h.st, fun x hx => ?_, by have := h.le; simp; omega, fun j hj z hz => ?_⟩
  · rw [List.nodup_append]
    exact ⟨h.nd, by simp, fun x hx z hz => by simp at hz; subst hz; intro e; subst e; exact hn hx⟩
  · rcases List.mem_append.1 hx with h1 | h1
    · exact h.lt x h1
    · simp at h1; subst h1; exact hy
  · rcases List.mem_append.1 hx with h1 | h1
    · exact h.snd x h1
    · simp at h1; subst h1; exact hr
  · rw [getD_app (by have := h.le; omega)] at hz
    exact List.mem_append_left _ (h.shut j hj z hz)
theorem rc_next {G : Gm} {ok : Nat → Bool} {okP : Pd → Bool} {fs : List Nat} {a : Nat} (h : RcI G ok okP fs a) (ha : a < fs.length) (hs : ∀ y, y ∈ nxtL G ok (ownN G (fs.getD a 0)) → y.toNat ∈ fs) : RcI G ok okP fs (a + 1) :=
  ⟨h.nd, h.lt, h.st, h.snd, ha, fun j hj y hy => by
    by_cases e : j = a
    · subst e; exact hs y hy
    · exact h.shut j (by omega) y hy⟩
theorem rc_reach {G : Gm} {ok : Nat → Bool} {okP : Pd → Bool} (hok : ∀ q, q < G.prods.length → ok q = okP (G.prods.getD q pd0)) (hG : GOk G) {r : Nat} (hr : Rchd G okP r) {y : Int} (hy : y ∈ nxtL G ok (ownN G r)) : Rchd G okP y.toNat ∧ 0 ≤ y ∧ y.toNat < G.rules.length := by
  obtain ⟨q, h1, h2, h3, h4⟩ := nxtL_mem.1 hy
  obtain ⟨x, h5, h6, rfl⟩ := rulesL_mem.1 h4
  have h7 := hG.py _ (mem_getP h1) x h5
  unfold Gm.nr at h7
  refine ⟨.step (G.prods.getD q pd0) (mem_getP h1) (by rw [← hok q h1]; exact h3) (by rw [h2]; exact hr) x h5 h6, by omega, by omega⟩
theorem rc_len {G : Gm} {ok : Nat → Bool} {okP : Pd → Bool} {fs : List Nat} {a : Nat} (h : RcI G ok okP fs a) : fs.length ≤ G.rules.length := by
  have := Wk.nodup_bound G.rules.length (castL fs) (by
    unfold castL
    refine List.Pairwise.map (R := (· ≠ ·)) _ (fun a b hab e => hab (by omega)) h.nd) (fun x hx => by
    obtain ⟨y, hy, rfl⟩ := castL_mem.1 hx
    have := h.lt y hy
    omega)
  rwa [castL_len] at this
theorem rc_end {G : Gm} {ok : Nat → Bool} {okP : Pd → Bool} (hok : ∀ q, q < G.prods.length → ok q = okP (G.prods.getD q pd0)) {fs : List Nat} (h : RcI G ok okP fs fs.length) : (fun r => decide (r ∈ fs)) = rchF G okP := by
  refine rch_done ⟨by simpa using h.st, fun r hr => h.snd r (by simpa using hr)⟩ (fun i hi hl ho x hx hk => ?_)
  simp only [decide_eq_true_eq] at hl ⊢
  obtain ⟨j, hj, e⟩ := List.getElem_of_mem hl
  have := h.shut j hj (x - G.nk) (nxtL_mem.2 ⟨i, hi, by rw [show fs.getD j 0 = fs[j] by rw [List.getD_eq_getElem?_getD, List.getElem?_eq_getElem hj]; rfl]; exact e.symm, by rw [hok i hi]; exact ho, rulesL_mem.2 ⟨x, hx, hk, rfl⟩⟩)
  exact this
end Go.Proofs.YtagohbpbgjelaaaGreatDoor

/- The code's alone: the rules of a row that can stand alone. -/
import Derived.Test.YtagohbpbgjelaaaGreatDoorGY
import Derived.Test.YtagohbpbgjelaaaGreatDoorA5
import Derived.Test.YtagohbpbgjelaaaGreatDoorRG
import Derived.Test.YtagohbpbgjelaaaGreatDoorP0
import Derived.Test.YtagohbpbgjelaaaGreatDoorGX
import Derived.Test.YtagohbpbgjelaaaGreatDoorSP
import Derived.Test.YtagohbpbgjelaaaGreatDoorY1
import Derived.Test.YtagohbpbgjelaaaGreatDoorWkT3
namespace Go.Proofs.YtagohbpbgjelaaaGreatDoor
open Go.RowKit

/-- A symbol that can't go. -/
noncomputable def firmB (G : Gm) (x : Int) : Bool := !(decide ((G.nk : Int) ≤ x) && nullF G (x - G.nk).toNat)
noncomputable def firmL (G : Gm) (row : List Int) : List Int := row.filter (firmB G)
theorem firmL_take (G : Gm) (row : List Int) (k : Nat) (hk : k < row.length) : firmL G (row.take (k + 1)) = firmL G (row.take k) ++ if firmB G (row.getD k 0) then [row.getD k 0] else [] := by
  unfold firmL
  rw [take_snoc row k 0 hk, List.filter_append]
  congr 1
  generalize row.getD k 0 = x
  by_cases h : firmB G x = true
  · rw [if_pos h]; simp [h]
  · rw [if_neg h]; simp [h]
theorem firmL_len (G : Gm) (row : List Int) : (firmL G row).length ≤ row.length := List.length_filter_le _ _
noncomputable def aloneL (G : Gm) (row : List Int) : List Int := if (firmL G row).length = 0 then rulesL G.nk row else if (firmL G row).length = 1 then rulesL G.nk (firmL G row) else []
theorem bgAt_below {M : Nat} {w w' : World} {G : Gm} {bb nb sb sc gb : Nat} {A : Nat → Nat} (h : BgAt M w G bb nb sb sc gb A) (hb : Below w.heap.size w w') : BgAt M w' G bb nb sb sc gb A := by
  obtain ⟨OO, rep, C, h1, h2⟩ := h.st
  exact ⟨(hb.block _ (Array.getElem?_eq_some_iff.1 h.bx).1).trans h.bx, h.nu.of_block (hb.block _ h.nu.lt), ⟨OO, rep, C, sets_below h1 hb, h2⟩, h.b1, h.b2⟩
set_option maxHeartbeats 2000000 in
set_option maxRecDepth 100000 in
theorem alone_any (G : Gm) (hG : GOk G) (ka : Option Addr) (kc gb bb nb : Nat) (sv : Value) (ro : Option Addr) (rowc : Nat) (row : List Int) (hl : row.length ≤ 64) (hx : symsIn (G.nk + G.nr) row) (w : World) (hgb : gb < w.heap.size) (hc0 : w.cell? ⟨gb, 0, none⟩ = some (.slice ka G.kinds.length kc)) (hbx : w.heap[bb]? = some (.cells #[.pointer (some ⟨gb, 0, none⟩), .slice (some ⟨nb, 0, none⟩) G.rules.length G.rules.length, sv] 64 (0, 0))) (hnu : w.rowIs nb 4 G.rules.length (fun r => .bool (nullF G r))) (hrow : NRow w.heap.size w ro row) :
    Calls Tryz.prog 88 #[.pointer (some ⟨bb, 0, none⟩), .slice ro row.length rowc] w fun e w' => ∃ v, e = .returned v ∧ w'.ownsRow w.heap.size 3 1 v (aloneL G row).length (vints (aloneL G row)) ∧ Below w.heap.size w w' := by
  obtain ⟨i3, hi3, hz30, hz31, hz32⟩ := info_parts info3
  have hk3 := hG.k3; have hr2 := hG.r2
  unfold Gm.nk at hk3
  unfold Gm.nr at hr2
  have hnot := run_not
  have Hc0 := hide hc0; have Hrow := hide hrow; have Hx := hide hx; have Hbx := hide hbx; have Hnu := hide hnu
  clear hc0 hrow hx hbx hnu
  go_enter Tryz.func88, Tryz.ntmps88
  go_wp2
  go_loopw [5, 12] (fun u x W => ∃ k : Nat, x = .int .i64 k ∧ k ≤ row.length ∧ W.ownsRow w.heap.size 3 1 u (firmL G (row.take k)).length (vints (firmL G (row.take k))) ∧ Below w.heap.size w W) (fun _ x _ => row.length - (intOf x).toNat)
  case atStart => exact ⟨0, rfl, Nat.zero_le _, World.ownsRow_nil _ _ _ _, Below.refl _ _⟩
  case round =>
    obtain ⟨k, rfl, hk, hown, hb⟩ := hrel
    obtain ⟨ua, uc, rfl⟩ := own_form hown
    have hsz := hb.size
    have hle := firmL_len G (row.take k)
    rw [List.length_take] at hle
    have hbx := (hb.block _ (Array.getElem?_eq_some_iff.1 (unhide Hbx)).1).trans (unhide Hbx)
    have hnuw := (unhide Hnu).of_block (hb.block _ (unhide Hnu).lt)
    have b0 : wr.cell? ⟨bb, 0, none⟩ = some (.pointer (some ⟨gb, 0, none⟩)) := by unfold World.cell?; rw [hbx]; rfl
    have b1 : wr.cell? ⟨bb, 1, none⟩ = some (.slice (some ⟨nb, 0, none⟩) G.rules.length G.rules.length) := by unfold World.cell?; rw [hbx]; rfl
    have c0 := (hb.cell (p := ⟨gb, 0, none⟩) hgb).trans (unhide Hc0)
    have Hown := hide hown; have Hb := hide hb
    clear hbx
    by_cases hlt : k < row.length
    · have hlt' : (k : Int) < row.length := by omega
      obtain ⟨b, off, rfl, hbl, hc⟩ := nrow_at (nrow_kept hb (unhide Hrow)) hlt
      have hxk := unhide Hx _ (mem_getD hlt)
      unfold Gm.nk Gm.nr at hxk
      have Hs := hide (firmL_take G row k hlt)
      have HR := hide (rule_any gb (row.getD k 0) G.kinds.length ka kc hk3 (by omega) wr c0)
      have hfb : firmB G (row.getD k 0) = !(decide ((G.kinds.length : Int) ≤ row.getD k 0) && nullF G (row.getD k 0 - (G.kinds.length : Nat)).toNat) := rfl
      clear hown hb
      generalize row.getD k 0 = x at *
      generalize hFm : firmL G (row.take k) = acc at *
      have App : ∀ (hf : firmB G x = true), Hid (firmL G (row.take (k + 1)) = acc ++ [x]) := fun hf => hide (by have := unhide Hs; rw [if_pos hf] at this; exact this)
      by_cases hr : (G.kinds.length : Int) ≤ x
      · rw [if_pos hr, decide_eq_true hr] at HR
        rw [decide_eq_true hr, Bool.true_and] at hfb
        obtain ⟨y, hy⟩ : ∃ y : Nat, x - G.kinds.length = (y : Int) := ⟨(x - G.kinds.length).toNat, by omega⟩
        rw [hy] at HR hfb
        rw [Int.toNat_natCast] at hfb
        have hyn : y < G.rules.length := by omega
        have hyn' : (y : Int) < G.rules.length := by omega
        have ny := hnuw.cell hyn
        cases hnu : nullF G y with
        | true =>
          rw [hnu] at hfb ny
          have Hs2 : Hid (firmL G (row.take (k + 1)) = acc) := hide (by have := unhide Hs; rw [hfb] at this; simpa using this)
          clear App Hs hfb hnuw
          go_wp2_with fail
          refine (unhide HR).mono ?_
          rintro e w9 ⟨rfl, rfl⟩
          go_wp2
          go_roundw
          case rel => exact ⟨k + 1, by go_num, by omega, by rw [unhide Hs2]; exact unhide Hown, unhide Hb⟩
          case measure => simp [intOf]; omega
        | false =>
          rw [hnu] at hfb ny
          have Hs2 := App hfb
          clear App Hs hfb hnuw
          go_wp2_with fail
          refine (unhide HR).mono ?_
          rintro e w9 ⟨rfl, rfl⟩
          go_wp2_with (at_builtin; refine wpList_append_own _ rfl _ _ 27 rfl w.heap.size 3 i3 (.int .i64 0) 1 8 Tryz.underlying27 hi3 hz30 hz31 hz32 rfl (by decide) _ _ _ rfl ((unhide Hown).alloc _) ⟨wr.heap.size, 0, none⟩ 1 1 [.int .i64 x] rfl rfl (new1 _ _ _) ?zc2 ?zc3 ?zc4 ?zc5 ?_)
          case zc2 => intro u hu; simp at hu; rcases hu with rfl; rfl
          case zc3 => unfold maxLen; omega
          case zc4 => omega
          case zc5 => simp; omega
          intro v' W3 hown' hgrow _
          have Hb4 := hide (((unhide Hb).alloc hsz _).grown hgrow (by simp; omega) (fun j hj => ((unhide Hown).lt j hj).1))
          have Ho4 := hide (show W3.ownsRow w.heap.size 3 1 v' (firmL G (row.take (k + 1))).length (vints (firmL G (row.take (k + 1)))) by rw [unhide Hs2, ← vints_snoc, List.length_append]; exact hown')
          clear hown' hgrow
          go_wp2
          go_roundw
          case rel => exact ⟨k + 1, by go_num, by omega, unhide Ho4, unhide Hb4⟩
          case measure => simp [intOf]; omega
      · rw [if_neg hr, decide_eq_false hr] at HR
        rw [decide_eq_false hr] at hfb
        have Hs2 := App hfb
        clear App Hs hfb hnuw
        go_wp2_with fail
        refine (unhide HR).mono ?_
        rintro e w9 ⟨rfl, rfl⟩
        go_wp2_with (at_builtin; refine wpList_append_own _ rfl _ _ 27 rfl w.heap.size 3 i3 (.int .i64 0) 1 8 Tryz.underlying27 hi3 hz30 hz31 hz32 rfl (by decide) _ _ _ rfl ((unhide Hown).alloc _) ⟨wr.heap.size, 0, none⟩ 1 1 [.int .i64 x] rfl rfl (new1 _ _ _) ?zc2 ?zc3 ?zc4 ?zc5 ?_)
        case zc2 => intro u hu; simp at hu; rcases hu with rfl; rfl
        case zc3 => unfold maxLen; omega
        case zc4 => omega
        case zc5 => simp; omega
        intro v' W3 hown' hgrow _
        have Hb4 := hide (((unhide Hb).alloc hsz _).grown hgrow (by simp; omega) (fun j hj => ((unhide Hown).lt j hj).1))
        have Ho4 := hide (show W3.ownsRow w.heap.size 3 1 v' (firmL G (row.take (k + 1))).length (vints (firmL G (row.take (k + 1)))) by rw [unhide Hs2, ← vints_snoc, List.length_append]; exact hown')
        clear hown' hgrow
        go_wp2
        go_roundw
        case rel => exact ⟨k + 1, by go_num, by omega, unhide Ho4, unhide Hb4⟩
        case measure => simp [intOf]; omega
    · obtain rfl : k = row.length := by omega
      rw [List.take_length] at Hown hown ⊢
      have hsr : ∀ x, x ∈ row → 0 ≤ x ∧ x ≤ 281474976710656 := fun x hx => by have := unhide Hx x hx; unfold Gm.nk Gm.nr at this; omega
      have HA := hide (rulesOf_any gb G.kinds.length ka kc hk3 ro rowc row (by omega) hsr wr c0 (by omega) (nrow_big hsz (nrow_kept hb (unhide Hrow))))
      have hfn : NRow wr.heap.size wr ua (firmL G row) := by
        obtain ⟨_, _, he, hn⟩ := own_nrow hown
        cases he
        exact hn
      have hfl := firmL_len G row
      have HF := hide (rulesOf_any gb G.kinds.length ka kc hk3 ua uc (firmL G row) (by omega) (fun x hx => hsr x (List.mem_filter.1 hx).1) wr c0 (by omega) hfn)
      have Hal : Hid (aloneL G row = if (firmL G row).length = 0 then rulesL G.kinds.length row else if (firmL G row).length = 1 then rulesL G.kinds.length (firmL G row) else []) := hide rfl
      clear hown hb hfn hnuw
      by_cases h0 : (firmL G row).length = 0
      · rw [if_pos h0] at Hal
        have h0' : ((firmL G row).length : Int) = 0 := by omega
        rw [h0] at HF ⊢
        go_wp2_with fail
        refine (unhide HA).mono ?_
        rintro e w9 ⟨v9, rfl, ho9, hb9⟩
        have Ho9 := hide (show w9.ownsRow w.heap.size 3 1 v9 (aloneL G row).length (vints (aloneL G row)) by rw [unhide Hal]; exact own_base ho9 hsz)
        have Hb9 := hide ((unhide Hb).trans (below_le hb9 hsz))
        clear ho9 hb9
        go_wp2
        go_ret
        exact ⟨v9, rfl, unhide Ho9, unhide Hb9⟩
      · rw [if_neg h0] at Hal
        by_cases h1 : (firmL G row).length = 1
        · rw [if_pos h1] at Hal
          rw [h1] at HF ⊢
          go_wp2_with fail
          refine (unhide HF).mono ?_
          rintro e w9 ⟨v9, rfl, ho9, hb9⟩
          have Ho9 := hide (show w9.ownsRow w.heap.size 3 1 v9 (aloneL G row).length (vints (aloneL G row)) by rw [unhide Hal]; exact own_base ho9 hsz)
          have Hb9 := hide ((unhide Hb).trans (below_le hb9 hsz))
          clear ho9 hb9
          go_wp2
          go_ret
          exact ⟨v9, rfl, unhide Ho9, unhide Hb9⟩
        · rw [if_neg h1] at Hal
          have h0' : ¬ ((firmL G row).length : Int) = 0 := by omega
          have h1' : ¬ ((firmL G row).length : Int) = 1 := by omega
          generalize (firmL G row).length = fl at *
          go_wp2
          go_ret
          exact ⟨_, rfl, by rw [unhide Hal]; exact World.ownsRow_nil _ _ _ _, unhide Hb⟩
end Go.Proofs.YtagohbpbgjelaaaGreatDoor

/- Shortest rows' lengths, plainly: what the code's way of finding them ends with. -/
namespace Go.Proofs.YtagohbpbgjelaaaGreatDoor
open Go.RowKit

/-- How many kinds a production has. -/
def kcN (G : Gm) (q : Nat) : Int := ((G.prods.getD q pd0).right.length : Int) - (rlN G q).length
def lfQ (G : Gm) (q : Nat) : Nat := (G.prods.getD q pd0).left.toNat
theorem rulesL_cons (nk : Nat) (x : Int) (l : List Int) : rulesL nk (x :: l) = (if (nk : Int) ≤ x then [x - nk] else []) ++ rulesL nk l := rfl
theorem lenR_sumQ {nk : Nat} {f : Nat → Int} : ∀ (row : List Int) (acc : Int), 0 ≤ acc → acc ≤ 65537 → (∀ x, x ∈ row → (nk : Int) ≤ x → 0 ≤ f (x - nk).toNat) →
    lenR nk f row acc = min (acc + ((row.length : Int) - (rulesL nk row).length) + sumL f ((rulesL nk row).map Int.toNat)) 65537
  | [], acc, h0, h1, _ => by unfold lenR; simp [rulesL, sumL]; omega
  | x :: xs, acc, h0, h1, h => by
    have hr := fun y hy => h y (List.mem_cons_of_mem _ hy)
    have hs := (sumL_ge f ((rulesL nk xs).map Int.toNat)).1
    have hl := rulesL_len (nk := nk) xs
    unfold lenR
    rw [rulesL_cons]
    by_cases hk : (nk : Int) ≤ x
    · have hf := h x (by simp) hk
      rw [if_pos hk, if_pos hk, if_neg (by omega), lenR_sumQ xs _ (by omega) (by omega) hr]
      simp only [List.singleton_append, List.map_cons, List.length_cons, sumL]
      rw [if_pos hf]
      push_cast
      omega
    · rw [if_neg hk, if_neg hk, lenR_sumQ xs _ (by omega) (by omega) hr]
      simp only [List.nil_append, List.length_cons]
      push_cast
      omega
theorem lenR_q {G : Gm} {f : Nat → Int} {q : Nat} (h : ∀ x, x ∈ rlN G q → 0 ≤ f x) : lenR G.nk f (G.prods.getD q pd0).right 0 = min (kcN G q + sumL f (rlN G q)) 65537 := by
  rw [lenR_sumQ _ 0 (Int.le_refl _) (by decide) (fun x hx hk => h _ (rlN_mem.2 ⟨x, hx, hk, rfl⟩))]
  unfold kcN rlN
  rw [List.length_map]
  congr 1
  omega
theorem lng_good {G : Gm} (f : Nat → Int) (q : Nat) (hq : q < G.prods.length) (h : ∀ x, x ∈ rlN G q → 0 ≤ f x ∧ f x ≤ 65537 ∧ Lng G x (f x)) : Lng G (lfQ G q) (min (kcN G q + sumL f (rlN G q)) 65537) := by
  have e := lenR_q (G := G) (f := f) (q := q) (fun x hx => (h x hx).1)
  rw [← e]
  have hk : 0 ≤ kcN G q := by unfold kcN rlN; rw [List.length_map]; have := rulesL_len (nk := G.nk) (G.prods.getD q pd0).right; omega
  have hs := (sumL_ge f (rlN G q)).1
  exact .mk _ (mem_getP hq) f (fun x hx hkx => (h _ (rlN_mem.2 ⟨x, hx, hkx, rfl⟩)).2.2) (by rw [e]; omega)
theorem kcN_nn (G : Gm) (q : Nat) : 0 ≤ kcN G q := by unfold kcN rlN; rw [List.length_map]; have := rulesL_len (nk := G.nk) (G.prods.getD q pd0).right; omega
abbrev LsI (G : Gm) (L mi su : Nat → Int) (H : Nat → Option Int) (rem : List Nat) : Prop := KInv (lfQ G) (rlN G) (kcN G) G.prods.length (Lng G) 65537 L mi su H rem
theorem ls_end {G : Gm} {L mi su : Nat → Int} {H : Nat → Option Int} (h : LsI G L mi su H []) (hH : ∀ r, H r = none) : LeastIs G L := by
  obtain ⟨h1, h2⟩ := kinv_end h hH
  refine lng_done h1 (fun i hi => ?_)
  rintro ⟨h3, h4⟩
  have hall : ∀ x, x ∈ rlN G i → 0 ≤ L x := fun x hx => by
    obtain ⟨y, hy, hk, rfl⟩ := rlN_mem.1 hx
    exact lenR_all _ 0 (Int.le_refl _) h3 y hy hk
  have h5 := h2 i hi hall
  rw [lenR_q hall] at h4
  unfold lfQ at h5
  omega
theorem ls_pop {G : Gm} {L mi su : Nat → Int} {H : Nat → Option Int} {r : Nat} {v : Int} (h : LsI G L mi su H []) (hr : H r = some v) (hmin : ∀ s u, H s = some u → v ≤ u) :
    L r < 0 ∧ 0 ≤ v ∧ v ≤ 65537 ∧ LsI G (upZ L r v) (dcM (useN G r) mi) (fun q => su q + v * ((useN G r).count q : Nat)) (upH H r none) (dcR (useN G r) mi) :=
  kinv_pop (uses := useN G) (fun q r hq => useN_count hq) (fun q r hq => useN_lt hq) (fun q _ => kcN_nn G q) (by decide) (fun f q hq hx => lng_good f q hq hx) h hr hmin
end Go.Proofs.YtagohbpbgjelaaaGreatDoor

/- The code's of: with which kinds a row begins. -/
namespace Go.Proofs.YtagohbpbgjelaaaGreatDoor
open Go.RowKit

/-- With what a row's first symbols begin, all of which can be nothing. -/
def OfI (G : Gm) (row : List Int) (k : Nat) (f : Int → Bool) : Prop := ∀ m, f m = true ↔ 0 ≤ m ∧ ∃ i, i < k ∧ i < row.length ∧ (G.nk : Int) ≤ row.getD i 0 ∧ Fst G (row.getD i 0 - G.nk).toNat m.toNat
def OfPost (G : Gm) (row : List Int) (w : World) (e : Ending) (w' : World) : Prop := ∃ S O f, e = .returned (.tuple #[.pointer (some ⟨S, 0, none⟩), .bool (emptyB G.nk (nullF G) row)]) ∧ SetN w' S O f ∧ (∀ m, f m = true ↔ 0 ≤ m ∧ begB G.nk (nullF G) (fstF G) row m.toNat = true) ∧ Below w.heap.size w w'
theorem of_kind {G : Gm} {row : List Int} {k : Nat} {f : Int → Bool} (h : OfI G row k f) (hk : k < row.length) (he : emptyB G.nk (nullF G) (row.take k) = true) (h0 : 0 ≤ row.getD k 0) (hx : row.getD k 0 < (G.nk : Int)) (m : Int) : addF f (row.getD k 0) m = true ↔ 0 ≤ m ∧ begB G.nk (nullF G) (fstF G) row m.toNat = true := by
  unfold addF
  rw [begB_iff]
  constructor
  · intro h1
    split at h1
    · rename_i e
      subst e
      exact ⟨h0, k, hk, he, .inl ⟨hx, rfl⟩⟩
    · obtain ⟨h2, i, hi, hil, h3, h4⟩ := (h m).1 h1
      refine ⟨h2, i, hil, emptyB_iff.2 (fun x hx => emptyB_iff.1 he x ?_), .inr ⟨h3, (fstF_is _ _ _).2 h4⟩⟩
      exact (List.take_subset_take_left row (by omega)) hx
  · rintro ⟨h2, i, hil, h3, h4⟩
    have hik : i ≤ k := by
      rcases Nat.lt_or_ge k i with hlt | hge
      · have := empty_stop (G := G) hk hlt (.inl hx); rw [h3] at this; cases this
      · exact hge
    rcases h4 with ⟨h4, h5⟩ | ⟨h4, h5⟩
    · by_cases e : i = k
      · subst e; rw [if_pos (by omega)]
      · exfalso
        have hm : row.getD i 0 ∈ row.take k := by
          rw [List.getD_eq_getElem?_getD, List.getElem?_eq_getElem hil]
          exact List.mem_take_iff_getElem.2 ⟨i, by omega, rfl⟩
        have := (emptyB_iff.1 he _ hm).1
        omega
    · have e : i ≠ k := fun e => by subst e; omega
      split
      · rfl
      · exact (h m).2 ⟨h2, i, by omega, hil, h4, (fstF_is _ _ _).1 h5⟩
theorem of_rule {G : Gm} {row : List Int} {k : Nat} {f g : Int → Bool} (h : OfI G row k f) (hk : k < row.length) (hx : (G.nk : Int) ≤ row.getD k 0) (hg : ∀ m, g m = true ↔ 0 ≤ m ∧ Fst G (row.getD k 0 - G.nk).toNat m.toNat) : OfI G row (k + 1) (orF f g) := fun m => by
  unfold orF
  rw [Bool.or_eq_true_iff, h m, hg m]
  constructor
  · rintro (⟨h1, i, h2, h3⟩ | ⟨h1, h2⟩)
    · exact ⟨h1, i, by omega, h3⟩
    · exact ⟨h1, k, by omega, hk, hx, h2⟩
  · rintro ⟨h1, i, h2, h3, h4, h5⟩
    by_cases e : i = k
    · subst e; exact .inr ⟨h1, h5⟩
    · exact .inl ⟨h1, i, by omega, h3, h4, h5⟩
theorem of_stop {G : Gm} {row : List Int} {k : Nat} {f : Int → Bool} (h : OfI G row k f) (he : ∀ i, i < k → emptyB G.nk (nullF G) (row.take i) = true) (hall : ∀ i, i < k → (G.nk : Int) ≤ row.getD i 0) (hs : ∀ i, k ≤ i → i < row.length → emptyB G.nk (nullF G) (row.take i) = false) (m : Int) : f m = true ↔ 0 ≤ m ∧ begB G.nk (nullF G) (fstF G) row m.toNat = true := by
  rw [h m, begB_iff]
  constructor
  · rintro ⟨h1, i, h2, h3, h4, h5⟩; exact ⟨h1, i, h3, he i h2, .inr ⟨h4, (fstF_is _ _ _).2 h5⟩⟩
  · rintro ⟨h1, i, h2, h3, h4⟩
    have hik : i < k := by
      rcases Nat.lt_or_ge i k with hlt | hge
      · exact hlt
      · rw [hs i hge h2] at h3; cases h3
    rcases h4 with ⟨h4, -⟩ | ⟨h4, h5⟩
    · have := hall i hik; omega
    · exact ⟨h1, i, hik, h2, h4, (fstF_is _ _ _).1 h5⟩
set_option maxHeartbeats 2000000 in
set_option maxRecDepth 100000 in
theorem of_any (G : Gm) (hG : GOk G) (ka : Option Addr) (kc gb bb nb sb sc N : Nat) (A : Nat → Nat) (ro : Option Addr) (rowc : Nat) (row : List Int) (hl : row.length ≤ 281474976710656) (hx : symsIn (G.nk + G.nr) row) (w : World) (hgb : gb < w.heap.size) (hc0 : w.cell? ⟨gb, 0, none⟩ = some (.slice ka G.kinds.length kc)) (hbg : BgAt N w G bb nb sb sc gb A) (hrow : NRow w.heap.size w ro row) :
    Calls Tryz.prog 46 #[.pointer (some ⟨bb, 0, none⟩), .slice ro row.length rowc] w fun e w' => OfPost G row w e w' := by
  have hk3 := hG.k3; have hr2 := hG.r2
  unfold Gm.nk at hk3
  unfold Gm.nr at hr2
  have hnot := run_not
  have HS := hide (newSet_any w)
  have Hc0 := hide hc0; have Hrow := hide hrow; have Hx := hide hx; have Hbg := hide hbg
  clear hc0 hrow hx hbg
  go_enter Tryz.func46, Tryz.ntmps46
  go_wp2_with fail
  refine (unhide HS).mono ?_
  rintro e w1 ⟨rfl, hb1, hlt1, hs1⟩
  have Hb1 := hide hb1; have Hs1 := hide hs1
  clear hb1 hs1 HS
  go_wp2
  go_loopw [14] (fun x V => ∃ (k : Nat) (f : Int → Bool) (O : Nat → Prop), x = .int .i64 k ∧ k ≤ row.length ∧ OfI G row k f ∧ emptyB G.nk (nullF G) (row.take k) = true ∧ SetN V w.heap.size O f ∧ (∀ q, O q → w.heap.size ≤ q) ∧ Below w.heap.size w V) (fun x _ => row.length - (intOf x).toNat)
  case atStart => exact ⟨0, fun _ => false, _, rfl, Nat.zero_le _, fun m => ⟨fun h => (by cases h), fun ⟨_, i, h, _⟩ => (by omega)⟩, by simp [emptyB], unhide Hs1, fun q hq => by rw [hq]; exact Nat.le_refl _, unhide Hb1⟩
  case round =>
    clear Hb1 Hs1
    obtain ⟨k, f, O, rfl, hk, hOf, hem, hSt, hO, hb⟩ := hrel
    have hsz := hb.size
    have hbg := bgAt_below (unhide Hbg) hb
    have hpre : ∀ i, i ≤ k → emptyB G.nk (nullF G) (row.take i) = true := fun i hi => emptyB_iff.2 (fun x hx => emptyB_iff.1 hem x ((List.take_subset_take_left row hi) hx))
    have hall : ∀ i, i < k → (G.nk : Int) ≤ row.getD i 0 := fun i hi => (emptyB_iff.1 hem _ (by
      rw [List.getD_eq_getElem?_getD, List.getElem?_eq_getElem (by omega)]
      exact List.mem_take_iff_getElem.2 ⟨i, by omega, rfl⟩)).1
    by_cases hlt : k < row.length
    · have hlt' : (k : Int) < row.length := by omega
      obtain ⟨b, off, rfl, hbl, hc⟩ := nrow_at (nrow_kept hb (unhide Hrow)) hlt
      have hxk := unhide Hx _ (mem_getD hlt)
      unfold Gm.nk Gm.nr at hxk
      have c0 := (hb.cell (p := ⟨gb, 0, none⟩) hgb).trans (unhide Hc0)
      have b0 : wr.cell? ⟨bb, 0, none⟩ = some (.pointer (some ⟨gb, 0, none⟩)) := by unfold World.cell?; rw [hbg.bx]; rfl
      have b1 : wr.cell? ⟨bb, 1, none⟩ = some (.slice (some ⟨nb, 0, none⟩) G.rules.length G.rules.length) := by unfold World.cell?; rw [hbg.bx]; rfl
      have b2 : wr.cell? ⟨bb, 2, none⟩ = some (.slice (some ⟨sb, 0, none⟩) G.rules.length sc) := by unfold World.cell?; rw [hbg.bx]; rfl
      have HR := hide (rule_any gb (row.getD k 0) G.kinds.length ka kc hk3 (by omega) wr c0)
      by_cases hr : (G.kinds.length : Int) ≤ row.getD k 0
      · rw [if_pos hr, decide_eq_true hr] at HR
        obtain ⟨y, hy⟩ : ∃ y : Nat, row.getD k 0 - G.kinds.length = (y : Int) := ⟨(row.getD k 0 - G.kinds.length).toNat, by omega⟩
        have hyn : y < G.rules.length := by omega
        have hyn' : (y : Int) < G.rules.length := by omega
        have ey : (row.getD k 0 - G.nk).toNat = y := by show (row.getD k 0 - (G.kinds.length : Nat)).toNat = y; omega
        rw [hy] at HR
        obtain ⟨OO, rep, C, hsV0, hC⟩ := (unhide Hbg).st
        have hsV := sets_below hsV0 hb
        have sy := (sets_cell hsV hyn).1
        have hgy : ∀ m, C (rep y) m = true ↔ 0 ≤ m ∧ Fst G (row.getD k 0 - G.nk).toNat m.toNat := by rw [ey]; exact hC y hyn
        have hOf2 := of_rule hOf hlt hr hgy
        have HJ := hide (join_n w.heap.size (A (rep y)) O (OO (rep y)) f (C (rep y)) wr hSt (hsV.set _ (hsV.rp y hyn)) (fun q hq ho => by have h1 := setN_lt (hsV0.set _ (hsV0.rp y hyn)) hq; have h2 := hO q ho; omega))
        have ny := hbg.nu.cell hyn
        have hnl := hbg.nu.lt
        obtain ⟨ns, hns⟩ := rowIs_ty hbg.nu
        have Hkp : Hid (∀ V, Fr O wr V → V.cell? ⟨bb, 1, none⟩ = some (.slice (some ⟨nb, 0, none⟩) G.rules.length G.rules.length) ∧ V.cell? ⟨nb, y, none⟩ = some (.bool (nullF G y))) := hide (fun V hV => by
          have e1 : V.heap[bb]? = wr.heap[bb]? := hV.2.1 bb (Array.getElem?_eq_some_iff.1 hbg.bx).1 (fun ho => isSet_not hbg.bx (by decide) (by decide) (hSt.ty _ ho))
          have e2 : V.heap[nb]? = wr.heap[nb]? := hV.2.1 nb hnl (fun ho => isSet_not hns (by decide) (by decide) (hSt.ty _ ho))
          exact ⟨(World.cell?_of_block e1).trans b1, (World.cell?_of_block e2).trans ny⟩)
        have Hnn := hide (fun (hn : nullF G y = true) => empty_next hlt hem hr (by rw [ey]; exact hn))
        have Hstp := hide (fun (hn : nullF G y = false) => of_stop hOf2 (fun i hi => hpre i (by omega)) (fun i hi => by
          by_cases e : i = k
          · subst e; exact hr
          · exact hall i (by omega)) (fun i h1 h2 => empty_stop hlt (by omega) (.inr (by rw [ey]; exact hn))))
        have Hemf := hide (fun (hn : nullF G y = false) => (show emptyB G.nk (nullF G) row = false by
          have h1 := empty_stop (G := G) (row := row) (i := row.length) hlt hlt (.inr (by rw [ey]; exact hn))
          rwa [List.take_length] at h1))
        have HOf2 := hide hOf2; have Hb := hide hb; have HO := hide hO
        clear hOf hem hSt hbg hsV hsV0 hC hgy hOf2 ny hns hnl hpre hall ey hb hO
        generalize hxe : row.getD k 0 = x at *
        generalize A (rep y) = Ay at *
        generalize orF f (C (rep y)) = f2 at *
        go_wp2_with fail
        refine (unhide HR).mono ?_
        rintro e w9 ⟨rfl, rfl⟩
        go_wp2_with fail
        refine (unhide HJ).mono ?_
        rintro e V5 ⟨⟨c5, rfl⟩, hf5, O2, hs5, hO2⟩
        obtain ⟨b15, ny5⟩ := unhide Hkp V5 hf5
        have Hs5 := hide hs5
        have HO5 := hide (show ∀ q, O2 q → w.heap.size ≤ q from fun q hq => (hO2 q hq).elim (unhide HO q) (fun h => by omega))
        have Hb5 := hide ((unhide Hb).trans (fr_below hf5 hsz (unhide HO)))
        clear hs5 hf5 hO2 b1 b2 sy HJ HR c0 b0 hc Hkp
        cases hnu : nullF G y with
        | true =>
          rw [hnu] at ny5
          have Hem2 := hide (unhide Hnn hnu)
          clear Hnn Hstp Hemf
          go_wp2
          go_roundw
          case rel => exact ⟨k + 1, f2, O2, by go_num, by omega, unhide HOf2, unhide Hem2, unhide Hs5, unhide HO5, unhide Hb5⟩
          case measure => simp [intOf]; omega
        | false =>
          rw [hnu] at ny5
          have Hfin := hide (unhide Hstp hnu)
          have Hemf2 := hide (unhide Hemf hnu)
          clear Hnn Hstp Hemf
          go_wp2
          refine bodyPost_ret (v := .tuple #[.pointer (some ⟨w.heap.size, 0, none⟩), .bool false]) ?zz8 rfl ⟨_, _, f2, by rw [unhide Hemf2], unhide Hs5, unhide Hfin, unhide Hb5⟩
          case zz8 => simp [results, Tryz.results46, go_sem]
      · rw [if_neg hr, decide_eq_false hr] at HR
        have hx' : row.getD k 0 < (G.nk : Int) := by show _ < ((G.kinds.length : Nat) : Int); omega
        have Hfin := hide (of_kind hOf hlt hem (by omega) hx')
        have Hemf : Hid (emptyB G.nk (nullF G) row = false) := hide (by
          have h1 := empty_stop (G := G) (row := row) (i := row.length) hlt hlt (.inl hx')
          rwa [List.take_length] at h1)
        have hal : Below wr.heap.size wr (wr.alloc (.cells #[.int .i64 (row.getD k 0)] 3)) := (Below.refl _ _).alloc (Nat.le_refl _) _
        have hnw : (wr.alloc (.cells #[.int .i64 (row.getD k 0)] 3)).heap[wr.heap.size]? = some (.cells #[.int .i64 (row.getD k 0)] 3 (0, 0)) := Go.Deep.blk_alloc_new _ _
        have HAd := hide (add_n w.heap.size O f (row.getD k 0) (by omega) ⟨wr.heap.size, 0, none⟩ 1 _ (setN_below hSt hal) rfl (Array.getElem?_eq_some_iff.1 hnw).1 (by unfold World.cell?; rw [hnw]; rfl) (fun ho => by have := setN_lt hSt ho; have this : wr.heap.size < wr.heap.size := this; omega))
        have HO := hide hO
        have Hb2 := hide (hb.trans (below_le hal hsz))
        have hszA : w.heap.size ≤ (wr.alloc (.cells #[.int .i64 (row.getD k 0)] 3)).heap.size := by have := hal.size; omega
        clear hOf hem hSt hbg hpre hall hal hnw hb hO
        generalize hxe : row.getD k 0 = x at *
        generalize addF f x = f2 at *
        go_wp2_with fail
        refine (unhide HR).mono ?_
        rintro e w9 ⟨rfl, rfl⟩
        go_wp2_with fail
        refine (unhide HAd).mono ?_
        rintro e V5 ⟨⟨c5, rfl⟩, hf5, O2, hs5, -⟩
        have Hs5 := hide hs5
        have Hb5 := hide ((unhide Hb2).trans (fr_below hf5 hszA (unhide HO)))
        clear hs5 hf5
        go_wp2
        refine bodyPost_ret (v := .tuple #[.pointer (some ⟨w.heap.size, 0, none⟩), .bool false]) ?zz7 rfl ⟨_, _, f2, by rw [unhide Hemf], unhide Hs5, unhide Hfin, unhide Hb5⟩
        case zz7 => simp [results, Tryz.results46, go_sem]
    · obtain rfl : k = row.length := by omega
      have Hfin := hide (of_stop hOf (fun i hi => hpre i (by omega)) hall (fun i h1 h2 => by omega))
      rw [List.take_length] at hem
      have HSt := hide hSt; have Hb := hide hb; have Hem := hide hem
      clear hOf hem hSt hb hbg hpre hall
      go_wp2
      refine bodyPost_ret (v := .tuple #[.pointer (some ⟨w.heap.size, 0, none⟩), .bool true]) ?zz9 rfl ⟨_, _, f, by rw [unhide Hem], unhide HSt, unhide Hfin, unhide Hb⟩
      case zz9 => simp [results, Tryz.results46, go_sem]
end Go.Proofs.YtagohbpbgjelaaaGreatDoor

/- The code's First. -/
namespace Go.Proofs.YtagohbpbgjelaaaGreatDoor
open Go.RowKit

theorem smG_ok {G : Gm} (hG : GOk G) : smG G := fun p hp => by have := hG.pr p hp; omega
theorem symsTo_in {n : Nat} {row : List Int} : symsTo n row row.length ↔ symsIn n row := by
  constructor
  · intro h x hx
    obtain ⟨i, hi, rfl⟩ := List.getElem_of_mem hx
    have := h i hi
    rw [List.getD_eq_getElem?_getD, List.getElem?_eq_getElem hi] at this
    exact this
  · intro h i hi
    exact h _ (mem_getD hi)
set_option maxHeartbeats 2000000 in
set_option maxRecDepth 100000 in
theorem firstno11 : FirstNo 11 := fun G hc ka pa ra qa kc pc rc qc ro rn rowc w hin hsm => by
  have hst := gst_new (kc := kc) (pc := pc) (rc := rc) (qc := qc) (Nat.le_refl _) hin 26
  have hb1 : Below w.heap.size w (w.alloc (.cells #[.slice ka G.kinds.length kc, .slice pa G.precs.length pc, .slice ra G.rules.length rc, .slice qa G.prods.length qc, .int .i64 G.start] 26)) := (Below.refl _ _).alloc (Nat.le_refl _) _
  have HM := hide (mayBe_any G ka pa ra qa kc pc rc qc _ (gin_up hin hb1) hsm)
  rw [hc] at HM
  have Hb1 := hide hb1
  have hnot := run_not
  clear hst hb1 hin hsm hc
  go_enter Tryz.func11, Tryz.ntmps11
  go_wp2_with fail
  refine (unhide HM).mono ?_
  rintro e w2 ⟨rfl, hb2⟩
  have Hb2 := hide ((unhide Hb1).trans (below_le hb2 (by simp)))
  clear hb2
  go_wp2
  refine bodyPost_ret (v := .tuple #[.slice none 0 0, .bool false, .int .i64 130]) ?zz9 rfl ⟨rfl, unhide Hb2⟩
  case zz9 => simp [results, Tryz.results11, go_sem]
set_option maxHeartbeats 2000000 in
set_option maxRecDepth 100000 in
theorem firstyes11 : FirstYes 11 := fun G hc ka pa ra qa kc pc rc qc ro rowc row hl hs w hin hrow => by
  have hG := check_ok hc
  have hst := gst_new (kc := kc) (pc := pc) (rc := rc) (qc := qc) (Nat.le_refl _) hin 26
  have hb1 : Below w.heap.size w (w.alloc (.cells #[.slice ka G.kinds.length kc, .slice pa G.precs.length pc, .slice ra G.rules.length rc, .slice qa G.prods.length qc, .int .i64 G.start] 26)) := (Below.refl _ _).alloc (Nat.le_refl _) _
  have HM := hide (mayBe_any G ka pa ra qa kc pc rc qc _ (gin_up hin hb1) (smG_ok hG))
  rw [hc] at HM
  have Hb1 := hide hb1; have Hst := hide hst; have Hin := hide hin; have Hrow := hide hrow; have Hs := hide hs
  have hnot := run_not
  have hs1 : (w.alloc (.cells #[.slice ka G.kinds.length kc, .slice pa G.precs.length pc, .slice ra G.rules.length rc, .slice qa G.prods.length qc, .int .i64 G.start] 26)).heap.size = w.heap.size + 1 := by simp
  clear hst hb1 hin hc hrow hs
  go_enter Tryz.func11, Tryz.ntmps11
  go_wp2_with fail
  generalize w.alloc (.cells #[.slice ka G.kinds.length kc, .slice pa G.precs.length pc, .slice ra G.rules.length rc, .slice qa G.prods.length qc, .int .i64 G.start] 26) = w1 at *
  refine (unhide HM).mono ?_
  rintro e w2 ⟨rfl, hb2⟩
  have hs2 := hb2.size
  have hbw2 := (unhide Hb1).trans (below_le hb2 (by omega))
  have hst2 := gst_kept (below_le hb2 (by omega)) (Nat.le_refl _) (unhide Hst)
  have d0 := hst2.c0; have d1 := hst2.c1; have d2 := hst2.c2; have d3 := hst2.c3; have d4 := hst2.c4
  have hk3 := hG.k3; have hr2 := hG.r2
  unfold Gm.nk at hk3
  unfold Gm.nr at hr2
  have HA := hide (areSymbols_any ka pa ra qa G.kinds.length kc G.precs.length pc G.rules.length rc G.prods.length qc G.start (by omega) ro rowc row hl w.heap.size w2 hbw2.size (nrow_kept hbw2 (unhide Hrow)))
  have hdec : decide (symsTo (G.kinds.length + G.rules.length) row row.length) = true := decide_eq_true (symsTo_in.2 (unhide Hs))
  rw [hdec] at HA
  have Hbw2 := hide hbw2
  have hs2w : w.heap.size + 1 ≤ w2.heap.size := by omega
  clear hb2 hbw2 hst2 HM hdec
  go_wp2_with fail
  refine (unhide HA).mono ?_
  rintro e w3 ⟨rfl, hb3⟩
  have hs3 := hb3.size
  have hbw3 := (unhide Hbw2).trans (below_le hb3 (by omega))
  have e0 := (hb3.cell (p := ⟨w.heap.size, 0, none⟩) (by show w.heap.size < _; omega)).trans d0
  have e1 := (hb3.cell (p := ⟨w.heap.size, 1, none⟩) (by show w.heap.size < _; omega)).trans d1
  have e2 := (hb3.cell (p := ⟨w.heap.size, 2, none⟩) (by show w.heap.size < _; omega)).trans d2
  have e3 := (hb3.cell (p := ⟨w.heap.size, 3, none⟩) (by show w.heap.size < _; omega)).trans d3
  have e4 := (hb3.cell (p := ⟨w.heap.size, 4, none⟩) (by show w.heap.size < _; omega)).trans d4
  have HNG := hide (newGrammar_any G hG ka pa ra qa kc pc rc qc w3 (gin_up (unhide Hin) hbw3))
  have Hbw3 := hide hbw3
  clear hb3 hbw3 d0 d1 d2 d3 d4 HA
  go_wp2_with fail
  refine (unhide HNG).mono ?_
  rintro e w4 ⟨gb, ob, ub, rfl, hg4, hb4⟩
  have hs4 := hb4.size
  have HNB := hide (newBeginnings_any G hG ka pa ra qa kc pc rc qc gb ob ub w4.heap.size w4 (Nat.le_refl _) hg4)
  have Hg4 := hide hg4
  have Hbw4 := hide ((unhide Hbw3).trans (below_le hb4 (by have := (unhide Hbw3).size; omega)))
  clear hg4 hb4 HNG e0 e1 e2 e3 e4
  go_wp2_with fail
  refine (unhide HNB).mono ?_
  rintro e w5 ⟨bb, nb, sb, sc, A, rfl, hbg5, hb5⟩
  have hs5 := hb5.size
  have hbw5 := (unhide Hbw4).trans (below_le hb5 (unhide Hbw4).size)
  have hg5 := gr_kept (unhide Hg4) hb5
  have hgl := hg5.lt
  have HOf := hide (of_any G hG ka kc gb bb nb sb sc _ A ro rowc row hl (unhide Hs) w5 (by omega) (by unfold World.cell?; rw [hg5.box]; rfl) hbg5 (nrow_big hbw5.size (nrow_kept hbw5 (unhide Hrow))))
  have Hbw5 := hide hbw5
  clear hbg5 hb5 hg5 HNB hbw5
  go_wp2_with fail
  refine (unhide HOf).mono ?_
  rintro e w6 ⟨S, O, f, rfl, hs6, hf6, hb6⟩
  have hs6z := hb6.size
  have hbw6 := (unhide Hbw5).trans (below_le hb6 (unhide Hbw5).size)
  have HAl := hide (all_n S O f (begB G.nk (nullF G) (fstF G) row) G.nk hf6 (fun k hk => by
    obtain ⟨i, hi, -, ⟨h1, h2⟩ | ⟨-, h2⟩⟩ := begB_iff.1 hk
    · have h3 := unhide Hs _ (mem_getD hi); omega
    · exact fst_lt hG ((fstF_is _ _ _).1 h2)) w6 hs6 (tb_up (unhide Hin).tab (Nat.le_refl _) hbw6))
  have Hbw6 := hide hbw6
  generalize hem : emptyB G.nk (nullF G) row = em at *
  clear hs6 hf6 hb6 HOf hbw6
  go_wp2_with fail
  refine (unhide HAl).mono ?_
  rintro e w7 ⟨v7, rfl, ho7, hb7⟩
  obtain ⟨va, vc, rfl⟩ := own_form ho7
  obtain ⟨_, _, he7, hn7⟩ := own_nrow ho7
  cases he7
  have Hn7 := hide hn7
  have Hbw7 := hide ((unhide Hbw6).trans (below_le hb7 (unhide Hbw6).size))
  clear ho7 hb7 hn7
  go_wp2
  refine bodyPost_ret (v := .tuple #[.slice va (posL (boolsOf (begB G.nk (nullF G) (fstF G) row) G.nk)).length vc, .bool em, .int .i64 0]) ?zz9 rfl ⟨va, vc, by rw [hem]; rfl, unhide Hn7, unhide Hbw7⟩
  case zz9 => simp [results, Tryz.results11, go_sem]
set_option maxHeartbeats 2000000 in
set_option maxRecDepth 100000 in
theorem firstout11 : FirstOut 11 := fun G hc ka pa ra qa kc pc rc qc ro rowc row hl hs w hin hrow => by
  have hG := check_ok hc
  have hst := gst_new (kc := kc) (pc := pc) (rc := rc) (qc := qc) (Nat.le_refl _) hin 26
  have hb1 : Below w.heap.size w (w.alloc (.cells #[.slice ka G.kinds.length kc, .slice pa G.precs.length pc, .slice ra G.rules.length rc, .slice qa G.prods.length qc, .int .i64 G.start] 26)) := (Below.refl _ _).alloc (Nat.le_refl _) _
  have HM := hide (mayBe_any G ka pa ra qa kc pc rc qc _ (gin_up hin hb1) (smG_ok hG))
  rw [hc] at HM
  have Hb1 := hide hb1; have Hst := hide hst; have Hrow := hide hrow; have Hs := hide hs
  have hnot := run_not
  have hs1 : (w.alloc (.cells #[.slice ka G.kinds.length kc, .slice pa G.precs.length pc, .slice ra G.rules.length rc, .slice qa G.prods.length qc, .int .i64 G.start] 26)).heap.size = w.heap.size + 1 := by simp
  clear hst hb1 hin hc hrow hs
  go_enter Tryz.func11, Tryz.ntmps11
  go_wp2_with fail
  generalize w.alloc (.cells #[.slice ka G.kinds.length kc, .slice pa G.precs.length pc, .slice ra G.rules.length rc, .slice qa G.prods.length qc, .int .i64 G.start] 26) = w1 at *
  refine (unhide HM).mono ?_
  rintro e w2 ⟨rfl, hb2⟩
  have hs2 := hb2.size
  have hbw2 := (unhide Hb1).trans (below_le hb2 (by omega))
  have hst2 := gst_kept (below_le hb2 (by omega)) (Nat.le_refl _) (unhide Hst)
  have d0 := hst2.c0; have d1 := hst2.c1; have d2 := hst2.c2; have d3 := hst2.c3; have d4 := hst2.c4
  have hk3 := hG.k3; have hr2 := hG.r2
  unfold Gm.nk at hk3
  unfold Gm.nr at hr2
  have HA := hide (areSymbols_any ka pa ra qa G.kinds.length kc G.precs.length pc G.rules.length rc G.prods.length qc G.start (by omega) ro rowc row hl w.heap.size w2 hbw2.size (nrow_kept hbw2 (unhide Hrow)))
  have hdec : decide (symsTo (G.kinds.length + G.rules.length) row row.length) = false := decide_eq_false (fun h => unhide Hs (symsTo_in.1 h))
  rw [hdec] at HA
  have Hbw2 := hide hbw2
  have hs2w : w.heap.size + 1 ≤ w2.heap.size := by omega
  clear hb2 hbw2 hst2 HM hdec
  go_wp2_with fail
  refine (unhide HA).mono ?_
  rintro e w3 ⟨rfl, hb3⟩
  have Hbw3 := hide ((unhide Hbw2).trans (below_le hb3 (by omega)))
  clear hb3
  go_wp2
  refine bodyPost_ret (v := .tuple #[.slice none 0 0, .bool false, .int .i64 1]) ?zz9 rfl ⟨rfl, unhide Hbw3⟩
  case zz9 => simp [results, Tryz.results11, go_sem]
theorem first11 : FirstC 11 := firstC_of firstyes11 firstout11 firstno11
end Go.Proofs.YtagohbpbgjelaaaGreatDoor

/- The code's next: the rules to which a rule leads by one production. -/
namespace Go.Proofs.YtagohbpbgjelaaaGreatDoor
open Go.RowKit

/-- The rules of a rule's productions, of those that lead, up to one of them. -/
def nxtL (G : Gm) (ok : Nat → Bool) (l : List Nat) : List Int := l.flatMap fun q => if ok q then rulesL G.nk (G.prods.getD q pd0).right else []
def ownN (G : Gm) (r : Nat) : List Nat := (List.range G.prods.length).filter fun i => decide ((G.prods.getD i pd0).left.toNat = r)
theorem ownN_is (G : Gm) (r : Nat) : ownTo G G.prods.length r = castL (ownN G r) := rfl
theorem nxtL_snoc (G : Gm) (ok : Nat → Bool) (l : List Nat) (k : Nat) (h : k < l.length) : nxtL G ok (l.take (k + 1)) = nxtL G ok (l.take k) ++ (if ok (l.getD k 0) then rulesL G.nk (G.prods.getD (l.getD k 0) pd0).right else []) := by
  unfold nxtL
  have e : l.take (k + 1) = l.take k ++ [l.getD k 0] := by rw [List.take_add_one, List.getD_eq_getElem?_getD, List.getElem?_eq_getElem h]; rfl
  rw [e, List.flatMap_append]
  simp
theorem nxtL_len (G : Gm) (hG : GOk G) (ok : Nat → Bool) (l : List Nat) (hl : ∀ q, q ∈ l → q < G.prods.length) : (nxtL G ok l).length ≤ 64 * l.length := by
  induction l with
  | nil => simp [nxtL]
  | cons q l ih =>
    have h1 := ih (fun x hx => hl x (List.mem_cons_of_mem _ hx))
    have h2 := hG.pr _ (mem_getP (hl q List.mem_cons_self))
    have h3 := rulesL_len (nk := G.nk) (G.prods.getD q pd0).right
    have e : nxtL G ok (q :: l) = (if ok q then rulesL G.nk (G.prods.getD q pd0).right else []) ++ nxtL G ok l := by simp [nxtL]
    rw [e, List.length_append, List.length_cons]
    by_cases hq : ok q = true
    · rw [if_pos hq]; omega
    · rw [if_neg hq]; simp; omega
theorem ownN_mem {G : Gm} {r q : Nat} (h : q ∈ ownN G r) : q < G.prods.length := by unfold ownN at h; simp at h; exact h.1
theorem ownN_len (G : Gm) (r : Nat) : (ownN G r).length ≤ G.prods.length := by unfold ownN; have := List.length_filter_le (fun i => decide ((G.prods.getD i pd0).left.toNat = r)) (List.range G.prods.length); simpa using this
set_option maxHeartbeats 1000000 in
set_option maxRecDepth 100000 in
theorem next_any (G : Gm) (hG : GOk G) (ka pa ra qa : Option Addr) (kc pc rc qc gb ob ub : Nat) (M : Nat) (F : Nat) (cap : Array Value) (ok : Nat → Bool) (hcf : ∀ args W, Sem.run Tryz.prog (callFunc F args) W = .ok (.enter F args) W) (r : Nat) (hr : r < G.rules.length) (w : World) (hM : M ≤ w.heap.size) (hg : GrAt M w G ka kc pa pc ra rc qa qc gb ob ub)
    (hF : ∀ W q, q < G.prods.length → Below w.heap.size w W → Calls Tryz.prog F (#[.int .i64 (q : Nat)] ++ cap) W fun e W' => e = .returned (.bool (ok q)) ∧ Below W.heap.size W W') :
    Calls Tryz.prog 84 #[.pointer (some ⟨gb, 0, none⟩), .int .i64 (r : Int), .func (.func F) #[] cap] w fun e w' => ∃ v, e = .returned v ∧ w'.ownsRow w.heap.size 3 1 v (nxtL G ok (ownN G r)).length (vints (nxtL G ok (ownN G r))) ∧ Below w.heap.size w w' := by
  obtain ⟨i3, hi3, hz30, hz31, hz32⟩ := info_parts info3
  have hps := hG.ps
  have hr2 := hG.r2
  unfold Gm.nr at hr2
  have c5 : w.cell? ⟨gb, 5, none⟩ = some (.slice (some ⟨ob, 0, none⟩) G.rules.length G.rules.length) := by unfold World.cell?; rw [hg.box]; rfl
  obtain ⟨Oo, hto, -⟩ := hg.own
  obtain ⟨xa, xc, tco, hxn⟩ := tab_at hto hr
  rw [ownN_is] at tco hxn
  rw [castL_len] at tco
  have hr' : (r : Int) < G.rules.length := by omega
  have Hg := hide hg; have HF := hide hF
  clear hg hF
  go_enter Tryz.func84, Tryz.ntmps84
  go_wp2
  go_loopw [7, 18] (fun u x W => ∃ k : Nat, x = .int .i64 k ∧ k ≤ (ownN G r).length ∧ W.ownsRow w.heap.size 3 1 u (nxtL G ok ((ownN G r).take k)).length (vints (nxtL G ok ((ownN G r).take k))) ∧ Below w.heap.size w W) (fun _ x _ => (ownN G r).length - (intOf x).toNat)
  case atStart => exact ⟨0, rfl, Nat.zero_le _, World.ownsRow_nil _ _ _ _, Below.refl _ _⟩
  case round =>
    obtain ⟨k, rfl, hk, hown, hb⟩ := hrel
    obtain ⟨ua, uc, rfl⟩ := own_form hown
    have hsz := hb.size
    have hgr := gr_kept (unhide Hg) (below_le hb hM)
    have hlen := nxtL_len G hG ok ((ownN G r).take k) (fun q hq => ownN_mem (List.mem_of_mem_take hq))
    have hon := ownN_len G r
    rw [List.length_take] at hlen
    by_cases hlt : k < (ownN G r).length
    · have hlt' : (k : Int) < (ownN G r).length := by omega
      have hq := ownN_mem (G := G) (r := r) (show (ownN G r).getD k 0 ∈ ownN G r by rw [List.getD_eq_getElem?_getD, List.getElem?_eq_getElem hlt]; exact List.getElem_mem hlt)
      have hxr := nrow_up hxn hb
      obtain ⟨xb, xo, rfl, hxb, hxe⟩ := nrow_at hxr (k := k) (by rw [castL_len]; exact hlt)
      rw [castL_get hlt] at hxe
      have Hs := hide (nxtL_snoc G ok (ownN G r) k hlt)
      have HC := hide ((unhide HF) wr ((ownN G r).getD k 0) hq hb)
      have hacc : (nxtL G ok ((ownN G r).take k)).length ≤ 262144 := by omega
      have Hown := hide hown; have Hb := hide hb; have Hgr := hide hgr
      generalize (ownN G r).getD k 0 = q at *
      generalize nxtL G ok ((ownN G r).take k) = acc at *
      clear hxr hxn tco hto hown hb hgr hlen
      go_wp2_with fail
      refine (unhide HC).mono ?_
      rintro e w2 ⟨rfl, hb2⟩
      have hs2 := hb2.size
      have hown2 := own_below (unhide Hown) hb2
      have hbb := (unhide Hb).trans (below_le hb2 hsz)
      by_cases hk2 : ok q = true
      · rw [hk2]
        have hgr2 := gr_kept (unhide Hgr) (below_le hb2 (by omega))
        obtain ⟨pb, off, rfl, hbB, rr, rrc, x3, x4, x5, x6, n6, c6, hrr, -, q0, q1, q2, q3, q4, q5, q6⟩ := qrow_at hgr2.gin.prods hq
        have hgb : gb < w2.heap.size := by have := hgr2.lt; omega
        have c0 : w2.cell? ⟨gb, 0, none⟩ = some (.slice ka G.kinds.length kc) := by unfold World.cell?; rw [hgr2.box]; rfl
        have c3 : w2.cell? ⟨gb, 3, none⟩ = some (.slice (some ⟨pb, off, none⟩) G.prods.length qc) := by unfold World.cell?; rw [hgr2.box]; rfl
        have hq' : (q : Int) < G.prods.length := by omega
        have hpr := hG.pr _ (mem_getP hq)
        have hpy := hG.py _ (mem_getP hq)
        have hrl := rulesL_len (nk := G.nk) (G.prods.getD q pd0).right
        rw [hk2, if_pos rfl] at Hs
        generalize G.prods.getD q pd0 = p at *
        obtain ⟨pl, prt, plv, pac⟩ := p
        simp only at q0 q1 q2 Hs hpr hpy hrl hrr
        have Hown2 := hide hown2; have Hbb := hide hbb
        have hb0 : pb < w2.heap.size := by omega
        have Hrl := hide (rulesOf_any gb G.kinds.length ka kc hG.k3 rr rrc prt (by omega) (fun x hx => by have := hpy x hx; have := hG.k3; have := hG.r2; unfold Gm.nk Gm.nr at *; omega) w2 c0 hgb (nrow_big (by omega) hrr))
        clear hgr2 hrr hown2 hbb hpy
        go_wp2_with fail
        refine (unhide Hrl).mono ?_
        rintro e w5 ⟨v5, rfl, how5, hb5⟩
        have hs5 := hb5.size
        have ho5 := own_below (unhide Hown2) hb5
        have hbb5 := (unhide Hbb).trans (below_le hb5 (by omega))
        obtain ⟨va, vc, rfl⟩ := own_form how5
        obtain ⟨_, _, he5, hn5⟩ := own_nrow how5
        cases he5
        have Ho5 := hide ho5; have Hbb5 := hide hbb5
        have hrl' : (rulesL G.kinds.length prt).length ≤ 64 := by unfold Gm.nk at hrl; omega
        rcases hn5 with h | ⟨b5, o5, rfl, h2, h3⟩
        · have Ho3 := hide (show w5.ownsRow w.heap.size 3 1 (.slice ua acc.length uc) (nxtL G ok ((ownN G r).take (k + 1))).length (vints (nxtL G ok ((ownN G r).take (k + 1)))) by rw [unhide Hs, show rulesL G.nk prt = [] from h]; simpa using ho5)
          rw [h] at how5 ⊢
          clear ho5 hbb5
          rcases how5.2 with ⟨h1, -⟩ | ⟨g5, cap5, x5', h1, h2⟩
          · cases h1
            go_wp2_with (at_builtin; refine wpList_append_own_none rfl _ _ 27 rfl w.heap.size 3 i3 1 Tryz.underlying27 hi3 _ _ _ rfl (unhide Ho3) rfl ?_)
            go_wp2
            go_roundw
            case rel => exact ⟨k + 1, by go_num, by omega, unhide Ho3, unhide Hbb5⟩
            case measure => simp [intOf]; omega
          · cases h1
            go_wp2_with (at_builtin; refine wpList_append_own _ rfl _ _ 27 rfl w.heap.size 3 i3 (.int .i64 0) 1 8 Tryz.underlying27 hi3 hz30 hz31 hz32 rfl (by decide) _ _ _ rfl (unhide Ho5) ⟨g5, 0, none⟩ 0 _ [] rfl rfl (by simp) (by simp) (by unfold maxLen; omega) (by omega) (by omega) ?_)
            intro v' W3 hown' hgrow _
            have Hb3 := hide ((unhide Hbb5).grown hgrow (by omega) (fun j hj => ((unhide Ho5).lt j hj).1))
            have Ho3' := hide (show W3.ownsRow w.heap.size 3 1 v' (nxtL G ok ((ownN G r).take (k + 1))).length (vints (nxtL G ok ((ownN G r).take (k + 1)))) by rw [unhide Hs, show rulesL G.nk prt = [] from h]; simpa using hown')
            clear hown' hgrow
            go_wp2
            go_roundw
            case rel => exact ⟨k + 1, by go_num, by omega, unhide Ho3', unhide Hb3⟩
            case measure => simp [intOf]; omega
        · have Hnw := hide (show ∀ j u, (vints (rulesL G.kinds.length prt))[j]? = some u → w5.cell? (Addr.add ⟨b5, o5, none⟩ j) = some u by
            intro j u hu
            unfold vints at hu
            rw [List.getElem?_map] at hu
            obtain ⟨x, hx, rfl⟩ := Option.map_eq_some_iff.1 hu
            have hj := (List.getElem?_eq_some_iff.1 hx).1
            rw [show Addr.add ⟨b5, o5, none⟩ j = ⟨b5, o5 + j, none⟩ by cases j <;> simp [Addr.add], h3 j hj, List.getD_eq_getElem?_getD, hx]
            rfl)
          clear h3 how5 ho5 hbb5
          generalize rulesL G.kinds.length prt = rl at *
          go_wp2_with (at_builtin; refine wpList_append_own _ rfl _ _ 27 rfl w.heap.size 3 i3 (.int .i64 0) 1 8 Tryz.underlying27 hi3 hz30 hz31 hz32 rfl (by decide) _ _ _ rfl (unhide Ho5) ⟨b5, o5, none⟩ rl.length vc (vints rl) rfl (by rw [vints_len, Nat.mul_one]) (unhide Hnw) (vints_one _) (by unfold maxLen; omega) (by omega) (by omega) ?_)
          intro v' W3 hown' hgrow _
          have Hb3 := hide ((unhide Hbb5).grown hgrow (by omega) (fun j hj => ((unhide Ho5).lt j hj).1))
          have Ho3 := hide (show W3.ownsRow w.heap.size 3 1 v' (nxtL G ok ((ownN G r).take (k + 1))).length (vints (nxtL G ok ((ownN G r).take (k + 1)))) by rw [unhide Hs, List.length_append, vints_app]; exact hown')
          clear hown' hgrow
          go_wp2
          go_roundw
          case rel => exact ⟨k + 1, by go_num, by omega, unhide Ho3, unhide Hb3⟩
          case measure => simp [intOf]; omega
      · have hk3 : ok q = false := by simpa using hk2
        rw [hk3]
        rw [hk3] at Hs
        have Ho3 := hide (show w2.ownsRow w.heap.size 3 1 (.slice ua acc.length uc) (nxtL G ok ((ownN G r).take (k + 1))).length (vints (nxtL G ok ((ownN G r).take (k + 1)))) by rw [unhide Hs]; simpa using hown2)
        have Hb3 := hide hbb
        clear hown2 hbb
        go_wp2
        go_roundw
        case rel => exact ⟨k + 1, by go_num, by omega, unhide Ho3, unhide Hb3⟩
        case measure => simp [intOf]; omega
    · obtain rfl : k = (ownN G r).length := by omega
      rw [List.take_of_length_le (Nat.le_refl _)] at hown ⊢
      have Hown := hide hown; have Hb := hide hb
      clear hown hb hgr hxn tco
      go_wp2
      go_ret
      exact ⟨_, rfl, unhide Hown, unhide Hb⟩
end Go.Proofs.YtagohbpbgjelaaaGreatDoor

/- What is reached, plainly: a list that grows while it is gone through. -/
namespace Go.Proofs.YtagohbpbgjelaaaGreatDoor
open Go.RowKit

theorem rulesL_mem {nk : Nat} {row : List Int} {y : Int} : y ∈ rulesL nk row ↔ ∃ x, x ∈ row ∧ (nk : Int) ≤ x ∧ y = x - nk := by
  unfold rulesL
  rw [List.mem_flatMap]
  constructor
  · rintro ⟨x, h1, h2⟩
    split at h2
    · rename_i h; simp at h2; exact ⟨x, h1, by first | omega | (simp at h; omega), h2⟩
    · simp at h2
  · rintro ⟨x, h1, h2, rfl⟩
    exact ⟨x, h1, by rw [if_pos (by first | omega | (simp; omega))]; simp⟩
theorem nxtL_mem {G : Gm} {ok : Nat → Bool} {r : Nat} {y : Int} : y ∈ nxtL G ok (ownN G r) ↔ ∃ q, q < G.prods.length ∧ (G.prods.getD q pd0).left.toNat = r ∧ ok q = true ∧ y ∈ rulesL G.nk (G.prods.getD q pd0).right := by
  unfold nxtL ownN
  rw [List.mem_flatMap]
  constructor
  · rintro ⟨q, h1, h2⟩
    simp only [List.mem_filter, List.mem_range, decide_eq_true_eq] at h1
    split at h2
    · rename_i h; exact ⟨q, h1.1, h1.2, h, h2⟩
    · simp at h2
  · rintro ⟨q, h1, h2, h3, h4⟩
    exact ⟨q, by simp only [List.mem_filter, List.mem_range, decide_eq_true_eq]; exact ⟨h1, h2⟩, by rw [if_pos h3]; exact h4⟩
structure RcI (G : Gm) (ok : Nat → Bool) (okP : Pd → Bool) (fs : List Nat) (a : Nat) : Prop where
  nd : fs.Nodup
  lt : ∀ x, x ∈ fs → x < G.rules.length
  st : G.start.toNat ∈ fs
  snd : ∀ x, x ∈ fs → Rchd G okP x
  le : a ≤ fs.length
  shut : ∀ j, j < a → ∀ y, y ∈ nxtL G ok (ownN G (fs.getD j 0)) → y.toNat ∈ fs
theorem getD_app {l : List Nat} {y j : Nat} (h : j < l.length) : (l ++ [y]).getD j 0 = l.getD j 0 := by
  rw [List.getD_eq_getElem?_getD, List.getElem?_append_left h, ← List.getD_eq_getElem?_getD]
theorem rc_start {G : Gm} (hG : GOk G) (ok : Nat → Bool) (okP : Pd → Bool) : RcI G ok okP [G.start.toNat] 0 := by
  have h0 := hG.s0; have h1 := hG.s1
  unfold Gm.nr at h1
  exact ⟨by simp, fun x hx => by simp at hx; subst hx; omega, by simp, fun x hx => by simp at hx; subst hx; exact .start, Nat.zero_le _, fun j hj => by omega⟩
theorem rc_push {G : Gm} {ok : Nat → Bool} {okP : Pd → Bool} {fs : List Nat} {a y : Nat} (h : RcI G ok okP fs a) (hy : y < G.rules.length) (hr : Rchd G okP y) (hn : y ∉ fs) : RcI G ok okP (fs ++ [y]) a := by
  refine ⟨?_, fun x hx => ?_, List.mem_append_left _ h.st, fun x hx => ?_, by have := h.le; simp; omega, fun j hj z hz => ?_⟩
  · rw [List.nodup_append]
    exact ⟨h.nd, by simp, fun x hx z hz => by simp at hz; subst hz; intro e; subst e; exact hn hx⟩
  · rcases List.mem_append.1 hx with h1 | h1
    · exact h.lt x h1
    · simp at h1; subst h1; exact hy
  · rcases List.mem_append.1 hx with h1 | h1
    · exact h.snd x h1
    · simp at h1; subst h1; exact hr
  · rw [getD_app (by have := h.le; omega)] at hz
    exact List.mem_append_left _ (h.shut j hj z hz)
theorem rc_next {G : Gm} {ok : Nat → Bool} {okP : Pd → Bool} {fs : List Nat} {a : Nat} (h : RcI G ok okP fs a) (ha : a < fs.length) (hs : ∀ y, y ∈ nxtL G ok (ownN G (fs.getD a 0)) → y.toNat ∈ fs) : RcI G ok okP fs (a + 1) :=
  ⟨h.nd, h.lt, h.st, h.snd, ha, fun j hj y hy => by
    by_cases e : j = a
    · subst e; exact hs y hy
    · exact h.shut j (by omega) y hy⟩
theorem rc_reach {G : Gm} {ok : Nat → Bool} {okP : Pd → Bool} (hok : ∀ q, q < G.prods.length → ok q = okP (G.prods.getD q pd0)) (hG : GOk G) {r : Nat} (hr : Rchd G okP r) {y : Int} (hy : y ∈ nxtL G ok (ownN G r)) : Rchd G okP y.toNat ∧ 0 ≤ y ∧ y.toNat < G.rules.length := by
  obtain ⟨q, h1, h2, h3, h4⟩ := nxtL_mem.1 hy
  obtain ⟨x, h5, h6, rfl⟩ := rulesL_mem.1 h4
  have h7 := hG.py _ (mem_getP h1) x h5
  unfold Gm.nr at h7
  refine ⟨.step (G.prods.getD q pd0) (mem_getP h1) (by rw [← hok q h1]; exact h3) (by rw [h2]; exact hr) x h5 h6, by omega, by omega⟩
theorem rc_len {G : Gm} {ok : Nat → Bool} {okP : Pd → Bool} {fs : List Nat} {a : Nat} (h : RcI G ok okP fs a) : fs.length ≤ G.rules.length := by
  have := Wk.nodup_bound G.rules.length (castL fs) (by
    unfold castL
    refine List.Pairwise.map (R := (· ≠ ·)) _ (fun a b hab e => hab (by omega)) h.nd) (fun x hx => by
    obtain ⟨y, hy, rfl⟩ := castL_mem.1 hx
    have := h.lt y hy
    omega)
  rwa [castL_len] at this
theorem rc_end {G : Gm} {ok : Nat → Bool} {okP : Pd → Bool} (hok : ∀ q, q < G.prods.length → ok q = okP (G.prods.getD q pd0)) {fs : List Nat} (h : RcI G ok okP fs fs.length) : (fun r => decide (r ∈ fs)) = rchF G okP := by
  refine rch_done ⟨by simpa using h.st, fun r hr => h.snd r (by simpa using hr)⟩ (fun i hi hl ho x hx hk => ?_)
  simp only [decide_eq_true_eq] at hl ⊢
  obtain ⟨j, hj, e⟩ := List.getElem_of_mem hl
  have := h.shut j hj (x - G.nk) (nxtL_mem.2 ⟨i, hi, by rw [show fs.getD j 0 = fs[j] by rw [List.getD_eq_getElem?_getD, List.getElem?_eq_getElem hj]; rfl]; exact e.symm, by rw [hok i hi]; exact ho, rulesL_mem.2 ⟨x, hx, hk, rfl⟩⟩)
  exact this
end Go.Proofs.YtagohbpbgjelaaaGreatDoor

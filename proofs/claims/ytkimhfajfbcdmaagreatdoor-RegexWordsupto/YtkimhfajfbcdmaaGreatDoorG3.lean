/- Pools: how many parts and levels a node has. -/
import Derived.Test.YtkimhfajfbcdmaaGreatDoorQB
namespace Go.Proofs.YtkimhfajfbcdmaaGreatDoor
open Go.RowKit Go.Maps

/-- A node of a pool. -/
structure Nd where
  kind : Int
  sa : Option Addr
  sc : Nat
  set : List Rg
  ka : Option Addr
  kc : Nat
  kids : List Int
  parts : Int
  levels : Int
  nul : Bool
def nd0 : Nd := ⟨0, none, 0, [], none, 0, [], 0, 0, false⟩
def cellsN (d : Nd) : List Value := [.int .i64 d.kind, .slice d.sa d.set.length d.sc, .slice d.ka d.kids.length d.kc, .int .i64 d.parts, .int .i64 d.levels, .bool d.nul]
def flatN (l : List Nd) : List Value := l.flatMap cellsN
theorem flatN_length (l : List Nd) : (flatN l).length = l.length * 6 := by
  induction l with
  | nil => rfl
  | cons d l ih => simp only [flatN, List.flatMap_cons, List.length_append, List.length_cons] at ih ⊢; rw [ih]; simp [cellsN]; omega
theorem flatN_at (l : List Nd) : ∀ (k j : Nat), k < l.length → j < 6 → (flatN l)[k * 6 + j]? = (cellsN (l.getD k nd0))[j]? := by
  induction l with
  | nil => intro k j h; simp at h
  | cons d l ih =>
    intro k j h hj
    unfold flatN
    rw [List.flatMap_cons]
    cases k with
    | zero => rw [List.getElem?_append_left (by simp [cellsN]; omega)]; simp
    | succ k =>
      rw [List.getElem?_append_right (by simp [cellsN]; omega), show (k + 1) * 6 + j - (cellsN d).length = k * 6 + j by simp [cellsN]; omega]
      have := ih k j (by simpa using h) hj
      unfold flatN at this
      rw [this]
      simp
/-- A row of nodes lies there. -/
def NdRow (w : World) (g : Nat) (l : List Nd) : Prop := ∀ k, k < l.length → ∀ j, j < 6 → w.cell? ⟨g, k * 6 + j, none⟩ = (cellsN (l.getD k nd0))[j]?
theorem ndRow_own {w : World} {B g c : Nat} {l : List Nd} (h : w.ownsRow B 65 6 (.slice (some ⟨g, 0, none⟩) l.length c) l.length (flatN l)) : NdRow w g l := fun k hk j hj => by
  have hf := flatN_at l k j hk hj
  have hl := flatN_length l
  rw [own_cell h rfl (k * 6 + j) (by omega), List.getD_eq_getElem?_getD, hf]
  match j, hj with
  | 0, _ | 1, _ | 2, _ | 3, _ | 4, _ | 5, _ => rfl
def ownI (kind : Int) (i : Nat) (kk : Int) : Int := if i = 1 ∧ kind = 3 ∧ kk = 3 then 0 else 1
theorem ownI_01 (kind : Int) (i : Nat) (kk : Int) : 0 ≤ ownI kind i kk ∧ ownI kind i kk ≤ 1 := by unfold ownI; split <;> omega
def maxI (a b : Int) : Int := if a < b then b else a
/-- Parts and levels behind so many kids. -/
def measTo (l : List Nd) (kind : Int) (s : Nat) (kids : List Int) : Nat → Int × Int
  | 0 => (1 + s, 1)
  | k + 1 => ((measTo l kind s kids k).1 + ((l.getD (kids.getD k 0).toNat nd0).parts - 1 + ownI kind k (l.getD (kids.getD k 0).toNat nd0).kind), maxI (measTo l kind s kids k).2 ((l.getD (kids.getD k 0).toNat nd0).levels + ownI kind k (l.getD (kids.getD k 0).toNat nd0).kind))
/-- Nodes as they are in a pool. -/
def NdFit (l : List Nd) : Prop := ∀ d ∈ l, (1 ≤ d.parts ∧ d.parts ≤ 4097) ∧ (1 ≤ d.levels ∧ d.levels ≤ 65)
theorem measTo_le {l : List Nd} (hf : NdFit l) (kind : Int) (s : Nat) (kids : List Int) : ∀ k, k ≤ kids.length → (∀ j, j < k → (kids.getD j 0).toNat < l.length) → (0 ≤ (measTo l kind s kids k).1 ∧ (measTo l kind s kids k).1 ≤ 1 + s + 4097 * k) ∧ 1 ≤ (measTo l kind s kids k).2 ∧ (measTo l kind s kids k).2 ≤ 66 := by
  intro k
  induction k with
  | zero => intro _ _; simp only [measTo]; omega
  | succ k ih =>
    intro hk hj
    obtain ⟨h1, h2⟩ := ih (by omega) (fun j hjk => hj j (by omega))
    have hm : l.getD (kids.getD k 0).toNat nd0 ∈ l := by rw [List.getD_eq_getElem?_getD (l := l), List.getElem?_eq_getElem (hj k (by omega))]; exact List.getElem_mem _
    have hd := hf _ hm
    have ho := ownI_01 kind k (l.getD (kids.getD k 0).toNat nd0).kind
    simp only [measTo, maxI]
    split <;> omega

set_option maxHeartbeats 4000000 in
set_option maxRecDepth 100000 in
theorem measure_any (pb nb g nc : Nat) (l : List Nd) (hf : NdFit l) (p1 p2 p3 p4 p5 : Value) (d : Nd) (hs : d.set.length ≤ 4096) (hk : d.kids.length ≤ 4096) (hkv : ∀ j, j < d.kids.length → 0 ≤ d.kids.getD j 0 ∧ (d.kids.getD j 0).toNat < l.length) (w : World) (hp : w.heap[pb]? = some (.cells #[.slice (some ⟨g, 0, none⟩) l.length nc, p1, p2, p3, p4, p5] 61 (0, 0))) (hn : w.heap[nb]? = some (.cells #[.int .i64 d.kind, .slice d.sa d.set.length d.sc, .slice d.ka d.kids.length d.kc, .int .i64 d.parts, .int .i64 d.levels, .bool d.nul] 65 (0, 0))) (hl : NdRow w g l) (hg : g < w.heap.size) (hgn : g ≠ nb) (hkr : NRow w d.ka d.kids) (hkn : ∀ x, d.ka = some x → x.block ≠ nb) :
    Calls Tryz.prog 43 #[.pointer (some ⟨pb, 0, none⟩), .pointer (some ⟨nb, 0, none⟩)] w fun e w' => e = .returned (.tuple #[]) ∧ Off (fun k => k = nb) w w' ∧ w'.heap[nb]? = some (.cells #[.int .i64 d.kind, .slice d.sa d.set.length d.sc, .slice d.ka d.kids.length d.kc, .int .i64 (min (measTo l d.kind d.set.length d.kids d.kids.length).1 4097), .int .i64 (min (measTo l d.kind d.set.length d.kids d.kids.length).2 65), .bool d.nul] 65 (0, 0)) := by
  have hpn : pb ≠ nb := fun e => by rw [e, hn] at hp; simp at hp
  have n1 := cell_block hn 1 _ rfl
  have n3 := cell_block hn 3 _ rfl
  have n4 := cell_block hn 4 _ rfl
  have f3 := frozen_block hn 3
  have f4 := frozen_block hn 4
  have hn2 : ((w.setCell ⟨nb, 3, none⟩ (.int .i64 (1 + (d.set.length : Int)))).setCell ⟨nb, 4, none⟩ (.int .i64 1)).heap[nb]? = some (.cells #[.int .i64 d.kind, .slice d.sa d.set.length d.sc, .slice d.ka d.kids.length d.kc, .int .i64 (measTo l d.kind d.set.length d.kids 0).1, .int .i64 (measTo l d.kind d.set.length d.kids 0).2, .bool d.nul] 65 (0, 0)) := by
    have := block_set (i := 4) (block_set (i := 3) hn (.int .i64 (1 + (d.set.length : Int)))) (.int .i64 1)
    simpa [measTo] using this
  have ho2 : Off (fun k => k = nb) w ((w.setCell ⟨nb, 3, none⟩ (.int .i64 (1 + (d.set.length : Int)))).setCell ⟨nb, 4, none⟩ (.int .i64 1)) := off_set (O := fun k => k = nb) (off_set (O := fun k => k = nb) (off_refl _ _) (p := ⟨nb, 3, none⟩) (.inl rfl) _) (p := ⟨nb, 4, none⟩) (.inl rfl) _
  have m2 := cell_block hn2 2 _ rfl
  have hw1 : IntKind.i64.wrap (1 + (d.set.length : Int)) = 1 + (d.set.length : Int) := by rw [IntKind.wrap_i64]; omega
  have Hn2 := hide hn2; have Ho2 := hide ho2; have Hp := hide hp; have Hl := hide hl; have Hkr := hide hkr; have Hkn := hide hkn; have Hkv := hide hkv; have Hf := hide hf
  have lP := lt_of_some hp
  clear hn2 ho2 hp hl hkr hkn hkv hf hn
  go_enter Tryz.func43, Tryz.ntmps43
  go_wp2
  go_loopw [25] (fun x wr => ∃ k : Nat, x = .int .i64 k ∧ k ≤ d.kids.length ∧ Off (fun k => k = nb) w wr ∧ wr.heap[nb]? = some (.cells #[.int .i64 d.kind, .slice d.sa d.set.length d.sc, .slice d.ka d.kids.length d.kc, .int .i64 (measTo l d.kind d.set.length d.kids k).1, .int .i64 (measTo l d.kind d.set.length d.kids k).2, .bool d.nul] 65 (0, 0))) (fun x _ => d.kids.length - (intOf x).toNat)
  case atStart => exact ⟨0, rfl, Nat.zero_le _, unhide Ho2, unhide Hn2⟩
  case round =>
    obtain ⟨k, rfl, hkl, ho, hnk⟩ := hrel
    clear Hn2 Ho2 m2 n1 n3 n4 f3 f4
    have hml := measTo_le (unhide Hf) d.kind d.set.length d.kids k hkl (fun j hj => (unhide Hkv j (by omega)).2)
    have q0 := cell_block hnk 0 _ rfl
    have q3 := cell_block hnk 3 _ rfl
    have q4 := cell_block hnk 4 _ rfl
    have e3 := frozen_block hnk 3
    have e4 := frozen_block hnk 4
    by_cases hlt : k < d.kids.length
    · have hlt' : (k : Int) < d.kids.length := by omega
      rcases unhide Hkr with h | ⟨gk, off, hka, hgl, hc⟩
      · rw [h] at hlt; simp at hlt
      have d0 := hc k hlt
      have hne : gk ≠ nb := unhide Hkn _ hka
      have c0 := (off_cell ho (p := ⟨gk, off + k, none⟩) hgl hne).trans d0
      have cp := (off_cell ho (p := ⟨pb, 0, none⟩) lP hpn).trans (cell_block (unhide Hp) 0 _ rfl)
      obtain ⟨hv0, hv1⟩ := unhide Hkv k hlt
      obtain ⟨y, hy⟩ := Int.eq_ofNat_of_zero_le hv0
      rw [hy] at c0 hv1
      have hyl : (y : Int) < l.length := by rw [Int.toNat_natCast] at hv1; omega
      have hyl2 : y < l.length := by omega
      have r0 := (off_cell ho (p := ⟨g, y * 6 + 0, none⟩) hg hgn).trans (unhide Hl y hyl2 0 (by decide))
      have r3 := (off_cell ho (p := ⟨g, y * 6 + 3, none⟩) hg hgn).trans (unhide Hl y hyl2 3 (by decide))
      have r4 := (off_cell ho (p := ⟨g, y * 6 + 4, none⟩) hg hgn).trans (unhide Hl y hyl2 4 (by decide))
      have HM : Hid (measTo l d.kind d.set.length d.kids (k + 1) = ((measTo l d.kind d.set.length d.kids k).1 + ((l.getD y nd0).parts - 1 + ownI d.kind k (l.getD y nd0).kind), maxI (measTo l d.kind d.set.length d.kids k).2 ((l.getD y nd0).levels + ownI d.kind k (l.getD y nd0).kind))) := hide (by
        simp only [measTo, hy, Int.toNat_natCast])
      have hm : l.getD y nd0 ∈ l := by rw [List.getD_eq_getElem?_getD, List.getElem?_eq_getElem hyl2]; exact List.getElem_mem _
      have hfd := unhide Hf _ hm
      simp only [cellsN, Nat.add_zero] at r0 r3 r4
      clear d0 hc hm hv0 hv1
      generalize l.getD y nd0 = z at *
      by_cases hk1 : (k : Int) = 1
      · have hkn : k = 1 := by omega
        clear hk1
        subst hkn
        by_cases hkd : d.kind = 3
        · have hkdb : (d.kind == 3) = true := by simpa using hkd
          by_cases hzk : z.kind = 3
          · have hown : ownI d.kind 1 z.kind = 0 := by simp [ownI, hkd, hzk]
            have hzb : (z.kind == 3) = true := by simpa using hzk
            rw [hown] at HM
            generalize (measTo l d.kind d.set.length d.kids 1).1 = P at *
            generalize (measTo l d.kind d.set.length d.kids 1).2 = Lv at *
            have HM2 : Hid (measTo l d.kind d.set.length d.kids (1 + 1) = (P + (z.parts - 1), if Lv < z.levels then z.levels else Lv)) := hide (by rw [unhide HM]; simp [maxI])
            have w1 : IntKind.i64.wrap (z.parts - 1) = z.parts - 1 := by rw [IntKind.wrap_i64]; omega
            have w2 : IntKind.i64.wrap (z.parts - 1 + 0) = z.parts - 1 + 0 := by rw [IntKind.wrap_i64]; omega
            have w3 : IntKind.i64.wrap (P + (z.parts - 1)) = P + (z.parts - 1) := by rw [IntKind.wrap_i64]; omega
            have w4 : IntKind.i64.wrap (z.levels + 0) = z.levels + 0 := by rw [IntKind.wrap_i64]; omega
            have hn8 : (wr.setCell ⟨nb, 3, none⟩ (.int .i64 (P + (z.parts - 1)))).heap[nb]? = some (.cells #[.int .i64 d.kind, .slice d.sa d.set.length d.sc, .slice d.ka d.kids.length d.kc, .int .i64 (P + (z.parts - 1)), .int .i64 Lv, .bool d.nul] 65 (0, 0)) := by
              have := block_set (i := 3) hnk (.int .i64 (P + (z.parts - 1)))
              simpa using this
            have ho8 : Off (fun k => k = nb) w (wr.setCell ⟨nb, 3, none⟩ (.int .i64 (P + (z.parts - 1)))) := off_set (O := fun k => k = nb) ho (p := ⟨nb, 3, none⟩) (.inl rfl) _
            have r48 := (off_cell ho8 (p := ⟨g, y * 6 + 4, none⟩) hg hgn).trans ((off_cell ho (p := ⟨g, y * 6 + 4, none⟩) hg hgn).symm.trans r4)
            have q48 := cell_block hn8 4 _ rfl
            have e48 := frozen_block hn8 4
            have hn9 : ((wr.setCell ⟨nb, 3, none⟩ (.int .i64 (P + (z.parts - 1)))).setCell ⟨nb, 4, none⟩ (.int .i64 (if Lv < z.levels then z.levels else Lv))).drew.drew.heap[nb]? = some (.cells #[.int .i64 d.kind, .slice d.sa d.set.length d.sc, .slice d.ka d.kids.length d.kc, .int .i64 (P + (z.parts - 1)), .int .i64 (if Lv < z.levels then z.levels else Lv), .bool d.nul] 65 (0, 0)) := by
              have := block_set (i := 4) hn8 (.int .i64 (if Lv < z.levels then z.levels else Lv))
              exact this
            have ho9 : Off (fun k => k = nb) w ((wr.setCell ⟨nb, 3, none⟩ (.int .i64 (P + (z.parts - 1)))).setCell ⟨nb, 4, none⟩ (.int .i64 (if Lv < z.levels then z.levels else Lv))).drew.drew := off_drew (off_drew (off_set (O := fun k => k = nb) ho8 (p := ⟨nb, 4, none⟩) (.inl rfl) _))
            have Hn9 := hide hn9; have Ho9 := hide ho9
            clear hn8 ho8 hn9 ho9 ho hnk HM
            go_wp2
            go_region
            all_goals
              go_wp2
              go_region
              all_goals
                go_wp2
                go_roundw
                case rel => exact ⟨1 + 1, by go_num, by omega, unhide Ho9, by rw [unhide HM2]; exact unhide Hn9⟩
                case measure => simp [intOf]; omega
          · have hown : ownI d.kind 1 z.kind = 1 := by simp [ownI, hzk]
            have hzb : (z.kind == 3) = false := by simpa using hzk
            rw [hown] at HM
            generalize (measTo l d.kind d.set.length d.kids 1).1 = P at *
            generalize (measTo l d.kind d.set.length d.kids 1).2 = Lv at *
            have HM2 : Hid (measTo l d.kind d.set.length d.kids (1 + 1) = (P + z.parts, if Lv < z.levels + 1 then z.levels + 1 else Lv)) := hide (by rw [unhide HM]; simp [maxI])
            have w1 : IntKind.i64.wrap (z.parts - 1) = z.parts - 1 := by rw [IntKind.wrap_i64]; omega
            have w2 : IntKind.i64.wrap (z.parts - 1 + 1) = z.parts - 1 + 1 := by rw [IntKind.wrap_i64]; omega
            have w3 : IntKind.i64.wrap (P + z.parts) = P + z.parts := by rw [IntKind.wrap_i64]; omega
            have w4 : IntKind.i64.wrap (z.levels + 1) = z.levels + 1 := by rw [IntKind.wrap_i64]; omega
            have hn8 : (wr.setCell ⟨nb, 3, none⟩ (.int .i64 (P + z.parts))).heap[nb]? = some (.cells #[.int .i64 d.kind, .slice d.sa d.set.length d.sc, .slice d.ka d.kids.length d.kc, .int .i64 (P + z.parts), .int .i64 Lv, .bool d.nul] 65 (0, 0)) := by
              have := block_set (i := 3) hnk (.int .i64 (P + z.parts))
              simpa using this
            have ho8 : Off (fun k => k = nb) w (wr.setCell ⟨nb, 3, none⟩ (.int .i64 (P + z.parts))) := off_set (O := fun k => k = nb) ho (p := ⟨nb, 3, none⟩) (.inl rfl) _
            have r48 := (off_cell ho8 (p := ⟨g, y * 6 + 4, none⟩) hg hgn).trans ((off_cell ho (p := ⟨g, y * 6 + 4, none⟩) hg hgn).symm.trans r4)
            have q48 := cell_block hn8 4 _ rfl
            have e48 := frozen_block hn8 4
            have hn9 : ((wr.setCell ⟨nb, 3, none⟩ (.int .i64 (P + z.parts))).setCell ⟨nb, 4, none⟩ (.int .i64 (if Lv < z.levels + 1 then z.levels + 1 else Lv))).drew.drew.heap[nb]? = some (.cells #[.int .i64 d.kind, .slice d.sa d.set.length d.sc, .slice d.ka d.kids.length d.kc, .int .i64 (P + z.parts), .int .i64 (if Lv < z.levels + 1 then z.levels + 1 else Lv), .bool d.nul] 65 (0, 0)) := by
              have := block_set (i := 4) hn8 (.int .i64 (if Lv < z.levels + 1 then z.levels + 1 else Lv))
              exact this
            have ho9 : Off (fun k => k = nb) w ((wr.setCell ⟨nb, 3, none⟩ (.int .i64 (P + z.parts))).setCell ⟨nb, 4, none⟩ (.int .i64 (if Lv < z.levels + 1 then z.levels + 1 else Lv))).drew.drew := off_drew (off_drew (off_set (O := fun k => k = nb) ho8 (p := ⟨nb, 4, none⟩) (.inl rfl) _))
            have Hn9 := hide hn9; have Ho9 := hide ho9
            clear hn8 ho8 hn9 ho9 ho hnk HM
            go_wp2
            go_region
            all_goals
              go_wp2
              go_region
              all_goals
                go_wp2
                go_roundw
                case rel => exact ⟨1 + 1, by go_num, by omega, unhide Ho9, by rw [unhide HM2]; exact unhide Hn9⟩
                case measure => simp [intOf]; omega
        · have hown : ownI d.kind 1 z.kind = 1 := by simp [ownI, hkd]
          have hkb : (d.kind == 3) = false := by simpa using hkd
          rw [hown] at HM
          generalize (measTo l d.kind d.set.length d.kids 1).1 = P at *
          generalize (measTo l d.kind d.set.length d.kids 1).2 = Lv at *
          have HM2 : Hid (measTo l d.kind d.set.length d.kids (1 + 1) = (P + z.parts, if Lv < z.levels + 1 then z.levels + 1 else Lv)) := hide (by rw [unhide HM]; simp [maxI])
          have w1 : IntKind.i64.wrap (z.parts - 1) = z.parts - 1 := by rw [IntKind.wrap_i64]; omega
          have w2 : IntKind.i64.wrap (z.parts - 1 + 1) = z.parts - 1 + 1 := by rw [IntKind.wrap_i64]; omega
          have w3 : IntKind.i64.wrap (P + z.parts) = P + z.parts := by rw [IntKind.wrap_i64]; omega
          have w4 : IntKind.i64.wrap (z.levels + 1) = z.levels + 1 := by rw [IntKind.wrap_i64]; omega
          have hn8 : (wr.setCell ⟨nb, 3, none⟩ (.int .i64 (P + z.parts))).heap[nb]? = some (.cells #[.int .i64 d.kind, .slice d.sa d.set.length d.sc, .slice d.ka d.kids.length d.kc, .int .i64 (P + z.parts), .int .i64 Lv, .bool d.nul] 65 (0, 0)) := by
            have := block_set (i := 3) hnk (.int .i64 (P + z.parts))
            simpa using this
          have ho8 : Off (fun k => k = nb) w (wr.setCell ⟨nb, 3, none⟩ (.int .i64 (P + z.parts))) := off_set (O := fun k => k = nb) ho (p := ⟨nb, 3, none⟩) (.inl rfl) _
          have r48 := (off_cell ho8 (p := ⟨g, y * 6 + 4, none⟩) hg hgn).trans ((off_cell ho (p := ⟨g, y * 6 + 4, none⟩) hg hgn).symm.trans r4)
          have q48 := cell_block hn8 4 _ rfl
          have e48 := frozen_block hn8 4
          have hn9 : ((wr.setCell ⟨nb, 3, none⟩ (.int .i64 (P + z.parts))).setCell ⟨nb, 4, none⟩ (.int .i64 (if Lv < z.levels + 1 then z.levels + 1 else Lv))).drew.drew.heap[nb]? = some (.cells #[.int .i64 d.kind, .slice d.sa d.set.length d.sc, .slice d.ka d.kids.length d.kc, .int .i64 (P + z.parts), .int .i64 (if Lv < z.levels + 1 then z.levels + 1 else Lv), .bool d.nul] 65 (0, 0)) := by
            have := block_set (i := 4) hn8 (.int .i64 (if Lv < z.levels + 1 then z.levels + 1 else Lv))
            exact this
          have ho9 : Off (fun k => k = nb) w ((wr.setCell ⟨nb, 3, none⟩ (.int .i64 (P + z.parts))).setCell ⟨nb, 4, none⟩ (.int .i64 (if Lv < z.levels + 1 then z.levels + 1 else Lv))).drew.drew := off_drew (off_drew (off_set (O := fun k => k = nb) ho8 (p := ⟨nb, 4, none⟩) (.inl rfl) _))
          have Hn9 := hide hn9; have Ho9 := hide ho9
          clear hn8 ho8 hn9 ho9 ho hnk HM
          go_wp2
          go_region
          all_goals
            go_wp2
            go_region
            all_goals
              go_wp2
              go_roundw
              case rel => exact ⟨1 + 1, by go_num, by omega, unhide Ho9, by rw [unhide HM2]; exact unhide Hn9⟩
              case measure => simp [intOf]; omega
      · have hown : ownI d.kind k z.kind = 1 := by
          have : ¬ k = 1 := by omega
          simp [ownI, this]
        have hkb : ((k : Int) == 1) = false := by simpa using hk1
        rw [hown] at HM
        generalize (measTo l d.kind d.set.length d.kids k).1 = P at *
        generalize (measTo l d.kind d.set.length d.kids k).2 = Lv at *
        have HM2 : Hid (measTo l d.kind d.set.length d.kids (k + 1) = (P + z.parts, if Lv < z.levels + 1 then z.levels + 1 else Lv)) := hide (by rw [unhide HM]; simp [maxI])
        have w1 : IntKind.i64.wrap (z.parts - 1) = z.parts - 1 := by rw [IntKind.wrap_i64]; omega
        have w2 : IntKind.i64.wrap (z.parts - 1 + 1) = z.parts - 1 + 1 := by rw [IntKind.wrap_i64]; omega
        have w3 : IntKind.i64.wrap (P + z.parts) = P + z.parts := by rw [IntKind.wrap_i64]; omega
        have w4 : IntKind.i64.wrap (z.levels + 1) = z.levels + 1 := by rw [IntKind.wrap_i64]; omega
        have hn8 : (wr.setCell ⟨nb, 3, none⟩ (.int .i64 (P + z.parts))).heap[nb]? = some (.cells #[.int .i64 d.kind, .slice d.sa d.set.length d.sc, .slice d.ka d.kids.length d.kc, .int .i64 (P + z.parts), .int .i64 Lv, .bool d.nul] 65 (0, 0)) := by
          have := block_set (i := 3) hnk (.int .i64 (P + z.parts))
          simpa using this
        have ho8 : Off (fun k => k = nb) w (wr.setCell ⟨nb, 3, none⟩ (.int .i64 (P + z.parts))) := off_set (O := fun k => k = nb) ho (p := ⟨nb, 3, none⟩) (.inl rfl) _
        have r48 := (off_cell ho8 (p := ⟨g, y * 6 + 4, none⟩) hg hgn).trans ((off_cell ho (p := ⟨g, y * 6 + 4, none⟩) hg hgn).symm.trans r4)
        have q48 := cell_block hn8 4 _ rfl
        have e48 := frozen_block hn8 4
        have hn9 : ((wr.setCell ⟨nb, 3, none⟩ (.int .i64 (P + z.parts))).setCell ⟨nb, 4, none⟩ (.int .i64 (if Lv < z.levels + 1 then z.levels + 1 else Lv))).drew.drew.heap[nb]? = some (.cells #[.int .i64 d.kind, .slice d.sa d.set.length d.sc, .slice d.ka d.kids.length d.kc, .int .i64 (P + z.parts), .int .i64 (if Lv < z.levels + 1 then z.levels + 1 else Lv), .bool d.nul] 65 (0, 0)) := by
          have := block_set (i := 4) hn8 (.int .i64 (if Lv < z.levels + 1 then z.levels + 1 else Lv))
          exact this
        have ho9 : Off (fun k => k = nb) w ((wr.setCell ⟨nb, 3, none⟩ (.int .i64 (P + z.parts))).setCell ⟨nb, 4, none⟩ (.int .i64 (if Lv < z.levels + 1 then z.levels + 1 else Lv))).drew.drew := off_drew (off_drew (off_set (O := fun k => k = nb) ho8 (p := ⟨nb, 4, none⟩) (.inl rfl) _))
        have Hn9 := hide hn9; have Ho9 := hide ho9
        clear hn8 ho8 hn9 ho9 ho hnk HM
        go_wp2
        go_region
        all_goals
          go_wp2
          go_region
          all_goals
            go_wp2
            go_roundw
            case rel => exact ⟨k + 1, by go_num, by omega, unhide Ho9, by rw [unhide HM2]; exact unhide Hn9⟩
            case measure => simp [intOf]; omega
    · obtain rfl : k = d.kids.length := by omega
      have hlt' : ¬ ((d.kids.length : Int) < d.kids.length) := by omega
      have hfin : ∀ X Y, Off (fun k => k = nb) w ((wr.setCell ⟨nb, 3, none⟩ X).setCell ⟨nb, 4, none⟩ Y) ∧ ((wr.setCell ⟨nb, 3, none⟩ X).setCell ⟨nb, 4, none⟩ Y).heap[nb]? = some (.cells #[.int .i64 d.kind, .slice d.sa d.set.length d.sc, .slice d.ka d.kids.length d.kc, X, Y, .bool d.nul] 65 (0, 0)) := fun X Y => ⟨off_set (O := fun k => k = nb) (off_set (O := fun k => k = nb) ho (p := ⟨nb, 3, none⟩) (.inl rfl) _) (p := ⟨nb, 4, none⟩) (.inl rfl) _, by
        have := block_set (i := 4) (block_set (i := 3) hnk X) Y
        simpa using this⟩
      have Hfin := hide hfin
      clear ho hnk hfin
      obtain ⟨P, hP0⟩ : ∃ P, P = (measTo l d.kind d.set.length d.kids d.kids.length).1 := ⟨_, rfl⟩
      obtain ⟨Lv, hL0⟩ : ∃ Lv, Lv = (measTo l d.kind d.set.length d.kids d.kids.length).2 := ⟨_, rfl⟩
      rw [← hP0] at q3 hml
      rw [← hL0] at q4 hml
      have HP0 := hide hP0; have HL0 := hide hL0
      clear hP0 hL0
      by_cases hP : 4097 < P
      · by_cases hL : 65 < Lv
        · go_wp2
          go_end0
          exact ⟨rfl, by rw [← unhide HP0, ← unhide HL0, Int.min_eq_right (by omega), Int.min_eq_right (by omega)]; exact unhide Hfin _ _⟩
        · go_wp2
          go_end0
          exact ⟨rfl, by rw [← unhide HP0, ← unhide HL0, Int.min_eq_right (by omega), Int.min_eq_left (by omega)]; exact unhide Hfin _ _⟩
      · by_cases hL : 65 < Lv
        · go_wp2
          go_end0
          exact ⟨rfl, by rw [← unhide HP0, ← unhide HL0, Int.min_eq_left (by omega), Int.min_eq_right (by omega)]; exact unhide Hfin _ _⟩
        · go_wp2
          go_end0
          exact ⟨rfl, by rw [← unhide HP0, ← unhide HL0, Int.min_eq_left (by omega), Int.min_eq_left (by omega)]; exact unhide Hfin _ _⟩
end Go.Proofs.YtkimhfajfbcdmaaGreatDoor

/- Pools: what has a number; held; first; set, not, star. (and what it leads to) -/
import Derived.Test.YtkimhfajfbcdmaaGreatDoorG9
/- Pools: what has a number; held; first; set, not, star. -/
namespace Go.Proofs.YtkimhfajfbcdmaaGreatDoor
open Go.RowKit Go.Maps

variable {av : Nat → Prop}

section
variable {w : World} {B pb mb sb : Nat} {L : List Ab} {ov : Value} {e : Int} {sn : Nat} {DS : DataW Unit}
/-- One of a pool's nodes in memory. -/
structure NodeAt (av : Nat → Prop) (w : World) (B mb sb g x : Nat) (d : Nd) : Prop where
  c0 : w.cell? ⟨g, x * 6, none⟩ = some (.int .i64 d.kind)
  c1 : w.cell? ⟨g, x * 6 + 1, none⟩ = some (.slice d.sa d.set.length d.sc)
  c2 : w.cell? ⟨g, x * 6 + 2, none⟩ = some (.slice d.ka d.kids.length d.kc)
  c3 : w.cell? ⟨g, x * 6 + 3, none⟩ = some (.int .i64 d.parts)
  c4 : w.cell? ⟨g, x * 6 + 4, none⟩ = some (.int .i64 d.levels)
  c5 : w.cell? ⟨g, x * 6 + 5, none⟩ = some (.bool d.nul)
  sr : RRow w d.sa d.set
  kr : NRow w d.ka d.kids
  sh : Held av B mb sb w d.sa
  kh : Held av B mb sb w d.ka
theorem pool_node (h : Pool av w B pb mb sb L ov e sn DS) : ∃ g nc, w.cell? ⟨pb, 0, none⟩ = some (.slice (some ⟨g, 0, none⟩) L.length nc) ∧ ∀ x, x < L.length → ∃ d : Nd, d.ab = L.getD x ab0 ∧ NodeAt av w B mb sb g x d := by
  obtain ⟨l, g, nc, kv, kl, D, hin⟩ := h.lies
  refine ⟨g, nc, cell_block hin.blk 0 _ rfl, fun x hx => ⟨l.getD x nd0, ?_, ?_⟩⟩
  · rw [← ab_getD, hin.ab]
  · have hll := poolIn_len hin
    have hr := ndRow_own (by rw [hll]; exact hin.nodes)
    have hm : l.getD x nd0 ∈ l := by rw [List.getD_eq_getElem?_getD, List.getElem?_eq_getElem (by omega)]; exact List.getElem_mem _
    obtain ⟨r1, r2, r3, r4⟩ := hin.rows _ hm
    exact ⟨hr x (by omega) 0 (by decide), hr x (by omega) 1 (by decide), hr x (by omega) 2 (by decide), hr x (by omega) 3 (by decide), hr x (by omega) 4 (by decide), hr x (by omega) 5 (by decide), r1, r2, r3, r4⟩
theorem pool_pb (h : Pool av w B pb mb sb L ov e sn DS) : (∃ v0 v2, w.heap[pb]? = some (.cells #[v0, .map (some mb), v2, .map (some sb), ov, .int .i64 e] 61 (0, 0))) := by
  obtain ⟨l, g, nc, kv, kl, D, hin⟩ := h.lies
  exact ⟨_, _, hin.blk⟩
/-- The last two fields are written. -/
theorem pool_set (h : Pool av w B pb mb sb L ov e sn DS) (e' : Int) : Pool av (w.setCell ⟨pb, 5, none⟩ (.int .i64 e')) B pb mb sb L ov e' sn DS ∧ Fr B mb sb w (w.setCell ⟨pb, 5, none⟩ (.int .i64 e')) := by
  obtain ⟨l, g, nc, kv, kl, D, hin⟩ := h.lies
  obtain ⟨hg1, hg2, hg3, hg4, hk1, hk2, hk3, hm1, hpl⟩ := poolIn_g hin
  have ho := off_set (O := fun k => k = pb) (off_refl _ w) (p := ⟨pb, 5, none⟩) (.inl rfl) (.int .i64 e')
  have hO : ∀ k, k < w.heap.size → k = pb → ¬ Stay B mb sb w k := by rintro k - rfl; exact not_stay_pb hin h.bp
  have hf := fr_off ho hO
  refine ⟨⟨h.bp, h.bm, h.bs, h.ne, h.wf, map_off h.steps ho (map_not hin.blk h.steps), l, g, nc, kv, kl, D, ?_⟩, hf⟩
  exact ⟨hin.ab, block_set (i := 5) hin.blk _, own_off hin.nodes ho (fun k hk e => by simp only [Value.ownBlock, Option.some.injEq] at hk; omega), own_off hin.key ho (fun k hk e => hk2 (e ▸ hk)), map_off hin.map ho hm1, hin.has, fun d hd => ⟨rrow_fr (hin.rows d hd).1 (hin.rows d hd).2.2.1 hf, nrow_fr (hin.rows d hd).2.1 (hin.rows d hd).2.2.2 hf, held_fr (hin.rows d hd).2.2.1 hf, held_fr (hin.rows d hd).2.2.2 hf⟩⟩
theorem pool_order (h : Pool av w B pb mb sb L ov e sn DS) (ov' : Value) : Pool av (w.setCell ⟨pb, 4, none⟩ ov') B pb mb sb L ov' e sn DS ∧ Fr B mb sb w (w.setCell ⟨pb, 4, none⟩ ov') := by
  obtain ⟨l, g, nc, kv, kl, D, hin⟩ := h.lies
  obtain ⟨hg1, hg2, hg3, hg4, hk1, hk2, hk3, hm1, hpl⟩ := poolIn_g hin
  have ho := off_set (O := fun k => k = pb) (off_refl _ w) (p := ⟨pb, 4, none⟩) (.inl rfl) ov'
  have hO : ∀ k, k < w.heap.size → k = pb → ¬ Stay B mb sb w k := by rintro k - rfl; exact not_stay_pb hin h.bp
  have hf := fr_off ho hO
  refine ⟨⟨h.bp, h.bm, h.bs, h.ne, h.wf, map_off h.steps ho (map_not hin.blk h.steps), l, g, nc, kv, kl, D, ?_⟩, hf⟩
  exact ⟨hin.ab, block_set (i := 4) hin.blk _, own_off hin.nodes ho (fun k hk e => by simp only [Value.ownBlock, Option.some.injEq] at hk; omega), own_off hin.key ho (fun k hk e => hk2 (e ▸ hk)), map_off hin.map ho hm1, hin.has, fun d hd => ⟨rrow_fr (hin.rows d hd).1 (hin.rows d hd).2.2.1 hf, nrow_fr (hin.rows d hd).2.1 (hin.rows d hd).2.2.2 hf, held_fr (hin.rows d hd).2.2.1 hf, held_fr (hin.rows d hd).2.2.2 hf⟩⟩
end

def failE (e e1 : Int) : Int := if e = 0 then e1 else e
set_option maxHeartbeats 1000000 in
set_option maxRecDepth 100000 in
theorem fail_any (w : World) (B pb mb sb : Nat) (L : List Ab) (ov : Value) (e : Int) (sn : Nat) (DS : DataW Unit) (hP : Pool av w B pb mb sb L ov e sn DS) (e1 : Int) :
    Calls Tryz.prog 45 #[.pointer (some ⟨pb, 0, none⟩), .int .i64 e1] w fun e' w' => e' = .returned (.int .i64 0) ∧ Pool av w' B pb mb sb L ov (failE e e1) sn DS ∧ Fr B mb sb w w' := by
  obtain ⟨v0, v2, hb⟩ := pool_pb hP
  have c5 := cell_block hb 5 _ rfl
  have f5 := frozen_block hb 5
  have Hs := hide (pool_set hP e1)
  have HP := hide hP
  clear hP hb
  by_cases h0 : e = 0
  · subst h0
    have hE : failE 0 e1 = e1 := rfl
    rw [hE]
    go_enter Tryz.func45, Tryz.ntmps45
    go_wp2
    go_ret
    exact ⟨rfl, unhide Hs⟩
  · have hE : failE e e1 = e := by simp [failE, h0]
    rw [hE]
    have hb0 : (e == 0) = false := by simpa using h0
    go_enter Tryz.func45, Tryz.ntmps45
    go_wp2
    go_ret
    exact ⟨rfl, unhide HP, fr_refl _ _ _ _⟩
def heldX (L : List Ab) (x : Nat) : Nat := if 4096 < (L.getD x ab0).parts then 0 else if 64 < (L.getD x ab0).levels then 0 else x
def heldE (L : List Ab) (e : Int) (x : Nat) : Int := if 4096 < (L.getD x ab0).parts then failE e 41 else if 64 < (L.getD x ab0).levels then failE e 42 else e
set_option maxHeartbeats 1000000 in
set_option maxRecDepth 100000 in
theorem held_any (w : World) (B pb mb sb : Nat) (L : List Ab) (ov : Value) (e : Int) (sn : Nat) (DS : DataW Unit) (hP : Pool av w B pb mb sb L ov e sn DS) (x : Nat) (hx : x < L.length) :
    Calls Tryz.prog 27 #[.pointer (some ⟨pb, 0, none⟩), .int .i64 x] w fun e' w' => e' = .returned (.int .i64 (heldX L x)) ∧ Pool av w' B pb mb sb L ov (heldE L e x) sn DS ∧ Fr B mb sb w w' := by
  obtain ⟨g, nc, p0, hn⟩ := pool_node hP
  obtain ⟨d, hd, hN⟩ := hn x hx
  have r3 := hN.c3
  have r4 := hN.c4
  have hxi : (x : Int) < L.length := by omega
  have HF := hide (fun e1 => fail_any w B pb mb sb L ov e sn DS hP e1)
  have HP := hide hP
  clear hP hn hN
  by_cases h3 : 4096 < d.parts
  · have HX : Hid (heldX L x = 0) := hide (by simp only [heldX, ← hd, Nd.ab]; rw [if_pos h3])
    have HE : Hid (heldE L e x = failE e 41) := hide (by simp only [heldE, ← hd, Nd.ab]; rw [if_pos h3])
    clear hd
    go_enter Tryz.func27, Tryz.ntmps27
    go_wp2_with fail
    refine (unhide HF 41).mono ?_
    rintro e2 w2 ⟨rfl, hp2, hf2⟩
    have Hp2 := hide hp2; have Hf2 := hide hf2
    clear hp2 hf2
    go_wp2
    go_ret
    exact ⟨by rw [unhide HX]; rfl, by rw [unhide HE]; exact unhide Hp2, unhide Hf2⟩
  · by_cases h4 : 64 < d.levels
    · have HX : Hid (heldX L x = 0) := hide (by simp only [heldX, ← hd, Nd.ab]; rw [if_neg h3, if_pos h4])
      have HE : Hid (heldE L e x = failE e 42) := hide (by simp only [heldE, ← hd, Nd.ab]; rw [if_neg h3, if_pos h4])
      clear hd
      go_enter Tryz.func27, Tryz.ntmps27
      go_wp2_with fail
      refine (unhide HF 42).mono ?_
      rintro e2 w2 ⟨rfl, hp2, hf2⟩
      have Hp2 := hide hp2; have Hf2 := hide hf2
      clear hp2 hf2
      go_wp2
      go_ret
      exact ⟨by rw [unhide HX]; rfl, by rw [unhide HE]; exact unhide Hp2, unhide Hf2⟩
    · have HX : Hid (heldX L x = x) := hide (by simp only [heldX, ← hd, Nd.ab]; rw [if_neg h3, if_neg h4])
      have HE : Hid (heldE L e x = e) := hide (by simp only [heldE, ← hd, Nd.ab]; rw [if_neg h3, if_neg h4])
      clear hd
      go_enter Tryz.func27, Tryz.ntmps27
      go_wp2
      go_ret
      exact ⟨by rw [unhide HX]; rfl, by rw [unhide HE]; exact unhide HP, fr_refl _ _ _ _⟩
def firstX (L : List Ab) (x : Int) : Int × Int := if (L.getD x.toNat ab0).kind = 3 then ((L.getD x.toNat ab0).kids.getD 0 0, (L.getD x.toNat ab0).kids.getD 1 0) else (x, 1)
set_option maxHeartbeats 1000000 in
set_option maxRecDepth 100000 in
theorem first_any (w : World) (B pb mb sb : Nat) (L : List Ab) (ov : Value) (e : Int) (sn : Nat) (DS : DataW Unit) (hP : Pool av w B pb mb sb L ov e sn DS) (x : Nat) (hx : x < L.length) :
    Calls Tryz.prog 67 #[.pointer (some ⟨pb, 0, none⟩), .int .i64 x] w fun e' w' => e' = .returned (.tuple #[.int .i64 (firstX L x).1, .int .i64 (firstX L x).2]) ∧ Below w.heap.size w w' := by
  obtain ⟨g, nc, p0, hn⟩ := pool_node hP
  obtain ⟨d, hd, hN⟩ := hn x hx
  have hm : L.getD x ab0 ∈ L := by rw [List.getD_eq_getElem?_getD, List.getElem?_eq_getElem hx]; exact List.getElem_mem _
  have hfo := (hP.wf.form _ hm).1
  rw [← hd] at hfo
  have r0 := hN.c0
  have r2 := hN.c2
  have hkr := hN.kr
  have hxi : (x : Int) < L.length := by omega
  clear hP hn hN hm
  by_cases h3 : d.kind = 3
  · have HX : Hid (firstX L x = (d.kids.getD 0 0, d.kids.getD 1 0)) := hide (by unfold firstX; rw [Int.toNat_natCast, ← hd]; exact if_pos h3)
    have hl2 : d.kids.length = 2 := hfo h3
    rcases hkr with h | ⟨gk, off, hka, hgl, hc⟩
    · rw [h] at hl2; simp at hl2
    have c0 := hc 0 (by omega)
    have c1 := hc 1 (by omega)
    rw [h3] at r0
    rw [hka, hl2] at r2
    rw [Nat.add_zero] at c0
    clear hd hc hka hfo hl2
    go_enter Tryz.func67, Tryz.ntmps67
    go_wp2
    go_region
    all_goals
      go_wp2
      go_ret2
      exact ⟨by rw [unhide HX]; rfl, (Below.refl _ _).drew⟩
  · have HX : Hid (firstX L x = ((x : Int), 1)) := hide (by unfold firstX; rw [Int.toNat_natCast, ← hd]; exact if_neg h3)
    have h3b : (d.kind == 3) = false := by simpa using h3
    clear hd hkr hfo
    go_enter Tryz.func67, Tryz.ntmps67
    go_wp2
    go_ret2
    exact ⟨by rw [unhide HX]; rfl, Below.refl _ _⟩
theorem rrow_nil (w : World) (a : Option Addr) : RRow w a [] := .inl rfl
theorem nrow_nil (w : World) (a : Option Addr) : NRow w a [] := .inl rfl
theorem held_none (B mb sb : Nat) (w : World) : Held av B mb sb w none := fun x h => by cases h
def setX (L : List Ab) (set : List Rg) : Nat := if set = [] then 0 else putX L 2 set []
def setL (L : List Ab) (set : List Rg) : List Ab := if set = [] then L else putL L 2 set []
set_option maxHeartbeats 1000000 in
set_option maxRecDepth 100000 in
theorem set_any (w : World) (B pb mb sb : Nat) (L : List Ab) (ov : Value) (e : Int) (sn : Nat) (DS : DataW Unit) (hP : Pool av w B pb mb sb L ov e sn DS) (hBw : B ≤ w.heap.size) (sa : Option Addr) (sc : Nat) (set : List Rg)
    (hs : set.length ≤ 4096) (hsr : RRow w sa set) (hsh : Held av B mb sb w sa) (hL : L.length < 1500000000000) :
    Calls Tryz.prog 13 #[.pointer (some ⟨pb, 0, none⟩), .slice sa set.length sc] w fun e' w' => e' = .returned (.int .i64 (setX L set)) ∧ Pool av w' B pb mb sb (setL L set) ov e sn DS ∧ Fr B mb sb w w' := by
  have HPut := hide (put_any w B pb mb sb L ov e sn DS hP hBw 2 sa none sc 0 set [] hs (by simp) hsr (nrow_nil _ _) hsh (held_none _ _ _ _) (by simp) (by simp) (by simp) hL)
  have HP := hide hP
  clear hP hsr hsh
  by_cases h0 : set = []
  · subst h0
    go_enter Tryz.func13, Tryz.ntmps13
    go_wp2
    go_ret
    exact ⟨by simp [setX], by simpa [setL] using unhide HP, fr_refl _ _ _ _⟩
  · have hX : setX L set = putX L 2 set [] := by simp [setX, h0]
    have hLL : setL L set = putL L 2 set [] := by simp [setL, h0]
    rw [hX, hLL]
    have hlen : 0 < set.length := List.length_pos_iff.2 h0
    have hb : ((set.length : Int) == 0) = false := by simp; omega
    clear hX hLL h0
    go_enter Tryz.func13, Tryz.ntmps13
    go_wp2_with fail
    refine (unhide HPut).mono ?_
    rintro e2 w2 ⟨rfl, hp2, hf2⟩
    have Hp2 := hide hp2; have Hf2 := hide hf2
    clear hp2 hf2
    go_wp2
    go_ret
    exact ⟨rfl, unhide Hp2, unhide Hf2⟩
/-- A row of numbers that is new. -/
theorem held_new (B mb sb : Nat) {w : World} {k : Nat} {cs : Array Value} {f : Nat × Nat} (h : w.heap[k]? = some (.cells cs 3 f)) (hn : ¬ av k) (o : Nat) : Held av B mb sb w (some ⟨k, o, none⟩) := fun x hx => by
  cases hx
  exact ⟨lt_of_some h, .inr ⟨cs, 3, f, h, .inl rfl⟩, hn⟩
theorem nrow_one {w : World} {k : Nat} {x : Int} (h : w.heap[k]? = some (.cells #[.int .i64 x] 3 (0, 0))) : NRow w (some ⟨k, 0, none⟩) [x] := .inr ⟨k, 0, rfl, lt_of_some h, fun j hj => by
  obtain rfl : j = 0 := by simp at hj; omega
  exact cell_block h 0 _ rfl⟩
theorem nrow_two {w : World} {k : Nat} {x y : Int} (h : w.heap[k]? = some (.cells #[.int .i64 x, .int .i64 y] 3 (0, 0))) : NRow w (some ⟨k, 0, none⟩) [x, y] := .inr ⟨k, 0, rfl, lt_of_some h, fun j hj => by
  rcases j with _ | _ | j
  · exact cell_block h 0 _ rfl
  · exact cell_block h 1 _ rfl
  · simp at hj; omega⟩
def notX (L : List Ab) (x : Nat) : Int := if (L.getD x ab0).kind = 6 then (L.getD x ab0).kids.getD 0 0 else putX L 6 [] [x]
def notL (L : List Ab) (x : Nat) : List Ab := if (L.getD x ab0).kind = 6 then L else putL L 6 [] [x]
set_option maxHeartbeats 1000000 in
set_option maxRecDepth 100000 in
theorem not_any (w : World) (B pb mb sb : Nat) (L : List Ab) (ov : Value) (e : Int) (sn : Nat) (DS : DataW Unit) (hP : Pool av w B pb mb sb L ov e sn DS) (hBw : B ≤ w.heap.size) (x : Nat) (hx : x < L.length) (hL : L.length < 1500000000000) (hav : ∀ k, av k → k < w.heap.size) :
    Calls Tryz.prog 63 #[.pointer (some ⟨pb, 0, none⟩), .int .i64 x] w fun e' w' => e' = .returned (.int .i64 (notX L x)) ∧ Pool av w' B pb mb sb (notL L x) ov e sn DS ∧ Fr B mb sb w w' := by
  obtain ⟨g, nc, p0, hn⟩ := pool_node hP
  obtain ⟨d, hd, hN⟩ := hn x hx
  have hm : L.getD x ab0 ∈ L := by rw [List.getD_eq_getElem?_getD, List.getElem?_eq_getElem hx]; exact List.getElem_mem _
  have hfo := (hP.wf.form _ hm).2
  rw [← hd] at hfo
  have r0 := hN.c0
  have r2 := hN.c2
  have hkr := hN.kr
  have hxi : (x : Int) < L.length := by omega
  by_cases h6 : d.kind = 6
  · have hX : notX L x = d.kids.getD 0 0 := by unfold notX; rw [← hd]; exact if_pos h6
    have hLL : notL L x = L := by unfold notL; rw [← hd]; exact if_pos h6
    have hl1 : d.kids.length = 1 := hfo (.inl h6)
    rcases hkr with h | ⟨gk, off, hka, hgl, hc⟩
    · rw [h] at hl1; simp at hl1
    have c0 := hc 0 (by omega)
    rw [h6] at r0
    rw [hka, hl1] at r2
    rw [Nat.add_zero] at c0
    have HP := hide hP; have HX := hide hX; have HLL := hide hLL
    clear hd hc hka hfo hl1 hP hn hN hm hX hLL
    go_enter Tryz.func63, Tryz.ntmps63
    go_wp2
    go_ret
    exact ⟨by rw [unhide HX]; rfl, by rw [unhide HLL]; exact unhide HP, fr_refl _ _ _ _⟩
  · have hX : notX L x = putX L 6 [] [(x : Int)] := by unfold notX; rw [← hd]; exact if_neg h6
    have hLL : notL L x = putL L 6 [] [(x : Int)] := by unfold notL; rw [← hd]; exact if_neg h6
    have h6b : (d.kind == 6) = false := by simpa using h6
    have hb0 : Below w.heap.size w (w.alloc (.cells #[.int .i64 x] 3)) := (Below.refl _ _).alloc (Nat.le_refl _) _
    have hbx : (w.alloc (.cells #[.int .i64 x] 3)).heap[w.heap.size]? = some (.cells #[.int .i64 x] 3 (0, 0)) := (MapKept.heap_alloc w _).1
    have HPut := hide (put_any _ B pb mb sb L ov e sn DS (pool_below hP hb0) (Nat.le_trans hBw hb0.size) 6 none (some ⟨w.heap.size, 0, none⟩) 0 1 [] [(x : Int)] (by simp) (by simp) (rrow_nil _ _) (nrow_one hbx) (held_none _ _ _ _) (held_new _ _ _ hbx (fun ha => Nat.lt_irrefl _ (hav _ ha)) 0) (fun j hj => by
      obtain rfl : j = 0 := by simp at hj; omega
      simp; omega) (by simp) (by simp) hL)
    have HP := hide hP; have HX := hide hX; have HLL := hide hLL; have Hb0 := hide hb0
    clear hd hfo hP hn hN hm hX hLL hkr hbx hb0 h6
    go_enter Tryz.func63, Tryz.ntmps63
    go_wp2_with fail
    refine (unhide HPut).mono ?_
    rintro e2 w2 ⟨rfl, hp2, hf2⟩
    have Hp2 := hide hp2; have Hf2 := hide hf2
    clear hp2 hf2
    go_wp2
    go_ret
    exact ⟨by rw [unhide HX]; rfl, by rw [unhide HLL]; exact unhide Hp2, fr_t (fr_below (unhide Hb0)) (unhide Hf2)⟩
def starX (L : List Ab) (x : Nat) : Nat := if x = 0 ∨ x = 1 then 1 else if (L.getD x ab0).kind = 7 then x else putX L 7 [] [x]
def starL (L : List Ab) (x : Nat) : List Ab := if x = 0 ∨ x = 1 then L else if (L.getD x ab0).kind = 7 then L else putL L 7 [] [x]
set_option maxHeartbeats 1000000 in
set_option maxRecDepth 100000 in
theorem star_any (w : World) (B pb mb sb : Nat) (L : List Ab) (ov : Value) (e : Int) (sn : Nat) (DS : DataW Unit) (hP : Pool av w B pb mb sb L ov e sn DS) (hBw : B ≤ w.heap.size) (x : Nat) (hx : x < L.length) (hL : L.length < 1500000000000) (hav : ∀ k, av k → k < w.heap.size) :
    Calls Tryz.prog 89 #[.pointer (some ⟨pb, 0, none⟩), .int .i64 x] w fun e' w' => e' = .returned (.int .i64 (starX L x)) ∧ Pool av w' B pb mb sb (starL L x) ov e sn DS ∧ Fr B mb sb w w' := by
  obtain ⟨g, nc, p0, hn⟩ := pool_node hP
  obtain ⟨d, hd, hN⟩ := hn x hx
  have r0 := hN.c0
  have hxi : (x : Int) < L.length := by omega
  by_cases h0 : x = 0
  · subst h0
    have HP := hide hP
    clear hd hP hn hN
    go_enter Tryz.func89, Tryz.ntmps89
    go_wp2
    go_ret
    exact ⟨rfl, unhide HP, fr_refl _ _ _ _⟩
  by_cases h1 : x = 1
  · subst h1
    have HP := hide hP
    clear hd hP hn hN
    go_enter Tryz.func89, Tryz.ntmps89
    go_wp2
    go_ret
    exact ⟨rfl, unhide HP, fr_refl _ _ _ _⟩
  have h01 : ¬ (x = 0 ∨ x = 1) := by omega
  have b0 : ((x : Int) == 0) = false := by simp; omega
  have b1 : ((x : Int) == 1) = false := by simp; omega
  by_cases h7 : d.kind = 7
  · have hX : starX L x = x := by unfold starX; rw [if_neg h01, ← hd]; exact if_pos h7
    have hLL : starL L x = L := by unfold starL; rw [if_neg h01, ← hd]; exact if_pos h7
    rw [h7] at r0
    have HP := hide hP; have HX := hide hX; have HLL := hide hLL
    clear hd hP hn hN hX hLL h0 h1 h01
    go_enter Tryz.func89, Tryz.ntmps89
    go_wp2
    go_ret
    exact ⟨by rw [unhide HX]; rfl, by rw [unhide HLL]; exact unhide HP, fr_refl _ _ _ _⟩
  · have hX : starX L x = putX L 7 [] [(x : Int)] := by unfold starX; rw [if_neg h01, ← hd]; exact if_neg h7
    have hLL : starL L x = putL L 7 [] [(x : Int)] := by unfold starL; rw [if_neg h01, ← hd]; exact if_neg h7
    have h7b : (d.kind == 7) = false := by simpa using h7
    have hb0 : Below w.heap.size w (w.alloc (.cells #[.int .i64 x] 3)) := (Below.refl _ _).alloc (Nat.le_refl _) _
    have hbx : (w.alloc (.cells #[.int .i64 x] 3)).heap[w.heap.size]? = some (.cells #[.int .i64 x] 3 (0, 0)) := (MapKept.heap_alloc w _).1
    have HPut := hide (put_any _ B pb mb sb L ov e sn DS (pool_below hP hb0) (Nat.le_trans hBw hb0.size) 7 none (some ⟨w.heap.size, 0, none⟩) 0 1 [] [(x : Int)] (by simp) (by simp) (rrow_nil _ _) (nrow_one hbx) (held_none _ _ _ _) (held_new _ _ _ hbx (fun ha => Nat.lt_irrefl _ (hav _ ha)) 0) (fun j hj => by
      obtain rfl : j = 0 := by simp at hj; omega
      simp; omega) (by simp) (by simp) hL)
    have HP := hide hP; have HX := hide hX; have HLL := hide hLL; have Hb0 := hide hb0
    clear hd hP hn hN hX hLL hbx hb0 h7 h0 h1 h01
    go_enter Tryz.func89, Tryz.ntmps89
    go_wp2_with fail
    refine (unhide HPut).mono ?_
    rintro e2 w2 ⟨rfl, hp2, hf2⟩
    have Hp2 := hide hp2; have Hf2 := hide hf2
    clear hp2 hf2
    go_wp2
    go_ret
    exact ⟨by rw [unhide HX]; rfl, by rw [unhide HLL]; exact unhide Hp2, fr_t (fr_below (unhide Hb0)) (unhide Hf2)⟩
end Go.Proofs.YtkimhfajfbcdmaaGreatDoor

/- Pools: Contains; row, kids. -/
namespace Go.Proofs.YtkimhfajfbcdmaaGreatDoor
open Go.RowKit Go.Maps

variable {av : Nat → Prop}

set_option maxHeartbeats 1000000 in
set_option maxRecDepth 100000 in
theorem indexI_any (a : Option Addr) (c : Nat) (ks : List Int) (hks : ks.length ≤ 1073741824) (v : Int) (w : World) (hkr : NRow w a ks) :
    Calls Tryz.prog 72 #[.slice a ks.length c, .int .i64 v] w fun e w' => (∃ r : Int, e = .returned (.int .i64 r) ∧ (0 ≤ r ↔ v ∈ ks)) ∧ w' = w := by
  have Hkr := hide hkr
  clear hkr
  go_enter Tryz.func72, Tryz.ntmps72
  go_wp2
  go_loop [8] (fun x => ∃ k : Nat, x = .int .i64 k ∧ k ≤ ks.length ∧ v ∉ ks.take k) (fun x => ks.length - (intOf x).toNat)
  case atStart => exact ⟨0, rfl, Nat.zero_le _, by simp⟩
  case round =>
    obtain ⟨k, rfl, hk, hno⟩ := hrel
    by_cases hlt : k < ks.length
    · have hlt' : (k : Int) < ks.length := by omega
      rcases unhide Hkr with h | ⟨gk, off, rfl, hgl, hc⟩
      · rw [h] at hlt; simp at hlt
      have c0 := hc k hlt
      have hy : ks.getD k 0 ∈ ks := by rw [List.getD_eq_getElem?_getD, List.getElem?_eq_getElem hlt]; exact List.getElem_mem _
      have HT : Hid (ks.take (k + 1) = ks.take k ++ [ks.getD k 0]) := hide (by rw [List.take_add_one, List.getElem?_eq_getElem hlt, List.getD_eq_getElem?_getD, List.getElem?_eq_getElem hlt]; rfl)
      clear hc
      generalize ks.getD k 0 = y at *
      by_cases hv : v = y
      · have hb : (v == y) = true := by simpa using hv
        have Hm : Hid (v ∈ ks) := hide (hv ▸ hy)
        clear hv hno hy HT
        go_wp2
        go_ret
        exact ⟨⟨_, rfl, by simp [unhide Hm]⟩, rfl⟩
      · have hb : (v == y) = false := by simpa using hv
        have Hn2 : Hid (v ∉ ks.take (k + 1)) := hide (by rw [unhide HT]; simp [hno, hv])
        clear hno hv hy HT
        go_wp2
        go_round
        case rel => exact ⟨k + 1, by go_num, by omega, unhide Hn2⟩
        case measure => simp [intOf]; omega
    · obtain rfl : k = ks.length := by omega
      have hlt' : ¬ ((ks.length : Int) < ks.length) := by omega
      rw [List.take_length] at hno
      have Hno := hide hno
      clear hno
      go_wp2
      go_ret
      exact ⟨⟨_, rfl, by simp [unhide Hno]⟩, rfl⟩
set_option maxHeartbeats 1000000 in
set_option maxRecDepth 100000 in
theorem containsI_any (a : Option Addr) (c : Nat) (ks : List Int) (hks : ks.length ≤ 1073741824) (v : Int) (w : World) (hkr : NRow w a ks) :
    Calls Tryz.prog 50 #[.slice a ks.length c, .int .i64 v] w fun e w' => e = .returned (.bool (decide (v ∈ ks))) ∧ w' = w := by
  have HI := hide (indexI_any a c ks hks v w hkr)
  clear hkr
  go_enter Tryz.func50, Tryz.ntmps50
  go_wp2_with fail
  refine (unhide HI).mono ?_
  rintro e w' ⟨⟨r, rfl, hr⟩, hw⟩
  obtain rfl := hw.symm
  by_cases hm : v ∈ ks
  · have h0 : 0 ≤ r := hr.2 hm
    have Hz : Hid (decide (v ∈ ks) = true) := hide (by simpa using hm)
    clear hr hm
    go_wp2
    go_ret
    exact ⟨by rw [unhide Hz]; rfl, rfl⟩
  · have h0 : ¬ 0 ≤ r := fun h => hm (hr.1 h)
    have h0d : decide (0 ≤ r) = false := decide_eq_false h0
    have Hz : Hid (decide (v ∈ ks) = false) := hide (by simpa using hm)
    clear hr hm h0
    go_wp2
    go_ret
    exact ⟨by rw [unhide Hz]; rfl, rfl⟩

theorem below_le {B B' : Nat} {w w' : World} (h : Below B w w') (hb : B' ≤ B) : Below B' w w' := ⟨h.os, h.tape, h.output, h.size, fun k hk => h.block k (by omega)⟩
/-- The kids of a row, one behind the other. -/
def rowF (L : List Ab) : Nat → Int → List Int
  | 0, _ => []
  | n + 1, x => if x = 1 then [] else (firstX L x).1 :: rowF L n (firstX L x).2
def rowM (x : Int) : Nat := if x = 1 then 0 else x.toNat + 1
def rowA (L : List Ab) (x : Int) : List Int := rowF L (rowM x) x
theorem first_ok {L : List Ab} (hw : WfA L) (h2 : 2 ≤ L.length) {x : Int} (h0 : 0 ≤ x) (hx : x.toNat < L.length) : (0 ≤ (firstX L x).1 ∧ (firstX L x).1.toNat < L.length) ∧ 0 ≤ (firstX L x).2 ∧ (firstX L x).2.toNat < L.length ∧ (x ≠ 1 → rowM (firstX L x).2 < rowM x) := by
  unfold firstX
  have hm : L.getD x.toNat ab0 ∈ L := by rw [List.getD_eq_getElem?_getD, List.getElem?_eq_getElem hx]; exact List.getElem_mem _
  have hg : L[x.toNat]? = some (L.getD x.toNat ab0) := by rw [List.getD_eq_getElem?_getD, List.getElem?_eq_getElem hx]; rfl
  by_cases h3 : (L.getD x.toNat ab0).kind = 3
  · rw [if_pos h3]
    have hl := (hw.form _ hm).1 h3
    have hk := hw.kids _ _ hg
    have k0 := hk ((L.getD x.toNat ab0).kids.getD 0 0) (by rw [List.getD_eq_getElem?_getD (l := (L.getD x.toNat ab0).kids), List.getElem?_eq_getElem (by omega)]; exact List.getElem_mem _)
    have k1 := hk ((L.getD x.toNat ab0).kids.getD 1 0) (by rw [List.getD_eq_getElem?_getD (l := (L.getD x.toNat ab0).kids), List.getElem?_eq_getElem (by omega)]; exact List.getElem_mem _)
    refine ⟨⟨k0.1, by simp only; omega⟩, k1.1, by simp only; omega, fun h1 => ?_⟩
    unfold rowM
    simp only
    rw [if_neg h1]
    split <;> omega
  · rw [if_neg h3]
    refine ⟨⟨h0, hx⟩, Int.zero_le_ofNat 1, by simp; omega, fun h1 => ?_⟩
    unfold rowM
    rw [if_neg h1, if_pos rfl]
    omega
theorem rowF_more {L : List Ab} (hw : WfA L) (h2 : 2 ≤ L.length) : ∀ (n m : Nat) (x : Int), 0 ≤ x → x.toNat < L.length → rowM x ≤ n → rowM x ≤ m → rowF L n x = rowF L m x := by
  intro n
  induction n with
  | zero =>
    intro m x h0 hx hn hm
    have h1 : x = 1 := by
      by_cases h : x = 1
      · exact h
      · unfold rowM at hn; rw [if_neg h] at hn; omega
    subst h1
    cases m <;> simp [rowF]
  | succ n ih =>
    intro m x h0 hx hn hm
    by_cases h1 : x = 1
    · subst h1
      cases m <;> simp [rowF]
    · have hf := first_ok hw h2 h0 hx
      have hlt := hf.2.2.2 h1
      cases m with
      | zero => omega
      | succ m =>
        simp only [rowF]
        rw [if_neg h1, if_neg h1, ih m _ hf.2.1 hf.2.2.1 (by omega) (by omega)]
theorem rowA_step {L : List Ab} (hw : WfA L) (h2 : 2 ≤ L.length) {x : Int} (h0 : 0 ≤ x) (hx : x.toNat < L.length) (h1 : x ≠ 1) : rowA L x = (firstX L x).1 :: rowA L (firstX L x).2 := by
  have hf := first_ok hw h2 h0 hx
  have hlt := hf.2.2.2 h1
  unfold rowA
  obtain ⟨m, hm⟩ : ∃ m, rowM x = m + 1 := ⟨rowM x - 1, by omega⟩
  rw [hm]
  simp only [rowF]
  rw [if_neg h1, rowF_more hw h2 m _ _ hf.2.1 hf.2.2.1 (by omega) (Nat.le_refl _)]
theorem rowA_one (L : List Ab) : rowA L 1 = [] := by unfold rowA rowM; rfl
theorem rowA_len {L : List Ab} (hw : WfA L) (h2 : 2 ≤ L.length) : ∀ (n : Nat) (x : Int), rowM x ≤ n → 0 ≤ x → x.toNat < L.length → (rowA L x).length ≤ rowM x := by
  intro n
  induction n with
  | zero =>
    intro x hn h0 hx
    have h1 : x = 1 := by
      by_cases h : x = 1
      · exact h
      · unfold rowM at hn; rw [if_neg h] at hn; omega
    subst h1
    simp [rowA_one]
  | succ n ih =>
    intro x hn h0 hx
    by_cases h1 : x = 1
    · subst h1; simp [rowA_one]
    · have hf := first_ok hw h2 h0 hx
      have hlt := hf.2.2.2 h1
      rw [rowA_step hw h2 h0 hx h1]
      have := ih _ (by omega) hf.2.1 hf.2.2.1
      simp only [List.length_cons]
      omega
theorem hint : (Tryz.prog.info? 3).map (fun i => (i.zero, i.size, i.bytes)) = some (some (.int .i64 0), 1, 8) := by kernel_rfl
def intV (l : List Int) : List Value := l.map fun m => .int .i64 m
theorem intV_length (l : List Int) : (intV l).length = l.length := List.length_map _
theorem intV_one (l : List Int) : ∀ u ∈ intV l, u.oneCell' = true := by
  intro u hu
  unfold intV at hu
  obtain ⟨m, -, rfl⟩ := List.mem_map.1 hu
  rfl
theorem nrow_own {w : World} {B n : Nat} {a : Option Addr} {c : Nat} {l : List Int} (h : w.ownsRow B 3 1 (.slice a n c) n (intV l)) (hn : n = l.length) : NRow w a l := by
  subst hn
  by_cases h0 : l = []
  · exact .inl h0
  · have hp : 0 < l.length := List.length_pos_iff.2 h0
    obtain ⟨g, c', hv, -, hlt, -⟩ := own_pos h hp
    simp only [Value.slice.injEq] at hv
    refine .inr ⟨g, 0, hv.1, hlt, fun j hj => ?_⟩
    rw [Nat.zero_add, own_cell (g := g) (c := c) h (by rw [hv.1]) j (by rw [intV_length]; omega), List.getD_eq_getElem?_getD, List.getD_eq_getElem?_getD]
    unfold intV
    rw [List.getElem?_map, List.getElem?_eq_getElem hj]
    rfl
theorem held_own {w : World} {B B' mb sb n : Nat} {a : Option Addr} {c : Nat} {xs : List Value} (h : w.ownsRow B 3 1 (.slice a n c) n xs) (hn : ∀ k, B ≤ k → ¬ av k) : Held av B' mb sb w a := by
  rcases h.2 with ⟨h0, -⟩ | ⟨g, cap, cur, hv, hgB, hh, -⟩
  · simp only [Value.slice.injEq] at h0
    rw [h0.1]
    exact held_none _ _ _ _
  · simp only [Value.slice.injEq] at hv
    rw [hv.1]
    exact held_new _ _ _ hh (hn g hgB) 0
set_option maxHeartbeats 2000000 in
set_option maxRecDepth 100000 in
theorem row_any (w : World) (B pb mb sb : Nat) (L : List Ab) (ov : Value) (e : Int) (sn : Nat) (DS : DataW Unit) (hP : Pool av w B pb mb sb L ov e sn DS) (x : Nat) (hx : x < L.length) (h2 : 2 ≤ L.length) (hL : L.length ≤ 1500000000000) :
    Calls Tryz.prog 52 #[.pointer (some ⟨pb, 0, none⟩), .int .i64 x] w fun e' w' => ∃ a c, e' = .returned (.slice a (rowA L x).length c) ∧ w'.ownsRow w.heap.size 3 1 (.slice a (rowA L x).length c) (rowA L x).length (intV (rowA L x)) ∧ Below w.heap.size w w' := by
  obtain ⟨i0, hi, hz0, hz1, hz2⟩ := info_parts hint
  have hwf := hP.wf
  have hlen := rowA_len hwf h2 _ (x : Int) (Nat.le_refl _) (by omega) (by omega)
  have hM : rowM (x : Int) ≤ 1500000000001 := by unfold rowM; split <;> omega
  have HF := hide (fun w' (hb : Below w.heap.size w w') y (hy : y < L.length) => first_any w' B pb mb sb L ov e sn DS (pool_below hP hb) y hy)
  have Hwf := hide hwf
  clear hP hwf
  generalize hR : rowA L (x : Int) = R at *
  have HR := hide hR
  clear hR
  go_enter Tryz.func52, Tryz.ntmps52
  go_wp2
  go_loopw [1, 5] (fun xv lv wr => ∃ (y : Nat) (a : Option Addr) (c : Nat) (dn : List Int), xv = .int .i64 y ∧ lv = .slice a dn.length c ∧ y < L.length ∧ dn ++ rowA L (y : Int) = R ∧ wr.ownsRow w.heap.size 3 1 (.slice a dn.length c) dn.length (intV dn) ∧ Below w.heap.size w wr) (fun xv _ _ => rowM (intOf xv))
  case atStart => exact ⟨x, none, 0, [], rfl, rfl, hx, by rw [List.nil_append]; exact unhide HR, World.ownsRow_nil _ _ _ _, Below.refl _ _⟩
  case round =>
    obtain ⟨y, a, c, dn, rfl, rfl, hy, hdn, hown, hb⟩ := hrel
    by_cases h1 : y = 1
    · subst h1
      have hdn2 : dn = R := by rw [← hdn]; have := rowA_one L; simp [this]
      have Hown := hide hown; have Hb := hide hb
      clear hown hb hdn
      subst hdn2
      go_wp2
      go_ret
      exact ⟨a, c, rfl, unhide Hown, unhide Hb⟩
    · have h1i : ((y : Int) != 1) = true := by simp; omega
      have hf := first_ok (unhide Hwf) h2 (x := (y : Int)) (by omega) (by omega)
      have hst := rowA_step (unhide Hwf) h2 (x := (y : Int)) (by omega) (by omega) (by omega)
      have hmm := hf.2.2.2 (by omega)
      have H1 := hide (unhide HF wr hb y hy)
      rw [hst] at hdn
      have hlr : dn.length + 1 ≤ R.length := by rw [← hdn]; simp
      generalize firstX L (y : Int) = p at *
      obtain ⟨p1, p2⟩ := p
      simp only at hf hmm H1 hdn
      obtain ⟨q, rfl⟩ := Int.eq_ofNat_of_zero_le hf.2.1
      have hql : q < L.length := by have := hf.2.2.1; omega
      have Hown := hide hown; have Hb := hide hb; have Hdn := hide hdn; have Hmm := hide hmm
      clear hown hb hdn hf hst h1 hmm HF
      go_wp2_with fail
      refine (unhide H1).mono ?_
      rintro e2 w2 ⟨rfl, hb2⟩
      have hb3 := (unhide Hb).trans (below_le hb2 (unhide Hb).size)
      have hown2 := own_off (O := fun _ => False) (unhide Hown) (off_below hb2) (fun _ _ h => h)
      have Hown2 := hide hown2; have Hb3 := hide hb3
      clear hb2 hb3 hown2
      go_wp2_with (at_builtin; refine wpList_append_lies _ rfl _ _ 63 rfl w.heap.size 3 i0 (.int .i64 0) 1 8 Tryz.underlying63 hi hz0 hz1 hz2 rfl (by decide) _ dn.length (intV dn) rfl ((unhide Hown2).alloc _) ⟨w2.heap.size, 0, none⟩ 1 1 (intV [p1]) rfl rfl ?zz1 (intV_one _) (by decide) (by unfold maxLen; omega) (by omega) (by have := (unhide Hb3).size; simp; omega) (w2.heap.size + 1) (by simp) ?_)
      case zz1 =>
        have h := World.news_of_block (MapKept.heap_alloc w2 (.cells #[.int .i64 p1] 3)).1
        simpa [intV] using h
      intro g4 cap4 w4 hown4 hg4 hgv4 hgl4
      have hb4 : Below w.heap.size w w4 := ((unhide Hb3).alloc (unhide Hb3).size _).grown hg4 (by have := (unhide Hb3).size; simp; omega) (fun k hk => (row_lt (unhide Hown2) hk).1)
      have Hown4 := hide hown4; have Hb4 := hide hb4
      clear hown4 hg4 hgv4 hgl4 hb4
      go_wp2
      go_roundw
      case rel => exact ⟨q, some ⟨g4, 0, none⟩, cap4, dn ++ [p1], rfl, by simp, hql, by rw [List.append_assoc]; exact unhide Hdn, by simpa [intV] using unhide Hown4, unhide Hb4⟩
      case measure => simpa [intOf] using unhide Hmm
def kidsA (L : List Ab) (x : Nat) : List Int := if (L.getD x ab0).kind = 3 then rowA L x else (L.getD x ab0).kids
set_option maxHeartbeats 2000000 in
set_option maxRecDepth 100000 in
theorem kids_any (w : World) (B pb mb sb : Nat) (L : List Ab) (ov : Value) (e : Int) (sn : Nat) (DS : DataW Unit) (hP : Pool av w B pb mb sb L ov e sn DS) (x : Nat) (hx : x < L.length) (h2 : 2 ≤ L.length) (hL : L.length ≤ 1500000000000) (hav : ∀ k, av k → k < w.heap.size) :
    Calls Tryz.prog 47 #[.pointer (some ⟨pb, 0, none⟩), .int .i64 x] w fun e' w' => ∃ a c, e' = .returned (.slice a (kidsA L x).length c) ∧ NRow w' a (kidsA L x) ∧ Held av B mb sb w' a ∧ Below w.heap.size w w' := by
  obtain ⟨g, nc, p0, hn⟩ := pool_node hP
  obtain ⟨d, hd, hN⟩ := hn x hx
  have r0 := hN.c0
  have r2 := hN.c2
  have hkr := hN.kr
  have hkh := hN.kh
  have hxi : (x : Int) < L.length := by omega
  by_cases h3 : d.kind = 3
  · have hK : kidsA L x = rowA L x := by unfold kidsA; rw [← hd]; exact if_pos h3
    rw [hK]
    have HR := hide (row_any w B pb mb sb L ov e sn DS hP x hx h2 hL)
    rw [h3] at r0
    clear hd hP hn hN hkr hkh hK
    go_enter Tryz.func47, Tryz.ntmps47
    go_wp2_with fail
    refine (unhide HR).mono ?_
    rintro e2 w2 ⟨a, c, rfl, hown, hb⟩
    have Hown := hide hown; have Hb := hide hb
    clear hown hb
    go_wp2
    go_ret
    exact ⟨a, c, rfl, nrow_own (unhide Hown) rfl, held_own (unhide Hown) (fun k hk ha => by have := hav k ha; omega), unhide Hb⟩
  · have hK : kidsA L x = d.kids := by unfold kidsA; rw [← hd]; exact if_neg h3
    rw [hK]
    have h3b : (d.kind == 3) = false := by simpa using h3
    have Hkr := hide hkr; have Hkh := hide hkh
    clear hd hP hn hN hkr hkh hK
    go_enter Tryz.func47, Tryz.ntmps47
    go_wp2
    go_ret
    exact ⟨d.ka, d.kc, rfl, unhide Hkr, unhide Hkh, Below.refl _ _⟩
end Go.Proofs.YtkimhfajfbcdmaaGreatDoor

/- Equal of rows of numbers; isRune. -/
namespace Go.Proofs.YtkimhfajfbcdmaaGreatDoor
open Go.RowKit Go.Maps

theorem eq_take_succ {x y : List Int} {k : Nat} (hx : k < x.length) (hy : k < y.length) : x.take (k + 1) = y.take (k + 1) ↔ x.take k = y.take k ∧ x.getD k 0 = y.getD k 0 := by
  have hX : x.take (k + 1) = x.take k ++ [x.getD k 0] := by rw [List.take_add_one, List.getElem?_eq_getElem hx, List.getD_eq_getElem?_getD, List.getElem?_eq_getElem hx]; rfl
  have hY : y.take (k + 1) = y.take k ++ [y.getD k 0] := by rw [List.take_add_one, List.getElem?_eq_getElem hy, List.getD_eq_getElem?_getD, List.getElem?_eq_getElem hy]; rfl
  rw [hX, hY]
  constructor
  · intro h
    have := List.append_inj h (by simp; omega)
    exact ⟨this.1, by simpa using this.2⟩
  · rintro ⟨h1, h2⟩
    rw [h1, h2]
set_option maxHeartbeats 1000000 in
set_option maxRecDepth 100000 in
theorem equalI_any (a b : Option Addr) (c d : Nat) (x y : List Int) (hx : x.length ≤ 281474976710656) (hy : y.length ≤ 281474976710656) (w : World) (hxr : NRow w a x) (hyr : NRow w b y) :
    Calls Tryz.prog 79 #[.slice a x.length c, .slice b y.length d] w fun e w' => e = .returned (.bool (decide (x = y))) ∧ Below w.heap.size w w' := by
  by_cases hl : x.length = y.length
  · have hlb : ((x.length : Int) != y.length) = false := by simp [hl]
    have Hxr := hide hxr; have Hyr := hide hyr
    clear hxr hyr
    go_enter Tryz.func79, Tryz.ntmps79
    go_wp2
    go_loopw [13] (fun iv wr => ∃ i : Nat, iv = .int .i64 i ∧ i ≤ x.length ∧ x.take i = y.take i ∧ Below w.heap.size w wr) (fun iv _ => x.length - (intOf iv).toNat)
    case atStart => exact ⟨0, rfl, Nat.zero_le _, by simp, Below.refl _ _⟩
    case round =>
      obtain ⟨i, rfl, hi, hft, hb⟩ := hrel
      by_cases hlt : i < x.length
      · have hlt' : (i : Int) < x.length := by omega
        have hlt2 : (i : Int) < y.length := by omega
        rcases unhide Hxr with h | ⟨g, off, rfl, hgl, hc⟩
        · rw [h] at hlt; simp at hlt
        rcases unhide Hyr with h | ⟨g2, off2, rfl, hgl2, hc2⟩
        · rw [h, List.length_nil] at hl; omega
        have c0 := (World.cell?_of_block (a := ⟨g, off + i, none⟩) (hb.block g hgl)).trans (hc i hlt)
        have c1 := (World.cell?_of_block (a := ⟨g2, off2 + i, none⟩) (hb.block g2 hgl2)).trans (hc2 i (by omega))
        have hst := eq_take_succ (x := x) (y := y) (k := i) hlt (by omega)
        have Hb := hide hb
        clear hc hc2 hb
        by_cases he : x.getD i 0 = y.getD i 0
        · have Hft := hide (hst.2 ⟨hft, he⟩)
          have heb : (x.getD i 0 != y.getD i 0) = false := by simpa using he
          clear hst hft he
          generalize x.getD i 0 = p at *
          generalize y.getD i 0 = q at *
          go_wp2_with fail
          go_region
          all_goals
            go_wp2
            go_roundw
            case rel => exact ⟨i + 1, by go_num, by omega, unhide Hft, (unhide Hb).drew⟩
            case measure => simp [intOf]; omega
        · have heb : (x.getD i 0 != y.getD i 0) = true := by simpa using he
          have Hne : Hid (decide (x = y) = false) := hide (by rw [decide_eq_false_iff_not]; rintro rfl; exact he rfl)
          clear hst hft he
          generalize x.getD i 0 = p at *
          generalize y.getD i 0 = q at *
          go_wp2_with fail
          go_region
          all_goals
            go_wp2
            go_ret
            exact ⟨by rw [unhide Hne]; rfl, (unhide Hb).drew⟩
      · obtain rfl : i = x.length := by omega
        have hlt' : ¬ ((x.length : Int) < x.length) := by omega
        have Hne : Hid (decide (x = y) = true) := hide (by rw [decide_eq_true_eq]; rw [List.take_length] at hft; rw [hl, List.take_length] at hft; exact hft)
        have Hb := hide hb
        clear hft hb
        go_wp2
        go_ret
        exact ⟨by rw [unhide Hne]; rfl, unhide Hb⟩
  · have hlb : ((x.length : Int) != y.length) = true := by simp; omega
    have Hne : Hid (decide (x = y) = false) := hide (by rw [decide_eq_false_iff_not]; rintro rfl; exact hl rfl)
    clear hxr hyr hl
    go_enter Tryz.func79, Tryz.ntmps79
    go_wp2
    go_ret
    exact ⟨by rw [unhide Hne]; rfl, Below.refl _ _⟩
set_option maxRecDepth 100000 in
theorem isRune_any (c : Int) (w : World) : Calls Tryz.prog 17 #[.int .i32 c] w fun e w' => e = .returned (.bool (decide (0 ≤ c) && decide (c ≤ 1114111))) ∧ w' = w := by
  by_cases h0 : 0 ≤ c
  · have h0d : decide (0 ≤ c) = true := decide_eq_true h0
    rw [h0d, Bool.true_and]
    go_enter Tryz.func17, Tryz.ntmps17
    go_wp2
    go_ret
    exact ⟨rfl, rfl⟩
  · have h0d : decide (0 ≤ c) = false := decide_eq_false h0
    rw [h0d, Bool.false_and]
    go_enter Tryz.func17, Tryz.ntmps17
    go_wp2
    go_ret
    exact ⟨rfl, rfl⟩
end Go.Proofs.YtkimhfajfbcdmaaGreatDoor

/- Pools: madeOf. -/
namespace Go.Proofs.YtkimhfajfbcdmaaGreatDoor
open Go.RowKit Go.Maps

set_option maxRecDepth 100000 in
theorem madeOf_0 (pb : Nat) (sa ka : Option Addr) (sn sc kn kc : Nat) (w : World) :
    Calls Tryz.prog 78 #[.pointer (some ⟨pb, 0, none⟩), .int .i64 0, .slice sa sn sc, .slice ka kn kc] w fun e w' => e = .returned (.int .i64 0) ∧ w' = w := by
  go_enter Tryz.func78, Tryz.ntmps78
  go_wp2
  go_ret
  exact ⟨rfl, rfl⟩

set_option maxRecDepth 100000 in
theorem madeOf_1 (pb : Nat) (sa ka : Option Addr) (sn sc kn kc : Nat) (w : World) :
    Calls Tryz.prog 78 #[.pointer (some ⟨pb, 0, none⟩), .int .i64 1, .slice sa sn sc, .slice ka kn kc] w fun e w' => e = .returned (.int .i64 1) ∧ w' = w := by
  go_enter Tryz.func78, Tryz.ntmps78
  go_wp2
  go_ret
  exact ⟨rfl, rfl⟩

set_option maxRecDepth 100000 in
theorem madeOf_2 (pb : Nat) (sa ka : Option Addr) (sn sc kn kc : Nat) (w : World) (post : Int → World → Prop) (h : Calls Tryz.prog 13 #[.pointer (some ⟨pb, 0, none⟩), .slice sa sn sc] w fun e w' => ∃ x, e = .returned (.int .i64 x) ∧ post x w') :
    Calls Tryz.prog 78 #[.pointer (some ⟨pb, 0, none⟩), .int .i64 2, .slice sa sn sc, .slice ka kn kc] w fun e w' => ∃ x, e = .returned (.int .i64 x) ∧ post x w' := by
  have H := hide h
  clear h
  go_enter Tryz.func78, Tryz.ntmps78
  go_wp2_with fail
  refine (unhide H).mono ?_
  rintro e1 w1 ⟨x, rfl, hp⟩
  have Hp := hide hp
  clear hp
  go_wp2
  go_ret
  exact ⟨x, rfl, unhide Hp⟩

set_option maxRecDepth 100000 in
theorem madeOf_3 (pb : Nat) (sa ka : Option Addr) (sn sc kn kc : Nat) (w : World) (post : Int → World → Prop) (h : Calls Tryz.prog 31 #[.pointer (some ⟨pb, 0, none⟩), .slice ka kn kc] w fun e w' => ∃ x, e = .returned (.int .i64 x) ∧ post x w') :
    Calls Tryz.prog 78 #[.pointer (some ⟨pb, 0, none⟩), .int .i64 3, .slice sa sn sc, .slice ka kn kc] w fun e w' => ∃ x, e = .returned (.int .i64 x) ∧ post x w' := by
  have H := hide h
  clear h
  go_enter Tryz.func78, Tryz.ntmps78
  go_wp2_with fail
  refine (unhide H).mono ?_
  rintro e1 w1 ⟨x, rfl, hp⟩
  have Hp := hide hp
  clear hp
  go_wp2
  go_ret
  exact ⟨x, rfl, unhide Hp⟩

set_option maxRecDepth 100000 in
theorem madeOf_4 (pb : Nat) (sa ka : Option Addr) (sn sc kn kc : Nat) (w : World) (post : Int → World → Prop) (h : Calls Tryz.prog 60 #[.pointer (some ⟨pb, 0, none⟩), .slice ka kn kc] w fun e w' => ∃ x, e = .returned (.int .i64 x) ∧ post x w') :
    Calls Tryz.prog 78 #[.pointer (some ⟨pb, 0, none⟩), .int .i64 4, .slice sa sn sc, .slice ka kn kc] w fun e w' => ∃ x, e = .returned (.int .i64 x) ∧ post x w' := by
  have H := hide h
  clear h
  go_enter Tryz.func78, Tryz.ntmps78
  go_wp2_with fail
  refine (unhide H).mono ?_
  rintro e1 w1 ⟨x, rfl, hp⟩
  have Hp := hide hp
  clear hp
  go_wp2
  go_ret
  exact ⟨x, rfl, unhide Hp⟩

set_option maxRecDepth 100000 in
theorem madeOf_5 (pb : Nat) (sa ka : Option Addr) (sn sc kn kc : Nat) (w : World) (post : Int → World → Prop) (h : Calls Tryz.prog 62 #[.pointer (some ⟨pb, 0, none⟩), .slice ka kn kc] w fun e w' => ∃ x, e = .returned (.int .i64 x) ∧ post x w') :
    Calls Tryz.prog 78 #[.pointer (some ⟨pb, 0, none⟩), .int .i64 5, .slice sa sn sc, .slice ka kn kc] w fun e w' => ∃ x, e = .returned (.int .i64 x) ∧ post x w' := by
  have H := hide h
  clear h
  go_enter Tryz.func78, Tryz.ntmps78
  go_wp2_with fail
  refine (unhide H).mono ?_
  rintro e1 w1 ⟨x, rfl, hp⟩
  have Hp := hide hp
  clear hp
  go_wp2
  go_ret
  exact ⟨x, rfl, unhide Hp⟩

set_option maxRecDepth 100000 in
theorem madeOf_6 (pb : Nat) (sa : Option Addr) (g off : Nat) (sn sc kn kc : Nat) (hkn : 0 < kn) (y : Int) (w : World) (hc : w.cell? ⟨g, off, none⟩ = some (.int .i64 y)) (post : Int → World → Prop) (h : Calls Tryz.prog 63 #[.pointer (some ⟨pb, 0, none⟩), .int .i64 y] w fun e w' => ∃ x, e = .returned (.int .i64 x) ∧ post x w') :
    Calls Tryz.prog 78 #[.pointer (some ⟨pb, 0, none⟩), .int .i64 6, .slice sa sn sc, .slice (some ⟨g, off, none⟩) kn kc] w fun e w' => ∃ x, e = .returned (.int .i64 x) ∧ post x w' := by
  have H := hide h
  have hki : (0 : Int) < kn := by omega
  clear h
  go_enter Tryz.func78, Tryz.ntmps78
  go_wp2_with fail
  refine (unhide H).mono ?_
  rintro e1 w1 ⟨x, rfl, hp⟩
  have Hp := hide hp
  clear hp
  go_wp2
  go_ret
  exact ⟨x, rfl, unhide Hp⟩

set_option maxRecDepth 100000 in
theorem madeOf_7 (pb : Nat) (sa : Option Addr) (g off : Nat) (sn sc kn kc : Nat) (hkn : 0 < kn) (y : Int) (w : World) (hc : w.cell? ⟨g, off, none⟩ = some (.int .i64 y)) (post : Int → World → Prop) (h : Calls Tryz.prog 89 #[.pointer (some ⟨pb, 0, none⟩), .int .i64 y] w fun e w' => ∃ x, e = .returned (.int .i64 x) ∧ post x w') :
    Calls Tryz.prog 78 #[.pointer (some ⟨pb, 0, none⟩), .int .i64 7, .slice sa sn sc, .slice (some ⟨g, off, none⟩) kn kc] w fun e w' => ∃ x, e = .returned (.int .i64 x) ∧ post x w' := by
  have H := hide h
  have hki : (0 : Int) < kn := by omega
  clear h
  go_enter Tryz.func78, Tryz.ntmps78
  go_wp2_with fail
  refine (unhide H).mono ?_
  rintro e1 w1 ⟨x, rfl, hp⟩
  have Hp := hide hp
  clear hp
  go_wp2
  go_ret
  exact ⟨x, rfl, unhide Hp⟩
end Go.Proofs.YtkimhfajfbcdmaaGreatDoor

/- Going over a row of numbers from its end. (and what it leads to) -/
import Derived.Test.YtkimhfajfbcdmaaGreatDoorGF
import Derived.RangeFuncNested
import Derived.RangeFuncBound
import Derived.RangeFuncCalls
import Derived.RangeFuncLeaves
import Derived.Shelf.Abstract
import Derived.Shelf.RegionOpen
import Derived.OwnWalkIn
import Derived.TacticsInMore
import Derived.LoopNIn
import Derived.LoopIn
/- Going over a row of numbers from its end. -/
namespace Go.Proofs.YtkimhfajfbcdmaaGreatDoor
open Go.RowKit Go.Maps Go.Shelf

attribute [local go_sem] Oper.semAt_some

/-- The cells of some blocks are as they were. -/
def KeepC (C : Nat → Prop) (W W' : World) : Prop := W.heap.size ≤ W'.heap.size ∧ ∀ p v, C p.block → W.cell? p = some v → W'.cell? p = some v
theorem keepC_refl (C : Nat → Prop) (W : World) : KeepC C W W := ⟨Nat.le_refl _, fun _ _ _ h => h⟩
theorem keepC_t {C : Nat → Prop} {X Y Z : World} (h : KeepC C X Y) (k : KeepC C Y Z) : KeepC C X Z := ⟨Nat.le_trans h.1 k.1, fun p v ho hv => k.2 p v ho (h.2 p v ho hv)⟩
/-- The numbers of a row with their places, the last one first. -/
def backL (l : List Int) : List (Int × Int) := ((List.range l.length).map fun (i : Nat) => ((i : Int), l.getD i 0)).reverse
def backTo (l : List Int) (k : Nat) : List (Int × Int) := (backL l).take k
theorem backL_length (l : List Int) : (backL l).length = l.length := by simp [backL]
theorem backTo_succ (l : List Int) (k : Nat) (hk : k < l.length) : backTo l (k + 1) = backTo l k ++ [(((l.length - 1 - k : Nat) : Int), l.getD (l.length - 1 - k) 0)] := by
  unfold backTo
  rw [List.take_add_one, List.getElem?_eq_getElem (by rw [backL_length]; exact hk)]
  unfold backL
  rw [List.getElem_reverse]
  simp
set_option maxRecDepth 100000 in
set_option maxHeartbeats 4000000 in
theorem back_in {α : Type} (val : α → Int × Int) (bl : List α) (F : Fence) (n : Nat) (h73 : F.fn 73) (hro : F.round = none) (hn : 1 ≤ n) (l0 Bs : Nat) (a : Option Addr) (cap : Nat) (C : Nat → Prop) (l : List Int) (hbl : bl.map val = backL l) (hlen : l.length ≤ 1500000000000) (J Jx : List α → World → Prop)
    (hY : ∀ pre x W, J pre W → pre.length < l.length → YieldAt F (n - 1) Tryz.prog l0 #[.int .i64 (val x).1, .int .i64 (val x).2] W fun e W' =>
      (e = .returned (.bool true) ∧ J (pre ++ [x]) W' ∧ KeepC C W W') ∨ (e = .returned (.bool false) ∧ Jx (pre ++ [x]) W'))
    (W : World) (hCB : C Bs) (hBs : W.cell? ⟨Bs, 0, none⟩ = some (.slice a l.length cap))
    (hc : l = [] ∨ ∃ b off, a = some ⟨b, off, none⟩ ∧ C b ∧ ∀ j, j < l.length → W.cell? ⟨b, off + j, none⟩ = some (.int .i64 (l.getD j 0))) (h0 : J [] W) :
    CallsIn F n Tryz.prog 73 #[.func (.yield l0) #[] #[], .pointer (some ⟨Bs, 0, none⟩)] W fun e W' => (∃ v, e = .returned v) ∧
      ((∃ ys, ys = bl ∧ J ys W') ∨ (∃ pre, pre <+: bl ∧ Jx pre W')) := by
  have hbll : bl.length = l.length := by rw [← backL_length l, ← hbl, List.length_map]
  refine callsIn_of_wp Tryz.func73 rfl h73 ?_ hro
  simp only [Tryz.ntmps73, List.size_toArray, List.length_cons, List.length_nil, Nat.reduceAdd, Nat.reduceSub, Array.replicate_succ, Array.replicate_zero, List.push_toArray, List.append_toArray, List.nil_append, List.cons_append]
  gi_wp2
  gi_loopw [3] (fun iv wr => ∃ k : Nat, k ≤ l.length ∧ iv = .int .i64 ((l.length : Int) - 1 - k) ∧ J (bl.take k) wr ∧ KeepC C W wr) (fun iv _ => (intOf iv + 1).toNat)
  case atStart => exact ⟨0, Nat.zero_le _, by simp, by simpa using h0, keepC_refl _ _⟩
  case round =>
    obtain ⟨k, hk, rfl, hJs, hkp⟩ := hrel
    by_cases hlt : k < l.length
    · rcases hc with h | ⟨b, off, rfl, hCb, hcs⟩
      · rw [h] at hlt; simp at hlt
      obtain ⟨m, hm⟩ : ∃ m : Nat, (l.length : Int) - 1 - k = m := ⟨l.length - 1 - k, by omega⟩
      have hml : m < l.length := by omega
      have hmi : (m : Int) < l.length := by omega
      have hm0 : (0 : Int) ≤ m := by omega
      have c0 := hkp.2 _ _ hCB hBs
      have c1 := hkp.2 ⟨b, off + m, none⟩ _ hCb (hcs m hml)
      obtain ⟨x, hx⟩ : ∃ x, bl[k]? = some x := ⟨bl[k]'(by omega), List.getElem?_eq_getElem _⟩
      have hvx : val x = ((m : Int), l.getD m 0) := by
        have h1 : (bl.map val)[k]? = some (val x) := by rw [List.getElem?_map, hx]; rfl
        have h2 := backTo_succ l k hlt
        rw [hbl] at h1
        unfold backTo at h2
        rw [List.take_add_one, h1, show l.length - 1 - k = m by omega] at h2
        simpa using h2
      have HS : Hid (bl.take (k + 1) = bl.take k ++ [x]) := hide (by rw [List.take_add_one, hx]; rfl)
      have hpl : (bl.take k).length < l.length := by rw [List.length_take]; omega
      have HP2 : Hid (bl.take (k + 1) <+: bl) := hide (List.take_prefix _ _)
      rw [hm]
      obtain ⟨fn, tmps, assign, body, hy, hR⟩ := hY (bl.take k) x wr hJs hpl
      rw [hvx] at hy
      simp only at hy hR
      have Hkp := hide hkp
      have Hm := hide hm
      clear hJs hpl hkp hm hvx hx
      generalize l.getD m 0 = y at *
      gi_wp2
      refine hR.mono ?_
      rintro e W3 (⟨rfl, hJ3, hk3⟩ | ⟨rfl, hJx3⟩)
      · gi_wp2
        go_roundw
        case rel => exact ⟨k + 1, by omega, by have := unhide Hm; congr 1; omega, by rw [unhide HS]; exact hJ3, keepC_t (unhide Hkp) hk3⟩
        case measure => simp [intOf]
      · gi_wp2
        refine bodyPost_ret (results_none rfl _ _ _) rfl ?_
        exact ⟨⟨_, rfl⟩, .inr ⟨_, unhide HP2, by rw [unhide HS]; exact hJx3⟩⟩
    · obtain rfl : k = l.length := by omega
      have hneg : ¬ (0 : Int) ≤ (l.length : Int) - 1 - l.length := by omega
      have hJ2 : J bl wr := by
        have : bl.take l.length = bl := by rw [← hbll]; exact List.take_length
        rw [this] at hJs
        exact hJs
      have hv : (l.length : Int) - 1 - l.length = -1 := by omega
      rw [hv]
      have HJ2 := hide hJ2
      clear hJs hkp hneg hJ2 hv
      gi_wp2
      go_end0
      exact ⟨⟨_, rfl⟩, .inl ⟨_, rfl, unhide HJ2⟩⟩
/-- As the laws of ranges have it. -/
theorem back_seq {α : Type} (val : α → Int × Int) (bl : List α) (F : Fence) (n : Nat) (h73 : F.fn 73) (hro : F.round = none) (hn : 1 ≤ n) (Bs : Nat) (a : Option Addr) (cap : Nat) (C : Nat → Prop) (l : List Int) (hbl : bl.map val = backL l) (hlen : l.length ≤ 1500000000000) (w : World) (hBl : Bs < w.heap.size) (hCB : C Bs) (hBs : w.cell? ⟨Bs, 0, none⟩ = some (.slice a l.length cap))
    (hr : NRow w a l) (hCa : ∀ x, a = some x → C x.block) :
    SeqStopsK F n Tryz.prog 73 #[.pointer (some ⟨Bs, 0, none⟩)] (fun x : α => #[Value.int .i64 (val x).1, Value.int .i64 (val x).2]) (KeepC C) (fun ys => ys = bl) (fun pre => pre <+: bl) l.length w := fun l0 J Jx W hW _ _ hY h0 => by
  refine back_in val bl F n h73 hro hn l0 Bs a cap C l hbl hlen J Jx hY W hCB ((hW.cell (p := ⟨Bs, 0, none⟩) hBl).trans hBs) ?_ h0
  rcases hr with h | ⟨b, off, rfl, hlt, hcs⟩
  · exact .inl h
  · exact .inr ⟨b, off, rfl, hCa _ rfl, fun j hj => (hW.cell (p := ⟨b, off + j, none⟩) hlt).trans (hcs j hj)⟩
theorem keepC_b {C : Nat → Prop} {w : World} (W : World) (l : Nat) (o o' : Obj) (_ : w.heap.size ≤ l) (h : W.heap[l]? = some o) (hc : o.isCells = false) (_ : o.isWalk = false) : KeepC C W (W.putObj l o') :=
  ⟨(grownBy_putObj' W l o').size, fun p v _ hv => by
    have hne : p.block ≠ l := fun e => by
      simp only [World.cell?] at hv
      rw [e, h] at hv
      cases o <;> simp [Obj.isCells] at hc hv
    have hb := (grownBy_putObj' W l o').block p.block (World.block_lt_of_cell? W p hv) (fun e => hne (by cases e; rfl))
    simp only [World.cell?] at hv ⊢
    rw [hb]; exact hv⟩
theorem backL_snd (l : List Int) : (backL l).map Prod.snd = l.reverse := by
  unfold backL
  rw [List.map_reverse, List.map_map]
  congr 1
  refine List.ext_getElem? fun i => ?_
  rw [List.getElem?_map]
  by_cases h : i < l.length
  · rw [List.getElem?_range h, List.getElem?_eq_getElem h]
    simp [List.getD_eq_getElem?_getD, List.getElem?_eq_getElem h]
  · rw [List.getElem?_eq_none (by simpa using h), List.getElem?_eq_none (by simpa using h)]
    rfl
set_option maxHeartbeats 1000000 in
set_option maxRecDepth 100000 in
theorem backward_any (a : Option Addr) (n c : Nat) (w : World) :
    Calls Tryz.prog 51 #[.slice a n c] w fun e w' => e = .returned (.func (.func 73) #[] #[.pointer (some ⟨w.heap.size, 0, none⟩)]) ∧ w' = w.alloc (.cells #[.slice a n c] 63) := by
  have hmf : ∀ (fn : Fn) (first cap : Array Value) (w : World), (Instr.makeFunc fn first cap).run Tryz.prog w = .ok (.func fn first cap) w := fun _ _ _ _ => rfl
  go_enter Tryz.func51, Tryz.ntmps51
  go_wp2
  go_ret
  exact ⟨rfl, rfl⟩
end Go.Proofs.YtkimhfajfbcdmaaGreatDoor

/- Pools: one behind the other. -/
namespace Go.Proofs.YtkimhfajfbcdmaaGreatDoor
open Go.RowKit Go.Maps Go.Shelf

variable {av : Nat → Prop}

attribute [local go_sem] Oper.semAt_some

theorem pool_offA {O : Nat → Prop} {w w' : World} {B pb mb sb : Nat} {L : List Ab} {ov : Value} {e : Int} {sn : Nat} {DS : DataW Unit} (h : Pool av w B pb mb sb L ov e sn DS) (ho : Off O w w') (hc : ∀ k cs t f, w.heap[k]? = some (.cells cs t f) → (t = 5 ∨ t = 61 ∨ t = 65) → ¬ O k) (hm : ¬ O mb) (hs : ¬ O sb) (h5 : ∀ k, k < w.heap.size → O k → av k ∨ ¬ Rowy B w k) : Pool av w' B pb mb sb L ov e sn DS := by
  obtain ⟨l, g, nc, kv, kl, D, hl⟩ := h.lies
  have hrow : ∀ (a : Option Addr), Held av B mb sb w a → ∀ x, a = some x → ¬ O x.block := fun a ha x hx hO => by
    rcases h5 _ (ha x hx).1 hO with h | h
    · exact (ha x hx).2.2 h
    · exact h (ha x hx).2.1
  have hheld : ∀ (a : Option Addr), Held av B mb sb w a → Held av B mb sb w' a := fun a ha x hx => ⟨Nat.lt_of_lt_of_le (ha x hx).1 ho.size, rowy_of (ha x hx).2.1 (ho.block _ (ha x hx).1 (hrow a ha x hx)), (ha x hx).2.2⟩
  have hnodes : ∀ k, (Value.slice (some ⟨g, 0, none⟩) L.length nc).ownBlock = some k → ¬ O k := fun k hk => by
    rcases hl.nodes.2 with ⟨h0, _⟩ | ⟨g', cap, cur, hv, -, hh, -⟩
    · cases h0
    · rw [hv] at hk
      simp only [Value.ownBlock, Option.some.injEq] at hk
      subst hk
      exact hc _ _ _ _ hh (by decide)
  have hkey : ∀ k, kv.ownBlock = some k → ¬ O k := fun k hk => by
    rcases hl.key.2 with ⟨rfl, _⟩ | ⟨g', cap, cur, rfl, -, hh, -⟩
    · simp [Value.ownBlock] at hk
    · simp only [Value.ownBlock, Option.some.injEq] at hk
      subst hk
      exact hc _ _ _ _ hh (by decide)
  refine ⟨h.bp, h.bm, h.bs, h.ne, h.wf, map_off h.steps ho hs, l, g, nc, kv, kl, D, hl.ab, (ho.block _ (lt_of_some hl.blk) (hc _ _ _ _ hl.blk (by decide))).trans hl.blk, own_off hl.nodes ho hnodes, own_off hl.key ho hkey, map_off hl.map ho hm, hl.has, fun d hd => ?_⟩
  obtain ⟨h1, h2, h3, h4⟩ := hl.rows d hd
  refine ⟨?_, ?_, hheld _ h3, hheld _ h4⟩
  · rcases h1 with h | ⟨gg, off, he, hlt, hcs⟩
    · exact .inl h
    · have hb := ho.block gg hlt (hrow _ h3 _ he)
      exact .inr ⟨gg, off, he, Nat.lt_of_lt_of_le hlt ho.size, fun j hj => ⟨(World.cell?_of_block (a := ⟨gg, off + j * 2, none⟩) hb).trans (hcs j hj).1, (World.cell?_of_block (a := ⟨gg, off + j * 2 + 1, none⟩) hb).trans (hcs j hj).2⟩⟩
  · rcases h2 with h | ⟨gg, off, he, hlt, hcs⟩
    · exact .inl h
    · have hb := ho.block gg hlt (hrow _ h4 _ he)
      exact .inr ⟨gg, off, he, Nat.lt_of_lt_of_le hlt ho.size, fun j hj => (World.cell?_of_block (a := ⟨gg, off + j, none⟩) hb).trans (hcs j hj)⟩
/-- Under what the machine keeps of loops. -/
theorem pool_grown {w w' : World} {B pb mb sb base : Nat} {L : List Ab} {ov : Value} {e : Int} {sn : Nat} {DS : DataW Unit} {row : Option Nat} (h : Pool av w B pb mb sb L ov e sn DS) (hg : w.grownBy w' row) (hr : ∀ r, row = some r → base ≤ r ∧ ∃ o : Obj, w.heap[r]? = some o ∧ o.isCells = false) (hm : mb < base) (hs : sb < base) (hB : B ≤ base) : Pool av w' B pb mb sb L ov e sn DS := by
  refine pool_offA (O := fun k => row = some k) h (off_grown (off_refl _ w) hg (fun k hk => .inl hk)) ?_ ?_ ?_ ?_
  · intro k cs t f hk _ e
    obtain ⟨-, o, ho, hc⟩ := hr k e
    rw [hk] at ho
    cases ho
    simp [Obj.isCells] at hc
  · intro e; have := (hr _ e).1; omega
  · intro e; have := (hr _ e).1; omega
  · intro k _ e
    right
    rintro (h1 | ⟨cs, t, f, h1, -⟩)
    · have := (hr _ e).1; omega
    · obtain ⟨-, o, ho, hc⟩ := hr k e
      rw [h1] at ho
      cases ho
      simp [Obj.isCells] at hc
theorem fr_grown {w0 w w' : World} {B mb sb base : Nat} {row : Option Nat} (h : Fr B mb sb w0 w) (hg : w.grownBy w' row) (hr : ∀ r, row = some r → base ≤ r) (hb : w0.heap.size ≤ base) : Fr B mb sb w0 w' :=
  ⟨hg.os.trans h.os, hg.tape.trans h.tape, hg.output.trans h.output, Nat.le_trans h.size hg.size, fun k hk hs => (hg.block k (Nat.lt_of_lt_of_le hk h.size) (fun e => by have := hr k e.symm; omega)).trans (h.block k hk hs)⟩
/-- A box of one's own is written. -/
theorem pool_box {w : World} {B pb mb sb b : Nat} {L : List Ab} {ov : Value} {e : Int} {sn : Nat} {DS : DataW Unit} {u : Value} (h : Pool av w B pb mb sb L ov e sn DS) (hb : Boxed w b 3 u) (ha : av b) (v : Value) : Pool av (w.setCell ⟨b, 0, none⟩ v) B pb mb sb L ov e sn DS := by
  have hb' : w.heap[b]? = some (.cells #[u] 3 (0, 0)) := hb
  refine pool_offA (O := fun k => k = b) h (off_set (O := fun k => k = b) (off_refl _ w) (p := ⟨b, 0, none⟩) (.inl rfl) v) ?_ ?_ ?_ (fun k _ e => .inl (e ▸ ha))
  · rintro k cs t f hk ht rfl
    rw [hb'] at hk
    simp only [Option.some.injEq, Obj.cells.injEq] at hk
    rcases ht with rfl | rfl | rfl <;> exact absurd hk.2.1 (by decide)
  · obtain ⟨l, g, nc, kv, kl, D, hl⟩ := h.lies
    exact map_not hb' hl.map
  · exact map_not hb' h.steps
def catIn (P : List Ab × Int) (kid : Int) : List Ab × Int := (putL P.1 3 [] [kid, P.2], putX P.1 3 [] [kid, P.2])
def catStep (P : List Ab × Int) (ahead : Int) : List Ab × Int := if P.2 = 1 then (P.1, ahead) else (rowA P.1 ahead).reverse.foldl catIn P
def catA (L : List Ab) (l : List Int) : List Ab × Int := if 0 ∈ l then (L, 0) else l.reverse.foldl catStep (L, 1)
theorem putL_prefix (L : List Ab) (k : Int) (s : List Rg) (ks : List Int) : L <+: putL L k s ks := by
  unfold putL; split
  · exact List.prefix_rfl
  · exact List.prefix_append _ _
theorem putX_lt (L : List Ab) (k : Int) (s : List Rg) (ks : List Int) : putX L k s ks < (putL L k s ks).length := by
  unfold putX putL
  split
  · rename_i h
    have := List.idxOf_lt_length_of_mem h
    simpa [keysA] using this
  · rename_i h
    rw [List.idxOf_eq_length h]
    simp [keysA]
theorem catIn_prefix (P : List Ab × Int) (kid : Int) : P.1 <+: (catIn P kid).1 := putL_prefix _ _ _ _
theorem catIns_prefix (ks : List Int) : ∀ P : List Ab × Int, P.1 <+: (ks.foldl catIn P).1 := by
  induction ks with
  | nil => intro P; exact List.prefix_rfl
  | cons k ks ih => intro P; exact (catIn_prefix P k).trans (ih _)
theorem catStep_prefix (P : List Ab × Int) (y : Int) : P.1 <+: (catStep P y).1 := by
  unfold catStep; split
  · exact List.prefix_rfl
  · exact catIns_prefix _ P
theorem catSteps_prefix (ks : List Int) : ∀ P : List Ab × Int, P.1 <+: (ks.foldl catStep P).1 := by
  induction ks with
  | nil => intro P; exact List.prefix_rfl
  | cons k ks ih => intro P; exact (catStep_prefix P k).trans (ih _)
/-- Under way: what is made, and where it stands. -/
structure CatI (av : Nat → Prop) (w : World) (B pb mb sb : Nat) (ov : Value) (e : Int) (sn : Nat) (DS : DataW Unit) (bp bx : Nat) (L : List Ab) (P : List Ab × Int) (W : World) : Prop where
  pool : Pool (fun k => av k ∨ k = bp ∨ k = bx) W B pb mb sb P.1 ov e sn DS
  boxp : Boxed W bp 36 (.pointer (some ⟨pb, 0, none⟩))
  boxx : Boxed W bx 3 (.int .i64 P.2)
  fr : Fr B mb sb w W
  bxw : w.heap.size ≤ bx
  ok : 0 ≤ P.2 ∧ P.2.toNat < P.1.length
  pre : L <+: P.1
theorem catI_own {w : World} {B pb mb sb : Nat} {ov : Value} {e : Int} {sn : Nat} {DS : DataW Unit} {bp bx base : Nat} {L : List Ab} {β : Type} (f : β → List Ab × Int) (hm : mb < base) (hs : sb < base) (hB : B ≤ base) (hw : w.heap.size ≤ base) : OwnFrom base (fun (s : β) W => CatI av w B pb mb sb ov e sn DS bp bx L (f s) W) := fun s W W' row h hg hr =>
  ⟨pool_grown h.pool hg hr hm hs hB, h.boxp.kept hg (fun e => by
      obtain ⟨-, o, ho, hc⟩ := hr bp e.symm
      rw [show W.heap[bp]? = some (.cells #[_] 36 (0, 0)) from h.boxp] at ho
      cases ho; simp [Obj.isCells] at hc), h.boxx.kept hg (fun e => by
      obtain ⟨-, o, ho, hc⟩ := hr bx e.symm
      rw [show W.heap[bx]? = some (.cells #[_] 3 (0, 0)) from h.boxx] at ho
      cases ho; simp [Obj.isCells] at hc), fr_grown h.fr hg (fun r e => (hr r e).1) hw, h.bxw, h.ok, h.pre⟩
theorem keepC_own {C : Nat → Prop} {β : Type} {base : Nat} (W : World) : OwnFrom base (fun (_ : β) Y => KeepC C W Y) := fun _ X Y row hs hg hr =>
  ⟨Nat.le_trans hs.1 hg.size, fun p v hc hv => by
    have h1 := hs.2 p v hc hv
    have hlt := World.block_lt_of_cell? X p h1
    refine (World.cell?_of_block (hg.block p.block hlt (fun e => ?_))).trans h1
    obtain ⟨-, o, ho, hcc⟩ := hr _ e.symm
    simp only [World.cell?, ho] at h1
    cases o <;> simp [Obj.isCells] at hcc h1⟩
theorem keepC_fr {C : Nat → Prop} {B mb sb : Nat} {W W' : World} (h : Fr B mb sb W W') (hC : ∀ k, C k → k < W.heap.size → Stay B mb sb W k) : KeepC C W W' :=
  ⟨h.size, fun p _ hc hv => (World.cell?_of_block (h.block p.block (World.block_lt_of_cell? W p hv) (hC _ hc (World.block_lt_of_cell? W p hv)))).trans hv⟩
theorem keepC_set {C : Nat → Prop} {W : World} {b : Nat} (hb : ¬ C b) (v : Value) : KeepC C W (W.setCell ⟨b, 0, none⟩ v) :=
  ⟨by simp, fun p _ hc hv => (World.cell?_of_block (Below.heap_setCell W ⟨b, 0, none⟩ v p.block (fun e => hb (by simp only at e; rw [← e]; exact hc)))).trans hv⟩
theorem keepsFrom_fr {B mb sb base : Nat} {W W' : World} (h : Fr B mb sb W W') (hm : mb < base) (hs : sb < base) : KeepsFrom base W W' :=
  ⟨h.size, fun k o hk ho hc => (h.block k (lt_of_some ho) (.inr (.inr ⟨o, ho, fun cs t f e => by subst e; simp [Obj.isCells] at hc, by omega, by omega⟩))).trans ho⟩
theorem putL_len (L : List Ab) (k : Int) (s : List Rg) (ks : List Int) : (putL L k s ks).length ≤ L.length + 1 := by
  unfold putL; split <;> simp
theorem pool_mb_lt {w : World} {B pb mb sb : Nat} {L : List Ab} {ov : Value} {e : Int} {sn : Nat} {DS : DataW Unit} (h : Pool av w B pb mb sb L ov e sn DS) : mb < w.heap.size ∧ sb < w.heap.size ∧ B ≤ w.heap.size ∧ pb < w.heap.size := by
  obtain ⟨l, g, nc, kv, kl, D, hl⟩ := h.lies
  have := lt_of_some hl.blk
  have := h.bp
  exact ⟨hl.map.lt, h.steps.lt, by omega, by omega⟩
/-- The kid of a row that is put ahead of what is there. -/
theorem catI_put {w : World} {B pb mb sb : Nat} {ov : Value} {e : Int} {sn : Nat} {DS : DataW Unit} {bp bx : Nat} {L : List Ab} {P : List Ab × Int} {Y : World} (h : CatI av w B pb mb sb ov e sn DS bp bx L P Y) (hav : ∀ k, av k → k < w.heap.size) (kid : Int) (hk : 0 ≤ kid ∧ kid.toNat < P.1.length) (hL : P.1.length < 1500000000000) :
    Calls Tryz.prog 26 #[.pointer (some ⟨pb, 0, none⟩), .agg #[.int .i64 3, .slice none 0 0, .slice (some ⟨Y.heap.size, 0, none⟩) 2 2, .int .i64 0, .int .i64 0, .bool false]] (Y.alloc (.cells #[.int .i64 kid, .int .i64 P.2] 3)) fun e' Y2 => e' = .returned (.int .i64 (catIn P kid).2) ∧ Fr B mb sb Y Y2 ∧ Boxed Y2 bx 3 (.int .i64 P.2) ∧ CatI av w B pb mb sb ov e sn DS bp bx L (catIn P kid) (Y2.setCell ⟨bx, 0, none⟩ (.int .i64 (catIn P kid).2)) := by
  have hb0 : Below Y.heap.size Y (Y.alloc (.cells #[.int .i64 kid, .int .i64 P.2] 3)) := (Below.refl _ _).alloc (Nat.le_refl _) _
  have hbx : (Y.alloc (.cells #[.int .i64 kid, .int .i64 P.2] 3)).heap[Y.heap.size]? = some (.cells #[.int .i64 kid, .int .i64 P.2] 3 (0, 0)) := (MapKept.heap_alloc Y _).1
  have hlt := pool_mb_lt h.pool
  have hfs := h.fr.size
  have hpl := h.boxp.lt
  have hxl := h.boxx.lt
  refine (put_any _ B pb mb sb P.1 ov e sn DS (pool_below h.pool hb0) (Nat.le_trans hlt.2.2.1 hb0.size) 3 none (some ⟨Y.heap.size, 0, none⟩) 0 2 [] [kid, P.2] (by simp) (by simp) (rrow_nil _ _) (nrow_two hbx) (held_none _ _ _ _) (held_new _ _ _ hbx (fun ha => by
      rcases ha with ha | ha | ha
      · have := hav _ ha; omega
      · omega
      · omega) 0) (fun j hj => by
      rcases j with _ | _ | j
      · exact hk
      · exact h.ok
      · simp at hj; omega) (by simp) (by simp) hL).mono ?_
  rintro e' Y2 ⟨rfl, hp2, hf2⟩
  have hf : Fr B mb sb Y Y2 := fr_t (fr_below hb0) hf2
  have hboxp : Boxed Y2 bp 36 (.pointer (some ⟨pb, 0, none⟩)) := (hf.block bp hpl (.inr (.inl ⟨_, _, _, h.boxp, by decide, by decide, by decide⟩))).trans h.boxp
  have hboxx : Boxed Y2 bx 3 (.int .i64 P.2) := (hf.block bx hxl (.inr (.inl ⟨_, _, _, h.boxx, by decide, by decide, by decide⟩))).trans h.boxx
  have hne : bp ≠ bx := fun e => by
    have h1 : Y.heap[bp]? = _ := h.boxp
    have h2 : Y.heap[bx]? = _ := h.boxx
    rw [e, h2] at h1
    simp at h1
  refine ⟨rfl, hf, hboxx, pool_box hp2 hboxx (.inr (.inr rfl)) _, hboxp.other hne _, hboxx.set _, ?_, h.bxw, ⟨by simp [catIn], by simpa [catIn] using putX_lt P.1 3 [] [kid, P.2]⟩, h.pre.trans (catIn_prefix P kid)⟩
  have h1 := fr_t h.fr hf
  have hb := h.bxw
  exact ⟨h1.os, h1.tape, h1.output, by simpa using h1.size, fun k hk hs => (Below.heap_setCell Y2 ⟨bx, 0, none⟩ _ k (fun e => by simp only at e; omega)).trans (h1.block k hk hs)⟩
/-- Some blocks are as they were in a world. -/
def SameC (C : Nat → Prop) (W0 Y : World) : Prop := W0.heap.size ≤ Y.heap.size ∧ ∀ k, C k → k < W0.heap.size → Y.heap[k]? = W0.heap[k]?
theorem sameC_own {C : Nat → Prop} {β : Type} (W0 : World) : OwnFrom W0.heap.size (fun (_ : β) Y => SameC C W0 Y) := fun _ _ _ _ hs hg hr =>
  ⟨Nat.le_trans hs.1 hg.size, fun k hc hk => (hg.block k (Nat.lt_of_lt_of_le hk hs.1) (fun e => by have := (hr k e.symm).1; omega)).trans (hs.2 k hc hk)⟩
/-- A step of the pool, and then a box that is written. -/
theorem step_keep {C : Nat → Prop} {B mb sb b : Nat} {W0 Y Y2 : World} (hf : Fr B mb sb Y Y2) (hS : SameC C W0 Y) (hC : ∀ k, C k → k < W0.heap.size ∧ Stay B mb sb W0 k) (hb : ¬ C b) (v : Value) : KeepC C Y (Y2.setCell ⟨b, 0, none⟩ v) ∧ SameC C W0 (Y2.setCell ⟨b, 0, none⟩ v) := by
  have hst : ∀ k, C k → Stay B mb sb Y k := fun k hk => stay_of (hC k hk).2 (hS.2 k hk (hC k hk).1)
  refine ⟨keepC_t (keepC_fr hf (fun k hk _ => hst k hk)) (keepC_set hb v), by have := hS.1; have := hf.size; simp; omega, fun k hk hlt => ?_⟩
  rw [Below.heap_setCell Y2 ⟨b, 0, none⟩ v k (fun e => hb (by simp only at e; rw [← e]; exact hk)), hf.block k (Nat.lt_of_lt_of_le hlt hS.1) (hst k hk), hS.2 k hk hlt]
theorem step_keeps {B mb sb b base : Nat} {Y Y2 : World} (hf : Fr B mb sb Y Y2) (hm : mb < base) (hs : sb < base) (v : Value) : KeepsFrom base Y (Y2.setCell ⟨b, 0, none⟩ v) := (keepsFrom_fr hf hm hs).trans ((KeepsOthers.setCell _ _ _).from _)
theorem sameC_below {C : Nat → Prop} {W0 Y Z : World} (h : SameC C W0 Y) (hb : Below Y.heap.size Y Z) : SameC C W0 Z := ⟨Nat.le_trans h.1 hb.size, fun k hk hlt => (hb.block k (Nat.lt_of_lt_of_le hlt h.1)).trans (h.2 k hk hlt)⟩
theorem keepC_below {C : Nat → Prop} {Y Z : World} (hb : Below Y.heap.size Y Z) : KeepC C Y Z := ⟨hb.size, fun p _ _ hv => (hb.cell (p := p) (World.block_lt_of_cell? Y p hv)).trans hv⟩
theorem keepsFrom_below {base : Nat} {Y Z : World} (hb : Below Y.heap.size Y Z) : KeepsFrom base Y Z := ⟨hb.size, fun k _ _ ho _ => (hb.block k (lt_of_some ho)).trans ho⟩
theorem catI_below {w : World} {B pb mb sb : Nat} {ov : Value} {e : Int} {sn : Nat} {DS : DataW Unit} {bp bx : Nat} {L : List Ab} {P : List Ab × Int} {Y Z : World} (h : CatI av w B pb mb sb ov e sn DS bp bx L P Y) (hb : Below Y.heap.size Y Z) : CatI av w B pb mb sb ov e sn DS bp bx L P Z :=
  ⟨pool_below h.pool hb, (hb.block _ h.boxp.lt).trans h.boxp, (hb.block _ h.boxx.lt).trans h.boxx, fr_t h.fr (fr_below hb), h.bxw, h.ok, h.pre⟩
/-- What a row's numbers are, each in its place, as valid ones. -/
theorem val_map {V : Int × Int → Prop} {l : List (Int × Int)} (h : ∀ p ∈ l, V p) : (l.attachWith V h).map Subtype.val = l := by
  rw [List.attachWith, List.map_pmap]
  simp
theorem backL_mem {l : List Int} {p : Int × Int} (h : p ∈ backL l) : p.2 ∈ l := by
  have : p.2 ∈ (backL l).map Prod.snd := List.mem_map_of_mem h
  rw [backL_snd] at this
  simpa using this
set_option maxHeartbeats 8000000 in
set_option maxRecDepth 100000 in
theorem cat_some (w : World) (B pb mb sb : Nat) (L : List Ab) (ov : Value) (e : Int) (sn : Nat) (DS : DataW Unit) (hP : Pool av w B pb mb sb L ov e sn DS) (h2 : 2 ≤ L.length) (a : Option Addr) (c : Nat) (l : List Int) (hl : l.length ≤ 1048576) (hcap : L.length * (l.length + 1) < 1500000000000) (hlv : ∀ v ∈ l, 0 ≤ v ∧ v.toNat < L.length) (hkr : NRow w a l) (hkh : Held (fun _ => False) B mb sb w a) (h0 : (0 : Int) ∉ l) (hav : ∀ k, av k → k < w.heap.size) :
    Calls Tryz.prog 31 #[.pointer (some ⟨pb, 0, none⟩), .slice a l.length c] w fun e' w' => e' = .returned (.int .i64 (catA L l).2) ∧ Pool av w' B pb mb sb (catA L l).1 ov e sn DS ∧ Fr B mb sb w w' := by
  have hcat : catA L l = l.reverse.foldl catStep (L, 1) := by unfold catA; rw [if_neg h0]
  rw [hcat]
  clear hcat
  have hb1 : Below w.heap.size w (w.alloc (.cells #[.pointer (some ⟨pb, 0, none⟩)] 36)) := ((Below.refl _ w).alloc (Nat.le_refl _) _)
  have HC := hide (containsI_any a c l (by omega) 0 _ (nrow_fr hkr hkh (fr_below hb1)))
  rw [show decide ((0 : Int) ∈ l) = false by simpa using h0] at HC
  have hlts := pool_mb_lt hP
  -- the world at the outer loop
  have hbW : Below w.heap.size w (((w.alloc (.cells #[.pointer (some ⟨pb, 0, none⟩)] 36)).alloc (.cells #[.int .i64 1] 3)).alloc (.cells #[.slice a l.length c] 63)) := (hb1.alloc (by simp) _).alloc (by simp; omega) _
  have hCI : CatI av w B pb mb sb ov e sn DS w.heap.size (w.heap.size + 1) L (L, 1) (((w.alloc (.cells #[.pointer (some ⟨pb, 0, none⟩)] 36)).alloc (.cells #[.int .i64 1] 3)).alloc (.cells #[.slice a l.length c] 63)) := by
    refine ⟨pool_below (pool_av0 hP (fun k hk ha => ?_)) hbW, ((Boxed.new w 36 _).alloc _).alloc _, ?_, fr_below hbW, by omega, ⟨Int.zero_le_ofNat 1, by simp; omega⟩, List.prefix_rfl⟩
    · rcases ha with ha | ha | ha
      · exact ha
      · omega
      · omega
    · have := (Boxed.new (w.alloc (.cells #[.pointer (some ⟨pb, 0, none⟩)] 36)) 3 (.int .i64 1)).alloc (.cells #[.slice a l.length c] 63)
      rw [World.size_alloc] at this
      exact this
  have hBs : Boxed (((w.alloc (.cells #[.pointer (some ⟨pb, 0, none⟩)] 36)).alloc (.cells #[.int .i64 1] 3)).alloc (.cells #[.slice a l.length c] 63)) (w.heap.size + 1 + 1) 63 (.slice a l.length c) := by
    have := Boxed.new ((w.alloc (.cells #[.pointer (some ⟨pb, 0, none⟩)] 36)).alloc (.cells #[.int .i64 1] 3)) 63 (.slice a l.length c)
    simp only [World.size_alloc] at this
    exact this
  have hrW := nrow_fr hkr hkh (fr_below hbW)
  have hhW := held_fr hkh (fr_below hbW)
  have hszW : (((w.alloc (.cells #[.pointer (some ⟨pb, 0, none⟩)] 36)).alloc (.cells #[.int .i64 1] 3)).alloc (.cells #[.slice a l.length c] 63)).heap.size = w.heap.size + 1 + 1 + 1 := by simp
  have hka : ∀ x, a = some x → x.block < w.heap.size := fun x hx => (hkh x hx).1
  have hseq := back_seq (α := {p : Int × Int // 0 ≤ p.2 ∧ p.2.toNat < L.length}) Subtype.val ((backL l).attachWith _ (fun p hp => hlv _ (backL_mem hp))) Fence.wide 19 trivial rfl (by omega) (w.heap.size + 1 + 1) a c (fun k => k = w.heap.size + 1 + 1 ∨ ∃ x, a = some x ∧ k = x.block) l (val_map _) (by omega) _ hBs.lt (.inl rfl) hBs.cell hrW (fun x hx => .inr ⟨x, hx, rfl⟩)
  have hfin : (((backL l).attachWith _ (fun p hp => hlv _ (backL_mem hp)) : List {p : Int × Int // 0 ≤ p.2 ∧ p.2.toNat < L.length}).map fun p => p.val.2) = l.reverse := by
    have h1 : ∀ bl : List {p : Int × Int // 0 ≤ p.2 ∧ p.2.toNat < L.length}, (bl.map fun p => p.val.2) = (bl.map Subtype.val).map Prod.snd := fun bl => by rw [List.map_map]; rfl
    rw [h1, val_map, backL_snd]
  generalize ((backL l).attachWith _ (fun p hp => hlv _ (backL_mem hp)) : List {p : Int × Int // 0 ≤ p.2 ∧ p.2.toNat < L.length}) = bl at *
  refine (callsIn_wide (n := 20)).1 ?_
  refine callsIn_of_wp_marks Tryz.func31 rfl trivial ?_ rfl
  simp only [Tryz.ntmps31, List.size_toArray, List.length_cons, List.length_nil, Nat.reduceAdd, Nat.reduceSub, Array.replicate_succ, Array.replicate_zero, List.push_toArray, List.append_toArray, List.nil_append, List.cons_append]
  have Hseq := hide hseq; have HCI := hide hCI; have HrW := hide hrW; have HhW := hide hhW; have Hfin := hide hfin; have HszW := hide hszW; have HBs := hide hBs
  clear hseq hCI hrW hhW hfin hb1 hbW hkr hkh hlv hszW hBs
  gi_wp2_with fail
  refine ⟨trivial, (callsIn_wide.2 (unhide HC)).mono ?_⟩
  rintro e1 w1 ⟨rfl, hw1⟩
  subst hw1
  gi_wp2_with fail
  refine ⟨trivial, (callsIn_wide.2 (backward_any a l.length c _)).mono ?_⟩
  rintro e2 w2 ⟨rfl, rfl⟩
  gi_wp2_with fail
  have hszW := unhide HszW
  have hCI := unhide HCI
  have hhW := unhide HhW
  have hBs := unhide HBs
  have hseq := unhide Hseq
  clear HC HCI HhW HBs Hseq HszW HrW
  generalize ((w.alloc (.cells #[.pointer (some ⟨pb, 0, none⟩)] 36)).alloc (.cells #[.int .i64 1] 3)).alloc (.cells #[.slice a l.length c] 63) = W0 at *
  refine wpIn_rangeFunc_ownH rfl (by omega) (gf := 73) (lb := #[.pointer (some ⟨w.heap.size + 1 + 1, 0, none⟩)]) rfl trivial (enters_of Tryz.func73 (by kernel_rfl) rfl) hseq keepC_t keepC_b (Below.refl _ _) (fun _ => rfl)
    (fun pre W => (CatI av w B pb mb sb ov e sn DS w.heap.size (w.heap.size + 1) L ((pre.map fun p => p.val.2).foldl catStep (L, 1)) W ∧ ((pre.map fun p => p.val.2).foldl catStep (L, 1)).1.length ≤ L.length * (pre.length + 1)) ∧ SameC (fun k => k = w.heap.size + 1 + 1 ∨ ∃ x, a = some x ∧ k = x.block) W0 W)
    (fun _ _ _ => False)
    (OwnFrom.and (OwnFrom.and (catI_own _ (by omega) (by omega) (by omega) (by omega)) (ownFrom_pure _ _)) (sameC_own _))
    (fun c s X Y row hs hg hr => hs)
    ⟨⟨hCI, by simp⟩, Nat.le_refl _, fun _ _ _ => rfl⟩
    (fun x a' _ => a' = { tmps := #[.pointer (some ⟨pb, 0, none⟩), .slice a l.length c, .pointer (some ⟨w.heap.size, 0, none⟩), undef, .int .i64 0, .pointer (some ⟨w.heap.size + 1, 0, none⟩), undef, .int .i64 x.val.2, undef, undef, .slice a l.length c, .bool false, .slice a l.length c, .func (.func 73) #[] #[.pointer (some ⟨w.heap.size + 1 + 1, 0, none⟩)], .int .i64 x.val.1, .int .i64 x.val.2, undef, undef, undef, undef, undef, undef, undef, undef, undef, undef, undef, undef, undef, undef, undef, undef], defers := [] })
    (fun _ _ _ _ _ _ hs _ _ => hs)
    ?assign ?body ?done ?stop
  case assign =>
    rintro l0 pre x W K hi hK
    gi_wp2
    exact hK _ _ (KeepsFrom.refl _ _) (keepC_refl _ _) hi rfl
  case body =>
    rintro l0 pre x a' W hl0 ⟨r, hr⟩ ⟨⟨hI, hlen⟩, hkc⟩ rfl hpl
    obtain ⟨⟨xi, xv⟩, hx0, hxl⟩ := x
    simp only at hx0 hxl
    have HS : Hid (((pre ++ [(⟨(xi, xv), hx0, hxl⟩ : {p : Int × Int // 0 ≤ p.2 ∧ p.2.toNat < L.length})]).map fun p => p.val.2).foldl catStep (L, 1) = catStep ((pre.map fun p => p.val.2).foldl catStep (L, 1)) xv) := hide (by rw [List.map_append, List.foldl_append]; rfl)
    have hW0 := hkc.1
    have Hkc := hide hkc
    have Hpre : Hid ((pre ++ [(⟨(xi, xv), hx0, hxl⟩ : {p : Int × Int // 0 ≤ p.2 ∧ p.2.toNat < L.length})]).length = pre.length + 1) := hide (by simp)
    generalize (pre.map fun p => p.val.2).foldl catStep (L, 1) = P at *
    obtain ⟨LP, xP⟩ := P
    simp only at hlen
    have hbxc := hI.boxx.cell
    have hbxf := hI.boxx.frozen
    have hbpc := hI.boxp.cell
    simp only at hbxc
    have hLl : L.length ≤ LP.length := hI.pre.length_le
    have hmul : L.length * (pre.length + 1) + L.length = L.length * (pre.length + 1 + 1) := by rw [Nat.mul_add (L.length) (pre.length + 1) 1, Nat.mul_one]
    have hmul2 : L.length * (pre.length + 1 + 1) ≤ L.length * (l.length + 1) := Nat.mul_le_mul_left _ (by omega)
    obtain ⟨q, rfl⟩ := Int.eq_ofNat_of_zero_le hx0
    rw [Int.toNat_natCast] at hxl
    have hkn : ¬ (fun k => k = w.heap.size + 1 + 1 ∨ ∃ x, a = some x ∧ k = x.block) (w.heap.size + 1) := by
      rintro (h | ⟨y, hy, h⟩)
      · omega
      · have := hka y hy; omega
    have hCst : ∀ k, (fun k => k = w.heap.size + 1 + 1 ∨ ∃ x, a = some x ∧ k = x.block) k → k < W0.heap.size ∧ Stay B mb sb W0 k := by
      rintro k (rfl | ⟨y, hy, rfl⟩)
      · exact ⟨by omega, .inr (.inl ⟨_, _, _, hBs, by decide, by decide, by decide⟩)⟩
      · exact ⟨(hhW y hy).1, rowy_stay (hhW y hy).2.1⟩
    by_cases h1 : xP = 1
    · subst h1
      have hst : catStep (LP, 1) (q : Int) = (LP, (q : Int)) := by simp [catStep]
      rw [hst] at HS
      have hne : w.heap.size ≠ w.heap.size + 1 := by omega
      have hCI2 : CatI av w B pb mb sb ov e sn DS w.heap.size (w.heap.size + 1) L (LP, (q : Int)) (W.setCell ⟨w.heap.size + 1, 0, none⟩ (.int .i64 q)) := ⟨pool_box hI.pool hI.boxx (.inr (.inr rfl)) _, hI.boxp.other hne _, hI.boxx.set _, ⟨hI.fr.os, hI.fr.tape, hI.fr.output, by simpa using hI.fr.size, fun k hk hs => (Below.heap_setCell W ⟨w.heap.size + 1, 0, none⟩ _ k (fun e => by simp only at e; omega)).trans (hI.fr.block k hk hs)⟩, hI.bxw, ⟨by simp, by simp; omega⟩, hI.pre⟩
      obtain ⟨hkc3, hkc2⟩ := step_keep (b := w.heap.size + 1) (Y := W) (fr_refl B mb sb W) (unhide Hkc) hCst hkn (.int .i64 q)
      have HCI2 := hide hCI2; have Hkc2 := hide hkc2; have Hkc3 := hide hkc3
      clear hCI2 hkc2 hkc3 hst hI
      gi_wp2
      exact ⟨(KeepsOthers.setCell _ _ _).from _, unhide Hkc3, ⟨by rw [unhide HS]; exact unhide HCI2, by rw [unhide HS, unhide Hpre]; simp only; omega⟩, unhide Hkc2⟩
    · have h1b : (xP == 1) = false := by simpa using h1
      have hlen2 : LP.length ≤ 1500000000000 := by omega
      have h2p : 2 ≤ LP.length := by omega
      have hqP : q < LP.length := by omega
      have HR := hide (row_any W B pb mb sb LP ov e sn DS hI.pool q hqP h2p hlen2)
      have hRlen : (rowA LP (q : Int)).length ≤ L.length := by
        have h3 := rowA_len (L := LP) hI.pool.wf h2p _ (q : Int) (Nat.le_refl _) (by omega) (by omega)
        have h4 : rowM (q : Int) ≤ q + 1 := by unfold rowM; split <;> omega
        omega
      have hRv : ∀ v ∈ rowA LP (q : Int), 0 ≤ v ∧ v.toNat < LP.length := fun v hv => by
        have h3 := rowA_lt (L := LP) hI.pool.wf h2p _ (q : Int) (Nat.le_refl _) (by omega) (by omega) v hv
        exact ⟨h3.1, by omega⟩
      have hst : catStep (LP, xP) (q : Int) = (rowA LP (q : Int)).reverse.foldl catIn (LP, xP) := by unfold catStep; rw [if_neg h1]
      rw [hst] at HS
      have HI := hide hI
      clear hst hI h1
      generalize rowA LP (q : Int) = R at *
      gi_wp2_with fail
      refine ⟨trivial, (CallsIn.inRound l0 (callsIn_wide.2 (unhide HR))).mono ?_⟩
      rintro e3 W2 ⟨a2, c2, rfl, hown2, hb2⟩
      have Hown2 := hide hown2; have Hb2 := hide hb2
      clear hown2 hb2 HR
      gi_wp2_with fail
      refine ⟨trivial, (CallsIn.inRound l0 (callsIn_wide.2 (backward_any a2 R.length c2 W2))).mono ?_⟩
      rintro e4 W3 ⟨rfl, hW3⟩
      have hb23 : Below W2.heap.size W2 W3 := by rw [hW3]; exact (Below.refl _ _).alloc (Nat.le_refl _) _
      have hBs3 : Boxed W3 W2.heap.size 63 (.slice a2 R.length c2) := by rw [hW3]; exact Boxed.new W2 63 _
      have hsz3 : W3.heap.size = W2.heap.size + 1 := by rw [hW3]; simp
      have hbW3 : Below W.heap.size W W3 := (unhide Hb2).trans (below_le hb23 (unhide Hb2).size)
      have hown3 := own_off (O := fun _ => False) (unhide Hown2) (off_below hb23) (fun _ _ h => h)
      have hnr3 := nrow_own hown3 rfl
      have hI3 := catI_below (unhide HI) hbW3
      have hr3 : W3.heap[l0]? = some (.loop r) := (hbW3.block _ (lt_of_some hr)).trans hr
      have hW2 := (unhide Hb2).size
      have hC3 : ∀ k, (fun k => k = W2.heap.size ∨ ∃ x, a2 = some x ∧ k = x.block) k → k < W3.heap.size ∧ Stay B mb sb W3 k := by
        rintro k (rfl | ⟨y, hy, rfl⟩)
        · exact ⟨by omega, .inr (.inl ⟨_, _, _, hBs3, by decide, by decide, by decide⟩)⟩
        · have hh := held_own (av := fun _ => False) (B' := B) (mb := mb) (sb := sb) hown3 (fun _ _ h => h) y hy
          exact ⟨hh.1, rowy_stay hh.2.1⟩
      have hx3 := (unhide HI).boxx.lt
      have hkn3 : ¬ (fun k => k = W2.heap.size ∨ ∃ x, a2 = some x ∧ k = x.block) (w.heap.size + 1) := by
        rintro (h | ⟨y, hy, h⟩)
        · omega
        · have := (row_lt hown3 (k := y.block) (by rw [hy]; rfl)).1
          omega
      have hseq3 := (back_seq (α := {p : Int × Int // 0 ≤ p.2 ∧ p.2.toNat < LP.length}) Subtype.val ((backL R).attachWith _ (fun p hp => hRv _ (backL_mem hp))) Fence.wide 17 trivial rfl (by omega) W2.heap.size a2 c2 (fun k => k = W2.heap.size ∨ ∃ x, a2 = some x ∧ k = x.block) R (val_map _) (by omega) W3 hBs3.lt (.inl rfl) hBs3.cell hnr3 (fun x hx => .inr ⟨x, hx, rfl⟩)).inRound l0
      have hfin3 : (((backL R).attachWith _ (fun p hp => hRv _ (backL_mem hp)) : List {p : Int × Int // 0 ≤ p.2 ∧ p.2.toNat < LP.length}).map fun p => p.val.2) = R.reverse := by
        have h1 : ∀ bl : List {p : Int × Int // 0 ≤ p.2 ∧ p.2.toNat < LP.length}, (bl.map fun p => p.val.2) = (bl.map Subtype.val).map Prod.snd := fun bl => by rw [List.map_map]; rfl
        rw [h1, val_map, backL_snd]
      generalize ((backL R).attachWith _ (fun p hp => hRv _ (backL_mem hp)) : List {p : Int × Int // 0 ≤ p.2 ∧ p.2.toNat < LP.length}) = bl3 at *
      have hSW3 := sameC_below (unhide Hkc) hbW3
      have Hfin3 := hide hfin3
      clear hfin3
      have hlt3 := pool_mb_lt hI3.pool
      clear hW3
      gi_wp2_with fail
      refine wpIn_rangeFunc_ownN (l₀ := l0) (r₀ := r) rfl hr3 (by omega) (gf := 73) (lb := #[.pointer (some ⟨W2.heap.size, 0, none⟩)]) rfl trivial (enters_of Tryz.func73 (by kernel_rfl) rfl) hseq3 keepC_t keepC_b (Below.refl _ _) (fun _ => rfl)
        (fun pre' Y => ((((CatI av w B pb mb sb ov e sn DS w.heap.size (w.heap.size + 1) L ((pre'.map fun p => p.val.2).foldl catIn (LP, xP)) Y ∧ (((pre'.map fun p => p.val.2).foldl catIn (LP, xP)).1.length ≤ LP.length + pre'.length ∧ LP <+: ((pre'.map fun p => p.val.2).foldl catIn (LP, xP)).1)) ∧ KeepC (fun k => k = w.heap.size + 1 + 1 ∨ ∃ x, a = some x ∧ k = x.block) W Y) ∧ KeepsFrom W0.heap.size W Y) ∧ SameC (fun k => k = W2.heap.size ∨ ∃ x, a2 = some x ∧ k = x.block) W3 Y) ∧ SameC (fun k => k = w.heap.size + 1 + 1 ∨ ∃ x, a = some x ∧ k = x.block) W0 Y)
        (fun _ _ _ => False)
        (OwnFrom.and (OwnFrom.and (OwnFrom.and (OwnFrom.and (OwnFrom.and (catI_own _ (by omega) (by omega) (by omega) (by omega)) (ownFrom_pure _ _)) (keepC_own _)) (ownFrom_keepsFrom (by omega))) (sameC_own _)) (fun s X Y row hs hg hr => sameC_own W0 s X Y row hs hg (fun r e => ⟨by have := (hr r e).1; omega, (hr r e).2⟩)))
        (fun c s X Y row hs hg hr => hs)
        ⟨⟨⟨⟨⟨hI3, by simp, List.prefix_rfl⟩, keepC_below hbW3⟩, keepsFrom_below hbW3⟩, Nat.le_refl _, fun _ _ _ => rfl⟩, hSW3⟩
        (fun y a'' _ => a'' = { tmps := #[.pointer (some ⟨pb, 0, none⟩), .slice a l.length c, .pointer (some ⟨w.heap.size, 0, none⟩), undef, .int .i64 0, .pointer (some ⟨w.heap.size + 1, 0, none⟩), undef, .int .i64 q, undef, .int .i64 y.val.2, .slice a l.length c, .bool false, .slice a l.length c, .func (.func 73) #[] #[.pointer (some ⟨w.heap.size + 1 + 1, 0, none⟩)], .int .i64 xi, .int .i64 q, .int .i64 xP, .bool false, undef, .pointer (some ⟨pb, 0, none⟩), .int .i64 q, .slice a2 R.length c2, .func (.func 73) #[] #[.pointer (some ⟨W2.heap.size, 0, none⟩)], .int .i64 y.val.1, .int .i64 y.val.2, undef, undef, undef, undef, undef, undef, undef], defers := [] })
        (fun _ _ _ _ _ _ hs _ _ => hs)
        ?assign3 ?body3 ?done3 ?stop3
      case assign3 =>
        rintro l2 pre' y Y K hi hK
        gi_wp2
        exact hK _ _ (KeepsFrom.refl _ _) (keepC_refl _ _) hi rfl
      case body3 =>
        rintro l2 pre' y a'' Y hl2 _ ⟨⟨⟨⟨⟨hIY, hlY, hpY⟩, hkY⟩, hfY⟩, hsY⟩, hsW⟩ rfl hp'
        obtain ⟨⟨yi, yv⟩, hy0, hyl⟩ := y
        simp only at hy0 hyl
        have HS3 : Hid (((pre' ++ [(⟨(yi, yv), hy0, hyl⟩ : {p : Int × Int // 0 ≤ p.2 ∧ p.2.toNat < LP.length})]).map fun p => p.val.2).foldl catIn (LP, xP) = catIn ((pre'.map fun p => p.val.2).foldl catIn (LP, xP)) yv) := hide (by rw [List.map_append, List.foldl_append]; rfl)
        have Hp' : Hid ((pre' ++ [(⟨(yi, yv), hy0, hyl⟩ : {p : Int × Int // 0 ≤ p.2 ∧ p.2.toNat < LP.length})]).length = pre'.length + 1) := hide (by simp)
        generalize (pre'.map fun p => p.val.2).foldl catIn (LP, xP) = P at *
        have hPl := hpY.length_le
        have HPut := hide (catI_put hIY hav yv ⟨hy0, by omega⟩ (by omega))
        have b1 := hIY.boxp.cell
        have b2 := hIY.boxx.cell
        have hlc : (catIn P yv).1.length ≤ P.1.length + 1 := putL_len _ _ _ _
        have hpc := hpY.trans (catIn_prefix P yv)
        have HIY := hide hIY; have HkY := hide hkY; have HfY := hide hfY; have HsY := hide hsY; have HsW := hide hsW; have Hpc := hide hpc
        clear hIY hkY hfY hsY hsW hpc hpY
        obtain ⟨PL, Px⟩ := P
        simp only at b2 hlY hPl hlc HPut
        gi_wp2_with fail
        refine ⟨trivial, (CallsIn.inRound l2 (CallsIn.inRound l0 (callsIn_wide.2 (unhide HPut)))).mono ?_⟩
        rintro e5 Y2 ⟨rfl, hfY2, hbY2, hCI5⟩
        obtain ⟨k1, k2⟩ := step_keep (b := w.heap.size + 1) hfY2 (unhide HsY) hC3 hkn3 (.int .i64 (catIn (PL, Px) yv).2)
        obtain ⟨k3, k4⟩ := step_keep (b := w.heap.size + 1) hfY2 (unhide HsW) hCst hkn (.int .i64 (catIn (PL, Px) yv).2)
        have k5 := step_keeps (b := w.heap.size + 1) (base := W3.heap.size) hfY2 (by omega) (by omega) (.int .i64 (catIn (PL, Px) yv).2)
        have k6 := step_keeps (b := w.heap.size + 1) (base := W0.heap.size) hfY2 (by omega) (by omega) (.int .i64 (catIn (PL, Px) yv).2)
        have b3 := hbY2.cell
        have b4 := hbY2.frozen
        have K1 := hide k1; have K2 := hide k2; have K3 := hide (keepC_t (unhide HkY) k3); have K4 := hide k4; have K5 := hide k5; have K6 := hide ((unhide HfY).trans k6); have HCI5 := hide hCI5
        clear k1 k2 k3 k4 k5 k6 hCI5 hfY2 hbY2
        generalize catIn (PL, Px) yv = P5 at *
        gi_wp2
        exact ⟨unhide K5, unhide K1, ⟨⟨⟨⟨⟨by rw [unhide HS3]; exact unhide HCI5, by rw [unhide HS3, unhide Hp']; omega, by rw [unhide HS3]; exact unhide Hpc⟩, unhide K3⟩, unhide K6⟩, unhide K2⟩, unhide K4⟩⟩
      case done3 =>
        rintro xs Y rfl ⟨⟨⟨⟨⟨hIY, hlY, hpY⟩, hkY⟩, hfY⟩, hsY⟩, hsW⟩
        rw [unhide Hfin3] at hIY hlY
        gi_wp2
        refine ⟨hfY, hkY, ⟨by rw [unhide HS]; exact hIY, ?_⟩, hsW⟩
        rw [unhide HS, unhide Hpre]
        have hb3 : xs.length ≤ R.length := Nat.le_of_eq (by have := congrArg List.length (unhide Hfin3); simpa using this)
        omega
      case stop3 =>
        rintro c' pre' Y hpre' hIx
        exact hIx.elim
  case done =>
    rintro D xs W hD rfl ⟨⟨hI, hlen⟩, hkc⟩ hK
    rw [unhide Hfin] at hI
    have hbxc := hI.boxx.cell
    have hgD : ∀ o', W.grownBy (W.putObj D o') (some D) := fun o' => grownBy_putObj' W D o'
    have hrD : ∀ r, some D = some r → W0.heap.size ≤ r ∧ ∃ o : Obj, W.heap[r]? = some o ∧ o.isCells = false := fun r e => by cases e; exact ⟨hD, _, hK, rfl⟩
    have Hpost : Hid (∀ o', Pool av (W.putObj D o') B pb mb sb (l.reverse.foldl catStep (L, 1)).1 ov e sn DS ∧ Fr B mb sb w (W.putObj D o')) := hide (fun o' => ⟨pool_av0 (pool_grown hI.pool (hgD o') hrD (by omega) (by omega) (by omega)) (fun k _ ha => .inl ha), fr_grown hI.fr (hgD o') (fun r e => (hrD r e).1) (by omega)⟩)
    clear hI hlen hkc hgD hrD
    generalize hP9 : l.reverse.foldl catStep (L, 1) = P at *
    have HP9 := hide hP9
    clear hP9
    obtain ⟨LP, xP⟩ := P
    simp only at hbxc Hpost
    gi_wp2
    refine ⟨by simp, .inl ⟨_, _, rfl, run_takeDeferred hK, ?_⟩⟩
    refine ⟨.int .i64 xP, ?_, by rw [unhide HP9], ?_⟩
    · simp only [results, Tryz.results31]
      go_simp
    · exact ⟨by rw [unhide HP9]; exact (unhide Hpost _).1, (unhide Hpost _).2⟩
  case stop =>
    rintro D c pre W hD hpre hIx hK
    exact hIx.elim
set_option maxHeartbeats 2000000 in
set_option maxRecDepth 100000 in
theorem cat_none (w : World) (B pb mb sb : Nat) (L : List Ab) (ov : Value) (e : Int) (sn : Nat) (DS : DataW Unit) (hP : Pool av w B pb mb sb L ov e sn DS) (a : Option Addr) (c : Nat) (l : List Int) (hl : l.length ≤ 1048576) (hkr : NRow w a l) (hkh : Held (fun _ => False) B mb sb w a) (h0 : (0 : Int) ∈ l) :
    Calls Tryz.prog 31 #[.pointer (some ⟨pb, 0, none⟩), .slice a l.length c] w fun e' w' => e' = .returned (.int .i64 (catA L l).2) ∧ Pool av w' B pb mb sb (catA L l).1 ov e sn DS ∧ Fr B mb sb w w' := by
  have hcat : catA L l = (L, 0) := by unfold catA; rw [if_pos h0]
  rw [hcat]
  have hb1 : Below w.heap.size w (w.alloc (.cells #[.pointer (some ⟨pb, 0, none⟩)] 36)) := ((Below.refl _ w).alloc (Nat.le_refl _) _)
  have HC := hide (containsI_any a c l (by omega) 0 _ (nrow_fr hkr hkh (fr_below hb1)))
  rw [show decide ((0 : Int) ∈ l) = true by simpa using h0] at HC
  have HPF : Hid (Pool av (w.alloc (.cells #[.pointer (some ⟨pb, 0, none⟩)] 36)) B pb mb sb L ov e sn DS ∧ Fr B mb sb w (w.alloc (.cells #[.pointer (some ⟨pb, 0, none⟩)] 36))) := hide ⟨pool_below hP hb1, fr_below hb1⟩
  clear hP hkr hkh hb1 h0 hcat
  refine (callsIn_wide (n := 20)).1 ?_
  refine callsIn_of_wp_marks Tryz.func31 rfl trivial ?_ rfl
  simp only [Tryz.ntmps31, List.size_toArray, List.length_cons, List.length_nil, Nat.reduceAdd, Nat.reduceSub, Array.replicate_succ, Array.replicate_zero, List.push_toArray, List.append_toArray, List.nil_append, List.cons_append]
  gi_wp2_with fail
  refine ⟨trivial, (callsIn_wide.2 (unhide HC)).mono ?_⟩
  rintro e1 w1 ⟨rfl, hw1⟩
  subst hw1
  gi_wp2
  refine ⟨.int .i64 0, ?_, rfl, ?_⟩
  · simp only [results, Tryz.results31]
    go_simp
  · exact unhide HPF
/-- One behind the other. -/
theorem cat_any (w : World) (B pb mb sb : Nat) (L : List Ab) (ov : Value) (e : Int) (sn : Nat) (DS : DataW Unit) (hP : Pool av w B pb mb sb L ov e sn DS) (h2 : 2 ≤ L.length) (a : Option Addr) (c : Nat) (l : List Int) (hl : l.length ≤ 1048576) (hcap : L.length * (l.length + 1) < 1500000000000) (hlv : ∀ v ∈ l, 0 ≤ v ∧ v.toNat < L.length) (hkr : NRow w a l) (hkh : Held (fun _ => False) B mb sb w a) (hav : ∀ k, av k → k < w.heap.size) :
    Calls Tryz.prog 31 #[.pointer (some ⟨pb, 0, none⟩), .slice a l.length c] w fun e' w' => e' = .returned (.int .i64 (catA L l).2) ∧ Pool av w' B pb mb sb (catA L l).1 ov e sn DS ∧ Fr B mb sb w w' := by
  by_cases h0 : (0 : Int) ∈ l
  · exact cat_none w B pb mb sb L ov e sn DS hP a c l hl hkr hkh h0
  · exact cat_some w B pb mb sb L ov e sn DS hP h2 a c l hl hcap hlv hkr hkh h0 hav
end Go.Proofs.YtkimhfajfbcdmaaGreatDoor

/- Pools: a row of runes. -/
namespace Go.Proofs.YtkimhfajfbcdmaaGreatDoor
open Go.RowKit Go.Maps

variable {av : Nat → Prop}

/-- A row of runes lies there. -/
def IRow (w : World) (a : Option Addr) (l : List Int) : Prop := l = [] ∨ ∃ g off, a = some ⟨g, off, none⟩ ∧ g < w.heap.size ∧ ∀ j, j < l.length → w.cell? ⟨g, off + j, none⟩ = some (.int .i32 (l.getD j 0))
/-- A row of one's own is written. -/
theorem pool_row {w : World} {B pb mb sb b i : Nat} {L : List Ab} {ov : Value} {e : Int} {sn : Nat} {DS : DataW Unit} {cs : Array Value} {f : Nat × Nat} (h : Pool av w B pb mb sb L ov e sn DS) (hb : w.heap[b]? = some (.cells cs 3 f)) (ha : av b) (v : Value) : Pool av (w.setCell ⟨b, i, none⟩ v) B pb mb sb L ov e sn DS := by
  refine pool_offA (O := fun k => k = b) h (off_set (O := fun k => k = b) (off_refl _ w) (p := ⟨b, i, none⟩) (.inl rfl) v) ?_ ?_ ?_ (fun k _ e => .inl (e ▸ ha))
  · rintro k cs t f hk ht rfl
    rw [hb] at hk
    simp only [Option.some.injEq, Obj.cells.injEq] at hk
    rcases ht with rfl | rfl | rfl <;> exact absurd hk.2.1 (by decide)
  · obtain ⟨l, g, nc, kv, kl, D, hl⟩ := h.lies
    exact map_not hb hl.map
  · exact map_not hb h.steps
/-- The sets of the runes, one by one: the pool, and their numbers. -/
def wordS (L : List Ab) : List Int → List Ab × List Int
  | [] => (L, [])
  | c :: cs => ((wordS (setL L [(c, c)]) cs).1, (setX L [(c, c)] : Int) :: (wordS (setL L [(c, c)]) cs).2)
def wordL (L : List Ab) (row : List Int) (k : Nat) : List Ab := (row.take k).foldl (fun L c => setL L [(c, c)]) L
def wordX (L : List Ab) (row : List Int) (k : Nat) : Int := (setX (wordL L row k) [(row.getD k 0, row.getD k 0)] : Int)
/-- The numbers so far, and noughts. -/
def wordRow (L : List Ab) (row : List Int) (k : Nat) : List Int := (List.range row.length).map fun i => if i < k then wordX L row i else 0
theorem wordL_succ (L : List Ab) (row : List Int) (k : Nat) (hk : k < row.length) : wordL L row (k + 1) = setL (wordL L row k) [(row.getD k 0, row.getD k 0)] := by
  unfold wordL
  rw [List.take_add_one, List.getElem?_eq_getElem hk, List.foldl_append, List.getD_eq_getElem?_getD, List.getElem?_eq_getElem hk]
  rfl
theorem setL_len (L : List Ab) (s : List Rg) : L.length ≤ (setL L s).length ∧ (setL L s).length ≤ L.length + 1 := by
  unfold setL
  split
  · omega
  · exact ⟨(putL_prefix L 2 s []).length_le, putL_len _ _ _ _⟩
theorem setX_lt (L : List Ab) (s : List Rg) (hL : 0 < L.length) : setX L s < (setL L s).length := by
  unfold setX setL
  split
  · exact hL
  · exact putX_lt _ _ _ _
theorem wordL_len (L : List Ab) (row : List Int) : ∀ k, k ≤ row.length → L.length ≤ (wordL L row k).length ∧ (wordL L row k).length ≤ L.length + k := by
  intro k
  induction k with
  | zero => intro _; simp [wordL]
  | succ k ih =>
    intro hk
    have h1 := ih (by omega)
    rw [wordL_succ L row k (by omega)]
    have h2 := setL_len (wordL L row k) [(row.getD k 0, row.getD k 0)]
    omega
theorem wordL_mono (L : List Ab) (row : List Int) : ∀ j k, k + j ≤ row.length → (wordL L row k).length ≤ (wordL L row (k + j)).length := by
  intro j
  induction j with
  | zero => intro k _; exact Nat.le_refl _
  | succ j ih =>
    intro k hk
    have h1 := ih k (by omega)
    rw [← Nat.add_assoc, wordL_succ L row (k + j) (by omega)]
    have h2 := setL_len (wordL L row (k + j)) [(row.getD (k + j) 0, row.getD (k + j) 0)]
    omega
theorem wordRow_len (L : List Ab) (row : List Int) (k : Nat) : (wordRow L row k).length = row.length := by simp [wordRow]
theorem wordRow_set (L : List Ab) (row : List Int) (k : Nat) (hk : k < row.length) : (intV (wordRow L row k)).set k (.int .i64 (wordX L row k)) = intV (wordRow L row (k + 1)) := by
  unfold intV
  rw [← List.map_set]
  congr 1
  refine List.ext_getElem? fun i => ?_
  rw [List.getElem?_set]
  unfold wordRow
  by_cases hi : i < row.length
  · rw [List.getElem?_map, List.getElem?_map, List.getElem?_range hi]
    simp only [Option.map_some, List.length_map, List.length_range]
    by_cases he : k = i
    · subst he
      simp [hi]
    · rw [if_neg he]
      congr 1
      by_cases h1 : i < k
      · simp [h1, show i < k + 1 by omega]
      · simp [h1, show ¬ i < k + 1 by omega]
  · rw [List.getElem?_eq_none (by simpa using hi), List.getElem?_eq_none (by simpa using hi)]
    simp only [List.length_map, List.length_range]
    split
    · omega
    · rfl
theorem wordRow_mem {L : List Ab} {row : List Int} (hL : 0 < L.length) : ∀ v ∈ wordRow L row row.length, 0 ≤ v ∧ v.toNat < (wordL L row row.length).length := by
  intro v hv
  unfold wordRow at hv
  obtain ⟨i, hi, rfl⟩ := List.mem_map.1 hv
  have hi2 : i < row.length := by simpa using hi
  rw [if_pos hi2]
  unfold wordX
  have h1 := wordL_len L row i (by omega)
  have h2 := setX_lt (wordL L row i) [(row.getD i 0, row.getD i 0)] (by omega)
  rw [← wordL_succ L row i hi2] at h2
  have h3 := wordL_mono L row (row.length - (i + 1)) (i + 1) (by omega)
  rw [show i + 1 + (row.length - (i + 1)) = row.length by omega] at h3
  omega
theorem own_fr {w w' : World} {B mb sb base n : Nat} {v : Value} {xs : List Value} (h : w.ownsRow base 3 1 v n xs) (hf : Fr B mb sb w w') : w'.ownsRow base 3 1 v n xs := by
  refine ⟨h.1, ?_⟩
  rcases h.2 with h0 | ⟨g, cap, cur, hv, hg, hh, rest⟩
  · exact .inl h0
  · exact .inr ⟨g, cap, cur, hv, hg, (hf.block g (lt_of_some hh) (.inr (.inl ⟨_, _, _, hh, by decide, by decide, by decide⟩))).trans hh, rest⟩
theorem own_block3 {w : World} {base n g cap : Nat} {xs : List Value} (h : w.ownsRow base 3 1 (.slice (some ⟨g, 0, none⟩) n cap) n xs) : ∃ cs, w.heap[g]? = some (.cells cs 3 (0, 0)) := by
  rcases h.2 with ⟨h0, _⟩ | ⟨g', cap', cur, hv, hg, hh, rest⟩
  · cases h0
  · simp only [Value.slice.injEq, Option.some.injEq, Addr.mk.injEq] at hv
    exact ⟨cur, by rw [hv.1.1]; exact hh⟩
/-- Under way: so many sets are made. -/
structure WSt (av : Nat → Prop) (w : World) (B pb mb sb : Nat) (L : List Ab) (ov : Value) (e : Int) (sn : Nat) (DS : DataW Unit) (row : List Int) (k : Nat) (W : World) : Prop where
  pool : Pool (fun k => av k ∨ k = w.heap.size) W B pb mb sb (wordL L row k) ov e sn DS
  own : W.ownsRow w.heap.size 3 1 (.slice (some ⟨w.heap.size, 0, none⟩) row.length row.length) row.length (intV (wordRow L row k))
  fr : Fr B mb sb w W
theorem wst_step {w : World} {B pb mb sb : Nat} {L : List Ab} {ov : Value} {e : Int} {sn : Nat} {DS : DataW Unit} {row : List Int} {k : Nat} {W W2 : World} (hk : k < row.length) (h : WSt av w B pb mb sb L ov e sn DS row k W) (hf : Fr B mb sb W W2) (hp : Pool (fun k => av k ∨ k = w.heap.size) W2 B pb mb sb (setL (wordL L row k) [(row.getD k 0, row.getD k 0)]) ov e sn DS) :
    (∃ u, W2.cell? ⟨w.heap.size, k, none⟩ = some u) ∧ W2.frozen? ⟨w.heap.size, k, none⟩ = false ∧ WSt av w B pb mb sb L ov e sn DS row (k + 1) (W2.setCell ⟨w.heap.size, k, none⟩ (.int .i64 (wordX L row k))) := by
  have ho := own_fr h.own hf
  have hl : k < (intV (wordRow L row k)).length := by rw [intV_length, wordRow_len]; exact hk
  obtain ⟨cs, hcs⟩ := own_block3 ho
  obtain ⟨s1, s2⟩ := ho.stored k (.int .i64 (wordX L row k))
  rw [wordRow_set L row k hk] at s1
  have hfr := fr_t h.fr hf
  refine ⟨⟨_, own_cell ho rfl k hl⟩, frozen_block hcs k, ?_, s1, ?_⟩
  · rw [wordL_succ L row k hk]
    exact pool_row hp hcs (.inr rfl) _
  · exact ⟨hfr.os, hfr.tape, hfr.output, by simpa using hfr.size, fun j hj hs => (Below.heap_setCell W2 ⟨w.heap.size, k, none⟩ _ j (fun e => by simp only at e; omega)).trans (hfr.block j hj hs)⟩
def wordA (L : List Ab) (row : List Int) : List Ab × Int := catA (wordL L row row.length) (wordRow L row row.length)
set_option maxHeartbeats 4000000 in
set_option maxRecDepth 100000 in
theorem word_any (w : World) (B pb mb sb : Nat) (L : List Ab) (ov : Value) (e : Int) (sn : Nat) (DS : DataW Unit) (hP : Pool av w B pb mb sb L ov e sn DS) (h2 : 2 ≤ L.length) (a : Option Addr) (c : Nat) (row : List Int) (hl : row.length ≤ 1048576) (hcap : (L.length + row.length) * (row.length + 1) < 1500000000000) (hrr : IRow w a row) (hrh : ∀ x, a = some x → Stay B mb sb w x.block) (hav : ∀ k, av k → k < w.heap.size) :
    Calls Tryz.prog 18 #[.pointer (some ⟨pb, 0, none⟩), .slice a row.length c] w fun e' w' => e' = .returned (.int .i64 (wordA L row).2) ∧ Pool av w' B pb mb sb (wordA L row).1 ov e sn DS ∧ Fr B mb sb w w' := by
  obtain ⟨i0, hi, hz0, hz1, hz2⟩ := info_parts hint
  have hmk := run_makeSlice (P := Tryz.prog) w 63 3 i0 _ Tryz.underlying63 hi hz0 .i64 .i64 (row.length : Int) (row.length : Int) (by omega) (Int.le_refl _) (by rw [hz1]; simp; omega) (by rw [hz2]; simp; omega) (by omega)
  rw [Int.toNat_natCast, hz1, Nat.mul_one] at hmk
  have hlts := pool_mb_lt hP
  have hb0 : Below w.heap.size w (w.alloc (.cells (madeCells (Value.int .i64 0).cells row.length) 3)) := (Below.refl _ _).alloc (Nat.le_refl _) _
  have hW0 : WSt av w B pb mb sb L ov e sn DS row 0 (w.alloc (.cells (madeCells (Value.int .i64 0).cells row.length) 3)) := by
    refine ⟨pool_below (pool_av0 hP (fun k hk ha => by rcases ha with ha | ha; exact ha; omega)) hb0, ?_, fr_below hb0⟩
    have h1 := World.ownsRow_lit (e := 3) (size := 1) (base := w.heap.size) w (madeCells (Value.int .i64 0).cells row.length) row.length (Nat.le_refl _) (by unfold maxLen; omega) (by rw [size_madeCells, Nat.mul_one])
    have h3 : (madeCells (Value.int .i64 0).cells row.length).toList = intV (wordRow L row 0) := by
      rw [show (Value.int .i64 0).cells = #[.int .i64 0] from rfl, toList_madeCells_one]
      unfold intV wordRow
      rw [List.map_map]
      refine List.ext_getElem? fun i => ?_
      by_cases hi : i < row.length
      · rw [List.getElem?_map, List.getElem?_range hi, List.getElem?_replicate, if_pos hi]
        simp
      · rw [List.getElem?_eq_none (by simpa using hi), List.getElem?_eq_none (by simpa using hi)]
    rw [h3] at h1
    exact h1
  have hb : Hid (∀ W, Fr B mb sb w W → IRow W a row) := hide (fun W hf => by
    rcases hrr with h | ⟨g, off, rfl, hlt, hcs⟩
    · exact .inl h
    · have hb := hf.block g hlt (hrh _ rfl)
      exact .inr ⟨g, off, rfl, Nat.lt_of_lt_of_le hlt hf.size, fun j hj => (World.cell?_of_block (a := ⟨g, off + j, none⟩) hb).trans (hcs j hj)⟩)
  have HW0 := hide hW0
  clear hW0 hb0 hP hrr hrh
  go_enter Tryz.func18, Tryz.ntmps18
  go_wp2
  go_loopw [13] (fun iv wr => ∃ k : Nat, iv = .int .i64 k ∧ k ≤ row.length ∧ WSt av w B pb mb sb L ov e sn DS row k wr) (fun iv _ => row.length - (intOf iv).toNat)
  case atStart => exact ⟨0, rfl, Nat.zero_le _, unhide HW0⟩
  case round =>
    obtain ⟨k, rfl, hk, hst⟩ := hrel
    clear HW0 hmk
    have hwl := wordL_len L row k hk
    have hmul : row.length * 1 ≤ (L.length + row.length) * (row.length + 1) := Nat.mul_le_mul (by omega) (by omega)
    have hmul2 : (L.length + row.length) * 1 ≤ (L.length + row.length) * (row.length + 1) := Nat.mul_le_mul (Nat.le_refl _) (by omega)
    have hsz := hst.fr.size
    by_cases hlt : k < row.length
    · have hlt' : (k : Int) < row.length := by omega
      rcases unhide hb wr hst.fr with h | ⟨g, off, rfl, hgl, hcs⟩
      · rw [h] at hlt; simp at hlt
      have c0 := hcs k hlt
      have hkl : w.heap.size < wr.heap.size := by
        obtain ⟨cs, h⟩ := own_block3 hst.own
        exact lt_of_some h
      have hbr : Below wr.heap.size wr (wr.alloc (.cells #[.int .i32 (row.getD k 0), .int .i32 (row.getD k 0)] 45)) := (Below.refl _ _).alloc (Nat.le_refl _) _
      have hnb : (wr.alloc (.cells #[.int .i32 (row.getD k 0), .int .i32 (row.getD k 0)] 45)).heap[wr.heap.size]? = some (.cells #[.int .i32 (row.getD k 0), .int .i32 (row.getD k 0)] 45 (0, 0)) := (MapKept.heap_alloc wr _).1
      have HS := hide (set_any _ B pb mb sb (wordL L row k) ov e sn DS (pool_below hst.pool hbr) (by have := hbr.size; omega) (some ⟨wr.heap.size, 0, none⟩) 1 [(row.getD k 0, row.getD k 0)] (by simp) (.inr ⟨wr.heap.size, 0, rfl, lt_of_some hnb, fun j hj => by
          obtain rfl : j = 0 := by simp at hj; omega
          exact ⟨cell_block hnb 0 _ rfl, cell_block hnb 1 _ rfl⟩⟩) (fun y hy => by
          cases hy
          exact ⟨lt_of_some hnb, .inr ⟨_, 45, _, hnb, .inr rfl⟩, fun ha => by
            rcases ha with ha | ha
            · have := hav _ ha; simp only at this; omega
            · simp only at ha; omega⟩) (by omega))
      have HST := hide (fun W2 hf hp => wst_step (W2 := W2) hlt hst (fr_t (fr_below hbr) hf) hp)
      have hwx : (setX (wordL L row k) [(row.getD k 0, row.getD k 0)] : Int) = wordX L row k := rfl
      rw [hwx] at HS
      have hst' := hst.own.1
      clear hcs hst hbr hnb hwx
      generalize row.getD k 0 = y at *
      generalize wordX L row k = xx at *
      go_wp2_with fail
      refine (unhide HS).mono ?_
      rintro e2 W2 ⟨rfl, hp2, hf2⟩
      obtain ⟨⟨u, d0⟩, f0, hst2⟩ := unhide HST W2 hf2 hp2
      have Hst2 := hide hst2
      clear hst2 hp2 hf2 HS HST
      go_wp2
      go_roundw
      case rel => exact ⟨k + 1, by go_num, by omega, unhide Hst2⟩
      case measure => simp [intOf]; omega
    · obtain rfl : k = row.length := by omega
      have hlt' : ¬ ((row.length : Int) < row.length) := by omega
      have hL2 := wordRow_len L row row.length
      have hcap2 : (wordL L row row.length).length * (row.length + 1) < 1500000000000 := Nat.lt_of_le_of_lt (Nat.mul_le_mul_right _ hwl.2) hcap
      have HC := hide (cat_any wr B pb mb sb (wordL L row row.length) ov e sn DS hst.pool (by omega) (some ⟨w.heap.size, 0, none⟩) row.length (wordRow L row row.length) (by omega) (by rw [hL2]; exact hcap2) (wordRow_mem (by omega)) (nrow_own hst.own hL2.symm) (held_own hst.own (fun _ _ h => h)) (fun j hj => by
        rcases hj with hj | hj
        · have := hav _ hj; omega
        · obtain ⟨cs, h⟩ := own_block3 hst.own
          have := lt_of_some h
          omega))
      rw [hL2] at HC
      have Hfr := hide hst.fr
      clear hst
      go_wp2_with fail
      refine (unhide HC).mono ?_
      rintro e2 W2 ⟨rfl, hp2, hf2⟩
      have Hp2 := hide (pool_av0 hp2 (av' := av) (fun _ _ ha => .inl ha)); have Hf2 := hide (fr_t (unhide Hfr) hf2)
      clear hp2 hf2
      go_wp2
      go_ret
      exact ⟨rfl, unhide Hp2, unhide Hf2⟩
end Go.Proofs.YtkimhfajfbcdmaaGreatDoor

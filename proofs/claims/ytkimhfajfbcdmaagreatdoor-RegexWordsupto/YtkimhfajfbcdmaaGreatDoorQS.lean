/- Pools: the steps that are known: a map with pairs for keys. (and what it leads to) -/
import Derived.Test.YtkimhfajfbcdmaaGreatDoorQR
import Derived.DeepKeys4
import Derived.Test.YtkimhfajfbcdmaaGreatDoorQF
/- Pools: the steps that are known: a map with pairs for keys. -/
namespace Go.Proofs.YtkimhfajfbcdmaaGreatDoor
open Go.RowKit Go.Maps

theorem laidOutZ : laidOutB Tryz.prog = true := by kernel_rfl
theorem row102 : (102 : TypeId) < Tryz.prog.types.size := of_decide_eq_true (by kernel_rfl)
theorem wide102 : (match Tryz.prog.underlying 102 with | some (.array _ _) | some (.struct _) => true | _ => false) = true := by kernel_rfl
set_option maxRecDepth 100000 in
theorem law102 : Keyed Tryz.prog 102 := Keyed.of_law (deep_law_laid laidOutZ (m := 2) (by omega) row102 (by kernel_rfl) wide102)
def stV (x c : Int) : Value := .agg #[.int .i64 x, .int .i32 c]
def kS (x c : Int) : Lit := .string (keyBytes [.int .i64 x, .int .i32 c])
/-- The steps that are known. -/
def stepsD : List (Int × Int × Int) → DataW Unit → DataW Unit
  | [], D => D
  | (x, c, d) :: l, D => stepsD l (D.put (kS x c) (.lit (.int .i64 d)))
theorem stepsD_append (l : List (Int × Int × Int)) (x c d : Int) (D : DataW Unit) : stepsD (l ++ [(x, c, d)]) D = (stepsD l D).put (kS x c) (.lit (.int .i64 d)) := by
  induction l generalizing D with
  | nil => rfl
  | cons a l ih => obtain ⟨a1, a2, a3⟩ := a; exact ih _
abbrev stM (l : List (Int × Int × Int)) : DataW Unit := stepsD l (.map [])
theorem look102 {w : World} {sb sn : Nat} {D : DataW Unit} (h : w.ownsMap (H := Unit) Tryz.prog 102 (plainElem Tryz.prog 3) sb sn D) (x c : Int) (hk : keyOf Tryz.prog 102 (stV x c) = some (kS x c)) (hh : Maps.has D (kS x c) = false) :
    ∃ d, (Instr.lookup 57 (.map (some sb)) (.agg #[.int .i64 x, .int .i32 c]) true).run Tryz.prog w = .ok (.tuple #[.int .i64 d, .bool false]) w := by
  obtain ⟨v, ps, hrun, hv⟩ := h.look_ok law102 Tryz.underlying57 (zero3 _) (plainElem_int Tryz.underlying3 (by decide)) hk
  obtain ⟨c', rfl, hc, hwc⟩ := plainElem_int_inv Tryz.underlying3 hv
  rw [hh] at hrun
  exact ⟨_, hrun⟩
theorem upd102 {av : Nat → Prop} {w : World} {B pb mb sb sn : Nat} {L : List Ab} {ov : Value} {e : Int} {D : DataW Unit} (h : Pool av w B pb mb sb L ov e sn D) (hn : sn < maxLen) (x c d : Int) (hk : keyOf Tryz.prog 102 (stV x c) = some (kS x c)) (hd : (Lit.int .i64 d).wf = true) :
    ∃ w', (Instr.mapUpdate 57 (.map (some sb)) (.agg #[.int .i64 x, .int .i32 c]) (.int .i64 d)).run Tryz.prog w = .ok () w' ∧ Pool av w' B pb mb sb L ov e (sn + 1) (D.put (kS x c) (.lit (.int .i64 d))) ∧ Fr B mb sb w w' := by
  obtain ⟨w', hrun, hm, hg⟩ := h.steps.update law102 Tryz.underlying57 hn hk (plainElem_int Tryz.underlying3 hd : plainElem (H := Unit) Tryz.prog 3 (.int .i64 d) = _)
  obtain ⟨l, g, nc, kv, kl, D', hin⟩ := h.lies
  have ho : Off (fun k => k = sb) w w' := off_grown (off_refl _ _) ⟨hg.os, hg.tape, hg.output, hg.size, hg.block⟩ (fun k hk => by cases hk; exact .inl rfl)
  have hns : ∀ k, k < w.heap.size → k = sb → ¬ Stay B mb sb w k := by
    rintro k - rfl
    obtain ⟨es, c', hb, -⟩ := h.steps
    have hbs := h.bs
    rintro (h1 | ⟨cs', t', f', h1, -⟩ | ⟨o, h1, hc, -, h2⟩)
    · omega
    · rw [hb] at h1; cases h1
    · exact h2 rfl
  exact ⟨w', hrun, ⟨h.bp, h.bm, h.bs, h.ne, h.wf, hm, l, g, nc, kv, kl, D', poolIn_off hin ho (fun e => map_not hin.blk h.steps e.symm) (fun e => row_map hin.nodes h.steps (by rw [← e]; rfl)) (fun k hk e => row_map hin.key h.steps (e ▸ hk)) h.ne hns⟩, fr_off ho hns⟩
end Go.Proofs.YtkimhfajfbcdmaaGreatDoor

/- Pools: derive of a set. -/
namespace Go.Proofs.YtkimhfajfbcdmaaGreatDoor
open Go.RowKit Go.Maps

abbrev Stp := List (Int × Int × Int)
/-- derive goes from state to state. -/
def DrC (B pb mb sb : Nat) (M M' : Stp) (L L' : List Ab) (x : Nat) (c : Int) (d : Nat) : Prop :=
  ∀ (av : Nat → Prop) (w : World), (∀ k, av k → B ≤ k ∧ k < w.heap.size) → B ≤ w.heap.size → Pool av w B pb mb sb L cmpC 0 M.length (stM M) →
    Calls Tryz.prog 38 #[.pointer (some ⟨pb, 0, none⟩), .int .i64 x, .int .i32 c] w fun e w' => e = .returned (.int .i64 d) ∧ Pool av w' B pb mb sb L' cmpC 0 M'.length (stM M') ∧ Fr B mb sb w w'
theorem pool_steps {av : Nat → Prop} {w : World} {B pb mb sb : Nat} {L : List Ab} {ov : Value} {e : Int} {M : Stp} {x c d : Int} (h : Pool av w B pb mb sb L ov e (M.length + 1) ((stM M).put (kS x c) (.lit (.int .i64 d)))) : Pool av w B pb mb sb L ov e (M.length + 1) (stM (M ++ [(x, c, d)])) := by
  rw [stM, stepsD_append]
  exact h

section
variable {B pb mb sb : Nat} {M : Stp} {L : List Ab} {x : Nat} {c : Int}
set_option maxHeartbeats 1000000 in
set_option maxRecDepth 100000 in
theorem derive_2 (hx : x < L.length) (hM : M.length < 1000) (hk : keyOf Tryz.prog 102 (stV x c) = some (kS x c)) (hh : Maps.has (stM M) (kS x c) = false) (hkind : (L.getD x ab0).kind = 2) (b : Bool) (hb : hasB (L.getD x ab0).set c = b) :
    DrC B pb mb sb M (M ++ [((x : Int), c, ((if b then 1 else 0 : Nat) : Int))]) L L x c (if b then 1 else 0) := by
  intro av w hav hB hP
  obtain ⟨g, nc, p0, hn⟩ := pool_node hP
  obtain ⟨d, hd, hN⟩ := hn x hx
  have r0 := hN.c0
  have r1 := hN.c1
  have r2 := hN.c2
  have r3 := hN.c3
  have r4 := hN.c4
  have r5 := hN.c5
  rw [← hd] at hkind hb
  have hkd : d.kind = 2 := hkind
  rw [hkd] at r0
  have hxi : (x : Int) < L.length := by omega
  obtain ⟨v0, v2, hbl⟩ := pool_pb hP
  have p3 := cell_block hbl 3 _ rfl
  obtain ⟨zd, hlk⟩ := look102 hP.steps x c hk hh
  have hb0 : Below w.heap.size w (w.alloc (.cells #[.int .i64 2, .slice d.sa d.set.length d.sc, .slice d.ka d.kids.length d.kc, .int .i64 d.parts, .int .i64 d.levels, .bool d.nul] 65)) := (Below.refl _ _).alloc (Nat.le_refl _) _
  have hm : L.getD x ab0 ∈ L := by rw [List.getD_eq_getElem?_getD, List.getElem?_eq_getElem hx]; exact List.getElem_mem _
  have hsh := (hP.wf.short _ hm).1
  rw [← hd] at hsh
  have hsl : d.set.length ≤ 281474976710656 := Nat.le_trans hsh (by decide)
  have HHas := hide (has_any d.sa d.sc d.set hsl c _ (rowAt_below (show RowAt w d.sa d.set from hN.sr) (Nat.le_refl _) hb0))
  have HP := hide hP; have Hb := hide hb; have Hb0 := hide hb0; have Hk := hide hk
  clear hn hN hd hkind hkd hbl hb hP hb0 hm hsh hsl hk hh
  go_enter Tryz.func38, Tryz.ntmps38
  go_wp2_with fail
  refine (unhide HHas).mono ?_
  rintro e1 w1 ⟨rfl, hb1⟩
  rw [show hasB d.set c = b from unhide Hb]
  have hbw : Below w.heap.size w w1 := (unhide Hb0).trans (hb1.mono (by simp))
  have hp1 := pool_below (unhide HP) hbw
  obtain ⟨v0', v2', hbl⟩ := pool_pb hp1
  have p3' := cell_block hbl 3 _ rfl
  have Hbw := hide hbw; have Hp1 := hide hp1
  clear hlk r0 r1 r2 r3 r4 r5 p0 p3 HP Hb Hb0 HHas hb1 hbw hp1 hbl
  cases b
  · obtain ⟨w2, hrun, hp2, hf2⟩ := upd102 (unhide Hp1) (Nat.lt_trans hM (by decide)) x c 0 (unhide Hk) (by decide)
    have Hp2 := hide hp2; have Hf2 := hide hf2
    clear hp2 hf2
    go_wp2
    go_ret
    exact ⟨rfl, pool_steps (unhide Hp2), fr_t (fr_below (unhide Hbw)) (unhide Hf2)⟩
  · obtain ⟨w2, hrun, hp2, hf2⟩ := upd102 (unhide Hp1) (Nat.lt_trans hM (by decide)) x c 1 (unhide Hk) (by decide)
    have Hp2 := hide hp2; have Hf2 := hide hf2
    clear hp2 hf2
    go_wp2
    go_ret
    exact ⟨rfl, pool_steps (unhide Hp2), fr_t (fr_below (unhide Hbw)) (unhide Hf2)⟩
end
end Go.Proofs.YtkimhfajfbcdmaaGreatDoor

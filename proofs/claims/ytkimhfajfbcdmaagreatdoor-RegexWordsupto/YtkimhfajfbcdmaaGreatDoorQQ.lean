/- The reader: all, where nothing is wrong. (and what it leads to) -/
import Derived.Test.YtkimhfajfbcdmaaGreatDoorID
import Derived.Laws.Pointers
import Derived.Test.YtkimhfajfbcdmaaGreatDoorGF
import Derived.Test.YtkimhfajfbcdmaaGreatDoorGS
import Derived.Test.YtkimhfajfbcdmaaGreatDoorQE
/- The reader: all, where nothing is wrong. -/
namespace Go.Proofs.YtkimhfajfbcdmaaGreatDoor
open Go.RowKit Go.Maps

set_option maxHeartbeats 1000000 in
theorem catch_idle (p : Addr) (w : World) :
    CallsD Tryz.prog 54 #[.pointer (some p)] .returning w fun e u' w' => e = .returned (.tuple #[]) ∧ u' = .returning ∧ w' = w := by
  refine callsD_of_wpS Tryz.func54 rfl fun c₀ cs hu => ?_
  apply wpS_seq
  apply wpS_region
  simp [wpOpsS, go_sem, recoverD, hu, Tryz.ntmps54, Exit.thenS]
  apply wpS_seq
  apply wpS_region
  simp [wpOpsS, go_sem, Exit.thenS]
  refine wpS_cond (t := false) (by simp [Act.eval]) ?_
  simp only [Bool.false_eq_true, if_false]
  refine wpS_of_wp (wp_skip ?_)
  cases c₀
  simp_all [bodyPostS, results, Tryz.results54]
set_option maxHeartbeats 2000000 in
set_option maxRecDepth 100000 in
theorem all_ok {av : Nat → Prop} {B rb pb mb sb : Nat} {txt : ByteArray} {ov : Value} {sn : Nat} {DS : DataW Unit} {s s' : RSt} {x : Int} (h : RdC 55 B rb pb mb sb txt ov sn DS s s' x) (W : World) (hav : ∀ k, av k → k < W.heap.size) (hB : B ≤ W.heap.size) (hR : RP av W B rb pb mb sb txt s.at' s.nx s.op s.L ov s.e sn DS) :
    Calls Tryz.prog 35 #[.pointer (some ⟨rb, 0, none⟩)] W fun e w' => e = .returned (.tuple #[.int .i64 x, .agg #[.int .i64 0, .int .i64 0]]) ∧ RP av w' B rb pb mb sb txt s'.at' s'.nx s'.op s'.L ov s'.e sn DS ∧ RFr B mb sb rb W w' := by
  have hmf : ∀ (fn : Fn) (first cap : Array Value) (w : World), (Instr.makeFunc fn first cap).run Tryz.prog w = .ok (.func fn first cap) w := fun _ _ _ _ => rfl
  have HR := hide hR; have H := hide h
  clear hR h
  go_enter_defers Tryz.func35, Tryz.ntmps35
  go_wp2_with fail
  have hb0 : Below W.heap.size W (W.alloc (.cells #[.int .i64 0, .int .i64 0] 49)) := (Below.refl _ _).alloc (Nat.le_refl _) _
  have HP := hide (unhide H av (W.alloc (.cells #[.int .i64 0, .int .i64 0] 49)) (fun k hk => by have := hav k hk; simp; omega) (by simp; omega) (rp_below (unhide HR) hb0))
  refine (unhide HP).mono ?_
  rintro e1 w1 ⟨rfl, hr1, hf1⟩
  have hF := (hf1.block W.heap.size (by simp) (.inr (.inl ⟨_, 49, _, heap_new W _, by decide, by decide, by decide⟩)) (by have := rd_lt (unhide HR).rd; omega)).trans (heap_new W (.cells #[.int .i64 0, .int .i64 0] 49))
  have Hr1 := hide hr1; have Hf1 : Hid (RFr B mb sb rb W w1) := hide (rfr_t (rfr_below hb0) hf1)
  have d0 := cell_block hF 0 _ rfl
  have d1 := cell_block hF 1 _ rfl
  have f0 := frozen_block hF 0
  have f1 := frozen_block hF 1
  have s0 := set_self (v := .int .i64 0) hF (i := 0) rfl
  have s1 := set_self (v := .int .i64 0) hF (i := 1) rfl
  clear hr1 hf1 hF HP H HR hb0
  go_wp2
  refine leaves_cons (f := 54) (args := #[.pointer (some ⟨W.heap.size, 0, none⟩)]) (by simp) (by simp [go_sem]) ?_
  refine (catch_idle ⟨W.heap.size, 0, none⟩ _).mono ?_
  rintro e u' w'' ⟨rfl, rfl, rfl⟩
  refine ⟨.tuple #[.int .i64 x, .agg #[.int .i64 0, .int .i64 0]], ?_, rfl, unhide Hr1, unhide Hf1⟩
  simp [results, Tryz.results35, go_sem, d0, d1]
end Go.Proofs.YtkimhfajfbcdmaaGreatDoor

/- Parse of awake's text. -/
namespace Go.Proofs.YtkimhfajfbcdmaaGreatDoor
open Go.RowKit Go.Maps

set_option maxHeartbeats 2000000 in
set_option maxRecDepth 100000 in
theorem parse_awk (w : World) :
    Calls Tryz.prog 21 #[.string awk] w fun e w' => ∃ v0 v1 v2, e = .returned (.tuple #[.agg #[v0, v1, v2], .agg #[.int .i64 0, .int .i64 0]]) ∧ RxAt (fun k => w.heap.size ≤ k) w' (treeA A5 7) v0 v1 v2 ∧ Below w.heap.size w w' := by
  have h13 : awk.size = 13 := rfl
  have qe := eql49_0
  have qn := neq49_0
  have g49 := guard49
  go_enter Tryz.func21, Tryz.ntmps21
  go_wp2_with fail
  refine (newReader_any ((w.alloc (.cells #[.int .i64 0, .slice none 0 0, .slice none 0 0] 26)).alloc (.cells #[.int .i64 0, .int .i64 0] 49)) awk 0).mono ?_
  rintro e w1 ⟨rb, pb, mb, sb, rfl, hrb, hrd, hpool, hb1⟩
  have hs2 : ((w.alloc (.cells #[.int .i64 0, .slice none 0 0, .slice none 0 0] 26)).alloc (.cells #[.int .i64 0, .int .i64 0] 49)).heap.size = w.heap.size + 2 := by simp
  have hT2 : ((w.alloc (.cells #[.int .i64 0, .slice none 0 0, .slice none 0 0] 26)).alloc (.cells #[.int .i64 0, .int .i64 0] 49)).heap[w.heap.size]? = some (.cells #[.int .i64 0, .slice none 0 0, .slice none 0 0] 26 (0, 0)) := (Below.heap_alloc _ _ _ (by simp)).trans (heap_new w _)
  have hF2 : ((w.alloc (.cells #[.int .i64 0, .slice none 0 0, .slice none 0 0] 26)).alloc (.cells #[.int .i64 0, .int .i64 0] 49)).heap[w.heap.size + 1]? = some (.cells #[.int .i64 0, .int .i64 0] 49 (0, 0)) := by
    have := heap_new (w.alloc (.cells #[.int .i64 0, .slice none 0 0, .slice none 0 0] 26)) (.cells #[.int .i64 0, .int .i64 0] 49)
    rwa [show (w.alloc (.cells #[.int .i64 0, .slice none 0 0, .slice none 0 0] 26)).heap.size = w.heap.size + 1 by simp] at this
  have hB2 : Below w.heap.size w ((w.alloc (.cells #[.int .i64 0, .slice none 0 0, .slice none 0 0] 26)).alloc (.cells #[.int .i64 0, .int .i64 0] 49)) := ((Below.refl _ _).alloc (Nat.le_refl _) _).alloc (by simp) _
  rw [hs2] at hrb hpool hb1
  have hT1 := (hb1.block w.heap.size (by omega)).trans hT2
  have hF1 := (hb1.block (w.heap.size + 1) (by omega)).trans hF2
  have hB1 : Below w.heap.size w w1 := hB2.trans (hb1.mono (by omega))
  have hw1 : w.heap.size + 2 ≤ w1.heap.size := by have := hb1.size; omega
  clear hs2 hT2 hF2 hB2 hb1
  have hrp1 : RP (fun _ => False) w1 (w.heap.size + 2) rb pb mb sb awk ((0 : Nat) : Int) ((0 : Nat) : Int) ((0 : Nat) : Int) base3 (cmpV pb) 0 0 (.map []) := ⟨hrd, hpool, hrb⟩
  have HA := hide (all_ok (s := ⟨0, 0, 0, base3, 0⟩) (s' := ⟨13, 13, 0, A5, 0⟩) r13 w1 (fun k hk => hk.elim) hw1 hrp1)
  have HT1 := hide hT1; have HF1 := hide hF1; have HB1 := hide hB1
  clear hrd hpool hrp1 hT1 hF1 hB1
  go_wp2_with fail
  refine (unhide HA).mono ?_
  rintro e w3 ⟨rfl, hrp3, hf3⟩
  have hb3 : Below (w.heap.size + 2) w1 w3 := rfr_base hf3 hrb hw1
  have hT3 := (hb3.block w.heap.size (by omega)).trans (unhide HT1)
  have hF3 := (hb3.block (w.heap.size + 1) (by omega)).trans (unhide HF1)
  have hB3 := (unhide HB1).trans (hb3.mono (by omega))
  have hw3 := hb3.size
  have hrp4 := rp_below hrp3 (w' := w3.alloc (.cells #[.int .i64 0, .int .i64 0] 49)) ((Below.refl _ _).alloc (Nat.le_refl _) _)
  have ca := cell_block hrp4.rd 1 _ rfl
  have c4 := cell_block hrp4.rd 4 _ rfl
  have HT4 := hide ((Below.heap_alloc w3 (.cells #[.int .i64 0, .int .i64 0] 49) w.heap.size (lt_of_some hT3)).trans hT3)
  have HF4 := hide ((Below.heap_alloc w3 (.cells #[.int .i64 0, .int .i64 0] 49) (w.heap.size + 1) (lt_of_some hF3)).trans hF3)
  have HB4 := hide (hB3.alloc hB3.size (.cells #[.int .i64 0, .int .i64 0] 49))
  have HAn := hide (answer_any (w3.alloc (.cells #[.int .i64 0, .int .i64 0] 49)) (w.heap.size + 2) pb mb sb A5 (cmpV pb) 0 0 (.map []) hrp4.pool (by decide) (by decide) 7 (by decide) (fun k hk => hk.elim))
  have hw4 : w.heap.size + 2 ≤ w3.heap.size := by omega
  clear hrp3 hf3 hb3 hT3 hF3 hB3 hrp4 HA HT1 HF1 HB1
  go_wp2_with fail
  refine (unhide HAn).mono ?_
  rintro e w5 ⟨v0, v1, v2, rfl, hb5, hx⟩
  rw [show heldE A5 0 7 = 0 by kernel_rfl] at hx ⊢
  rw [if_pos rfl, show heldX A5 7 = 7 by kernel_rfl] at hx
  obtain ⟨k, sa, n, sc, ka, m, kc, rfl, rfl, rfl⟩ := rxAt_form hx
  have hw5 := hb5.size
  have hs4 : (w3.alloc (.cells #[.int .i64 0, .int .i64 0] 49)).heap.size = w3.heap.size + 1 := by simp
  rw [hs4] at hw5 hx
  have hT5 := (hb5.block w.heap.size (by omega)).trans (unhide HT4)
  have hF5 := (hb5.block (w.heap.size + 1) (by omega)).trans (unhide HF4)
  have hB5 := (unhide HB4).trans (hb5.mono (by omega))
  have HX := hide hx; have HB5 := hide hB5; have HT5 := hide hT5; have HF5 := hide hF5
  clear hb5 hx hT5 hF5 hB5 HAn HT4 HF4 HB4 ca c4
  go_upto_region 8 with fail
  have hT6 := (Below.heap_alloc w5 (.cells #[.int .i64 k, .slice sa n sc, .slice ka m kc] 26) w.heap.size (lt_of_some (unhide HT5))).trans (unhide HT5)
  have hF6 := (Below.heap_alloc w5 (.cells #[.int .i64 k, .slice sa n sc, .slice ka m kc] 26) (w.heap.size + 1) (lt_of_some (unhide HF5))).trans (unhide HF5)
  have HB6 := hide ((unhide HB5).alloc (unhide HB5).size (.cells #[.int .i64 k, .slice sa n sc, .slice ka m kc] 26))
  have t0 := cell_block hT6 0 _ rfl
  have t1 := cell_block hT6 1 _ rfl
  have t2 := cell_block hT6 2 _ rfl
  have g0 := frozen_block hT6 0
  have g1 := frozen_block hT6 1
  have g2 := frozen_block hT6 2
  have d0 := cell_block hF6 0 _ rfl
  have d1 := cell_block hF6 1 _ rfl
  have f0 := frozen_block hF6 0
  have f1 := frozen_block hF6 1
  have hl5 := lt_of_some (unhide HF5)
  have n0 := cell_block (heap_new w5 (.cells #[.int .i64 k, .slice sa n sc, .slice ka m kc] 26)) 0 _ rfl
  have n1 := cell_block (heap_new w5 (.cells #[.int .i64 k, .slice sa n sc, .slice ka m kc] 26)) 1 _ rfl
  have n2 := cell_block (heap_new w5 (.cells #[.int .i64 k, .slice sa n sc, .slice ka m kc] 26)) 2 _ rfl
  have HK : Hid (∀ q, w3.heap.size + 1 ≤ q → q < w5.heap.size → (w5.alloc (.cells #[.int .i64 k, .slice sa n sc, .slice ka m kc] 26)).heap[q]? = w5.heap[q]?) := hide (fun q _ hq => Below.heap_alloc w5 _ q hq)
  have hs6 : w5.heap.size ≤ (w5.alloc (.cells #[.int .i64 k, .slice sa n sc, .slice ka m kc] 26)).heap.size := by simp
  clear hT6 hF6 HT5 HF5 HB5
  generalize w5.alloc (.cells #[.int .i64 k, .slice sa n sc, .slice ka m kc] 26) = W6 at *
  go_wp2
  refine bodyPost_ret (v := .tuple #[.agg #[.int .i64 k, .slice sa n sc, .slice ka m kc], .agg #[.int .i64 0, .int .i64 0]]) (by simp [results, Tryz.results21, go_sem, t0, t1, t2, d0, d1]) rfl ?_
  have hset : ∀ (V : World) (b o : Nat) (u : Value) (q : Nat), b < q → (V.setCell ⟨b, o, none⟩ u).heap[q]? = V.heap[q]? := fun V b o u q hq => Below.heap_setCell V ⟨b, o, none⟩ u q (by show q ≠ b; omega)
  refine ⟨_, _, _, rfl, rxAt_kept (by simp; omega) (fun q h1 h2 => ?_) (fun q h1 _ => by show w.heap.size ≤ q; have : w3.heap.size + 1 ≤ q := h1; omega) _ _ _ _ (unhide HX), ?_⟩
  · have h1' : w3.heap.size + 1 ≤ q := h1
    rw [hset _ _ _ _ q (by omega), hset _ _ _ _ q (by omega), hset _ _ _ _ q (by omega), hset _ _ _ _ q (by omega), hset _ _ _ _ q (by omega)]
    exact unhide HK q h1' h2
  · exact (((((unhide HB6).setCell (p := ⟨w.heap.size, 0, none⟩) (Nat.le_refl _) _).setCell (p := ⟨w.heap.size, 1, none⟩) (Nat.le_refl _) _).setCell (p := ⟨w.heap.size, 2, none⟩) (Nat.le_refl _) _).setCell (p := ⟨w.heap.size + 1, 0, none⟩) (Nat.le_succ _) _).setCell (p := ⟨w.heap.size + 1, 1, none⟩) (Nat.le_succ _) _
end Go.Proofs.YtkimhfajfbcdmaaGreatDoor

/- Pools: load, what is under way. -/
namespace Go.Proofs.YtkimhfajfbcdmaaGreatDoor
open Go.RowKit Go.Maps

/-- An expression that lies below the pool is loaded, and is right: the pool's nodes turn from L to L', its number is x. -/
def LdC (B pb mb sb sn : Nat) (DS : DataW Unit) (t : Rx) (L L' : List Ab) (x : Nat) : Prop :=
  ∀ (av : Nat → Prop) W v0 v1 v2, (∀ k, av k → B ≤ k ∧ k < W.heap.size) → B ≤ W.heap.size → Pool av W B pb mb sb L (cmpV pb) 0 sn DS → RxAt (fun q => q < B) W t v0 v1 v2 →
    Calls Tryz.prog 57 #[.pointer (some ⟨pb, 0, none⟩), .agg #[v0, v1, v2]] W fun e1 w1 => e1 = .returned (.tuple #[.int .i64 x, .bool true]) ∧ Pool av w1 B pb mb sb L' (cmpV pb) 0 sn DS ∧ Fr B mb sb W w1
/-- A row of them, one after another. -/
def LdKs (B pb mb sb sn : Nat) (DS : DataW Unit) : List Rx → List Ab → List Ab → List Nat → Prop
  | [], L, L', xs => L' = L ∧ xs = []
  | t :: ts, L, L', xs => ∃ L1 x xr, LdC B pb mb sb sn DS t L L1 x ∧ LdKs B pb mb sb sn DS ts L1 L' xr ∧ xs = x :: xr
theorem ldKs_len {B pb mb sb sn : Nat} {DS : DataW Unit} : ∀ (ts : List Rx) (L L' : List Ab) (xs : List Nat), LdKs B pb mb sb sn DS ts L L' xs → xs.length = ts.length
  | [], _, _, xs, h => by rw [h.2]; rfl
  | _ :: ts, L, L', xs, h => by
    obtain ⟨L1, x, xr, -, h2, rfl⟩ := h
    simp [ldKs_len ts L1 L' xr h2]
/-- The kids' numbers, as far as i. -/
def kRow (xs : List Nat) (n i : Nat) : List Int := (List.range n).map fun j => if j < i then ((xs.getD j 0 : Nat) : Int) else 0
theorem kRow_len (xs : List Nat) (n i : Nat) : (kRow xs n i).length = n := by simp [kRow]
theorem kRow_all (xs : List Nat) : kRow xs xs.length xs.length = xs.map (fun n : Nat => (n : Int)) := by
  refine List.ext_getElem? fun i => ?_
  unfold kRow
  by_cases hi : i < xs.length
  · rw [List.getElem?_map, List.getElem?_range hi, List.getElem?_map, List.getElem?_eq_getElem hi]
    simp [hi]
  · rw [List.getElem?_eq_none (by simpa using hi), List.getElem?_eq_none (by simpa using hi)]
theorem kRow_set (xs : List Nat) (n i x : Nat) (hi : i < n) (hx : xs.getD i 0 = x) : (intV (kRow xs n i)).set i (.int .i64 (x : Int)) = intV (kRow xs n (i + 1)) := by
  unfold intV
  rw [← List.map_set]
  congr 1
  refine List.ext_getElem? fun j => ?_
  rw [List.getElem?_set]
  unfold kRow
  by_cases hj : j < n
  · rw [List.getElem?_map, List.getElem?_map, List.getElem?_range hj]
    simp only [Option.map_some, List.length_map, List.length_range]
    by_cases he : i = j
    · subst he
      rw [if_pos rfl, if_pos hi, if_pos (Nat.lt_succ_self _), hx]
    · rw [if_neg he]
      congr 1
      by_cases h1 : j < i
      · simp [h1, show j < i + 1 by omega]
      · simp [h1, show ¬ j < i + 1 by omega]
  · rw [List.getElem?_eq_none (by simpa using hj), List.getElem?_eq_none (by simpa using hj)]
    simp only [List.length_map, List.length_range]
    split
    · omega
    · rfl
/-- Under way: i kids are loaded. -/
structure LSt (av : Nat → Prop) (W : World) (B pb mb sb sn : Nat) (DS : DataW Unit) (xs : List Nat) (n i : Nat) (Li : List Ab) (R : Array Value) (wr : World) : Prop where
  pool : Pool (fun q => av q ∨ q = W.heap.size + 1) wr B pb mb sb Li (cmpV pb) 0 sn DS
  own : wr.ownsRow (W.heap.size + 1) 3 1 (.slice (some ⟨W.heap.size + 1, 0, none⟩) n n) n (intV (kRow xs n i))
  fr : Fr B mb sb W wr
  box : wr.heap[W.heap.size]? = some (.cells R 26 (0, 0))
theorem lst_fr {av : Nat → Prop} {W : World} {B pb mb sb sn : Nat} {DS : DataW Unit} {xs : List Nat} {n i : Nat} {Li L' : List Ab} {R : Array Value} {wr W2 : World} (h : LSt av W B pb mb sb sn DS xs n i Li R wr) (hf : Fr B mb sb wr W2) (hp : Pool (fun q => av q ∨ q = W.heap.size + 1) W2 B pb mb sb L' (cmpV pb) 0 sn DS) : LSt av W B pb mb sb sn DS xs n i L' R W2 :=
  ⟨hp, own_fr h.own hf, fr_t h.fr hf, (hf.block _ (lt_of_some h.box) (.inr (.inl ⟨_, 26, _, h.box, by decide, by decide, by decide⟩))).trans h.box⟩
theorem lst_step {av : Nat → Prop} {W : World} {B pb mb sb sn : Nat} {DS : DataW Unit} {xs : List Nat} {n i x : Nat} {Li : List Ab} {R : Array Value} {wr : World} (hi : i < n) (hx : xs.getD i 0 = x) (h : LSt av W B pb mb sb sn DS xs n i Li R wr) :
    (∃ u, wr.cell? ⟨W.heap.size + 1, i, none⟩ = some u) ∧ wr.frozen? ⟨W.heap.size + 1, i, none⟩ = false ∧ LSt av W B pb mb sb sn DS xs n (i + 1) Li R (wr.setCell ⟨W.heap.size + 1, i, none⟩ (.int .i64 (x : Int))) := by
  have hl : i < (intV (kRow xs n i)).length := by rw [intV_length, kRow_len]; exact hi
  obtain ⟨cs, hcs⟩ := own_block3 h.own
  obtain ⟨s1, s2⟩ := h.own.stored i (.int .i64 (x : Int))
  rw [kRow_set xs n i x hi hx] at s1
  refine ⟨⟨_, own_cell h.own rfl i hl⟩, frozen_block hcs i, pool_row h.pool hcs (.inr rfl) _, s1, ?_, ?_⟩
  · exact ⟨h.fr.os, h.fr.tape, h.fr.output, by simpa using h.fr.size, fun j hj hs => (Below.heap_setCell wr ⟨W.heap.size + 1, i, none⟩ _ j (fun e => by simp only at e; omega)).trans (h.fr.block j hj hs)⟩
  · exact (Below.heap_setCell wr ⟨W.heap.size + 1, i, none⟩ _ _ (by show W.heap.size ≠ W.heap.size + 1; omega)).trans h.box
theorem lst_below {av : Nat → Prop} {W : World} {B pb mb sb sn : Nat} {DS : DataW Unit} {xs : List Nat} {n i : Nat} {Li : List Ab} {R : Array Value} {wr W2 : World} (h : LSt av W B pb mb sb sn DS xs n i Li R wr) (hb : Below wr.heap.size wr W2) : LSt av W B pb mb sb sn DS xs n i Li R W2 := lst_fr h (fr_below hb) (pool_below h.pool hb)
theorem lst_zero {av : Nat → Prop} {W : World} {B pb mb sb sn : Nat} {DS : DataW Unit} (xs : List Nat) {n : Nat} {L : List Ab} (R : Array Value) (hn : n ≤ 4096) (hP : Pool av W B pb mb sb L (cmpV pb) 0 sn DS) : LSt av W B pb mb sb sn DS xs n 0 L R ((W.alloc (.cells R 26)).alloc (.cells (madeCells (Value.int .i64 0).cells n) 3)) := by
  have hb0 : Below W.heap.size W ((W.alloc (.cells R 26)).alloc (.cells (madeCells (Value.int .i64 0).cells n) 3)) := ((Below.refl _ _).alloc (Nat.le_refl _) _).alloc (by simp) _
  have hs : (W.alloc (.cells R 26)).heap.size = W.heap.size + 1 := by simp
  refine ⟨pool_below (pool_av0 hP (fun k hk ha => by rcases ha with ha | ha; exact ha; omega)) hb0, ?_, fr_below hb0, (Below.heap_alloc _ _ _ (by simp)).trans (heap_new W _)⟩
  have h1 := World.ownsRow_lit (e := 3) (size := 1) (base := W.heap.size + 1) (W.alloc (.cells R 26)) (madeCells (Value.int .i64 0).cells n) n (by simp) (by unfold maxLen; omega) (by rw [size_madeCells, Nat.mul_one])
  have h3 : (madeCells (Value.int .i64 0).cells n).toList = intV (kRow xs n 0) := by
    rw [show (Value.int .i64 0).cells = #[.int .i64 0] from rfl, toList_madeCells_one]
    unfold intV kRow
    rw [List.map_map]
    refine List.ext_getElem? fun i => ?_
    by_cases hi : i < n
    · rw [List.getElem?_map, List.getElem?_range hi, List.getElem?_replicate, if_pos hi]
      simp
    · rw [List.getElem?_eq_none (by simpa using hi), List.getElem?_eq_none (by simpa using hi)]
  rw [h3, hs] at h1
  exact h1
end Go.Proofs.YtkimhfajfbcdmaaGreatDoor

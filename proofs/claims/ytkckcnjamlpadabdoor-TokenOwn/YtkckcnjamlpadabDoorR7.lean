/- Read. -/
import Derived.Test.YtkckcnjamlpadabDoorR5
import Derived.Test.YtkckcnjamlpadabDoorR6
namespace Go.Proofs.YtkckcnjamlpadabDoor
open Go.RowKit Go.Maps

theorem token_any (w0 : World) (R : Nat) (a : Option Addr) (cap : Nat) (ns : List (List UInt8)) (src : ByteArray) (hsrc : src.size ≤ 9223372036854775807) (r : Int) (mb : Nat) (line : List UInt8) (hl : line.length ≤ 281474976710656) (hk : kindsB ns = true) (hr : 0 ≤ r) (w : World)
    (hR : RdAt w R a ns.length cap src r mb) (hm : NumMap w mb ns) (hrow : SRow w0 a ns) (hE : Env w0) (hbw : Below w0.heap.size w0 w) (hBR : w0.heap.size ≤ R) :
    Calls Tryd.prog 31 #[.pointer (some ⟨R, 0, none⟩), .string (bs line)] w fun e w' => TokPost w R a ns.length cap src mb (isTok ns src r line) e w' := by
  by_cases hs : (splitL 3 line).length < 4
  · exact token_short R a cap ns src r mb line hl hk hr w hs
  · have := splitL_le 3 line
    obtain ⟨p0, p1, p2, p3, e⟩ := four_of (show (splitL 3 line).length = 4 by omega)
    exact token_four w0 R a cap ns src hsrc r mb line hl hk hr w hR hm hrow hE hbw hBR p0 p1 p2 p3 e
theorem below_off {B R : Nat} {w W W' : World} (h : Below B w W) (ho : OffR R W W') (hB : B ≤ R) (hW : B ≤ W.heap.size) : Below B w W' :=
  ⟨ho.os.trans h.os, ho.tape.trans h.tape, ho.output.trans h.output, Nat.le_trans h.size ho.size, fun k hk => (ho.block k (by omega) (by omega)).trans (h.block k hk)⟩
theorem num_off {R mb : Nat} {W W' : World} {ns : List (List UInt8)} (h : NumMap W mb ns) (ho : OffR R W W') (hne : mb ≠ R) : NumMap W' mb ns := by
  obtain ⟨D, hm, rest⟩ := h
  refine ⟨D, ?_, rest⟩
  have hl := hm.lt
  obtain ⟨es, c, hh, r⟩ := hm
  exact ⟨es, c, (ho.block mb hl hne).trans hh, r⟩
theorem num_ne {mb R : Nat} {W : World} {ns : List (List UInt8)} {cs : Array Value} {t : TypeId} {f : Nat × Nat} (h : NumMap W mb ns) (hR : W.heap[R]? = some (.cells cs t f)) : mb ≠ R := fun e => by
  obtain ⟨D, hm, -⟩ := h
  obtain ⟨es, c, hh, -⟩ := hm
  rw [e, hR] at hh
  cases hh
theorem own_off {B R : Nat} {W W' : World} {v : Value} {n : Nat} {xs : List Value} (h : W.ownsRow B 27 3 v n xs) (ho : OffR R W W') (hne : v.ownBlock ≠ some R) : W'.ownsRow B 27 3 v n xs := by
  refine ⟨h.1, ?_⟩
  rcases h.2 with h0 | ⟨g, cap, cur, rfl, hg, hh, rest⟩
  · exact .inl h0
  · exact .inr ⟨g, cap, cur, rfl, hg, (ho.block g (lt_of_some hh) (fun e => hne (by simp [Value.ownBlock, e]))).trans hh, rest⟩
theorem own_ne {B R : Nat} {W : World} {v : Value} {n : Nat} {xs : List Value} {cs : Array Value} {t : TypeId} {f : Nat × Nat} (h : W.ownsRow B 27 3 v n xs) (hR : W.heap[R]? = some (.cells cs t f)) (ht : t ≠ 27) : v.ownBlock ≠ some R := fun e => by
  rcases h.2 with ⟨rfl, _⟩ | ⟨g, cap, cur, rfl, _, hh, _⟩
  · simp [Value.ownBlock] at e
  · simp only [Value.ownBlock, Option.some.injEq] at e
    subst e
    rw [hR] at hh
    simp only [Option.some.injEq, Obj.cells.injEq] at hh
    exact ht hh.2.1
theorem own_form {w : World} {B : Nat} {e : TypeId} {size : Nat} {v : Value} {n : Nat} {xs : List Value} (h : w.ownsRow B e size v n xs) : ∃ a c, v = .slice a n c := by
  rcases h.2 with ⟨rfl, rfl⟩ | ⟨g, cap, cur, rfl, _⟩
  · exact ⟨_, _, rfl⟩
  · exact ⟨_, _, rfl⟩
def lenV : Value → Nat
  | .string s => s.size
  | _ => 0
theorem htok : (Tryd.prog.info? 27).map (fun i => (i.zero, i.size, i.bytes)) = some (some (.agg #[.int .i64 0, .int .i64 0, .int .i64 0]), 3, 24) := by kernel_rfl
theorem cells_three_new (w : World) (x y z : Value) (t : TypeId) : ∀ j u, [x, y, z][j]? = some u → (w.alloc (.cells #[x, y, z] t)).cell? ((⟨w.heap.size, 0, none⟩ : Addr).add j) = some u := World.news_of_block (MapKept.heap_alloc w (.cells #[x, y, z] t)).1

/-- What holds all through Read. -/
structure RB (w : World) (R mb : Nat) (a : Option Addr) (cap : Nat) (ns : List (List UInt8)) (src : ByteArray) (v : Value) (acc : List T3) (W : World) : Prop where
  own : W.ownsRow w.heap.size 27 3 v acc.length (flat3 acc)
  hR : RdAt W R a ns.length cap src (reach acc) mb
  num : NumMap W mb ns
  box : W.heap[w.heap.size]? = some (.cells #[.int .i64 0, .int .i64 0] 50 (0, 0))
  bel : Below w.heap.size w W
  nn : 0 ≤ reach acc
theorem RB.tok {w : World} {R mb : Nat} {a : Option Addr} {cap : Nat} {ns : List (List UInt8)} {src : ByteArray} {v : Value} {acc : List T3} {W W' : World} (h : RB w R mb a cap ns src v acc W) (hBR : w.heap.size < R) (ho : OffR R W W') :
    W'.ownsRow w.heap.size 27 3 v acc.length (flat3 acc) ∧ NumMap W' mb ns ∧ W'.heap[w.heap.size]? = some (.cells #[.int .i64 0, .int .i64 0] 50 (0, 0)) ∧ Below w.heap.size w W' :=
  ⟨own_off h.own ho (own_ne h.own h.hR (by decide)), num_off h.num ho (num_ne h.num h.hR), (ho.block _ (lt_of_some h.box) (by omega)).trans h.box, below_off h.bel ho (by omega) h.bel.size⟩

theorem own_box {B F n : Nat} {W : World} {v : Value} {xs : List Value} {cs : Array Value} {f : Nat × Nat} (h : W.ownsRow B 27 3 v n xs) (hb : W.heap[F]? = some (.cells cs 50 f)) (x y : Value) : ((W.setCell ⟨F, 0, none⟩ x).setCell ⟨F, 1, none⟩ y).ownsRow B 27 3 v n xs :=
  own_off h (offR_set (p := ⟨F, 1, none⟩) (offR_set (p := ⟨F, 0, none⟩) (offR_below (Below.refl _ _)) (.inl rfl) _) (.inl rfl) _) (own_ne h hb (by decide))
theorem RB.below {w : World} {R mb : Nat} {a : Option Addr} {cap : Nat} {ns : List (List UInt8)} {src : ByteArray} {v : Value} {acc : List T3} {W W' : World} (h : RB w R mb a cap ns src v acc W) (hb : Below W.heap.size W W') : RB w R mb a cap ns src v acc W' :=
  ⟨ownsRow_below h.own hb (Nat.le_refl _), (hb.block _ (lt_of_some h.hR)).trans h.hR, num_below h.num (Nat.le_refl _) hb, (hb.block _ (lt_of_some h.box)).trans h.box, h.bel.trans (hb.mono h.bel.size), h.nn⟩
theorem rb_grow {w : World} {R mb : Nat} {a : Option Addr} {cap : Nat} {ns : List (List UInt8)} {src : ByteArray} {v v' : Value} {acc : List T3} {x : T3} {W W3 : World} (o1 : W.ownsRow w.heap.size 27 3 v acc.length (flat3 acc)) (hR : RdAt W R a ns.length cap src x.2.2 mb) (o2 : NumMap W mb ns)
    (o3 : W.heap[w.heap.size]? = some (.cells #[.int .i64 0, .int .i64 0] 50 (0, 0))) (o4 : Below w.heap.size w W) (hnn : 0 ≤ x.2.2) (b1 b2 : Obj)
    (hown : W3.ownsRow w.heap.size 27 3 v' (acc.length + 1) (flat3 acc ++ [.int .i64 x.1, .int .i64 x.2.1, .int .i64 x.2.2])) (hg : ((W.alloc b1).alloc b2).grownBy W3 v.ownBlock) : RB w R mb a cap ns src v' (acc ++ [x]) W3 := by
  have hs := o4.size
  have key : ∀ k, k < W.heap.size → v.ownBlock ≠ some k → W3.heap[k]? = W.heap[k]? := fun k hk hn => by
    rw [hg.block k (by simp; omega) (fun e => hn e.symm), Below.heap_alloc _ _ _ (by simp; omega), Below.heap_alloc _ _ _ hk]
  refine ⟨?_, ?_, ?_, ?_, ?_, by rw [reach_snoc]; exact hnn⟩
  · rw [flat3_snoc, List.length_append]; exact hown
  · rw [reach_snoc]
    exact (key R (lt_of_some hR) (own_ne o1 hR (by decide))).trans hR
  · obtain ⟨D, hm, rest⟩ := o2
    refine ⟨D, ?_, rest⟩
    have hl := hm.lt
    have hne : v.ownBlock ≠ some mb := fun e => by
      rcases o1.2 with ⟨rfl, _⟩ | ⟨g, cap, cur, rfl, _, hh, _⟩
      · simp [Value.ownBlock] at e
      · simp only [Value.ownBlock, Option.some.injEq] at e
        subst e
        obtain ⟨es, c, hh2, -⟩ := hm
        rw [hh] at hh2
        cases hh2
    obtain ⟨es, c, hh, r⟩ := hm
    exact ⟨es, c, (key mb hl hne).trans hh, r⟩
  · exact (key _ (lt_of_some o3) (own_ne o1 o3 (by decide))).trans o3
  · exact ((o4.alloc hs _).alloc (by simp; omega) _).grown hg (by simp; omega) (fun k hk => (o1.lt k hk).1)
theorem isTok_nn {ns : List (List UInt8)} {src : ByteArray} {r : Int} {line : List UInt8} {x : T3} (hr : 0 ≤ r) (h : isTok ns src r line x) : 0 ≤ x.2.2 := by
  have := takeB_iff.1 h.1
  omega

set_option maxHeartbeats 4000000 in
set_option maxRecDepth 100000 in
theorem read_any (a : Option Addr) (cap : Nat) (ns : List (List UInt8)) (src : ByteArray) (hsrc : src.size ≤ 9223372036854775807) (lines : List UInt8) (hl : lines.length ≤ 281474976710656) (w : World) (hrow : SRow w a ns) (hE : Env w) :
    Calls Tryd.prog 19 #[.slice a ns.length cap, .string src, .string (bs lines)] w fun e w' => ∃ v, e = .returned (.tuple #[v, .agg #[.int .i64 (readT ns src lines).2.1, .int .i64 (readT ns src lines).2.2]]) ∧
      w'.ownsRow w.heap.size 27 3 v (readT ns src lines).1.length (flat3 (readT ns src lines).1) ∧ Below w.heap.size w w' := by
  have HK := hide (fun o => kinds_any a cap ns (w.alloc o) (srow_below hrow (Nat.le_refl _) ((Below.refl _ _).alloc (Nat.le_refl _) _)))
  cases hk : kindsB ns
  · rw [show kindsV ns = 70 by simp [kindsV, hk]] at HK
    rw [show readT ns src lines = ([], 70, 0) by simp [readT, hk]]
    clear hk hrow hE
    go_enter Tryd.func19, Tryd.ntmps19
    go_wp2_with fail
    refine (unhide HK _).mono ?_
    rintro e w1 ⟨rfl, hb1⟩
    have hF := (hb1.block w.heap.size (by simp)).trans (heap_new w _)
    have a0 := cell_block hF 0 _ rfl
    have a1 := cell_block hF 1 _ rfl
    have f0 := frozen_block hF 0
    have f1 := frozen_block hF 1
    have Hb := hide (((Below.refl _ w).alloc (Nat.le_refl _) _).trans (hb1.mono (by simp)))
    clear hb1 hF
    go_wp2
    refine bodyPost_ret (v := .tuple #[.slice none 0 0, .agg #[.int .i64 70, .int .i64 0]]) (by simp [results, Tryd.results19, go_sem, a0, a1]) rfl ?_
    exact ⟨_, rfl, World.ownsRow_nil _ _ _ _, ((unhide Hb).setCell (p := ⟨w.heap.size, 0, none⟩) (Nat.le_refl _) _).setCell (p := ⟨w.heap.size, 1, none⟩) (Nat.le_refl _) _⟩
  · rw [show kindsV ns = 0 by simp [kindsV, hk]] at HK
    have Hrd := hide (show readT ns src lines = rdF ns src lines.length lines [] by simp [readT, hk])
    generalize readT ns src lines = Z at *
    obtain ⟨Z1, Z2, Z3⟩ := Z
    have Hrow := hide hrow; have HE := hide hE; have Hk := hide hk
    clear hk hrow hE
    go_enter Tryd.func19, Tryd.ntmps19
    go_wp2_with fail
    refine (unhide HK _).mono ?_
    rintro e w1 ⟨rfl, hb1⟩
    have hF := (hb1.block w.heap.size (by simp)).trans (heap_new w _)
    have hb01 := ((Below.refl _ w).alloc (Nat.le_refl _) _).trans (hb1.mono (by simp))
    have hs1 := hb01.size
    have hF1 := lt_of_some hF
    have HN := hide (numbers_any a cap ns (of_decide_eq_true (unhide Hk)).2.1 (fun j hj => kinds_name (unhide Hk) hj) w1 (srow_below (unhide Hrow) (Nat.le_refl _) hb01))
    have HF := hide hF; have Hb01 := hide hb01
    clear hb1 hF hb01 HK
    go_wp2_with fail
    refine (unhide HN).mono ?_
    rintro e w2 ⟨rfl, hnum, hb2⟩
    have hs2 := hb2.size
    have hB2 := (unhide Hb01).trans (hb2.mono hs1)
    have hF2 := (hb2.block _ hF1).trans (unhide HF)
    have HRB : Hid (RB w w2.heap.size w1.heap.size a cap ns src (.slice none 0 0) [] (w2.alloc (.cells #[.slice a ns.length cap, .string src, .int .i64 0, .map (some w1.heap.size)] 75))) :=
      hide ⟨World.ownsRow_nil _ _ _ _, heap_new _ _, num_below hnum (Nat.le_refl _) ((Below.refl _ _).alloc (Nat.le_refl _) _), (Below.heap_alloc _ _ _ (by omega)).trans hF2, hB2.alloc (by omega) _, by simp [reach, reachAt]⟩
    clear hnum hb2 hB2 hF2 HF Hb01 HN
    have hRl : w.heap.size < w2.heap.size := by omega
    go_wp2
    go_loopw [2, 9] (fun u v wr => ∃ (rest : List UInt8) (acc : List T3) (f : Nat), u = .string (bs rest) ∧ RB w w2.heap.size w1.heap.size a cap ns src v acc wr ∧ rest.length ≤ f ∧ rest.length ≤ lines.length ∧ acc.length ≤ 65536 ∧ rdF ns src f rest acc = (Z1, Z2, Z3)) (fun u _ _ => lenV u)
    case atStart => exact ⟨lines, [], lines.length, rfl, unhide HRB, Nat.le_refl _, Nat.le_refl _, by simp, (unhide Hrd).symm⟩
    case round =>
      obtain ⟨rest, acc, f, rfl, hrb, hf, hrl, hal, hrd⟩ := hrel
      obtain ⟨va, vc, rfl⟩ := own_form hrb.own
      have hsz := hrb.bel.size
      have a0 := cell_block hrb.box 0 _ rfl
      have a1 := cell_block hrb.box 1 _ rfl
      have f0 := frozen_block hrb.box 0
      have f1 := frozen_block hrb.box 1
      by_cases hnil : rest = []
      · subst hnil
        rw [rdF_nil] at hrd
        have Hrb := hide hrb; have Hrd2 := hide hrd
        clear hrb hrd
        have hem : (bs []) = ⟨#[]⟩ := rfl
        rw [hem]
        clear hem
        go_wp2
        refine bodyPost_ret (v := .tuple #[.slice va acc.length vc, .agg #[.int .i64 0, .int .i64 0]]) (by simp [results, Tryd.results19, go_sem, a0, a1]) rfl ?_
        simp only [Prod.mk.injEq] at Hrd2
        obtain ⟨h1, h2, h3⟩ := unhide Hrd2
        subst h1 h2 h3
        exact ⟨_, rfl, own_box (unhide Hrb).own (unhide Hrb).box _ _, ((unhide Hrb).bel.setCell (p := ⟨w.heap.size, 0, none⟩) (Nat.le_refl _) _).setCell (p := ⟨w.heap.size, 1, none⟩) (Nat.le_refl _) _⟩
      · have hne : ((bs rest).toList == []) = false := by rw [bs_toList, beq_eq_false_iff_ne]; exact hnil
        have hne2 : ((bs rest).toList != []) = true := by unfold bne; rw [hne]; rfl
        obtain ⟨g, rfl⟩ : ∃ g, f = g + 1 := ⟨f - 1, by have : 0 < rest.length := List.length_pos_iff.2 hnil; omega⟩
        cases hc : cutL 10 rest with
        | none =>
          have Hrd3 : Hid (([], 5, (acc.length : Int)) = (Z1, Z2, Z3)) := hide (by rw [← hrd, rdF_open hnil hc])
          have HC := hide (cut_any 10 rest (by omega))
          rw [show cutV 10 rest = (rest, [], false) by unfold cutV; rw [hc]] at HC
          have HTK := hide (fun W (h : RB w w2.heap.size w1.heap.size a cap ns src (.slice va acc.length vc) acc W) => token_any w w2.heap.size a cap ns src hsrc (reach acc) w1.heap.size rest (by omega) (unhide Hk) h.nn W h.hR h.num (unhide Hrow) (unhide HE) h.bel (by omega))
          have Hrb := hide hrb
          clear hrb a0 a1 f0 f1
          go_wp2_with fail
          refine (unhide HC _).mono ?_
          rintro e W1 ⟨rfl, hb1⟩
          have hrb1 := (unhide Hrb).below hb1
          have HT1 := hide (unhide HTK W1 hrb1)
          have Hrb1 := hide hrb1
          clear hb1 hrb1 HC HTK Hrb
          go_wp2_with fail
          refine (unhide HT1).mono ?_
          rintro e W2 ⟨hof, hres⟩
          obtain ⟨o1, o2, o3, o4⟩ := (unhide Hrb1).tok hRl hof
          have hF2 := lt_of_some o3
          have hs2 := o4.size
          have box := fun o => (Below.heap_alloc W2 o w.heap.size hF2).trans o3
          have a0 := fun o => cell_block (box o) 0 _ rfl
          have a1 := fun o => cell_block (box o) 1 _ rfl
          have f0 := fun o => frozen_block (box o) 0
          have f1 := fun o => frozen_block (box o) 1
          have bx2 := fun o u => (Below.heap_alloc (W2.setCell ⟨w.heap.size, 0, none⟩ u) o w.heap.size (by simpa [World.setCell] using hF2)).trans (block_set (i := 0) o3 u)
          have a1b := fun o u => cell_block (bx2 o u) 1 _ rfl
          have f1b := fun o u => frozen_block (bx2 o u) 1
          have bx3 := fun o u v => (Below.heap_alloc ((W2.setCell ⟨w.heap.size, 0, none⟩ u).setCell ⟨w.heap.size, 1, none⟩ v) o w.heap.size (by simpa [World.setCell] using hF2)).trans (block_set (i := 1) (block_set (i := 0) o3 u) v)
          have r0 := fun o u v => cell_block (bx3 o u v) 0 _ rfl
          have r1 := fun o u v => cell_block (bx3 o u v) 1 _ rfl
          clear bx2 bx3
          have O1 := hide o1; have O2 := hide o2; have O4 := hide o4; have Hbox := hide box; have O3 := hide o3
          clear o1 o2 o3 o4 hof HT1 box
          clear hc hrd hnil
          rcases hres with ⟨x, hx, rfl, -⟩ | ⟨-, rfl⟩
          · clear hx
            go_wp2
            refine bodyPost_ret (v := .tuple #[.slice none 0 0, .agg #[.int .i64 5, .int .i64 (acc.length : Int)]]) (by simp [results, Tryd.results19, go_sem, r0, r1]) rfl ?_
            obtain ⟨h1, h2⟩ := Prod.mk.inj (unhide Hrd3)
            obtain ⟨h3, h4⟩ := Prod.mk.inj h2
            subst h1 h3 h4
            exact ⟨_, rfl, World.ownsRow_nil _ _ _ _, (((unhide O4).setCell (p := ⟨w.heap.size, 0, none⟩) (Nat.le_refl _) _).setCell (p := ⟨w.heap.size, 1, none⟩) (Nat.le_refl _) _).alloc (by simpa [World.setCell] using hs2) _⟩
          ·
            go_wp2
            refine bodyPost_ret (v := .tuple #[.slice none 0 0, .agg #[.int .i64 5, .int .i64 (acc.length : Int)]]) (by simp [results, Tryd.results19, go_sem, r0, r1]) rfl ?_
            obtain ⟨h1, h2⟩ := Prod.mk.inj (unhide Hrd3)
            obtain ⟨h3, h4⟩ := Prod.mk.inj h2
            subst h1 h3 h4
            exact ⟨_, rfl, World.ownsRow_nil _ _ _ _, (((unhide O4).setCell (p := ⟨w.heap.size, 0, none⟩) (Nat.le_refl _) _).setCell (p := ⟨w.heap.size, 1, none⟩) (Nat.le_refl _) _).alloc (by simpa [World.setCell] using hs2) _⟩
        | some q =>
          obtain ⟨line, rest'⟩ := q
          have hll := congrArg List.length (cutL_some hc).1
          simp only [List.length_append, List.length_cons] at hll
          have HC := hide (cut_any 10 rest (by omega))
          rw [show cutV 10 rest = (line, rest', true) by unfold cutV; rw [hc]] at HC
          have HTK := hide (fun W (h : RB w w2.heap.size w1.heap.size a cap ns src (.slice va acc.length vc) acc W) => token_any w w2.heap.size a cap ns src hsrc (reach acc) w1.heap.size line (by omega) (unhide Hk) h.nn W h.hR h.num (unhide Hrow) (unhide HE) h.bel (by omega))
          have Hrb := hide hrb
          clear hrb a0 a1 f0 f1
          go_wp2_with fail
          refine (unhide HC _).mono ?_
          rintro e W1 ⟨rfl, hb1⟩
          have hrb1 := (unhide Hrb).below hb1
          have HT1 := hide (unhide HTK W1 hrb1)
          have Hrb1 := hide hrb1
          clear hb1 hrb1 HC HTK Hrb
          go_wp2_with fail
          refine (unhide HT1).mono ?_
          rintro e W2 ⟨hof, hres⟩
          obtain ⟨o1, o2, o3, o4⟩ := (unhide Hrb1).tok hRl hof
          have hF2 := lt_of_some o3
          have hs2 := o4.size
          have box := fun o => (Below.heap_alloc W2 o w.heap.size hF2).trans o3
          have a0 := fun o => cell_block (box o) 0 _ rfl
          have a1 := fun o => cell_block (box o) 1 _ rfl
          have f0 := fun o => frozen_block (box o) 0
          have f1 := fun o => frozen_block (box o) 1
          have bx2 := fun o u => (Below.heap_alloc (W2.setCell ⟨w.heap.size, 0, none⟩ u) o w.heap.size (by simpa [World.setCell] using hF2)).trans (block_set (i := 0) o3 u)
          have a1b := fun o u => cell_block (bx2 o u) 1 _ rfl
          have f1b := fun o u => frozen_block (bx2 o u) 1
          have bx3 := fun o u v => (Below.heap_alloc ((W2.setCell ⟨w.heap.size, 0, none⟩ u).setCell ⟨w.heap.size, 1, none⟩ v) o w.heap.size (by simpa [World.setCell] using hF2)).trans (block_set (i := 1) (block_set (i := 0) o3 u) v)
          have r0 := fun o u v => cell_block (bx3 o u v) 0 _ rfl
          have r1 := fun o u v => cell_block (bx3 o u v) 1 _ rfl
          clear bx2 bx3
          have O1 := hide o1; have O2 := hide o2; have O4 := hide o4; have Hbox := hide box; have O3 := hide o3
          clear o1 o2 o3 o4 hof HT1 box
          rcases hres with ⟨x, hx, rfl, hR2⟩ | ⟨hno, rfl⟩
          · have ht := tokOf_yes (unhide Hk) (unhide Hrb1).nn hsrc hx
            by_cases hm : acc.length = 65536
            · have Hrd3 : Hid (([], 5, (acc.length : Int)) = (Z1, Z2, Z3)) := hide (by rw [← hrd, rdF_many hnil hc ht hm])
              have hm' : ((acc.length : Int) == 65536) = true := by rw [beq_iff_eq]; omega
              clear hc hrd hnil ht hx hR2 hm
              go_wp2
              refine bodyPost_ret (v := .tuple #[.slice none 0 0, .agg #[.int .i64 5, .int .i64 (acc.length : Int)]]) (by simp [results, Tryd.results19, go_sem, r0, r1]) rfl ?_
              obtain ⟨h1, h2⟩ := Prod.mk.inj (unhide Hrd3)
              obtain ⟨h3, h4⟩ := Prod.mk.inj h2
              subst h1 h3 h4
              exact ⟨_, rfl, World.ownsRow_nil _ _ _ _, (((unhide O4).setCell (p := ⟨w.heap.size, 0, none⟩) (Nat.le_refl _) _).setCell (p := ⟨w.heap.size, 1, none⟩) (Nat.le_refl _) _).alloc (by simpa [World.setCell] using hs2) _⟩
            · have Hrd3 := hide ((rdF_step hnil hc ht hm).symm.trans hrd)
              have hm' : ((acc.length : Int) == 65536) = false := by rw [beq_eq_false_iff_ne]; omega
              have hnn := isTok_nn (unhide Hrb1).nn hx
              obtain ⟨i0, hi, hz0, hz1, hz2⟩ := info_parts htok
              have HR2 := hide hR2
              have hm2 : acc.length < 65536 := by omega
              clear hc hrd hnil ht hx hR2 hm a0 a1 f0 f1 a1b f1b r0 r1
              obtain ⟨x0, x1, x2⟩ := x
              simp only at HR2 hnn
              go_wp2_with (at_builtin; refine wpList_append_own _ rfl _ _ 22 rfl w.heap.size 27 i0 (.agg #[.int .i64 0, .int .i64 0, .int .i64 0]) 3 24 Tryd.underlying22 hi hz0 hz1 hz2 rfl (by decide) _ _ _ rfl (((unhide O1).alloc _).alloc _) ⟨W2.heap.size + 1, 0, none⟩ 1 1 [.int .i64 x0, .int .i64 x1, .int .i64 x2] rfl rfl ?zc1 ?zc2 ?zc3 ?zc4 ?zc5 ?_)
              case zc1 =>
                have h := cells_three_new (W2.alloc (.cells #[.int .i64 x0, .int .i64 x1, .int .i64 x2] 27)) (.int .i64 x0) (.int .i64 x1) (.int .i64 x2) 27
                rw [show (W2.alloc (.cells #[.int .i64 x0, .int .i64 x1, .int .i64 x2] 27)).heap.size = W2.heap.size + 1 by simp] at h
                exact h
              case zc2 => intro u hu; simp at hu; rcases hu with rfl | rfl | rfl <;> rfl
              case zc3 => unfold maxLen; omega
              case zc4 => omega
              case zc5 => simp; omega
              intro v' W3 hown' hgrow _
              have HRB3 := hide (rb_grow (x := (x0, x1, x2)) (unhide O1) (unhide HR2) (unhide O2) (unhide O3) (unhide O4) hnn _ _ hown' hgrow)
              clear hown' hgrow
              go_wp2
              go_roundw
              case rel => exact ⟨rest', acc ++ [(x0, x1, x2)], g, rfl, unhide HRB3, by omega, by omega, by simp; omega, unhide Hrd3⟩
              case measure => simp only [lenV, bs_size]; omega
          · have Hrd3 : Hid (([], 5, (acc.length : Int)) = (Z1, Z2, Z3)) := hide (by rw [← hrd, rdF_wrong hnil hc (tokOf_no hno)])
            clear hc hrd hnil hno
            go_wp2
            refine bodyPost_ret (v := .tuple #[.slice none 0 0, .agg #[.int .i64 5, .int .i64 (acc.length : Int)]]) (by simp [results, Tryd.results19, go_sem, r0, r1]) rfl ?_
            obtain ⟨h1, h2⟩ := Prod.mk.inj (unhide Hrd3)
            obtain ⟨h3, h4⟩ := Prod.mk.inj h2
            subst h1 h3 h4
            exact ⟨_, rfl, World.ownsRow_nil _ _ _ _, (((unhide O4).setCell (p := ⟨w.heap.size, 0, none⟩) (Nat.le_refl _) _).setCell (p := ⟨w.heap.size, 1, none⟩) (Nat.le_refl _) _).alloc (by simpa [World.setCell] using hs2) _⟩
end Go.Proofs.YtkckcnjamlpadabDoor

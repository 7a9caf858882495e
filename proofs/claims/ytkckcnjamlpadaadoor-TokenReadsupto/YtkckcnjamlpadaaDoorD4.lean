/- The document's line. -/
import Derived.Test.YtkckcnjamlpadaaDoorD3
import Derived.Test.YtkckcnjamlpadaaDoorL2
namespace Go.Proofs.YtkckcnjamlpadaaDoor
open Go.RowKit Go.Maps

theorem line_adds7 (a f t q : List UInt8) (ha : a.length ≤ 64) (hf : f.length ≤ 20) (ht : t.length ≤ 20) (hq : q.length ≤ 20000) :
    ∃ B1 B2 B3 B4 B5 B6, (∀ w, (Op.stringOp .add (bs a) ⟨#[32]⟩).run Tryd.prog w = .ok (.string B1) w) ∧ (∀ w, (Op.stringOp .add B1 (bs f)).run Tryd.prog w = .ok (.string B2) w) ∧ (∀ w, (Op.stringOp .add B2 ⟨#[32]⟩).run Tryd.prog w = .ok (.string B3) w) ∧
      (∀ w, (Op.stringOp .add B3 (bs t)).run Tryd.prog w = .ok (.string B4) w) ∧ (∀ w, (Op.stringOp .add B4 ⟨#[32]⟩).run Tryd.prog w = .ok (.string B5) w) ∧ (∀ w, (Op.stringOp .add B5 (bs q)).run Tryd.prog w = .ok (.string B6) w) ∧ (∀ w, (Op.stringOp .add B6 ⟨#[10]⟩).run Tryd.prog w = .ok (.string (bs (((((((a ++ [32]) ++ f) ++ [32]) ++ t) ++ [32]) ++ q) ++ [10]))) w) :=
  ⟨_, _, _, _, _, _, add_run a [32] (by simp; omega), add_run _ f (by simp; omega), add_run _ [32] (by simp; omega), add_run _ t (by simp; omega), add_run _ [32] (by simp; omega), add_run _ q (by simp; omega), add_run _ [10] (by simp; omega)⟩
set_option maxHeartbeats 2000000 in
set_option maxRecDepth 100000 in
theorem rLine_any (a : Option Addr) (cap : Nat) (ns : List (List UInt8)) (src : ByteArray) (hsrc : src.size ≤ 9223372036854775807) (k f t : Nat) (hk : k < ns.length) (hnk : (ns.getD k []).length ≤ 64) (hft : f ≤ t) (hts : t ≤ src.size) (hq : t - f ≤ 4096) (w : World) (hrow : SRow w a ns) (hE : Env w) :
    Calls Tryd.prog 41 #[.slice a ns.length cap, .string src, .agg #[.int .i64 (k : Int), .int .i64 (f : Int), .int .i64 (t : Int)]] w fun e w' => e = .returned (.string (bs (lineL ns src k f t ++ [10]))) ∧ Below w.heap.size w w' := by
  have hsz : (src.extract f t).size = t - f := by simp; omega
  have hft' : (f : Int) ≤ t := by omega
  have hts' : (t : Int) ≤ src.size := by omega
  have HQ := hide (rQuote_any (src.extract f t))
  rw [show quoteVals (src.extract f t) = (bs (quoteL (src.extract f t)), 0) by unfold quoteVals; rw [if_pos (by omega)]; rfl] at HQ
  obtain ⟨b, off, rfl, hb, hc⟩ := srow_pos hrow hk
  have ck := hc k hk
  have hk' : (k : Int) < ns.length := by omega
  have lf : (Lib.decDigits f).length ≤ 20 := by rw [Lib.decDigits_length]; exact Lib.nDigits_le20 f (by omega)
  have lt : (Lib.decDigits t).length ≤ 20 := by rw [Lib.decDigits_length]; exact Lib.nDigits_le20 t (by omega)
  have lq := quoteL_le (src.extract f t)
  obtain ⟨B1, B2, B3, B4, B5, B6, a1, a2, a3, a4, a5, a6, a7⟩ := line_adds7 (ns.getD k []) (Lib.decDigits f) (Lib.decDigits t) (quoteL (src.extract f t)) hnk lf lt (by omega)
  rw [show lineL ns src k f t ++ [10] = ((((((ns.getD k [] ++ [32]) ++ Lib.decDigits f) ++ [32]) ++ Lib.decDigits t) ++ [32]) ++ quoteL (src.extract f t)) ++ [10] from rfl]
  have HIf := hide (itoa_any f (by omega))
  have HIt := hide (itoa_any t (by omega))
  generalize bs (((((((ns.getD k [] ++ [32]) ++ Lib.decDigits f) ++ [32]) ++ Lib.decDigits t) ++ [32]) ++ quoteL (src.extract f t)) ++ [10]) = X at *
  generalize bs (ns.getD k []) = nk at *
  generalize bs (Lib.decDigits f) = df at *
  generalize bs (Lib.decDigits t) = dt at *
  generalize bs (quoteL (src.extract f t)) = q at *
  clear lf lt lq hnk
  have HE := hide hE
  clear hc hrow hE hsz
  go_enter Tryd.func41, Tryd.ntmps41
  go_wp2_with fail
  refine (unhide HQ _).mono ?_
  rintro e w1 ⟨rfl, hb1⟩
  have hb0 : Below w.heap.size w w1 := ((Below.refl _ w).alloc (Nat.le_refl _) _).trans (hb1.mono (by simp))
  have g0 : w1.cell? ⟨b, off + k, none⟩ = some (.string nk) := (hb0.cell (p := ⟨b, off + k, none⟩) hb).trans ck
  have g1 := (hb1.block w.heap.size (by simp)).trans (heap_new w _)
  have k0 := cell_block g1 0 _ rfl
  have k1 := cell_block g1 1 _ rfl
  have k2 := cell_block g1 2 _ rfl
  have hE1 := env_below (unhide HE) hb0
  have Hb0 := hide hb0
  have hgt : w.heap.size < w1.heap.size := lt_of_some g1
  clear hb1 hb0 ck g1
  go_wp2_with fail
  have hS : BL w b (off + k) nk (k : Int) (f : Int) (t : Int) w1.drew := ⟨⟨g0, k0, k1, k2⟩, hE1, (unhide Hb0).drew, hgt⟩
  clear g0 k0 k1 k2 hE1 Hb0 hgt
  go_region_held3 (fun w' : World => w'.cell? ⟨b, off + k, none⟩ = some (.string nk) ∧ w'.cell? ⟨w.heap.size, 0, none⟩ = some (.int .i64 (k : Int)) ∧ w'.cell? ⟨w.heap.size, 1, none⟩ = some (.int .i64 (f : Int)) ∧ w'.cell? ⟨w.heap.size, 2, none⟩ = some (.int .i64 (t : Int)))
    (first | exact hS.c | fail)
    (first
      | (go_at_call 52; refine (unhide HIf _ hS.env).mono ?_; rintro e w2 ⟨rfl, hb2⟩; have hS := keepL hb hS hb2; clear hb2)
      | (go_at_call 52; refine (unhide HIt _ hS.env).mono ?_; rintro e w2 ⟨rfl, hb2⟩; have hS := keepL hb hS hb2; clear hb2)
      | fail)
  all_goals
    go_wp2
    go_ret
  all_goals exact ⟨rfl, hS.bel⟩
end Go.Proofs.YtkckcnjamlpadaaDoor

/- lineOf. -/
import Derived.Test.YtkckcnjamlpadabDoorB1
import Derived.Deep.RegionHeld3
import Derived.Lib.ItoaLen
namespace Go.Proofs.YtkckcnjamlpadabDoor
open Go.RowKit Go.Maps

theorem bs_append (a b : List UInt8) : bs a ++ bs b = bs (a ++ b) := by
  apply ByteArray.ext
  rw [ByteArray.data_append]
  simp [bs]
/-- What the library's own variables hold. -/
def Env (w : World) : Prop := Lib.TabIs Tryd.prog w "internal/strconv.uint64pow10" .u64 Lib.pow10Tab ∧ (∃ tp p, w.var? Tryd.prog "strconv.ErrSyntax" = some #[.iface tp p]) ∧ (∃ tp p, w.var? Tryd.prog "strconv.ErrRange" = some #[.iface tp p])
theorem var_below {P : Program} {w w' : World} {name : String} {cs : Array Value} (h : w.var? P name = some cs) (hb : Below w.heap.size w w') : w'.var? P name = some cs := by
  unfold World.var? at *
  cases hg : P.globalNamed name with
  | none => simp [hg] at h
  | some g =>
    simp only [hg, Option.bind_some] at h ⊢
    have hlt : g < w.heap.size := by
      rcases Nat.lt_or_ge g w.heap.size with h' | h'
      · exact h'
      · rw [Array.getElem?_eq_none h'] at h; simp at h
    rw [hb.block g hlt]
    exact h
theorem env_below {w w' : World} (h : Env w) (hb : Below w.heap.size w w') : Env w' := by
  obtain ⟨h1, ⟨a, b, h2⟩, ⟨c, d, h3⟩⟩ := h
  exact ⟨var_below h1 hb, ⟨a, b, var_below h2 hb⟩, ⟨c, d, var_below h3 hb⟩⟩
theorem below_grow {w : World} {B : Nat} (hB : B ≤ w.heap.size) (k : Nat) (os : Array Obj) : Below B w (Go.Sort.grow (w.drewN k) os) := by
  refine ⟨rfl, rfl, rfl, ?_, fun i hi => ?_⟩
  · show w.heap.size ≤ (w.heap ++ os).size
    rw [Array.size_append]; omega
  · show (w.heap ++ os)[i]? = w.heap[i]?
    exact Array.getElem?_append_left (by omega)
theorem itoa_any (n : Nat) (h1 : n ≤ 9223372036854775807) (w : World) (hE : Env w) :
    Calls Tryd.prog 36 #[.int .i64 (n : Int)] w fun e w' => e = .returned (.string (bs (Lib.decDigits n))) ∧ Below w.heap.size w w' := by
  refine (Tryd.strconv_Itoa (n : Int) (by omega) (by omega) w hE.1).mono ?_
  rintro e w' ⟨rfl, k, os, rfl⟩
  refine ⟨?_, below_grow (Nat.le_refl _) k os⟩
  rw [show Lib.itoa (n : Int) = Lib.decDigits n by unfold Lib.itoa; rw [if_neg (by omega)]; rfl]
  rfl

theorem qFrom_le (v : ByteArray) (f : Nat) : ∀ i, (qFrom v f i).length ≤ 4 * (v.size - i) := by
  induction f with
  | zero => intro i; simp [qFrom]
  | succ f ih =>
    intro i
    by_cases h : i < v.size
    · rw [qFrom_step v f i h, List.length_append]
      have h1 := qpart_le v i
      have h2 := ih (i + (Utf8.decode v i).2)
      have h3 := (width_pos v i h).1
      omega
    · rw [qFrom_end v _ i h]; simp
theorem quoteL_le (v : ByteArray) : (quoteL v).length ≤ 2 + 4 * v.size := by
  have := qFrom_le v v.size 0
  unfold quoteL
  simp only [List.length_cons, List.length_append, List.length_nil]
  omega
theorem add_run (x y : List UInt8) (h : x.length + y.length ≤ 9223372036854775807) (w : World) : (Op.stringOp .add (bs x) (bs y)).run Tryd.prog w = .ok (.string (bs (x ++ y))) w := by
  unfold Op.stringOp
  simp only
  rw [if_neg (by show ¬ ((((bs x).size + (bs y).size : Nat) : Int) > 9223372036854775807); rw [bs_size, bs_size]; omega), bs_append]
  rfl
theorem line_adds (a f t q : List UInt8) (ha : a.length ≤ 64) (hf : f.length ≤ 20) (ht : t.length ≤ 20) (hq : q.length ≤ 20000) :
    ∃ B1 B2 B3 B4 B5, (∀ w, (Op.stringOp .add (bs a) ⟨#[32]⟩).run Tryd.prog w = .ok (.string B1) w) ∧ (∀ w, (Op.stringOp .add B1 (bs f)).run Tryd.prog w = .ok (.string B2) w) ∧ (∀ w, (Op.stringOp .add B2 ⟨#[32]⟩).run Tryd.prog w = .ok (.string B3) w) ∧
      (∀ w, (Op.stringOp .add B3 (bs t)).run Tryd.prog w = .ok (.string B4) w) ∧ (∀ w, (Op.stringOp .add B4 ⟨#[32]⟩).run Tryd.prog w = .ok (.string B5) w) ∧ (∀ w, (Op.stringOp .add B5 (bs q)).run Tryd.prog w = .ok (.string (bs ((((((a ++ [32]) ++ f) ++ [32]) ++ t) ++ [32]) ++ q))) w) :=
  ⟨_, _, _, _, _, add_run a [32] (by simp; omega), add_run _ f (by simp; omega), add_run _ [32] (by simp; omega), add_run _ t (by simp; omega), add_run _ [32] (by simp; omega), add_run _ q (by simp; omega)⟩
/-- A token's line, without its end. -/
def lineL (ns : List (List UInt8)) (src : ByteArray) (k f t : Nat) : List UInt8 := ((((((ns.getD k [] ++ [32]) ++ Lib.decDigits f) ++ [32]) ++ Lib.decDigits t) ++ [32]) ++ quoteL (src.extract f t))
def lineV (ns : List (List UInt8)) (src : ByteArray) (k f t : Nat) : List UInt8 × Int := if t - f ≤ 4096 then (lineL ns src k f t, 0) else ([], 3)

/-- What holds all through the making of a line. -/
structure BL (w : World) (b o : Nat) (nk : ByteArray) (k f t : Int) (w1 : World) : Prop where
  c : w1.cell? ⟨b, o, none⟩ = some (.string nk) ∧ w1.cell? ⟨w.heap.size, 0, none⟩ = some (.int .i64 k) ∧ w1.cell? ⟨w.heap.size, 1, none⟩ = some (.int .i64 f) ∧ w1.cell? ⟨w.heap.size, 2, none⟩ = some (.int .i64 t)
  env : Env w1
  bel : Below w.heap.size w w1
  gt : w.heap.size < w1.heap.size
theorem keepL {w w1 w2 : World} {b o : Nat} {nk : ByteArray} {k f t : Int} (hb : b < w.heap.size) (h : BL w b o nk k f t w1) (hb2 : Below w1.heap.size w1 w2) : BL w b o nk k f t w2 := by
  obtain ⟨⟨h0, h1, h2, h3⟩, h4, h5, h6⟩ := h
  have hs := hb2.size
  exact ⟨⟨(hb2.cell (p := ⟨b, o, none⟩) (by show b < _; omega)).trans h0, (hb2.cell (p := ⟨w.heap.size, 0, none⟩) h6).trans h1, (hb2.cell (p := ⟨w.heap.size, 1, none⟩) h6).trans h2, (hb2.cell (p := ⟨w.heap.size, 2, none⟩) h6).trans h3⟩, env_below h4 hb2, h5.trans (hb2.mono (by omega)), by omega⟩
set_option maxHeartbeats 2000000 in
set_option maxRecDepth 100000 in
theorem lineOf_any (a : Option Addr) (cap : Nat) (ns : List (List UInt8)) (src : ByteArray) (hsrc : src.size ≤ 9223372036854775807) (k f t : Nat) (hk : k < ns.length) (hnk : (ns.getD k []).length ≤ 64) (hft : f ≤ t) (hts : t ≤ src.size) (w : World) (hrow : SRow w a ns) (hE : Env w) :
    Calls Tryd.prog 25 #[.slice a ns.length cap, .string src, .agg #[.int .i64 (k : Int), .int .i64 (f : Int), .int .i64 (t : Int)]] w fun e w' => e = .returned (.tuple #[.string (bs (lineV ns src k f t).1), .int .i64 (lineV ns src k f t).2]) ∧ Below w.heap.size w w' := by
  have hsz : (src.extract f t).size = t - f := by simp; omega
  have hft' : (f : Int) ≤ t := by omega
  have hts' : (t : Int) ≤ src.size := by omega
  have HQ := hide (quote_any (src.extract f t))
  by_cases hq : t - f ≤ 4096
  · rw [show quoteVals (src.extract f t) = (bs (quoteL (src.extract f t)), 0) by unfold quoteVals; rw [if_pos (by omega)]; rfl] at HQ
    rw [show lineV ns src k f t = (lineL ns src k f t, 0) by unfold lineV; rw [if_pos hq]]
    obtain ⟨b, off, rfl, hb, hc⟩ := srow_pos hrow hk
    have ck := hc k hk
    have hk' : (k : Int) < ns.length := by omega
    have lf : (Lib.decDigits f).length ≤ 20 := by rw [Lib.decDigits_length]; exact Lib.nDigits_le20 f (by omega)
    have lt : (Lib.decDigits t).length ≤ 20 := by rw [Lib.decDigits_length]; exact Lib.nDigits_le20 t (by omega)
    have lq := quoteL_le (src.extract f t)
    obtain ⟨B1, B2, B3, B4, B5, a1, a2, a3, a4, a5, a6⟩ := line_adds (ns.getD k []) (Lib.decDigits f) (Lib.decDigits t) (quoteL (src.extract f t)) hnk lf lt (by omega)
    rw [show lineL ns src k f t = ((((((ns.getD k [] ++ [32]) ++ Lib.decDigits f) ++ [32]) ++ Lib.decDigits t) ++ [32]) ++ quoteL (src.extract f t)) from rfl]
    have HIf := hide (itoa_any f (by omega))
    have HIt := hide (itoa_any t (by omega))
    generalize bs ((((((ns.getD k [] ++ [32]) ++ Lib.decDigits f) ++ [32]) ++ Lib.decDigits t) ++ [32]) ++ quoteL (src.extract f t)) = X at *
    generalize bs (ns.getD k []) = nk at *
    generalize bs (Lib.decDigits f) = df at *
    generalize bs (Lib.decDigits t) = dt at *
    generalize bs (quoteL (src.extract f t)) = q at *
    clear lf lt lq hnk
    have HE := hide hE
    clear hc hrow hE hsz
    go_enter Tryd.func25, Tryd.ntmps25
    go_wp2_with fail
    refine (unhide HQ _).mono ?_
    rintro e w1 ⟨rfl, hb1⟩
    have hb0 : Below w.heap.size w w1 := ((Below.refl _ w).alloc (Nat.le_refl _) _).trans (hb1.mono (by simp))
    have g0 : w1.cell? ⟨b, off + k, none⟩ = some (.string nk) := (hb0.cell (p := ⟨b, off + k, none⟩) hb).trans ck
    have g1 := (hb1.block w.heap.size (by simp)).trans (heap_new w _)
    have k0 := cell_block g1 0 _ rfl
    have k1 := cell_block g1 1 _ rfl
    have k2 := cell_block g1 2 _ rfl
    have hE1 := env_below (unhide HE) hb0
    have Hb0 := hide hb0
    have hgt : w.heap.size < w1.heap.size := lt_of_some g1
    clear hb1 hb0 ck g1
    go_wp2_with fail
    have hS : BL w b (off + k) nk (k : Int) (f : Int) (t : Int) w1.drew := ⟨⟨g0, k0, k1, k2⟩, hE1, (unhide Hb0).drew, hgt⟩
    clear g0 k0 k1 k2 hE1 Hb0 hgt
    go_region_held3 (fun w' : World => w'.cell? ⟨b, off + k, none⟩ = some (.string nk) ∧ w'.cell? ⟨w.heap.size, 0, none⟩ = some (.int .i64 (k : Int)) ∧ w'.cell? ⟨w.heap.size, 1, none⟩ = some (.int .i64 (f : Int)) ∧ w'.cell? ⟨w.heap.size, 2, none⟩ = some (.int .i64 (t : Int)))
      (first | exact hS.c | fail)
      (first
        | (go_at_call 36; refine (unhide HIf _ hS.env).mono ?_; rintro e w2 ⟨rfl, hb2⟩; have hS := keepL hb hS hb2; clear hb2)
        | (go_at_call 36; refine (unhide HIt _ hS.env).mono ?_; rintro e w2 ⟨rfl, hb2⟩; have hS := keepL hb hS hb2; clear hb2)
        | fail)
    all_goals
      go_wp2
      go_ret2
    all_goals exact ⟨rfl, hS.bel⟩
  · rw [show quoteVals (src.extract f t) = (⟨#[]⟩, 3) by unfold quoteVals; rw [if_neg (by omega)]] at HQ
    rw [show lineV ns src k f t = ([], 3) by unfold lineV; rw [if_neg hq]]
    clear hrow hE hsz
    go_enter Tryd.func25, Tryd.ntmps25
    go_wp2_with fail
    refine (unhide HQ _).mono ?_
    rintro e w1 ⟨rfl, hb1⟩
    have Hb0 := hide (((Below.refl _ w).alloc (Nat.le_refl _) _).trans (hb1.mono (by simp)))
    clear hb1
    go_wp2
    go_ret2
    exact ⟨rfl, unhide Hb0⟩
end Go.Proofs.YtkckcnjamlpadabDoor

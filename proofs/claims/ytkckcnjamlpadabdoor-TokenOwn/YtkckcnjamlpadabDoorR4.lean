/- The reader's token. -/
import Derived.Test.YtkckcnjamlpadabDoorR3
namespace Go.Proofs.YtkckcnjamlpadabDoor
open Go.RowKit Go.Maps

/-- All blocks but one are as they were. -/
structure OffR (R : Nat) (w w' : World) : Prop where
  os : w'.os = w.os
  tape : w'.tape = w.tape
  output : w'.output = w.output
  size : w.heap.size ≤ w'.heap.size
  block : ∀ k, k < w.heap.size → k ≠ R → w'.heap[k]? = w.heap[k]?
theorem offR_below {R : Nat} {w w' : World} (h : Below w.heap.size w w') : OffR R w w' := ⟨h.os, h.tape, h.output, h.size, fun k hk _ => h.block k hk⟩
theorem offR_trans {R : Nat} {a b c : World} (h : OffR R a b) (k : OffR R b c) : OffR R a c :=
  ⟨k.os.trans h.os, k.tape.trans h.tape, k.output.trans h.output, Nat.le_trans h.size k.size, fun i hi hn => (k.block i (Nat.lt_of_lt_of_le hi h.size) hn).trans (h.block i hi hn)⟩
theorem offR_set {R : Nat} {a w : World} (h : OffR R a w) {p : Addr} (hp : p.block = R ∨ a.heap.size ≤ p.block) (u : Value) : OffR R a (w.setCell p u) := by
  have hb := (Below.refl 0 w).setCell (p := p) (Nat.zero_le _) u
  exact ⟨hb.os.trans h.os, hb.tape.trans h.tape, hb.output.trans h.output, Nat.le_trans h.size hb.size, fun k hk hn => (Below.heap_setCell w p u k (fun e => by subst e; rcases hp with h1 | h1; exact hn h1; omega)).trans (h.block k hk hn)⟩
theorem offR_alloc {R : Nat} {a w : World} (h : OffR R a w) (o : Obj) : OffR R a (w.alloc o) := offR_trans h (offR_below ((Below.refl _ _).alloc (Nat.le_refl _) _))
theorem offR_drewN {R : Nat} {a w : World} (h : OffR R a w) (n : Nat) : OffR R a (w.drewN n) := ⟨h.os, h.tape, h.output, h.size, h.block⟩
theorem splitL_le (n : Nat) : ∀ s, (splitL n s).length ≤ n + 1 := by
  induction n with
  | zero => intro s; simp [splitL]
  | succ n ih =>
    intro s
    cases hc : cutL 32 s with
    | none => rw [splitL_none hc]; simp
    | some p => obtain ⟨x, y⟩ := p; rw [splitL_some hc]; have := ih y; simp; omega
theorem splitL_short (n : Nat) : ∀ s, ∀ x ∈ splitL n s, x.length ≤ s.length := by
  induction n with
  | zero => intro s x hx; simp [splitL] at hx; rw [hx]; exact Nat.le_refl _
  | succ n ih =>
    intro s x hx
    cases hc : cutL 32 s with
    | none => rw [splitL_none hc] at hx; simp at hx; rw [hx]; exact Nat.le_refl _
    | some p =>
      obtain ⟨u, v⟩ := p
      rw [splitL_some hc] at hx
      have hl := congrArg List.length (cutL_some hc).1
      simp only [List.length_append, List.length_cons] at hl
      rcases List.mem_cons.1 hx with rfl | hx
      · omega
      · have := ih v x hx; omega
theorem four_of {P : List (List UInt8)} (h : P.length = 4) : ∃ a b c d, P = [a, b, c, d] := by
  match P, h with
  | [a, b, c, d], _ => exact ⟨a, b, c, d, rfl⟩
/-- What a look into the numbers tells. -/
theorem num_look {w : World} {mb : Nat} {ns : List (List UInt8)} (h : NumMap w mb ns) (s : List UInt8) (hs : s.length ≤ 281474976710656) :
    ∃ kd : Int, (∀ W : World, W.heap = w.heap → (Instr.lookup 72 (.map (some mb)) (.string (bs s)) true).run Tryd.prog W = .ok (.tuple #[.int .i64 kd, .bool (decide (s ∈ ns))]) W) ∧ (s ∈ ns → ∃ j : Nat, ns[j]? = some s ∧ kd = (j : Int)) := by
  obtain ⟨D, hm, h1, h2, h3, -, -⟩ := h
  have key : ∀ W : World, W.heap = w.heap → ∃ c, (Instr.lookup 72 (.map (some mb)) (.string (bs s)) true).run Tryd.prog W = .ok (.tuple #[.int .i64 c, .bool (decide (s ∈ ns))]) W ∧ D.atKey (.string s) (.lit (.int .i64 0)) = .lit (.int .i64 c) := fun W hW => by
    have hm' : W.ownsMap Tryd.prog 9 (plainElem Tryd.prog 3) mb ns.length D := by
      obtain ⟨es, c, hh, r⟩ := hm
      exact ⟨es, c, by rw [hW]; exact hh, r⟩
    obtain ⟨v, ps, hrun, hv⟩ := hm'.look_ok law9 Tryd.underlying72 (zero3 _) (plainElem_int Tryd.underlying3 (by decide)) (keyS s (by unfold maxLen; omega))
    obtain ⟨c, rfl, hc, hwc⟩ := plainElem_int_inv Tryd.underlying3 hv
    simp only [Prod.mk.injEq] at hc
    refine ⟨c, ?_, hc.1⟩
    rw [hrun, h1 s]
  obtain ⟨c0, -, hc0⟩ := key w rfl
  refine ⟨c0, fun W hW => ?_, fun hin => ?_⟩
  · obtain ⟨c, hr, hc⟩ := key W hW
    rw [hc0] at hc
    simp only [DataW.lit.injEq, Lit.int.injEq, true_and] at hc
    rw [hc]; exact hr
  · obtain ⟨j, hj, e⟩ := h2 s hin
    rw [hc0] at e
    simp only [DataW.lit.injEq, Lit.int.injEq, true_and] at e
    exact ⟨j, hj, e⟩

/-- The reader in memory. -/
def RdAt (w : World) (R : Nat) (a : Option Addr) (n cap : Nat) (src : ByteArray) (r : Int) (mb : Nat) : Prop := w.heap[R]? = some (.cells #[.slice a n cap, .string src, .int .i64 r, .map (some mb)] 75 (0, 0))
/-- How a call of token ends. -/
def TokPost (w : World) (R : Nat) (a : Option Addr) (n cap : Nat) (src : ByteArray) (mb : Nat) (P : T3 → Prop) (e : Ending) (w' : World) : Prop :=
  OffR R w w' ∧ ((∃ x : T3, P x ∧ e = .returned (.tuple #[.agg #[.int .i64 x.1, .int .i64 x.2.1, .int .i64 x.2.2], .bool true]) ∧ RdAt w' R a n cap src x.2.2 mb) ∨ ((∀ x, ¬ P x) ∧ e = .returned (.tuple #[.agg #[.int .i64 0, .int .i64 0, .int .i64 0], .bool false])))

set_option maxHeartbeats 2000000 in
set_option maxRecDepth 100000 in
theorem token_short (R : Nat) (a : Option Addr) (cap : Nat) (ns : List (List UInt8)) (src : ByteArray) (r : Int) (mb : Nat) (line : List UInt8) (hl : line.length ≤ 281474976710656) (hk : kindsB ns = true) (hr : 0 ≤ r) (w : World) (hs : (splitL 3 line).length < 4) :
    Calls Tryd.prog 31 #[.pointer (some ⟨R, 0, none⟩), .string (bs line)] w fun e w' => TokPost w R a ns.length cap src mb (isTok ns src r line) e w' := by
  have Hno : Hid (∀ x, ¬ isTok ns src r line x) := hide fun x hx => by
    obtain ⟨k, f, t, _, _, _, _, e⟩ := tok_split hk hr hx
    rw [e] at hs; simp at hs
  have HS := hide (splitN_any line hl)
  have hs' : ((splitL 3 line).length : Int) < 4 := by omega
  generalize (splitL 3 line).length = n at *
  go_enter Tryd.func31, Tryd.ntmps31
  go_wp2_with fail
  refine (unhide HS _).mono ?_
  rintro e w1 ⟨c1, rfl, -, hb1⟩
  have hA := (hb1.block w.heap.size (by simp)).trans (heap_new w _)
  have a0 := cell_block hA 0 _ rfl
  have a1 := cell_block hA 1 _ rfl
  have a2 := cell_block hA 2 _ rfl
  have f0 := frozen_block hA 0
  have f1 := frozen_block hA 1
  have f2 := frozen_block hA 2
  have Hof : Hid (OffR R w w1) := hide (offR_trans (offR_below ((Below.refl _ _).alloc (Nat.le_refl _) _)) (offR_below hb1))
  clear hb1 hA HS
  go_wp2
  refine bodyPost_ret (v := .tuple #[.agg #[.int .i64 0, .int .i64 0, .int .i64 0], .bool false]) (by simp [results, Tryd.results31, go_sem, a0, a1, a2]) rfl ?_
  exact ⟨offR_set (offR_set (offR_set (unhide Hof) (.inr (Nat.le_refl _)) _) (.inr (Nat.le_refl _)) _) (.inr (Nat.le_refl _)) _, .inr ⟨unhide Hno, rfl⟩⟩
end Go.Proofs.YtkckcnjamlpadabDoor

/- The law TokenReads, walked (texts below 10995116277760 bytes). -/
import Derived.Test.YtkckcnjamlpadaaDoorN4
import Derived.Test.YtkckcnjamlpadaaDoorA1
namespace Go.Proofs.YtkckcnjamlpadaaDoor
open Go.RowKit Go.Maps

theorem rdF_few (ns : List (List UInt8)) (src : ByteArray) : ∀ (n : Nat) (s : List UInt8) (acc : List T3), acc.length ≤ 65536 → (rdF ns src n s acc).1.length ≤ 65536
  | 0, _, _, h => h
  | n + 1, s, acc, h => by
    unfold rdF
    split
    · exact h
    · split
      · simp
      · split
        · simp
        · split
          · simp
          · refine rdF_few ns src n _ _ ?_
            rename_i h9
            rw [List.length_append]; simp only [List.length_cons, List.length_nil]; omega
theorem readT_few (ns : List (List UInt8)) (src : ByteArray) (s : List UInt8) : (readT ns src s).1.length ≤ 65536 := by
  unfold readT
  split
  · exact rdF_few ns src _ _ _ (by simp)
  · simp

set_option maxHeartbeats 4000000 in
set_option maxRecDepth 100000 in
theorem reads_walk (a : Option Addr) (ca : Nat) (ns : List (List UInt8)) (src : ByteArray) (hsrc : src.size < 10995116277760) (lines : List UInt8) (hl : lines.length ≤ 281474976710656) (w : World) (hrow : SRow w a ns) (hE : Env w) :
    Calls Tryd.prog 5 #[.slice a ns.length ca, .string src, .string (bs lines)] w fun e w' => e = .returned (.bool true) ∧ Below w.heap.size w w' := by
  have H18 := hide (read_any a ca ns src (by omega) lines hl w hrow hE)
  have H19 := hide (fun W (hb : Below w.heap.size w W) => rRead_any a ca ns src hsrc lines hl W (srow_below hrow (Nat.le_refl _) hb) (env_below hE hb))
  have HE := hide hE
  have hfew := readT_few ns src lines
  clear hrow hE
  generalize readT ns src lines = Z at *
  obtain ⟨m, z1, z2⟩ := Z
  simp only at H18 H19 hfew
  go_enter Tryd.func5, Tryd.ntmps5
  go_wp2_with fail
  refine (unhide H18).mono ?_
  rintro e w1 ⟨v, rfl, hown, hb1⟩
  obtain ⟨va, vc, rfl, htr, -⟩ := trow_own hown
  have Htr := hide htr; have Hb1 := hide hb1
  clear hown htr hb1 H18
  go_wp2_with fail
  refine (unhide H19 _ ((unhide Hb1).alloc (unhide Hb1).size _)).mono ?_
  rintro e w2 ⟨v, rfl, hown, hb2⟩
  obtain ⟨ua, uc, rfl, htr2, -⟩ := trow_own hown
  have hF := (hb2.block w1.heap.size (by simp)).trans (heap_new w1 _)
  have c0 := cell_block hF 0 _ rfl
  have c1 := cell_block hF 1 _ rfl
  have HS := hide (same_any va ua vc uc m m (by omega) w2 (trow_below (trow_below (unhide Htr) (Nat.le_refl _) ((Below.refl _ _).alloc (Nat.le_refl _) _)) (Nat.le_refl _) hb2) htr2)
  rw [show decide (m = m) = true from decide_eq_true rfl] at HS
  have Hb2 := hide (((unhide Hb1).alloc (unhide Hb1).size _).trans (hb2.mono (((unhide Hb1).alloc (unhide Hb1).size _)).size))
  have HF := hide hF
  clear hown htr2 hb2 hF Htr Hb1 H19 c0 c1
  go_wp2_with fail
  refine (unhide HS).mono ?_
  rintro e w3 ⟨rfl, hb3⟩
  have hF := (hb3.block w1.heap.size (lt_of_some (unhide HF))).trans (unhide HF)
  have c0 := cell_block hF 0 _ rfl
  have c1 := cell_block hF 1 _ rfl
  have Hb3 := hide ((unhide Hb2).trans (hb3.mono (unhide Hb2).size))
  have HA := hide (alive_any w3 (env_below (unhide HE) (unhide Hb3)))
  clear hb3 hF HF Hb2 HS
  go_wp2_with fail
  refine (unhide HA).mono ?_
  rintro e w4 ⟨rfl, hb4⟩
  have Hb4 := hide ((unhide Hb3).trans (hb4.mono (unhide Hb3).size))
  clear hb4 Hb3 HA
  go_wp2
  go_ret
  exact ⟨rfl, unhide Hb4⟩
end Go.Proofs.YtkckcnjamlpadaaDoor

/- The readers: readRune at a plain rune, and at an escape. -/
import Derived.Test.YtkbhdojgdgiggabDoorT6
namespace Go.Proofs.YtkbhdojgdgiggabDoor
open Go.RowKit Go.Lib

theorem gb_extract (s : ByteArray) (i : Nat) (hi : i < s.size) : gb (s.extract i s.size) 0 = gb s i := by
  have hz : 0 < (s.extract i s.size).size := by simp [ByteArray.size_extract]; omega
  rw [← gb_in hz, ← gb_in hi]
  simp [ByteArray.getElem_extract]
theorem decode_ascii (t : ByteArray) (h : 0 < t.size) (c : Int) (hc : gb t 0 = c) (h128 : c < 128) (w : World) :
    Calls Tryd.prog 90 #[.string t] w fun e w' => e = .returned (.tuple #[.int .i32 c, .int .i64 1]) ∧ w' = w := by
  have hne : t.toList.isEmpty = false := by
    rw [Lib.toList_data]
    cases h2 : t.data.toList with
    | nil => rw [Lib.size_eq, h2] at h; simp at h
    | cons _ _ => rfl
  have h0 : (0 : Int) < (t.size : Int) := by omega
  have c3 := gb_in h
  rw [hc] at c3
  have hz : 0 ≤ c := by rw [← c3]; omega
  go_enter Tryd.func90, Tryd.ntmps90
  go_wp2
  go_ret2
  exact ⟨rfl, rfl⟩
set_option maxHeartbeats 2000000 in
set_option maxRecDepth 100000 in
theorem sl_indexByte (s : ByteArray) (c : Int) (w : World) :
    Calls Tryd.prog 115 #[.string s, .int .u8 c] w fun e w' => e = .returned (.int .i64 (Lib.indexByte s.data.toList c.toNat.toUInt8)) ∧ w' = w := by
  go_enter Tryd.func115, Tryd.ntmps115
  go_wp2
  rw [run_callFunc_extern Tryd.func116 (by kernel_rfl) (by kernel_rfl) (by kernel_rfl) (e := Extern.BytealgIndexByte.indexByte) (by kernel_rfl), Lib.run_indexByteString]
  simp only [Result.andThen]
  rw [Oper.upon_value]
  go_wp2
  go_ret
  exact ⟨rfl, rfl⟩
set_option maxHeartbeats 2000000 in
set_option maxRecDepth 100000 in
theorem st_indexByte (s : ByteArray) (c : Int) (w : World) :
    Calls Tryd.prog 109 #[.string s, .int .u8 c] w fun e w' => e = .returned (.int .i64 (Lib.indexByte s.data.toList c.toNat.toUInt8)) ∧ w' = w := by
  have H := hide (sl_indexByte s c)
  go_enter Tryd.func109, Tryd.ntmps109
  go_wp2_with fail
  refine (unhide H _).mono ?_
  rintro e w' ⟨rfl, hw⟩
  obtain rfl := hw.symm
  go_wp2
  go_ret
  exact ⟨rfl, rfl⟩
set_option maxHeartbeats 2000000 in
set_option maxRecDepth 1000000 in
theorem indexRune_ascii (s : ByteArray) (r : Int) (h0 : 0 ≤ r) (h1 : r < 128) (w : World) :
    Calls Tryd.prog 102 #[.string s, .int .i32 r] w fun e w' => e = .returned (.int .i64 (Lib.indexByte s.data.toList r.toNat.toUInt8)) ∧ w' = w := by
  have H := hide (st_indexByte s r)
  go_enter Tryd.func102, Tryd.ntmps102
  go_wp2_with fail
  refine (unhide H _).mono ?_
  rintro e w' ⟨rfl, hw⟩
  obtain rfl := hw.symm
  go_wp2
  go_ret
  exact ⟨rfl, rfl⟩
set_option maxHeartbeats 2000000 in
set_option maxRecDepth 100000 in
theorem containsRune_ascii (s : ByteArray) (r : Int) (h0 : 0 ≤ r) (h1 : r < 128) (w : World) :
    Calls Tryd.prog 91 #[.string s, .int .i32 r] w fun e w' => e = .returned (.bool (decide (0 ≤ Lib.indexByte s.data.toList r.toNat.toUInt8))) ∧ w' = w := by
  have H := hide (indexRune_ascii s r h0 h1)
  go_enter Tryd.func91, Tryd.ntmps91
  go_wp2_with fail
  refine (unhide H _).mono ?_
  rintro e w' ⟨rfl, hw⟩
  obtain rfl := hw.symm
  go_wp2
  go_ret
  exact ⟨rfl, rfl⟩
def seps : ByteArray := { data := #[91, 93, 45, 34] }
set_option maxRecDepth 10000 in
theorem seps_fin : ∀ n : Fin 128, n.val ≠ 91 → n.val ≠ 93 → n.val ≠ 45 → n.val ≠ 34 → decide (0 ≤ Lib.indexByte seps.data.toList n.val.toUInt8) = false := by decide +kernel
theorem seps_not (r : Int) (h0 : 0 ≤ r) (h1 : r < 128) (a : r ≠ 91) (b : r ≠ 93) (c : r ≠ 45) (d : r ≠ 34) : decide (0 ≤ Lib.indexByte seps.data.toList r.toNat.toUInt8) = false :=
  seps_fin ⟨r.toNat, by omega⟩ (by simp; omega) (by simp; omega) (by simp; omega) (by simp; omega)

set_option maxHeartbeats 2000000 in
set_option maxRecDepth 100000 in
theorem readRune_plain (s : ByteArray) (i : Nat) (c : Int) (hs : s.size < 4611686018427387904) (hc : gb s i = c) (h1 : 33 ≤ c) (h2 : c ≤ 126) (a : c ≠ 91) (b : c ≠ 93) (d : c ≠ 45) (f : c ≠ 34) (g : c ≠ 92) (w : World) :
    Calls Tryd.prog 73 #[.string s, .int .i64 i] w fun e w' => e = .returned (RuneR c (i + 1)) ∧ Below w.heap.size w w' := by
  have hin : i < s.size := gb_pos (by omega)
  have c1 : (i : Int) ≤ s.size := by omega
  have HI := hide (isByte_any s i 92 (by omega))
  rw [hc, show (c == 92) = false by simpa using g] at HI
  have HD := hide (decode_ascii (s.extract i s.size) (by simp [ByteArray.size_extract]; omega) c (by rw [gb_extract s i hin, hc]) (by omega))
  have HC := hide (containsRune_ascii seps c (by omega) (by omega))
  rw [seps_not c (by omega) (by omega) a b d f] at HC
  have k1 : (c == 65533) = false := by simp; omega
  have k2 : ¬ c ≤ 32 := by omega
  have k3 : (c == 127) = false := by simp; omega
  have Hbel : Hid (Below w.heap.size w (w.alloc (.cells #[.int .i64 0, .int .i64 0] 43))) := hide ((Below.refl _ _).alloc (Nat.le_refl _) _)
  go_enter Tryd.func73, Tryd.ntmps73
  go_wp2_with fail
  refine (unhide HI _).mono ?_
  rintro e w' ⟨rfl, hw⟩
  obtain rfl := hw.symm
  go_wp2_with fail
  refine (unhide HD _).mono ?_
  rintro e w' ⟨rfl, hw⟩
  obtain rfl := hw.symm
  go_wp2_with fail
  refine (unhide HC _).mono ?_
  rintro e w' ⟨rfl, hw⟩
  obtain rfl := hw.symm
  go_wp2
  refine bodyPost_ret (v := RuneR c (i + 1)) (by simp [results, Tryd.results73, go_sem, RuneR]) rfl ⟨rfl, unhide Hbel⟩
theorem readRune_esc (s : ByteArray) (i : Nat) (r : Int) (n : Nat) (hc : gb s i = 92) (w : World)
    (H : ∀ w, Calls Tryd.prog 89 #[.string s, .int .i64 i] w fun e w' => e = .returned (RuneR r n) ∧ Below w.heap.size w w') :
    Calls Tryd.prog 73 #[.string s, .int .i64 i] w fun e w' => e = .returned (RuneR r n) ∧ Below w.heap.size w w' := by
  have HI := hide (isByte_any s i 92 (by omega))
  rw [hc] at HI
  have HH := hide H
  clear H
  have Hbel : Hid (Below w.heap.size w (w.alloc (.cells #[.int .i64 0, .int .i64 0] 43))) := hide ((Below.refl _ _).alloc (Nat.le_refl _) _)
  go_enter Tryd.func73, Tryd.ntmps73
  go_wp2_with fail
  refine (unhide HI _).mono ?_
  rintro e w' ⟨rfl, hw⟩
  obtain rfl := hw.symm
  go_wp2_with fail
  refine (unhide HH _).mono ?_
  rintro e w1 ⟨rfl, hb⟩
  have hfb := (FB.start w).below hb (by simp)
  have f0 := hfb.cell0; have f1 := hfb.cell1; have z0 := hfb.fz 0; have z1 := hfb.fz 1; have q0 := hfb.set 0 (by omega); have q1 := hfb.set 1 (by omega)
  have hb2 := (unhide Hbel).trans (below_le hb (by simp))
  have Hb2 := hide hb2
  clear hb2 hb hfb
  unfold RuneR
  go_wp2
  refine bodyPost_ret (v := RuneR r n) (by simp [results, Tryd.results73, go_sem, RuneR, f0, f1]) rfl ⟨rfl, unhide Hb2⟩
end Go.Proofs.YtkbhdojgdgiggabDoor

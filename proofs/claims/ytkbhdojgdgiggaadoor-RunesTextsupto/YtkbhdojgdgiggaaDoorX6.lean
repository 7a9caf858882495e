/- The readers at any text: whether a rune is one of four signs. -/
import Derived.Test.YtkbhdojgdgiggaaDoorY1
import Derived.Test.YtkbhdojgdgiggaaDoorS3
import Derived.WalkMore
import Derived.Laws.RangeAny
import Derived.Laws.RangeString
import Derived.LoopN
namespace Go.Proofs.YtkbhdojgdgiggaaDoor
open Go.RowKit Go.Lib

def seps : ByteArray := { data := #[91, 93, 45, 34] }
theorem enc_last (r : Int) (h : 128 ≤ r) (hv : Utf8.valid r = true) : ∃ n, (n = 2 ∨ n = 3 ∨ n = 4) ∧ (Utf8.encode r).size = n ∧ ∀ (hk : n - 1 < (Utf8.encode r).size), 128 ≤ ((Utf8.encode r)[n - 1]'hk).toNat := by
  have hc := enc_cases r hv
  have hz := enc_nat r
  rw [encode_eq r hv]
  generalize Lib.encodeRune r = l at *
  have key : ∀ (k : Nat) (z : List Nat), l.map UInt8.toNat = z → z.length = k + 1 → 128 ≤ z.getD k 0 → (⟨l.toArray⟩ : ByteArray).size = k + 1 ∧ ∀ (hk : k < (⟨l.toArray⟩ : ByteArray).size), 128 ≤ ((⟨l.toArray⟩ : ByteArray)[k]'hk).toNat := by
    intro k z e1 e2 e3
    have hl : l.length = k + 1 := by rw [← e2, ← e1]; simp
    refine ⟨by simpa [ByteArray.size] using hl, fun hk => ?_⟩
    have : (⟨l.toArray⟩ : ByteArray)[k]'hk = l[k]'(by omega) := rfl
    rw [this]
    rw [← e1, List.getD_eq_getElem?_getD, List.getElem?_eq_getElem (by simp; omega)] at e3
    simpa using e3
  rcases hc with ⟨a, b, e⟩ | ⟨a, b, e⟩ | ⟨a, b, e⟩ | ⟨a, b, e⟩
  · omega
  · rw [e] at hz; exact ⟨2, .inl rfl, key 1 _ hz rfl (by simp; omega)⟩
  · rw [e] at hz; exact ⟨3, .inr (.inl rfl), key 2 _ hz rfl (by simp; omega)⟩
  · rw [e] at hz; exact ⟨4, .inr (.inr rfl), key 3 _ hz rfl (by simp; omega)⟩
theorem idx_hi (l : List UInt8) (c : UInt8) (h : ∀ x ∈ l, x ≠ c) : Lib.indexByte l c = -1 := by
  induction l with
  | nil => rfl
  | cons x l ih =>
    have h1 : (x == c) = false := by simpa using h x (List.mem_cons_self ..)
    rw [Lib.indexByte, h1, ih (fun y hy => h y (List.mem_cons_of_mem _ hy))]
    rfl
theorem low_seps (j : Nat) (hj : j ≤ 4) : ∀ x ∈ (seps.extract j 4).data.toList, x.toNat < 128 := by
  have : ∀ k : Fin 5, ∀ x ∈ (seps.extract k.val 4).data.toList, x.toNat < 128 := by decide +kernel
  exact this ⟨j, by omega⟩
theorem idx_at (j : Nat) (hj : j ≤ 4) (C : Int) (h1 : 128 ≤ C) (h2 : C < 256) (w : World) :
    Calls Tryd.prog 135 #[.string (seps.extract j 4), .int .u8 C] w fun e w' => e = .returned (.int .i64 (-1)) ∧ w' = w := by
  have h := Tryd.strings_IndexByte (seps.extract j 4) C w
  rw [idx_hi _ _ (fun x hx e => by
    have a := low_seps j hj x hx
    rw [e] at a
    have : (C.toNat.toUInt8).toNat = C.toNat := by simp; omega
    omega)] at h
  exact h
set_option maxHeartbeats 2000000 in
set_option maxRecDepth 100000 in
theorem indexRune_hi (r : Int) (h : 128 ≤ r) (hv : Utf8.valid r = true) (hne : r ≠ 65533) (w : World) :
    Calls Tryd.prog 130 #[.string seps, .int .i32 r] w fun e w' => e = .returned (.int .i64 (-1)) ∧ Below w.heap.size w w' := by
  obtain ⟨n, hn, hsz, hlast⟩ := enc_last r h hv
  have HV := hide (Tryd.utf8_ValidRune r)
  have hv2 : Lib.validRune r = true := by have := (valid_iff r).1 hv; simp [Lib.validRune]; omega
  rw [hv2] at HV
  have h0 : ¬ r < 128 := by omega
  have h1 : (r == 65533) = false := by simpa using hne
  generalize hE : Utf8.encode r = E at *
  rcases hn with rfl | rfl | rfl
  · have hE1 : 1 < E.size := by omega
    obtain ⟨C, e1⟩ : ∃ C : Int, (E[1].toNat : Int) = C := ⟨_, rfl⟩
    have hc1 : 128 ≤ C := by have := hlast hE1; rw [← e1]; exact Int.ofNat_le.2 this
    have hc2 : C < 256 := by rw [← e1]; have := UInt8.toNat_lt E[1]; omega
    have HX := hide (idx_at 2 (by decide) C hc1 hc2)
    have hw2 : IntKind.i64.wrap 2 = 2 := by decide
    have hz4 : seps.size = 4 := rfl
    have hne2 : ((seps[1].toNat : Int) != C) = true := by
      rw [show (seps[1].toNat : Int) = 93 from rfl]; simp; omega
    clear hlast
    go_enter Tryd.func130, Tryd.ntmps130
    go_wp2_with fail
    refine (unhide HV _).mono ?_
    rintro e w' ⟨rfl, hw⟩
    obtain rfl := hw.symm
    go_wp2
    go_step3
    go_wp2_with fail
    go_loopw [9] (fun x wr => x = .int .i64 1 ∧ wr = w) (fun _ _ => 0)
    case atStart => exact ⟨by go_num, rfl⟩
    case round =>
      obtain ⟨rfl, rfl⟩ := hrel
      go_wp2_with fail
      go_step3
      go_wp2_with fail
      go_quiet (fail)
      have Hb := hide (below_drewN (Below.refl wr.heap.size wr) nq)
      generalize wr.drewN nq = W1 at *
      go_wp2_with fail
      go_quiet ((go_at_call 135; exact Calls.quiet_of_same (unhide HX _)))
      go_wp2_with fail
      rw [Exit.noGoto_ret]
      simp (config := { zetaDelta := true }) only [Exit.inBlock, Exit.then, Exit.noGoto_ret]
      go_ret
      exact ⟨rfl, below_drewN (unhide Hb) _⟩
  · have hE1 : 2 < E.size := by omega
    obtain ⟨C, e1⟩ : ∃ C : Int, (E[2].toNat : Int) = C := ⟨_, rfl⟩
    have hc1 : 128 ≤ C := by have := hlast hE1; rw [← e1]; exact Int.ofNat_le.2 this
    have hc2 : C < 256 := by rw [← e1]; have := UInt8.toNat_lt E[2]; omega
    have HX := hide (idx_at 3 (by decide) C hc1 hc2)
    have hw2 : IntKind.i64.wrap 3 = 3 := by decide
    have hz4 : seps.size = 4 := rfl
    have hne2 : ((seps[2].toNat : Int) != C) = true := by
      rw [show (seps[2].toNat : Int) = 45 from rfl]; simp; omega
    clear hlast
    go_enter Tryd.func130, Tryd.ntmps130
    go_wp2_with fail
    refine (unhide HV _).mono ?_
    rintro e w' ⟨rfl, hw⟩
    obtain rfl := hw.symm
    go_wp2
    go_step3
    go_wp2_with fail
    go_loopw [9] (fun x wr => x = .int .i64 2 ∧ wr = w) (fun _ _ => 0)
    case atStart => exact ⟨by go_num, rfl⟩
    case round =>
      obtain ⟨rfl, rfl⟩ := hrel
      go_wp2_with fail
      go_step3
      go_wp2_with fail
      go_quiet (fail)
      have Hb := hide (below_drewN (Below.refl wr.heap.size wr) nq)
      generalize wr.drewN nq = W1 at *
      go_wp2_with fail
      go_quiet ((go_at_call 135; exact Calls.quiet_of_same (unhide HX _)))
      go_wp2_with fail
      rw [Exit.noGoto_ret]
      simp (config := { zetaDelta := true }) only [Exit.inBlock, Exit.then, Exit.noGoto_ret]
      go_ret
      exact ⟨rfl, below_drewN (unhide Hb) _⟩
  · have hE1 : 3 < E.size := by omega
    obtain ⟨C, e1⟩ : ∃ C : Int, (E[3].toNat : Int) = C := ⟨_, rfl⟩
    have hc1 : 128 ≤ C := by have := hlast hE1; rw [← e1]; exact Int.ofNat_le.2 this
    have hc2 : C < 256 := by rw [← e1]; have := UInt8.toNat_lt E[3]; omega
    have HX := hide (idx_at 4 (by decide) C hc1 hc2)
    have hw2 : IntKind.i64.wrap 4 = 4 := by decide
    have hz4 : seps.size = 4 := rfl
    have hne2 : ((seps[3].toNat : Int) != C) = true := by
      rw [show (seps[3].toNat : Int) = 34 from rfl]; simp; omega
    clear hlast
    go_enter Tryd.func130, Tryd.ntmps130
    go_wp2_with fail
    refine (unhide HV _).mono ?_
    rintro e w' ⟨rfl, hw⟩
    obtain rfl := hw.symm
    go_wp2
    go_step3
    go_wp2_with fail
    go_loopw [9] (fun x wr => x = .int .i64 3 ∧ wr = w) (fun _ _ => 0)
    case atStart => exact ⟨by go_num, rfl⟩
    case round =>
      obtain ⟨rfl, rfl⟩ := hrel
      go_wp2_with fail
      go_step3
      go_wp2_with fail
      go_quiet (fail)
      have Hb := hide (below_drewN (Below.refl wr.heap.size wr) nq)
      generalize wr.drewN nq = W1 at *
      go_wp2_with fail
      go_quiet ((go_at_call 135; exact Calls.quiet_of_same (unhide HX _)))
      go_wp2_with fail
      rw [Exit.noGoto_ret]
      simp (config := { zetaDelta := true }) only [Exit.inBlock, Exit.then, Exit.noGoto_ret]
      go_ret
      exact ⟨rfl, below_drewN (unhide Hb) _⟩
theorem dec_seps (j : Nat) (hj : j < 4) : ∃ b : Nat, b < 128 ∧ Utf8.decode seps j = (b, 1) := by
  have : ∀ k : Fin 4, (Utf8.decode seps k.val).1 < 128 ∧ (Utf8.decode seps k.val).2 = 1 := by decide +kernel
  exact ⟨_, (this ⟨j, hj⟩).1, Prod.ext rfl (this ⟨j, hj⟩).2⟩
theorem next_seps (w : World) (j : Nat) (hj : j < 4) : ∃ b : Nat, b < 128 ∧ ∀ ty, (Instr.next (.pointer (some ⟨w.heap.size, 0, none⟩)) true ty).run Tryd.prog (w.iter seps j) = .ok (.tuple #[.bool true, .int .i64 j, .int .i32 b]) (w.iter seps (j + 1)) := by
  obtain ⟨b, hb, e⟩ := dec_seps j hj
  refine ⟨b, hb, fun ty => ?_⟩
  have := run_next_any (P := Tryd.prog) w seps j ty hj
  rw [e] at this
  exact this
set_option maxHeartbeats 2000000 in
set_option maxRecDepth 100000 in
theorem indexRune_std (w : World) :
    Calls Tryd.prog 130 #[.string seps, .int .i32 65533] w fun e w' => e = .returned (.int .i64 (-1)) ∧ Below w.heap.size w w' := by
  have hend : ∀ ty, (Instr.next (.pointer (some ⟨w.heap.size, 0, none⟩)) true ty).run Tryd.prog (w.iter seps 4) = _ := fun ty => run_next_end (P := Tryd.prog) w seps 4 ty (by decide)
  obtain ⟨b0, hb0, n0⟩ := next_seps w 0 (by omega)
  obtain ⟨b1, hb1, n1⟩ := next_seps w 1 (by omega)
  obtain ⟨b2, hb2, n2⟩ := next_seps w 2 (by omega)
  obtain ⟨b3, hb3, n3⟩ := next_seps w 3 (by omega)
  have k0 : ((b0 : Int) == 65533) = false := by simp; omega
  have k1 : ((b1 : Int) == 65533) = false := by simp; omega
  have k2 : ((b2 : Int) == 65533) = false := by simp; omega
  have k3 : ((b3 : Int) == 65533) = false := by simp; omega
  go_enter Tryd.func130, Tryd.ntmps130
  go_wp2_with fail
  refine wp_loop_rounds 5 ?_
  rw [rounds_succ]
  go_wp2_with fail
  rw [rounds_succ]
  go_wp2_with fail
  rw [rounds_succ]
  go_wp2_with fail
  rw [rounds_succ]
  go_wp2_with fail
  rw [rounds_succ]
  go_wp2_with fail
  go_ret
  exact ⟨rfl, (Below.refl _ _).alloc (Nat.le_refl _) _⟩
theorem indexRune_128 (r : Int) (h : 128 ≤ r) (hv : Utf8.valid r = true) (w : World) :
    Calls Tryd.prog 130 #[.string seps, .int .i32 r] w fun e w' => e = .returned (.int .i64 (-1)) ∧ Below w.heap.size w w' := by
  by_cases e : r = 65533
  · rw [e]; exact indexRune_std w
  · exact indexRune_hi r h hv e w
def sepB (r : Int) : Bool := r == 91 || r == 93 || r == 45 || r == 34
set_option maxRecDepth 10000 in
theorem sep_fin : ∀ n : Fin 128, decide (0 ≤ Lib.indexByte seps.data.toList n.val.toUInt8) = sepB (n.val : Int) := by decide +kernel
theorem containsRune_any (r : Int) (hv : Utf8.valid r = true) (w : World) :
    Calls Tryd.prog 116 #[.string seps, .int .i32 r] w fun e w' => e = .returned (.bool (sepB r)) ∧ Below w.heap.size w w' := by
  have h0 := (valid_iff r).1 hv
  by_cases h : r < 128
  · have e := sep_fin ⟨r.toNat, by omega⟩
    simp only at e
    rw [show (r.toNat : Int) = r by omega] at e
    rw [← e]
    exact (Tryd.strings_ContainsRune_ascii seps r w (by omega) h).mono fun e w' ⟨a, b⟩ => ⟨a, by rw [b]; exact Below.refl _ _⟩
  · have e : sepB r = false := by simp [sepB]; omega
    rw [e]
    have H := hide (indexRune_128 r (by omega) hv w)
    go_enter Tryd.func116, Tryd.ntmps116
    go_wp2_with fail
    refine (unhide H).mono ?_
    rintro e w1 ⟨rfl, hb⟩
    go_wp2
    go_ret
    exact ⟨rfl, hb⟩
end Go.Proofs.YtkbhdojgdgiggaaDoor

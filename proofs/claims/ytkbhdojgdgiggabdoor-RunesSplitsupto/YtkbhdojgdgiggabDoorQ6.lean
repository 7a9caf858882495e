/- slices.Sort at rune: partitionEqualOrdered. -/
import Derived.Test.YtkbhdojgdgiggabDoorQ5
import Derived.Deep.CutRange
import Derived.Deep.DeepCutAuto
namespace Go.Proofs.YtkbhdojgdgiggabDoor
open Go.RowKit Go.Sort

theorem partEq_stop {a i j I J : Nat} {D : Array Int} (h1 : I = scanUp (fun x => !ltInt D[a]! x) D j i) (h2 : J = scanDown (fun x => ltInt D[a]! x) D I j) (hgt : I > J) : partEqLoop ltInt a i j D = (I, D) := by
  rw [partEqLoop]
  simp only [← h1, ← h2]
  rw [if_pos hgt]
theorem partEq_go {a i j I J : Nat} {D : Array Int} (h1 : I = scanUp (fun x => !ltInt D[a]! x) D j i) (h2 : J = scanDown (fun x => ltInt D[a]! x) D I j) (hgt : ¬ I > J) (hi : i ≤ I) (hj : J ≤ j) (hJ : 1 ≤ J) : partEqLoop ltInt a i j D = partEqLoop ltInt a (I + 1) (J - 1) (swp D I J) := by
  rw [partEqLoop]
  simp only [← h1, ← h2]
  rw [if_neg hgt, dif_pos (by omega)]

set_option maxRecDepth 100000 in
set_option maxHeartbeats 8000000 in
theorem parteq_any (b cap n a c p : Nat) (d : Array Int) (hap : a ≤ p) (hpc : p < c) (hc : c ≤ n) (hn : n ≤ 281474976710656) (w : World) (h : RW w b cap n d) :
    Calls Tryd.prog 68 #[.slice (some ⟨b, 0, none⟩) n cap, .int .i64 a, .int .i64 c, .int .i64 p] w fun e w' => e = .returned (.int .i64 ((partitionEqual ltInt d a c p).1 : Nat)) ∧ RW w' b cap n (partitionEqual ltInt d a c p).2 ∧ OfB b w w' := by
  obtain ⟨C, hC⟩ : ∃ C, C = c - 1 := ⟨_, rfl⟩
  have eC : (c : Int) - 1 = (C : Int) := by omega
  obtain ⟨D0, hD0⟩ : ∃ D0, D0 = swp d a p := ⟨_, rfl⟩
  have hpart : partitionEqual ltInt d a c p = partEqLoop ltInt a (a + 1) C D0 := by rw [hD0, hC]; rfl
  generalize partitionEqual ltInt d a c p = RES at *
  have Hres := hide hpart
  have HC := hide hC
  have hCn : C < n := by omega
  have haC : a ≤ C := by omega
  have ca := rw_cell h a (by omega)
  have cp := rw_cell h p (by omega)
  have fa := rw_frozen h a
  have fp := rw_frozen h p
  have ba : (a : Int) < n := by omega
  have bp : (p : Int) < n := by omega
  obtain ⟨vv, c2, f2⟩ := rw_cell2 h a p (by omega) (.int .i32 d[p]!)
  have hs := rw_swp h a p
  rw [← hD0] at hs
  have Hs := hide hs
  clear hs hpart hC hD0
  go_enter Tryd.func68, Tryd.ntmps68
  go_wp2
  go_region
  have Hrw : Hid (RW (((w.setCell ⟨b, a, none⟩ (.int .i32 d[p]!)).setCell ⟨b, p, none⟩ (.int .i32 d[a]!)).drew) b cap n D0) := hide (unhide Hs).1
  have Hof : Hid (OfB b w (((w.setCell ⟨b, a, none⟩ (.int .i32 d[p]!)).setCell ⟨b, p, none⟩ (.int .i32 d[a]!)).drew)) := hide (unhide Hs).2
  generalize ((w.setCell ⟨b, a, none⟩ (.int .i32 d[p]!)).setCell ⟨b, p, none⟩ (.int .i32 d[a]!)).drew = W0 at Hrw Hof ⊢
  clear Hs ca cp fa fp ba bp c2 f2 vv
  go_wp2
  go_loopw [9, 10] (fun x y wr => ∃ (i3 j3 : Nat) (D : Array Int), x = .int .i64 i3 ∧ y = .int .i64 j3 ∧ a < i3 ∧ i3 ≤ n ∧ a ≤ j3 ∧ j3 < n ∧ RW wr b cap n D ∧ OfB b w wr ∧ partEqLoop ltInt a i3 j3 D = partEqLoop ltInt a (a + 1) C D0) (fun x y _ => (intOf y).toNat + 1 - (intOf x).toNat)
  case atStart => exact ⟨a + 1, C, D0, by go_num, rfl, by omega, by omega, by omega, by omega, unhide Hrw, unhide Hof, rfl⟩
  case round =>
    obtain ⟨i3, j3, D, rfl, rfl, hai3, hin3, haj3, hjn3, hrw, hof, heq⟩ := hrel
    have Hrw := hide hrw; have Hof := hide hof; have Hloop := hide heq
    clear hrw hof heq
    go_wp2
    go_loopw [9] (fun x wr => ∃ i : Nat, x = .int .i64 i ∧ i3 ≤ i ∧ i ≤ n ∧ RW wr b cap n D ∧ OfB b w wr ∧ scanUp (fun x => !ltInt D[a]! x) D j3 i = scanUp (fun x => !ltInt D[a]! x) D j3 i3) (fun x _ => j3 + 1 - (intOf x).toNat)
    case atStart => exact ⟨i3, by go_num, Nat.le_refl _, by omega, unhide Hrw, unhide Hof, rfl⟩
    case round =>
      obtain ⟨i, rfl, hi0, hin, hrw, hof, heq⟩ := hrel
      rw [scanUp] at heq
      obtain ⟨B, hB⟩ : ∃ B, B = (decide (i ≤ j3) && !ltInt D[a]! D[i]!) := ⟨_, rfl⟩
      rw [← hB] at heq
      have HB := hide hB
      have Heq := hide heq
      clear hB heq
      go_wp2
      go_cut [43] from 29 to 45 (fun s wx => s = .bool B ∧ RW wx b cap n D ∧ OfB b w wx)
      case first =>
        by_cases hij : i ≤ j3
        · have hij' : decide ((i : Int) ≤ (j3 : Int)) = true := by simp; omega
          have ci := rw_cell hrw i (by omega)
          have ca := rw_cell hrw a (by omega)
          have bi : (i : Int) < n := by omega
          have ba : (a : Int) < n := by omega
          go_quiet ((go_at_call 67; exact Calls.quiet_of_same (less_same _ _ _)))
          go_wp2_with fail
          go_meet
          case rel => exact ⟨by rw [unhide HB]; simp [hij, ltInt], rw_drew _ hrw, ofB_drew _ hof⟩
        · have hij' : decide ((i : Int) ≤ (j3 : Int)) = false := by simp; omega
          go_quiet (fail)
          go_wp2_with fail
          go_meet
          case rel => exact ⟨by rw [unhide HB]; simp [hij], rw_drew _ hrw, ofB_drew _ hof⟩
      case rest =>
        clear hrw hof
        obtain ⟨rfl, hrw, hof⟩ := hcut
        have Hrw := hide hrw; have Hof := hide hof
        clear hrw hof
        cases B with
        | true =>
          have hij : i ≤ j3 := by have := unhide HB; simp at this; omega
          have heq2 := unhide Heq
          rw [if_pos rfl] at heq2
          have Heq2 := hide heq2
          clear heq2 Heq HB
          go_wp2
          go_roundw
          case rel => exact ⟨i + 1, by go_num, by omega, by omega, unhide Hrw, unhide Hof, unhide Heq2⟩
          case measure => simp [intOf]; omega
        | false =>
          have heq2 := unhide Heq
          rw [if_neg (by simp)] at heq2
          have Heq2 := hide heq2
          clear heq2 Heq HB
          have hI := unhide Heq2
          have HI3 := hide hI
          clear hI Heq2
          go_wp2
          go_loopw [10] (fun x wr => ∃ j : Nat, x = .int .i64 j ∧ a ≤ j ∧ j ≤ j3 ∧ RW wr b cap n D ∧ OfB b w wr ∧ scanDown (fun x => ltInt D[a]! x) D i j = scanDown (fun x => ltInt D[a]! x) D i j3) (fun x _ => (intOf x).toNat)
          case atStart => exact ⟨j3, rfl, by omega, Nat.le_refl _, unhide Hrw, unhide Hof, rfl⟩
          case round =>
            obtain ⟨j, rfl, hja, hj0, hrw, hof, heq⟩ := hrel
            obtain ⟨B, hB⟩ : ∃ B, B = (decide (i ≤ j) && (ltInt D[a]! D[j]!)) := ⟨_, rfl⟩
            have heq1 : (if B = true then scanDown (fun x => ltInt D[a]! x) D i (j - 1) else j) = scanDown (fun x => ltInt D[a]! x) D i j3 := by
              rw [← heq, hB]
              cases j with
              | zero => rw [if_neg (by simp; omega), scanDown]
              | succ k => rw [scanDown]; rfl
            have HB := hide hB
            have Heq := hide heq1
            clear hB heq heq1
            go_wp2
            go_cut [59] from 46 to 61 (fun s wx => s = .bool B ∧ RW wx b cap n D ∧ OfB b w wx)
            case first =>
              by_cases hij : i ≤ j
              · have hij' : decide ((i : Int) ≤ (j : Int)) = true := by simp; omega
                have cj := rw_cell hrw j (by omega)
                have ca := rw_cell hrw a (by omega)
                have bj : (j : Int) < n := by omega
                have ba : (a : Int) < n := by omega
                go_quiet ((go_at_call 67; exact Calls.quiet_of_same (less_same _ _ _)))
                go_wp2_with fail
                go_meet
                case rel => exact ⟨by rw [unhide HB]; simp [hij, ltInt], rw_drew _ hrw, ofB_drew _ hof⟩
              · have hij' : decide ((i : Int) ≤ (j : Int)) = false := by simp; omega
                go_quiet (fail)
                go_wp2_with fail
                go_meet
                case rel => exact ⟨by rw [unhide HB]; simp [hij], rw_drew _ hrw, ofB_drew _ hof⟩
            case rest =>
              clear hrw hof
              obtain ⟨rfl, hrw, hof⟩ := hcut
              have Hrw := hide hrw; have Hof := hide hof
              clear hrw hof
              cases B with
              | true =>
                have hij : i ≤ j := by have := unhide HB; simp at this; omega
                have heq2 := unhide Heq
                rw [if_pos rfl] at heq2
                have Heq2 := hide heq2
                clear heq2 Heq HB
                have ej : (j : Int) - 1 = ((j - 1 : Nat) : Int) := by omega
                go_wp2
                go_roundw
                case rel => exact ⟨j - 1, by rw [← ej], by omega, by omega, unhide Hrw, unhide Hof, unhide Heq2⟩
                case measure => simp [intOf]; omega
              | false =>
                have heq2 := unhide Heq
                rw [if_neg (by simp)] at heq2
                have Heq2 := hide heq2
                clear heq2 Heq HB
                by_cases hgt : i > j
                · have hgt' : (j : Int) < (i : Int) := by omega
                  have hst : RES = (i, D) := by rw [unhide Hres, ← unhide Hloop]; exact partEq_stop (unhide HI3) (unhide Heq2) hgt
                  have Hst := hide hst
                  clear hst Hloop Hres HI3 Heq2
                  go_wp2
                  go_ret
                  exact ⟨by rw [unhide Hst]; rfl, by rw [unhide Hst]; exact unhide Hrw, unhide Hof⟩
                · have hgt' : ¬ (j : Int) < (i : Int) := by omega
                  have hst : partEqLoop ltInt a (i + 1) (j - 1) (swp D i j) = partEqLoop ltInt a (a + 1) C D0 := by rw [← unhide Hloop]; exact (partEq_go (unhide HI3) (unhide Heq2) hgt (by omega) (by omega) (by omega)).symm
                  have ci := rw_cell (unhide Hrw) i (by omega)
                  have cj := rw_cell (unhide Hrw) j (by omega)
                  have fi := rw_frozen (unhide Hrw) i
                  have fj := rw_frozen (unhide Hrw) j
                  have bi : (i : Int) < n := by omega
                  have bj : (j : Int) < n := by omega
                  obtain ⟨vv, c2, f2⟩ := rw_cell2 (unhide Hrw) i j (by omega) (.int .i32 D[j]!)
                  have Hs := hide (rw_swp (unhide Hrw) i j)
                  have Hst := hide hst
                  have ej : (j : Int) - 1 = ((j - 1 : Nat) : Int) := by omega
                  clear hst Hloop HI3 Heq2
                  go_wp2
                  go_region
                  go_wp2
                  go_roundw
                  case rel => exact ⟨i + 1, j - 1, swp D i j, by go_num, by rw [← ej], by omega, by omega, by omega, by omega, (unhide Hs).1, ofB_t (unhide Hof) (unhide Hs).2, unhide Hst⟩
                  case measure => simp [intOf]; omega
end Go.Proofs.YtkbhdojgdgiggabDoor

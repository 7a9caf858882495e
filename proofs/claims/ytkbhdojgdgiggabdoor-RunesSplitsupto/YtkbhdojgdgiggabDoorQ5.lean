/- slices.Sort at rune: partitionOrdered. -/
import Derived.Test.YtkbhdojgdgiggabDoorQ4
import Derived.Deep.CutRange
import Derived.Deep.DeepCutAuto
namespace Go.Proofs.YtkbhdojgdgiggabDoor
open Go.RowKit Go.Sort

theorem partLoop_stop {a i j I J : Nat} {D : Array Int} (h1 : I = scanUp (fun x => ltInt x D[a]!) D j i) (h2 : J = scanDown (fun x => !ltInt x D[a]!) D I j) (hgt : I > J) : partLoop ltInt a i j D = (J, D) := by
  rw [partLoop]
  simp only [← h1, ← h2]
  rw [if_pos hgt]
theorem partLoop_go {a i j I J : Nat} {D : Array Int} (h1 : I = scanUp (fun x => ltInt x D[a]!) D j i) (h2 : J = scanDown (fun x => !ltInt x D[a]!) D I j) (hgt : ¬ I > J) (hi : i ≤ I) (hj : J ≤ j) (hJ : 1 ≤ J) : partLoop ltInt a i j D = partLoop ltInt a (I + 1) (J - 1) (swp D I J) := by
  rw [partLoop]
  simp only [← h1, ← h2]
  rw [if_neg hgt, dif_pos (by omega)]

set_option maxRecDepth 100000 in
set_option maxHeartbeats 8000000 in
theorem part_any (b cap n a c p : Nat) (d : Array Int) (hap : a ≤ p) (hpc : p < c) (hc : c ≤ n) (hn : n ≤ 281474976710656) (w : World) (h : RW w b cap n d) :
    Calls Tryd.prog 69 #[.slice (some ⟨b, 0, none⟩) n cap, .int .i64 a, .int .i64 c, .int .i64 p] w fun e w' => e = .returned (.tuple #[.int .i64 ((partition ltInt d a c p).1 : Nat), .bool (partition ltInt d a c p).2.1]) ∧ RW w' b cap n (partition ltInt d a c p).2.2 ∧ OfB b w w' := by
  obtain ⟨C, hC⟩ : ∃ C, C = c - 1 := ⟨_, rfl⟩
  have eC : (c : Int) - 1 = (C : Int) := by omega
  obtain ⟨D0, hD0⟩ : ∃ D0, D0 = swp d a p := ⟨_, rfl⟩
  have hpart : partition ltInt d a c p = (if scanUp (fun x => ltInt x D0[a]!) D0 C (a + 1) > scanDown (fun x => !ltInt x D0[a]!) D0 (scanUp (fun x => ltInt x D0[a]!) D0 C (a + 1)) C then (scanDown (fun x => !ltInt x D0[a]!) D0 (scanUp (fun x => ltInt x D0[a]!) D0 C (a + 1)) C, true, swp D0 (scanDown (fun x => !ltInt x D0[a]!) D0 (scanUp (fun x => ltInt x D0[a]!) D0 C (a + 1)) C) a)
      else ((partLoop ltInt a (scanUp (fun x => ltInt x D0[a]!) D0 C (a + 1) + 1) (scanDown (fun x => !ltInt x D0[a]!) D0 (scanUp (fun x => ltInt x D0[a]!) D0 C (a + 1)) C - 1) (swp D0 (scanUp (fun x => ltInt x D0[a]!) D0 C (a + 1)) (scanDown (fun x => !ltInt x D0[a]!) D0 (scanUp (fun x => ltInt x D0[a]!) D0 C (a + 1)) C))).1, false,
        swp (partLoop ltInt a (scanUp (fun x => ltInt x D0[a]!) D0 C (a + 1) + 1) (scanDown (fun x => !ltInt x D0[a]!) D0 (scanUp (fun x => ltInt x D0[a]!) D0 C (a + 1)) C - 1) (swp D0 (scanUp (fun x => ltInt x D0[a]!) D0 C (a + 1)) (scanDown (fun x => !ltInt x D0[a]!) D0 (scanUp (fun x => ltInt x D0[a]!) D0 C (a + 1)) C))).2 (partLoop ltInt a (scanUp (fun x => ltInt x D0[a]!) D0 C (a + 1) + 1) (scanDown (fun x => !ltInt x D0[a]!) D0 (scanUp (fun x => ltInt x D0[a]!) D0 C (a + 1)) C - 1) (swp D0 (scanUp (fun x => ltInt x D0[a]!) D0 C (a + 1)) (scanDown (fun x => !ltInt x D0[a]!) D0 (scanUp (fun x => ltInt x D0[a]!) D0 C (a + 1)) C))).1 a)) := by rw [hD0, hC]; rfl
  generalize partition ltInt d a c p = RES at *
  have Hpart := hide hpart
  have HC := hide hC
  have hCn : C < n := by omega
  have haC : a ≤ C := by omega
  have ca := rw_cell h a (by omega)
  have cp := rw_cell h p (by omega)
  have fa := rw_frozen h a
  have fp := rw_frozen h p
  have ba : (a : Int) < n := by omega
  have bp : (p : Int) < n := by omega
  obtain ⟨vv, c2, f2⟩ := rw_cell2 h a p (by omega) (.int .i32 d[p]!)
  have hs := rw_swp h a p
  rw [← hD0] at hs
  have Hs := hide hs
  clear hs hpart hC hD0
  go_enter Tryd.func69, Tryd.ntmps69
  go_wp2
  go_region
  have Hrw : Hid (RW (((w.setCell ⟨b, a, none⟩ (.int .i32 d[p]!)).setCell ⟨b, p, none⟩ (.int .i32 d[a]!)).drew) b cap n D0) := hide (unhide Hs).1
  have Hof : Hid (OfB b w (((w.setCell ⟨b, a, none⟩ (.int .i32 d[p]!)).setCell ⟨b, p, none⟩ (.int .i32 d[a]!)).drew)) := hide (unhide Hs).2
  generalize ((w.setCell ⟨b, a, none⟩ (.int .i32 d[p]!)).setCell ⟨b, p, none⟩ (.int .i32 d[a]!)).drew = W0 at Hrw Hof ⊢
  clear Hs ca cp fa fp ba bp c2 f2 vv
  go_wp2
  go_loopw [10] (fun x wr => ∃ i : Nat, x = .int .i64 i ∧ (a + 1) ≤ i ∧ i ≤ n ∧ RW wr b cap n D0 ∧ OfB b w wr ∧ scanUp (fun x => ltInt x D0[a]!) D0 C i = scanUp (fun x => ltInt x D0[a]!) D0 C (a + 1)) (fun x _ => C + 1 - (intOf x).toNat)
  case atStart => exact ⟨(a + 1), by go_num, Nat.le_refl _, by omega, unhide Hrw, unhide Hof, rfl⟩
  case round =>
    obtain ⟨i, rfl, hi0, hin, hrw, hof, heq⟩ := hrel
    rw [scanUp] at heq
    obtain ⟨B, hB⟩ : ∃ B, B = (decide (i ≤ C) && ltInt D0[i]! D0[a]!) := ⟨_, rfl⟩
    rw [← hB] at heq
    have HB := hide hB
    have Heq := hide heq
    clear hB heq
    go_wp2
    go_cut [43] from 30 to 45 (fun s wx => s = .bool B ∧ RW wx b cap n D0 ∧ OfB b w wx)
    case first =>
      by_cases hij : i ≤ C
      · have hij' : decide ((i : Int) ≤ (C : Int)) = true := by simp; omega
        have ci := rw_cell hrw i (by omega)
        have ca := rw_cell hrw a (by omega)
        have bi : (i : Int) < n := by omega
        have ba : (a : Int) < n := by omega
        go_quiet ((go_at_call 67; exact Calls.quiet_of_same (less_same _ _ _)))
        go_wp2_with fail
        go_meet
        case rel => exact ⟨by rw [unhide HB]; simp [hij, ltInt], rw_drew _ hrw, ofB_drew _ hof⟩
      · have hij' : decide ((i : Int) ≤ (C : Int)) = false := by simp; omega
        go_quiet (fail)
        go_wp2_with fail
        go_meet
        case rel => exact ⟨by rw [unhide HB]; simp [hij], rw_drew _ hrw, ofB_drew _ hof⟩
    case rest =>
      clear hrw hof
      obtain ⟨rfl, hrw, hof⟩ := hcut
      have Hrw := hide hrw; have Hof := hide hof
      clear hrw hof
      cases B with
      | true =>
        have hij : i ≤ C := by have := unhide HB; simp at this; omega
        have heq2 := unhide Heq
        rw [if_pos rfl] at heq2
        have Heq2 := hide heq2
        clear heq2 Heq HB
        go_wp2
        go_roundw
        case rel => exact ⟨i + 1, by go_num, by omega, by omega, unhide Hrw, unhide Hof, unhide Heq2⟩
        case measure => simp [intOf]; omega
      | false =>
        have heq2 := unhide Heq
        rw [if_neg (by simp)] at heq2
        have Heq2 := hide heq2
        clear heq2 Heq HB
        have hI := unhide Heq2
        have HI := hide hI
        clear hI Heq2
        go_wp2
        go_loopw [11] (fun x wr => ∃ j : Nat, x = .int .i64 j ∧ a ≤ j ∧ j ≤ C ∧ RW wr b cap n D0 ∧ OfB b w wr ∧ scanDown (fun x => !ltInt x D0[a]!) D0 i j = scanDown (fun x => !ltInt x D0[a]!) D0 i C) (fun x _ => (intOf x).toNat)
        case atStart => exact ⟨C, rfl, by omega, Nat.le_refl _, unhide Hrw, unhide Hof, rfl⟩
        case round =>
          obtain ⟨j, rfl, hja, hj0, hrw, hof, heq⟩ := hrel
          obtain ⟨B, hB⟩ : ∃ B, B = (decide (i ≤ j) && (!ltInt D0[j]! D0[a]!)) := ⟨_, rfl⟩
          have heq1 : (if B = true then scanDown (fun x => !ltInt x D0[a]!) D0 i (j - 1) else j) = scanDown (fun x => !ltInt x D0[a]!) D0 i C := by
            rw [← heq, hB]
            cases j with
            | zero => rw [if_neg (by simp; omega), scanDown]
            | succ k => rw [scanDown]; rfl
          have HB := hide hB
          have Heq := hide heq1
          clear hB heq heq1
          go_wp2
          go_cut [60] from 46 to 62 (fun s wx => s = .bool B ∧ RW wx b cap n D0 ∧ OfB b w wx)
          case first =>
            by_cases hij : i ≤ j
            · have hij' : decide ((i : Int) ≤ (j : Int)) = true := by simp; omega
              have cj := rw_cell hrw j (by omega)
              have ca := rw_cell hrw a (by omega)
              have bj : (j : Int) < n := by omega
              have ba : (a : Int) < n := by omega
              go_quiet ((go_at_call 67; exact Calls.quiet_of_same (less_same _ _ _)))
              go_wp2_with fail
              go_meet
              case rel => exact ⟨by rw [unhide HB]; simp [hij, ltInt], rw_drew _ hrw, ofB_drew _ hof⟩
            · have hij' : decide ((i : Int) ≤ (j : Int)) = false := by simp; omega
              go_quiet (fail)
              go_wp2_with fail
              go_meet
              case rel => exact ⟨by rw [unhide HB]; simp [hij], rw_drew _ hrw, ofB_drew _ hof⟩
          case rest =>
            clear hrw hof
            obtain ⟨rfl, hrw, hof⟩ := hcut
            have Hrw := hide hrw; have Hof := hide hof
            clear hrw hof
            cases B with
            | true =>
              have hij : i ≤ j := by have := unhide HB; simp at this; omega
              have heq2 := unhide Heq
              rw [if_pos rfl] at heq2
              have Heq2 := hide heq2
              clear heq2 Heq HB
              have ej : (j : Int) - 1 = ((j - 1 : Nat) : Int) := by omega
              go_wp2
              go_roundw
              case rel => exact ⟨j - 1, by rw [← ej], by omega, by omega, unhide Hrw, unhide Hof, unhide Heq2⟩
              case measure => simp [intOf]; omega
            | false =>
              have heq2 := unhide Heq
              rw [if_neg (by simp)] at heq2
              have Heq2 := hide heq2
              clear heq2 Heq HB
              by_cases hgt : i > j
              · have hgt' : (j : Int) < (i : Int) := by omega
                have hres : RES = (j, true, swp D0 j a) := by rw [unhide Hpart, ← unhide HI, ← unhide Heq2, if_pos hgt]
                have cj := rw_cell (unhide Hrw) j (by omega)
                have ca := rw_cell (unhide Hrw) a (by omega)
                have fj := rw_frozen (unhide Hrw) j
                have fa := rw_frozen (unhide Hrw) a
                have bj : (j : Int) < n := by omega
                have ba : (a : Int) < n := by omega
                obtain ⟨vv, c2, f2⟩ := rw_cell2 (unhide Hrw) j a (by omega) (.int .i32 D0[a]!)
                have Hs := hide (rw_swp (unhide Hrw) j a)
                have Hres := hide hres
                clear hres Hpart HI Heq2
                go_wp2
                go_region
                go_wp2
                go_ret2
                exact ⟨by rw [unhide Hres]; rfl, by rw [unhide Hres]; exact (unhide Hs).1, ofB_t (unhide Hof) (unhide Hs).2⟩
              · have hgt' : ¬ (j : Int) < (i : Int) := by omega
                obtain ⟨I1, hI1⟩ : ∃ I1, I1 = i + 1 := ⟨_, rfl⟩
                obtain ⟨J1, hJ1⟩ : ∃ J1, J1 = j - 1 := ⟨_, rfl⟩
                obtain ⟨D1, hD1⟩ : ∃ D1, D1 = swp D0 i j := ⟨_, rfl⟩
                have hres : RES = ((partLoop ltInt a I1 J1 D1).1, false, swp (partLoop ltInt a I1 J1 D1).2 (partLoop ltInt a I1 J1 D1).1 a) := by rw [unhide Hpart, ← unhide HI, ← unhide Heq2, if_neg hgt, hI1, hJ1, hD1]
                have HI1 : Hid (Value.int .i64 ((i : Int) + 1) = .int .i64 I1) := hide (by rw [hI1]; go_num)
                have HJ1 : Hid (Value.int .i64 ((j : Int) - 1) = .int .i64 J1) := hide (by rw [hJ1, show (j : Int) - 1 = ((j - 1 : Nat) : Int) by omega])
                have ci := rw_cell (unhide Hrw) i (by omega)
                have cj := rw_cell (unhide Hrw) j (by omega)
                have fi := rw_frozen (unhide Hrw) i
                have fj := rw_frozen (unhide Hrw) j
                have bi : (i : Int) < n := by omega
                have bj : (j : Int) < n := by omega
                obtain ⟨vv, c2, f2⟩ := rw_cell2 (unhide Hrw) i j (by omega) (.int .i32 D0[j]!)
                have hs := rw_swp (unhide Hrw) i j
                rw [← hD1] at hs
                have Hs := hide hs
                have Hres := hide hres
                have hI1n : a < I1 ∧ I1 ≤ n ∧ a ≤ J1 ∧ J1 < n := by omega
                clear hres Hpart HI Heq2 hs hI1 hJ1 hD1
                go_wp2
                go_region
                have Hof1 := hide (ofB_t (unhide Hof) (unhide Hs).2)
                have Hrw1 := hide (unhide Hs).1
                have Hrw2 : Hid (RW ((wc.setCell ⟨b, i, none⟩ (.int .i32 D0[j]!)).setCell ⟨b, j, none⟩ (.int .i32 D0[i]!)).drew b cap n D1) := Hrw1
                have Hof2 : Hid (OfB b w ((wc.setCell ⟨b, i, none⟩ (.int .i32 D0[j]!)).setCell ⟨b, j, none⟩ (.int .i32 D0[i]!)).drew) := Hof1
                clear Hrw Hof Hrw1 Hof1 Hs
                have Hrw := Hrw2; have Hof := Hof2
                clear Hrw2 Hof2
                generalize ((wc.setCell ⟨b, i, none⟩ (.int .i32 D0[j]!)).setCell ⟨b, j, none⟩ (.int .i32 D0[i]!)).drew = W3 at Hrw Hof ⊢
                clear ci cj fi fj bi bj c2 f2 vv
                go_wp2
                go_loopw [10, 11] (fun x y wr => ∃ (i3 j3 : Nat) (D : Array Int), x = .int .i64 i3 ∧ y = .int .i64 j3 ∧ a < i3 ∧ i3 ≤ n ∧ a ≤ j3 ∧ j3 < n ∧ RW wr b cap n D ∧ OfB b w wr ∧ partLoop ltInt a i3 j3 D = partLoop ltInt a I1 J1 D1) (fun x y _ => (intOf y).toNat + 1 - (intOf x).toNat)
                case atStart => exact ⟨I1, J1, D1, unhide HI1, unhide HJ1, by omega, by omega, by omega, by omega, unhide Hrw, unhide Hof, rfl⟩
                case round =>
                  obtain ⟨i3, j3, D, rfl, rfl, hai3, hin3, haj3, hjn3, hrw, hof, heq⟩ := hrel
                  have Hrw := hide hrw; have Hof := hide hof; have Hloop := hide heq
                  clear hrw hof heq
                  go_wp2
                  go_loopw [10] (fun x wr => ∃ i : Nat, x = .int .i64 i ∧ i3 ≤ i ∧ i ≤ n ∧ RW wr b cap n D ∧ OfB b w wr ∧ scanUp (fun x => ltInt x D[a]!) D j3 i = scanUp (fun x => ltInt x D[a]!) D j3 i3) (fun x _ => j3 + 1 - (intOf x).toNat)
                  case atStart => exact ⟨i3, by go_num, Nat.le_refl _, by omega, unhide Hrw, unhide Hof, rfl⟩
                  case round =>
                    obtain ⟨i, rfl, hi0, hin, hrw, hof, heq⟩ := hrel
                    rw [scanUp] at heq
                    obtain ⟨B, hB⟩ : ∃ B, B = (decide (i ≤ j3) && ltInt D[i]! D[a]!) := ⟨_, rfl⟩
                    rw [← hB] at heq
                    have HB := hide hB
                    have Heq := hide heq
                    clear hB heq
                    go_wp2
                    go_cut [112] from 99 to 114 (fun s wx => s = .bool B ∧ RW wx b cap n D ∧ OfB b w wx)
                    case first =>
                      by_cases hij : i ≤ j3
                      · have hij' : decide ((i : Int) ≤ (j3 : Int)) = true := by simp; omega
                        have ci := rw_cell hrw i (by omega)
                        have ca := rw_cell hrw a (by omega)
                        have bi : (i : Int) < n := by omega
                        have ba : (a : Int) < n := by omega
                        go_quiet ((go_at_call 67; exact Calls.quiet_of_same (less_same _ _ _)))
                        go_wp2_with fail
                        go_meet
                        case rel => exact ⟨by rw [unhide HB]; simp [hij, ltInt], rw_drew _ hrw, ofB_drew _ hof⟩
                      · have hij' : decide ((i : Int) ≤ (j3 : Int)) = false := by simp; omega
                        go_quiet (fail)
                        go_wp2_with fail
                        go_meet
                        case rel => exact ⟨by rw [unhide HB]; simp [hij], rw_drew _ hrw, ofB_drew _ hof⟩
                    case rest =>
                      clear hrw hof
                      obtain ⟨rfl, hrw, hof⟩ := hcut
                      have Hrw := hide hrw; have Hof := hide hof
                      clear hrw hof
                      cases B with
                      | true =>
                        have hij : i ≤ j3 := by have := unhide HB; simp at this; omega
                        have heq2 := unhide Heq
                        rw [if_pos rfl] at heq2
                        have Heq2 := hide heq2
                        clear heq2 Heq HB
                        go_wp2
                        go_roundw
                        case rel => exact ⟨i + 1, by go_num, by omega, by omega, unhide Hrw, unhide Hof, unhide Heq2⟩
                        case measure => simp [intOf]; omega
                      | false =>
                        have heq2 := unhide Heq
                        rw [if_neg (by simp)] at heq2
                        have Heq2 := hide heq2
                        clear heq2 Heq HB
                        have hI := unhide Heq2
                        have HI3 := hide hI
                        clear hI Heq2
                        go_wp2
                        go_loopw [11] (fun x wr => ∃ j : Nat, x = .int .i64 j ∧ a ≤ j ∧ j ≤ j3 ∧ RW wr b cap n D ∧ OfB b w wr ∧ scanDown (fun x => !ltInt x D[a]!) D i j = scanDown (fun x => !ltInt x D[a]!) D i j3) (fun x _ => (intOf x).toNat)
                        case atStart => exact ⟨j3, rfl, by omega, Nat.le_refl _, unhide Hrw, unhide Hof, rfl⟩
                        case round =>
                          obtain ⟨j, rfl, hja, hj0, hrw, hof, heq⟩ := hrel
                          obtain ⟨B, hB⟩ : ∃ B, B = (decide (i ≤ j) && (!ltInt D[j]! D[a]!)) := ⟨_, rfl⟩
                          have heq1 : (if B = true then scanDown (fun x => !ltInt x D[a]!) D i (j - 1) else j) = scanDown (fun x => !ltInt x D[a]!) D i j3 := by
                            rw [← heq, hB]
                            cases j with
                            | zero => rw [if_neg (by simp; omega), scanDown]
                            | succ k => rw [scanDown]; rfl
                          have HB := hide hB
                          have Heq := hide heq1
                          clear hB heq heq1
                          go_wp2
                          go_cut [129] from 115 to 131 (fun s wx => s = .bool B ∧ RW wx b cap n D ∧ OfB b w wx)
                          case first =>
                            by_cases hij : i ≤ j
                            · have hij' : decide ((i : Int) ≤ (j : Int)) = true := by simp; omega
                              have cj := rw_cell hrw j (by omega)
                              have ca := rw_cell hrw a (by omega)
                              have bj : (j : Int) < n := by omega
                              have ba : (a : Int) < n := by omega
                              go_quiet ((go_at_call 67; exact Calls.quiet_of_same (less_same _ _ _)))
                              go_wp2_with fail
                              go_meet
                              case rel => exact ⟨by rw [unhide HB]; simp [hij, ltInt], rw_drew _ hrw, ofB_drew _ hof⟩
                            · have hij' : decide ((i : Int) ≤ (j : Int)) = false := by simp; omega
                              go_quiet (fail)
                              go_wp2_with fail
                              go_meet
                              case rel => exact ⟨by rw [unhide HB]; simp [hij], rw_drew _ hrw, ofB_drew _ hof⟩
                          case rest =>
                            clear hrw hof
                            obtain ⟨rfl, hrw, hof⟩ := hcut
                            have Hrw := hide hrw; have Hof := hide hof
                            clear hrw hof
                            cases B with
                            | true =>
                              have hij : i ≤ j := by have := unhide HB; simp at this; omega
                              have heq2 := unhide Heq
                              rw [if_pos rfl] at heq2
                              have Heq2 := hide heq2
                              clear heq2 Heq HB
                              have ej : (j : Int) - 1 = ((j - 1 : Nat) : Int) := by omega
                              go_wp2
                              go_roundw
                              case rel => exact ⟨j - 1, by rw [← ej], by omega, by omega, unhide Hrw, unhide Hof, unhide Heq2⟩
                              case measure => simp [intOf]; omega
                            | false =>
                              have heq2 := unhide Heq
                              rw [if_neg (by simp)] at heq2
                              have Heq2 := hide heq2
                              clear heq2 Heq HB
                              by_cases hgt : i > j
                              · have hgt' : (j : Int) < (i : Int) := by omega
                                have hst : partLoop ltInt a I1 J1 D1 = (j, D) := by rw [← unhide Hloop]; exact partLoop_stop (unhide HI3) (unhide Heq2) hgt
                                have hres2 : RES = (j, false, swp D j a) := by rw [unhide Hres, hst]
                                have cj := rw_cell (unhide Hrw) j (by omega)
                                have ca := rw_cell (unhide Hrw) a (by omega)
                                have fj := rw_frozen (unhide Hrw) j
                                have fa := rw_frozen (unhide Hrw) a
                                have bj : (j : Int) < n := by omega
                                have ba : (a : Int) < n := by omega
                                obtain ⟨vv, c2, f2⟩ := rw_cell2 (unhide Hrw) j a (by omega) (.int .i32 D[a]!)
                                have Hs := hide (rw_swp (unhide Hrw) j a)
                                have Hres2 := hide hres2
                                clear hst hres2 Hloop Hres HI3 Heq2
                                go_wp2
                                go_region
                                go_wp2
                                go_ret2
                                exact ⟨by rw [unhide Hres2]; rfl, by rw [unhide Hres2]; exact (unhide Hs).1, ofB_t (unhide Hof) (unhide Hs).2⟩
                              · have hgt' : ¬ (j : Int) < (i : Int) := by omega
                                have hst : partLoop ltInt a (i + 1) (j - 1) (swp D i j) = partLoop ltInt a I1 J1 D1 := by rw [← unhide Hloop]; exact (partLoop_go (unhide HI3) (unhide Heq2) hgt (by omega) (by omega) (by omega)).symm
                                have ci := rw_cell (unhide Hrw) i (by omega)
                                have cj := rw_cell (unhide Hrw) j (by omega)
                                have fi := rw_frozen (unhide Hrw) i
                                have fj := rw_frozen (unhide Hrw) j
                                have bi : (i : Int) < n := by omega
                                have bj : (j : Int) < n := by omega
                                obtain ⟨vv, c2, f2⟩ := rw_cell2 (unhide Hrw) i j (by omega) (.int .i32 D[j]!)
                                have Hs := hide (rw_swp (unhide Hrw) i j)
                                have Hst := hide hst
                                have ej : (j : Int) - 1 = ((j - 1 : Nat) : Int) := by omega
                                clear hst Hloop HI3 Heq2
                                go_wp2
                                go_region
                                go_wp2
                                go_roundw
                                case rel => exact ⟨i + 1, j - 1, swp D i j, by go_num, by rw [← ej], by omega, by omega, by omega, by omega, (unhide Hs).1, ofB_t (unhide Hof) (unhide Hs).2, unhide Hst⟩
                                case measure => simp [intOf]; omega
end Go.Proofs.YtkbhdojgdgiggabDoor

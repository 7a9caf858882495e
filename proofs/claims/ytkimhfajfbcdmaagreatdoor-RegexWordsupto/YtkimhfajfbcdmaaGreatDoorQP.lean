/- The reader: atom of a set, of a quoted text; post. (and what it leads to) -/
import Derived.Test.YtkimhfajfbcdmaaGreatDoorI9
import Derived.Deep.DeepCutAuto
/- The reader: atom of a set, of a quoted text; post. -/
namespace Go.Proofs.YtkimhfajfbcdmaaGreatDoor
open Go.RowKit Go.Maps

set_option maxHeartbeats 1000000 in
set_option maxRecDepth 100000 in
theorem rdc_atomS {B rb pb mb sb : Nat} {txt : ByteArray} {ov : Value} {sn : Nat} {DS : DataW Unit} {s s' : RSt} {x : Int} (h : RdC 146 B rb pb mb sb txt ov sn DS s s' x) (h1 : seesB txt s.nx ⟨#[40]⟩ = false) (h2 : seesB txt s.nx ⟨#[91]⟩ = true) : RdC 124 B rb pb mb sb txt ov sn DS s s' x := by
  intro av W hav hB hR
  have HS := hide (sees_any W rb txt s.at' s.nx s.op _ hR.rd ⟨#[40]⟩)
  rw [h1] at HS
  have HS2 := hide (fun q => sees_any (W.drewN q) rb txt s.at' s.nx s.op _ hR.rd ⟨#[91]⟩)
  rw [h2] at HS2
  have HP := hide (fun q => h av (W.drewN q) hav hB (rp_drew q hR))
  clear h h1 h2 hR hav
  go_enter Tryz.func124, Tryz.ntmps124
  go_wp2_with fail
  refine (unhide HS).mono ?_
  rintro e2 w2 ⟨rfl, q, hw⟩
  obtain rfl := hw
  go_wp2_with fail
  refine (unhide HS2 q).mono ?_
  rintro e2 w2 ⟨rfl, q2, hw⟩
  obtain rfl := hw
  go_wp2_with fail
  refine (unhide HP (q + q2)).mono ?_
  rintro e3 w3 ⟨rfl, hr3, hb3⟩
  have Hr3 := hide hr3; have Hb3 := hide (rfr_dN (q + q2) hb3)
  clear hr3 hb3
  go_wp2
  go_ret
  exact ⟨rfl, unhide Hr3, unhide Hb3⟩
set_option maxHeartbeats 1000000 in
set_option maxRecDepth 100000 in
theorem rdc_atomQ {B rb pb mb sb : Nat} {txt : ByteArray} {ov : Value} {sn : Nat} {DS : DataW Unit} {s s' : RSt} {x : Int} (h : RdC 147 B rb pb mb sb txt ov sn DS s s' x) (h1 : seesB txt s.nx ⟨#[40]⟩ = false) (h2 : seesB txt s.nx ⟨#[91]⟩ = false) (h3 : seesB txt s.nx ⟨#[34]⟩ = true) : RdC 124 B rb pb mb sb txt ov sn DS s s' x := by
  intro av W hav hB hR
  have HS := hide (sees_any W rb txt s.at' s.nx s.op _ hR.rd ⟨#[40]⟩)
  rw [h1] at HS
  have HS2 := hide (fun q => sees_any (W.drewN q) rb txt s.at' s.nx s.op _ hR.rd ⟨#[91]⟩)
  rw [h2] at HS2
  have HS3 := hide (fun q => sees_any (W.drewN q) rb txt s.at' s.nx s.op _ hR.rd ⟨#[34]⟩)
  rw [h3] at HS3
  have HP := hide (fun q => h av (W.drewN q) hav hB (rp_drew q hR))
  clear h h1 h2 h3 hR hav
  go_enter Tryz.func124, Tryz.ntmps124
  go_wp2_with fail
  refine (unhide HS).mono ?_
  rintro e2 w2 ⟨rfl, q, hw⟩
  obtain rfl := hw
  go_wp2_with fail
  refine (unhide HS2 q).mono ?_
  rintro e2 w2 ⟨rfl, q2, hw⟩
  obtain rfl := hw
  go_wp2_with fail
  refine (unhide HS3 (q + q2)).mono ?_
  rintro e2 w2 ⟨rfl, q3, hw⟩
  obtain rfl := hw
  go_wp2_with fail
  refine (unhide HP (q + q2 + q3)).mono ?_
  rintro e3 w3 ⟨rfl, hr3, hb3⟩
  have Hr3 := hide hr3; have Hb3 := hide (rfr_dN (q + q2 + q3) hb3)
  clear hr3 hb3
  go_wp2
  go_ret
  exact ⟨rfl, unhide Hr3, unhide Hb3⟩
end Go.Proofs.YtkimhfajfbcdmaaGreatDoor

/- The reader: post. -/
namespace Go.Proofs.YtkimhfajfbcdmaaGreatDoor
open Go.RowKit Go.Maps

theorem rfr_to {B mb sb rb : Nat} {w w' : World} (h : RFr B mb sb rb w w') (q : Nat) : RFr B mb sb rb w (w'.drewN q) := ⟨h.os, h.tape, h.output, h.size, h.block⟩
/-- No sign of post's stands at n. -/
structure Ends (txt : ByteArray) (n : Nat) : Prop where
  e1 : seesB txt n ⟨#[42]⟩ = false
  e2 : seesB txt n ⟨#[43]⟩ = false
  e3 : seesB txt n ⟨#[63]⟩ = false
  e4 : seesB txt n ⟨#[123]⟩ = false
set_option maxHeartbeats 1000000 in
set_option maxRecDepth 100000 in
theorem rdc_post0 {B rb pb mb sb : Nat} {txt : ByteArray} {ov : Value} {sn : Nat} {DS : DataW Unit} {s s' : RSt} {x : Int} (h : RdC 124 B rb pb mb sb txt ov sn DS s s' x) (hE : Ends txt s'.nx) : RdC 105 B rb pb mb sb txt ov sn DS s s' x := by
  intro av W hav hB hR
  have HP := hide (h av W hav hB hR)
  have HE := hide hE
  clear h hR hav hE
  go_enter Tryz.func105, Tryz.ntmps105
  go_wp2_with fail
  refine (unhide HP).mono ?_
  rintro e1 w1 ⟨rfl, hr1, hb1⟩
  have Hr1 := hide hr1; have Hb1 := hide hb1
  clear hr1 hb1 HP
  go_wp2
  go_loopw [3] (fun v wr => v = .int .i64 x ∧ RP av wr B rb pb mb sb txt s'.at' s'.nx s'.op s'.L ov s'.e sn DS ∧ RFr B mb sb rb W wr) (fun _ _ => 0)
  case atStart => exact ⟨rfl, unhide Hr1, unhide Hb1⟩
  case round =>
    obtain ⟨rfl, hr, hb⟩ := hrel
    have Hr := hide hr; have Hb := hide hb
    clear hr hb Hr1 Hb1
    have T1 := hide (fun q => takes_no (wr.drewN q) rb txt s'.at' s'.nx s'.op _ (unhide Hr).rd ⟨#[42]⟩ (unhide HE).e1)
    have T2 := hide (fun q => takes_no (wr.drewN q) rb txt s'.at' s'.nx s'.op _ (unhide Hr).rd ⟨#[43]⟩ (unhide HE).e2)
    have T3 := hide (fun q => takes_no (wr.drewN q) rb txt s'.at' s'.nx s'.op _ (unhide Hr).rd ⟨#[63]⟩ (unhide HE).e3)
    have T4 := hide (fun q => sees_any (wr.drewN q) rb txt s'.at' s'.nx s'.op _ (unhide Hr).rd ⟨#[123]⟩)
    rw [(unhide HE).e4] at T4
    go_wp2_with fail
    refine (unhide T1 0).mono ?_
    rintro e2 w2 ⟨rfl, q1, hw⟩
    obtain rfl := hw
    go_wp2_with fail
    refine (unhide T2 q1).mono ?_
    rintro e2 w2 ⟨rfl, q2, hw⟩
    obtain rfl := hw
    go_wp2_with fail
    refine (unhide T3 (q1 + q2)).mono ?_
    rintro e2 w2 ⟨rfl, q3, hw⟩
    obtain rfl := hw
    go_wp2_with fail
    refine (unhide T4 (q1 + q2 + q3)).mono ?_
    rintro e2 w2 ⟨rfl, q4, hw⟩
    obtain rfl := hw
    have HrZ := fun q => hide (rp_drew q (unhide Hr))
    go_wp2
    go_ret
    exact ⟨rfl, unhide (HrZ _), rfr_to (unhide Hb) _⟩
/-- What holds at the head of post's loop. -/
def PostRel (av : Nat → Prop) (B rb pb mb sb : Nat) (txt : ByteArray) (ov : Value) (sn : Nat) (DS : DataW Unit) (W : World) (s1 s2 : RSt) (x : Nat) (z : Int) (v : Value) (wr : World) : Prop :=
  ((v = .int .i64 (x : Int) ∧ RP av wr B rb pb mb sb txt s1.at' s1.nx s1.op s1.L ov s1.e sn DS) ∨ (v = .int .i64 z ∧ RP av wr B rb pb mb sb txt s2.at' s2.nx s2.op s2.L ov s2.e sn DS)) ∧ RFr B mb sb rb W wr
set_option maxHeartbeats 2000000 in
set_option maxRecDepth 100000 in
theorem rdc_post1 {B rb pb mb sb : Nat} {txt : ByteArray} (htx : txt.size ≤ 281474976710656) {ov : Value} {sn : Nat} {DS : DataW Unit} {s s1 s2 : RSt} {x : Nat} (h : RdC 124 B rb pb mb sb txt ov sn DS s s1 x) (hs : seesB txt s1.nx ⟨#[42]⟩ = true) (hx : x < s1.L.length) (hL : s1.L.length < 1500000000000) (y : Nat) (hy : starX s1.L x = y) (hyl : y < (starL s1.L x).length)
    (h2 : s2 = ⟨s1.nx + 1, skipN txt (s1.nx + 1), s1.op, starL s1.L x, heldE (starL s1.L x) s1.e y⟩) (hgt : s1.nx < s2.nx) (hE : Ends txt s2.nx) : RdC 105 B rb pb mb sb txt ov sn DS s s2 (heldX (starL s1.L x) y) := by
  intro av W hav hB hR
  have hlt : s1.nx < txt.size := by have := hs; unfold seesB at this; simp at this; exact this.1
  have HP := hide (h av W hav hB hR)
  have HE := hide hE; have Hs := hide hs; have H2 := hide h2; have Hgt := hide hgt
  clear h hR hE hs h2 hgt
  go_enter Tryz.func105, Tryz.ntmps105
  go_wp2_with fail
  refine (unhide HP).mono ?_
  rintro e1 w1 ⟨rfl, hr1, hb1⟩
  have Hr1 := hide hr1; have Hb1 := hide hb1
  clear hr1 hb1 HP
  go_wp2
  go_loopw [3] (fun v wr => PostRel av B rb pb mb sb txt ov sn DS W s1 s2 x (heldX (starL s1.L x) y) v wr) (fun _ wr => txt.size + 1 - nextOf rb wr)
  case atStart => exact ⟨.inl ⟨rfl, unhide Hr1⟩, unhide Hb1⟩
  case round =>
    obtain ⟨hst, hb⟩ := hrel
    rcases hst with ⟨rfl, hr⟩ | ⟨rfl, hr⟩
    · have HT := hide (takes_yes wr rb txt htx s1.at' s1.nx s1.op _ hr.rd ⟨#[42]⟩ (unhide Hs))
      have Hn0 := hide (rd_next hr.rd)
      have Hr := hide hr; have Hb := hide hb
      clear hr hb Hr1 Hb1
      go_wp2_with fail
      refine (unhide HT).mono ?_
      rintro e2 w2 ⟨rfl, hr2, ho2⟩
      have hrp2 := rp_rd (unhide Hr) ho2 hr2
      have hb2 : RFr B mb sb rb W w2 := rfr_t (unhide Hb) (rfr_off ho2)
      have hrp3 := rp_below hrp2 (w' := w2.drew) (Below.refl _ _).drew
      have c4 := cell_block hrp3.rd 4 _ rfl
      have hst := star_any w2.drew B pb mb sb s1.L ov s1.e sn DS hrp3.pool (Nat.le_trans hB hb2.size) x hx hL (fun k hk => Nat.lt_of_lt_of_le (hav k hk) hb2.size)
      rw [hy] at hst
      have HSt := hide hst; have Hrp3 := hide hrp3; have Hb2 := hide hb2
      clear hr2 ho2 hrp2 hrp3 hb2 hst HT Hr Hb
      go_wp2_with fail
      go_region_with (first
        | (go_at_call 89; refine (unhide HSt).mono ?_; rintro e6 w6 ⟨rfl, hp6, hf6⟩; have hrp7 := rp_pool (unhide Hrp3) hf6 hp6; have d4 := cell_block hrp7.rd 4 _ rfl; have HH := hide (held_any w6 B pb mb sb _ ov s1.e sn DS hp6 y hyl); have Hrp7 := hide hrp7; have Hf6 := hide hf6; clear hrp7 hf6 hp6)
        | (go_at_call 27; refine (unhide HH).mono ?_; rintro e7 w7 ⟨rfl, hp7, hf7⟩; have Hp7 := hide hp7; have Hf7 := hide hf7; clear hp7 hf7))
      all_goals
        have hrN := rp_pool (unhide Hrp7) (unhide Hf7) (unhide Hp7)
        have hn := rd_next hrN.rd
        have HN : Hid (PostRel av B rb pb mb sb txt ov sn DS W s1 s2 x (heldX (starL s1.L x) y) (.int .i64 (heldX (starL s1.L x) y)) w7) := hide ⟨.inr ⟨rfl, by rw [unhide H2]; exact hrN⟩, rfr_t (rfr_t (unhide Hb2) (rfr_d (rfr_fr (unhide Hf6)))) (rfr_fr (unhide Hf7))⟩
        have Hn := hide hn
        clear hrN hn
        go_wp2
        go_roundw
        case rel =>
          (repeat apply Exists.intro)
          exact ⟨unhide HN, rfl⟩
        case measure =>
          have := unhide Hgt
          rw [unhide H2] at this
          rw [unhide Hn0, unhide Hn]
          simp only [Int.toNat_natCast] at this ⊢
          omega
    · have Hr := hide hr; have Hb := hide hb
      clear hr hb Hr1 Hb1
      have T1 := hide (fun q => takes_no (wr.drewN q) rb txt s2.at' s2.nx s2.op _ (unhide Hr).rd ⟨#[42]⟩ (unhide HE).e1)
      have T2 := hide (fun q => takes_no (wr.drewN q) rb txt s2.at' s2.nx s2.op _ (unhide Hr).rd ⟨#[43]⟩ (unhide HE).e2)
      have T3 := hide (fun q => takes_no (wr.drewN q) rb txt s2.at' s2.nx s2.op _ (unhide Hr).rd ⟨#[63]⟩ (unhide HE).e3)
      have T4 := hide (fun q => sees_any (wr.drewN q) rb txt s2.at' s2.nx s2.op _ (unhide Hr).rd ⟨#[123]⟩)
      rw [(unhide HE).e4] at T4
      go_wp2_with fail
      refine (unhide T1 0).mono ?_
      rintro e2 w2 ⟨rfl, q1, hw⟩
      obtain rfl := hw
      go_wp2_with fail
      refine (unhide T2 q1).mono ?_
      rintro e2 w2 ⟨rfl, q2, hw⟩
      obtain rfl := hw
      go_wp2_with fail
      refine (unhide T3 (q1 + q2)).mono ?_
      rintro e2 w2 ⟨rfl, q3, hw⟩
      obtain rfl := hw
      go_wp2_with fail
      refine (unhide T4 (q1 + q2 + q3)).mono ?_
      rintro e2 w2 ⟨rfl, q4, hw⟩
      obtain rfl := hw
      have HrZ := fun q => hide (rp_drew q (unhide Hr))
      go_wp2
      go_ret
      exact ⟨rfl, unhide (HrZ _), rfr_to (unhide Hb) _⟩
end Go.Proofs.YtkimhfajfbcdmaaGreatDoor

/- The reader at awake's text. -/
namespace Go.Proofs.YtkimhfajfbcdmaaGreatDoor
open Go.RowKit Go.Maps

/-- What awake reads. -/
def awk : ByteArray := ⟨#[91, 97, 45, 99, 93, 42, 32, 38, 32, 33, 34, 98, 34]⟩
def A1 : List Ab := base3 ++ [⟨2, [(97, 99)], [], 2, 1, false⟩]
def A2 : List Ab := A1 ++ [⟨7, [], [3], 3, 2, true⟩]
def A3 : List Ab := A2 ++ [⟨2, [(98, 98)], [], 2, 1, false⟩]
def A4 : List Ab := A3 ++ [⟨6, [], [5], 3, 2, true⟩]
theorem rdc_eq {f B rb pb mb sb : Nat} {txt : ByteArray} {ov : Value} {sn : Nat} {DS : DataW Unit} {s s' s'' : RSt} {r r' : Int} (h : RdC f B rb pb mb sb txt ov sn DS s s' r) (e : s' = s'') (er : r = r') : RdC f B rb pb mb sb txt ov sn DS s s'' r' := by
  subst e; subst er; exact h
theorem awk_set : SetAt awk 0 97 99 := ⟨by decide, by decide, rfl, rfl, rfl, rfl, rfl, by decide +kernel, by decide +kernel, by decide, by decide⟩
section
variable {B rb pb mb sb : Nat} {ov : Value} {sn : Nat} {DS : DataW Unit}
theorem r1 : RdC 146 B rb pb mb sb awk ov sn DS ⟨0, 0, 0, base3, 0⟩ ⟨5, 5, 0, A1, 0⟩ 3 := rdc_eq (rdc_set (s := ⟨0, 0, 0, base3, 0⟩) awk_set (by decide)) (by kernel_rfl) (by kernel_rfl)
theorem r2 : RdC 124 B rb pb mb sb awk ov sn DS ⟨0, 0, 0, base3, 0⟩ ⟨5, 5, 0, A1, 0⟩ 3 := rdc_atomS r1 (by kernel_rfl) (by kernel_rfl)
theorem r3 : RdC 105 B rb pb mb sb awk ov sn DS ⟨0, 0, 0, base3, 0⟩ ⟨6, 7, 0, A2, 0⟩ 4 :=
  rdc_eq (rdc_post1 (s2 := ⟨6, 7, 0, A2, 0⟩) (x := 3) (by decide) r2 (by kernel_rfl) (by decide) (by decide) 4 (by kernel_rfl) (by decide +kernel) (by kernel_rfl) (by decide) ⟨by kernel_rfl, by kernel_rfl, by kernel_rfl, by kernel_rfl⟩) rfl (by kernel_rfl)
theorem r4 : RdC 96 B rb pb mb sb awk ov sn DS ⟨0, 0, 0, base3, 0⟩ ⟨6, 7, 0, A2, 0⟩ 4 := rdc_pre0 r3 (by kernel_rfl)
theorem r5 : RdC 84 B rb pb mb sb awk ov sn DS ⟨0, 0, 0, base3, 0⟩ ⟨6, 7, 0, A2, 0⟩ 4 :=
  rdc_eq (rdc_cat1 r4 (by kernel_rfl) (by decide) (by decide) (by decide) 4 (by kernel_rfl) (by decide +kernel)) (by kernel_rfl) (by kernel_rfl)
theorem r6 : RdC 147 B rb pb mb sb awk ov sn DS ⟨10, 10, 1, A2, 0⟩ ⟨13, 13, 1, A3, 0⟩ 5 :=
  rdc_eq (rdc_quoted (s := ⟨10, 10, 1, A2, 0⟩) (by decide) (by decide) (by kernel_rfl) (by decide) (by decide) 5 (by kernel_rfl) (by decide +kernel)) (by kernel_rfl) (by kernel_rfl)
theorem r7 : RdC 124 B rb pb mb sb awk ov sn DS ⟨10, 10, 1, A2, 0⟩ ⟨13, 13, 1, A3, 0⟩ 5 := rdc_atomQ r6 (by kernel_rfl) (by kernel_rfl) (by kernel_rfl)
theorem r8 : RdC 105 B rb pb mb sb awk ov sn DS ⟨10, 10, 1, A2, 0⟩ ⟨13, 13, 1, A3, 0⟩ 5 := rdc_post0 r7 ⟨by kernel_rfl, by kernel_rfl, by kernel_rfl, by kernel_rfl⟩
theorem r9 : RdC 96 B rb pb mb sb awk ov sn DS ⟨10, 10, 1, A2, 0⟩ ⟨13, 13, 1, A3, 0⟩ 5 := rdc_pre0 r8 (by kernel_rfl)
theorem sk10 : skipN awk (9 + 1) = 10 := by kernel_rfl
theorem r10 : RdC 96 B rb pb mb sb awk ov sn DS ⟨8, 9, 0, A2, 0⟩ ⟨13, 13, 0, A4, 0⟩ 6 :=
  rdc_eq (rdc_pre1 (s := ⟨8, 9, 0, A2, 0⟩) (s' := ⟨13, 13, 1, A3, 0⟩) (x := 5) (by decide) (by decide) (by simp only [sk10]; exact r9) rfl (by kernel_rfl) (by decide) (by decide) 6 (by kernel_rfl) (by decide +kernel)) (by kernel_rfl) (by kernel_rfl)
theorem r11 : RdC 84 B rb pb mb sb awk ov sn DS ⟨8, 9, 0, A2, 0⟩ ⟨13, 13, 0, A4, 0⟩ 6 :=
  rdc_eq (rdc_cat1 r10 (by kernel_rfl) (by decide) (by decide) (by decide) 6 (by kernel_rfl) (by decide +kernel)) (by kernel_rfl) (by kernel_rfl)
end
end Go.Proofs.YtkimhfajfbcdmaaGreatDoor

/- The reader: what a call reads; cat of one, pre. (and what it leads to) -/
import Derived.Test.YtkimhfajfbcdmaaGreatDoorQM
/- The reader: what a call reads; cat of one, pre. -/
namespace Go.Proofs.YtkimhfajfbcdmaaGreatDoor
open Go.RowKit Go.Maps

/-- What a reader has come to: behind the last sign, the next one, how many are open, the pool's nodes, its error. -/
structure RSt where
  at' : Nat
  nx : Nat
  op : Nat
  L : List Ab
  e : Int
/-- A call of the reader's goes from one state to another and answers a number. -/
def RdC (f : Nat) (B rb pb mb sb : Nat) (txt : ByteArray) (ov : Value) (sn : Nat) (DS : DataW Unit) (s s' : RSt) (r : Int) : Prop :=
  ∀ (av : Nat → Prop) W, (∀ k, av k → k < W.heap.size) → B ≤ W.heap.size → RP av W B rb pb mb sb txt s.at' s.nx s.op s.L ov s.e sn DS → Calls Tryz.prog f #[.pointer (some ⟨rb, 0, none⟩)] W fun e1 w1 => e1 = .returned (.int .i64 r) ∧ RP av w1 B rb pb mb sb txt s'.at' s'.nx s'.op s'.L ov s'.e sn DS ∧ RFr B mb sb rb W w1
theorem rdc_cat1 {B rb pb mb sb : Nat} {txt : ByteArray} {ov : Value} {sn : Nat} {DS : DataW Unit} {s s' : RSt} {x : Int} (h : RdC 96 B rb pb mb sb txt ov sn DS s s' x)
    (hs : seesB txt s'.nx catT = false) (h2 : 2 ≤ s'.L.length) (hcap : s'.L.length * 2 < 1500000000000) (hx : 0 ≤ x ∧ x.toNat < s'.L.length) (y : Nat) (hy : (catA s'.L [x]).2 = y) (hyl : y < (catA s'.L [x]).1.length) :
    RdC 84 B rb pb mb sb txt ov sn DS s ⟨s'.at', s'.nx, s'.op, (catA s'.L [x]).1, heldE (catA s'.L [x]).1 s'.e y⟩ (heldX (catA s'.L [x]).1 y) := fun av W hav hB hR =>
  rcat1_any W hav B rb pb mb sb hB txt s'.at' s'.op s'.nx s'.L ov s'.e sn DS x (h av W hav hB hR) hs h2 hcap hx y hy hyl
theorem rp_drew {av : Nat → Prop} {W : World} {B rb pb mb sb : Nat} {txt : ByteArray} {a n o : Int} {L : List Ab} {ov : Value} {e : Int} {sn : Nat} {DS : DataW Unit} (q : Nat) (h : RP av W B rb pb mb sb txt a n o L ov e sn DS) : RP av (W.drewN q) B rb pb mb sb txt a n o L ov e sn DS := rp_below h ⟨rfl, rfl, rfl, Nat.le_refl _, fun _ _ => rfl⟩
def notT : ByteArray := ⟨#[33]⟩
set_option maxHeartbeats 2000000 in
set_option maxRecDepth 100000 in
theorem rdc_pre0 {B rb pb mb sb : Nat} {txt : ByteArray} {ov : Value} {sn : Nat} {DS : DataW Unit} {s s' : RSt} {x : Int} (h : RdC 105 B rb pb mb sb txt ov sn DS s s' x) (hs : seesB txt s.nx notT = false) : RdC 96 B rb pb mb sb txt ov sn DS s s' x := by
  intro av W hav hB hR
  have HS := hide (sees_any W rb txt s.at' s.nx s.op _ hR.rd notT)
  rw [hs] at HS
  unfold notT at HS
  have HP := hide (fun q => h av (W.drewN q) hav hB (rp_drew q hR))
  clear h hs hR hav
  go_enter Tryz.func96, Tryz.ntmps96
  go_wp2_with fail
  refine (unhide HS).mono ?_
  rintro e2 w2 ⟨rfl, q, hw⟩
  obtain rfl := hw
  go_wp2_with fail
  refine (unhide HP q).mono ?_
  rintro e3 w3 ⟨rfl, hr3, hb3⟩
  have Hr3 := hide hr3; have Hb3 := hide (rfr_dN q hb3)
  clear hr3 hb3
  go_wp2
  go_ret
  exact ⟨rfl, unhide Hr3, unhide Hb3⟩
end Go.Proofs.YtkimhfajfbcdmaaGreatDoor

/- The reader: pre of a not. -/
namespace Go.Proofs.YtkimhfajfbcdmaaGreatDoor
open Go.RowKit Go.Maps

set_option maxHeartbeats 4000000 in
set_option maxRecDepth 100000 in
theorem rdc_pre1 {B rb pb mb sb : Nat} {txt : ByteArray} (htx : txt.size ≤ 281474976710656) {ov : Value} {sn : Nat} {DS : DataW Unit} {s s' : RSt} {x : Nat} (hop : s.op < 64) (h : RdC 96 B rb pb mb sb txt ov sn DS ⟨s.nx + 1, skipN txt (s.nx + 1), s.op + 1, s.L, s.e⟩ s' x) (ho : s'.op = s.op + 1) (hs : seesB txt s.nx notT = true)
    (hx : x < s'.L.length) (hL : s'.L.length < 1500000000000) (y : Nat) (hy : notX s'.L x = y) (hyl : y < (notL s'.L x).length) :
    RdC 96 B rb pb mb sb txt ov sn DS s ⟨s'.at', s'.nx, s.op, notL s'.L x, heldE (notL s'.L x) s'.e y⟩ (heldX (notL s'.L x) y) := by
  intro av W hav hB hR
  have hnx : s.nx < txt.size := by unfold seesB at hs; simp at hs; exact hs.1
  have HS := hide (sees_any W rb txt s.at' s.nx s.op _ hR.rd notT)
  rw [hs] at HS
  unfold notT at HS
  have HE := hide (fun q => enter_any (W.drewN q) rb txt htx s.at' s.nx s.op hop hnx _ (rp_drew q hR).rd)
  have HR := hide hR; have H := hide h
  clear h hs hR
  go_enter Tryz.func96, Tryz.ntmps96
  go_wp2_with fail
  refine (unhide HS).mono ?_
  rintro e2 w2 ⟨rfl, q, hw⟩
  obtain rfl := hw
  go_wp2_with fail
  refine (unhide HE q).mono ?_
  rintro e3 w3 ⟨⟨v, rfl⟩, hr3, ho3⟩
  have hrp3 := rp_rd (rp_drew q (unhide HR)) ho3 hr3
  have hb3 : RFr B mb sb rb W w3 := rfr_dN q (rfr_off ho3)
  have HP := hide (unhide H av w3 (fun k hk => Nat.lt_of_lt_of_le (hav k hk) hb3.size) (Nat.le_trans hB hb3.size) hrp3)
  have Hb3 := hide hb3
  clear hr3 ho3 hrp3 hb3 HE HS
  go_wp2_with fail
  refine (unhide HP).mono ?_
  rintro e4 w4 ⟨rfl, hr4, hb4⟩
  have hrd4 := hr4.rd
  rw [ho] at hrd4
  have HL := hide (leave_any w4 rb txt s'.at' s'.nx s.op (by omega) _ (by exact_mod_cast hrd4))
  have hb4' : RFr B mb sb rb W w4 := rfr_t (unhide Hb3) hb4
  have hs4 := rd_set3 hr4.rd (s.op : Int)
  have hrp5 := rp_rd hr4 hs4.2 hs4.1
  have Hrp5 := hide hrp5
  have Hb5 := hide (rfr_t hb4' (rfr_off hs4.2))
  clear hr4 hb4 hrd4 hb4' hs4 hrp5 HP H HR Hb3
  go_wp2_with fail
  refine (unhide HL).mono ?_
  rintro e5 w5 ⟨⟨v5, rfl⟩, hw⟩
  have hrp5 := unhide Hrp5
  have hb5 := unhide Hb5
  rw [← hw] at hrp5 hb5
  have hrp6 := rp_below hrp5 (w' := w5.drew) (Below.refl _ _).drew
  have c4 := cell_block hrp6.rd 4 _ rfl
  have hnot := not_any w5.drew B pb mb sb s'.L ov s'.e sn DS hrp6.pool (Nat.le_trans hB hb5.size) x hx hL (fun k hk => Nat.lt_of_lt_of_le (hav k hk) hb5.size)
  rw [hy] at hnot
  have HNot := hide hnot
  have Hrp6 := hide hrp6; have Hb6 := hide hb5
  clear hw hrp5 hb5 hrp6 hnot HL Hrp5 Hb5
  go_wp2_with fail
  go_region_with (first
    | (go_at_call 63; refine (unhide HNot).mono ?_; rintro e6 w6 ⟨rfl, hp6, hf6⟩; have hrp7 := rp_pool (unhide Hrp6) hf6 hp6; have d4 := cell_block hrp7.rd 4 _ rfl; have HH := hide (held_any w6 B pb mb sb _ ov s'.e sn DS hp6 y hyl); have Hrp7 := hide hrp7; have Hf6 := hide hf6; clear hrp7 hf6 hp6)
    | (go_at_call 27; refine (unhide HH).mono ?_; rintro e7 w7 ⟨rfl, hp7, hf7⟩; have Hp7 := hide hp7; have Hf7 := hide hf7; clear hp7 hf7))
  all_goals
    go_wp2
    go_ret
    exact ⟨rfl, rp_pool (unhide Hrp7) (unhide Hf7) (unhide Hp7), rfr_t (rfr_t (unhide Hb6) (rfr_d (rfr_fr (unhide Hf6)))) (rfr_fr (unhide Hf7))⟩
end Go.Proofs.YtkimhfajfbcdmaaGreatDoor

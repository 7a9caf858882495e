/- The reader: cat of one. (and what it leads to) -/
import Derived.Test.YtkimhfajfbcdmaaGreatDoorQM
/- The reader: cat of one. -/
namespace Go.Proofs.YtkimhfajfbcdmaaGreatDoor
open Go.RowKit Go.Maps

variable {av : Nat → Prop}

def catT : ByteArray := ⟨#[33, 40, 91, 34, 46]⟩
set_option maxHeartbeats 2000000 in
set_option maxRecDepth 100000 in
theorem rcat1_any (w : World) (hav : ∀ k, av k → k < w.heap.size) (B rb pb mb sb : Nat) (hB : B ≤ w.heap.size) (txt : ByteArray) (at1 op : Int) (nx1 : Nat) (L : List Ab) (ov : Value) (e : Int) (sn : Nat) (DS : DataW Unit) (x : Int)
    (hpre : Calls Tryz.prog 96 #[.pointer (some ⟨rb, 0, none⟩)] w fun e1 w1 => e1 = .returned (.int .i64 x) ∧ RP av w1 B rb pb mb sb txt at1 nx1 op L ov e sn DS ∧ RFr B mb sb rb w w1)
    (hs : seesB txt nx1 catT = false) (h2 : 2 ≤ L.length) (hcap : L.length * 2 < 1500000000000) (hx : 0 ≤ x ∧ x.toNat < L.length) (y : Nat) (hy : (catA L [x]).2 = y) (hyl : y < (catA L [x]).1.length) :
    Calls Tryz.prog 84 #[.pointer (some ⟨rb, 0, none⟩)] w fun e1 w1 => e1 = .returned (.int .i64 (heldX (catA L [x]).1 y)) ∧ RP av w1 B rb pb mb sb txt at1 nx1 op (catA L [x]).1 ov (heldE (catA L [x]).1 e y) sn DS ∧ RFr B mb sb rb w w1 := by
  have HPre := hide hpre
  clear hpre
  go_enter Tryz.func84, Tryz.ntmps84
  go_wp2_with fail
  refine (unhide HPre).mono ?_
  rintro e1 w1 ⟨rfl, hrp1, hb1⟩
  have hb2 : Below w1.heap.size w1 (w1.alloc (.cells #[.int .i64 x] 3)) := (Below.refl _ _).alloc (Nat.le_refl _) _
  have hrp2 := rp_below hrp1 hb2
  have hbx : (w1.alloc (.cells #[.int .i64 x] 3)).heap[w1.heap.size]? = some (.cells #[.int .i64 x] 3 (0, 0)) := (MapKept.heap_alloc w1 _).1
  have HS := hide (sees_any _ rb txt at1 nx1 op _ hrp2.rd catT)
  rw [hs] at HS
  unfold catT at HS
  have Hrp2 := hide hrp2; have Hbx := hide hbx; have Hbw2 := hide (rfr_t hb1 (rfr_below hb2))
  have Hw1 : Hid (B ≤ w1.heap.size) := hide (Nat.le_trans hB hb1.size)
  clear hrp1 hb1 hb2 hrp2 hbx hs
  go_wp2_with fail
  go_loopw [3] (fun lv wr => lv = .slice (some ⟨w1.heap.size, 0, none⟩) 1 1 ∧ wr = w1.alloc (.cells #[.int .i64 x] 3)) (fun _ _ => 0)
  case atStart => exact ⟨rfl, rfl⟩
  case round =>
    obtain ⟨rfl, rfl⟩ := hrel
    go_wp2_with fail
    refine (unhide HS).mono ?_
    rintro e2 w2 ⟨rfl, q, hw⟩
    have hb3 : Below (w1.alloc (.cells #[.int .i64 x] 3)).heap.size (w1.alloc (.cells #[.int .i64 x] 3)) w2 := by rw [hw]; exact ⟨rfl, rfl, rfl, Nat.le_refl _, fun _ _ => rfl⟩
    have hd : Below w2.heap.size w2 w2.drew := (Below.refl _ _).drew
    have hrp3 := rp_below (rp_below (unhide Hrp2) hb3) hd
    have hbx3 : w2.drew.heap[w1.heap.size]? = some (.cells #[.int .i64 x] 3 (0, 0)) := by rw [hw]; exact unhide Hbx
    have hbw3 : RFr B mb sb rb w w2.drew := rfr_t (unhide Hbw2) (rfr_t (rfr_below hb3) (rfr_below hd))
    have c4 := cell_block hrp3.rd 4 _ rfl
    have hcat := cat_any w2.drew B pb mb sb L ov e sn DS hrp3.pool h2 (some ⟨w1.heap.size, 0, none⟩) 1 [x] (by simp) (by simpa using hcap) (by simpa using hx) (nrow_one hbx3) (held_new _ _ _ hbx3 (fun h => h) 0) (fun k hk => Nat.lt_of_lt_of_le (hav k hk) hbw3.size)
    rw [hy] at hcat
    have HCat := hide hcat
    have Hrp3 := hide hrp3; have Hbw3 := hide hbw3
    clear hb3 hrp3 hbx3 hbw3 hw hcat hd
    go_wp2_with fail
    go_region_with (first
      | (go_at_call 31; refine (unhide HCat).mono ?_; rintro e3 w3 ⟨rfl, hp3, hf3⟩; have hrp4 := rp_pool (unhide Hrp3) hf3 hp3; have d4 := cell_block hrp4.rd 4 _ rfl; have HH := hide (held_any w3 B pb mb sb _ ov e sn DS hp3 y hyl); have Hrp4 := hide hrp4; have Hf3 := hide hf3; clear hrp4 hf3 hp3)
      | (go_at_call 27; refine (unhide HH).mono ?_; rintro e4 w4 ⟨rfl, hp4, hf4⟩; have Hp4 := hide hp4; have Hf4 := hide hf4; clear hp4 hf4))
    all_goals
      go_wp2
      go_ret
      exact ⟨rfl, rp_pool (unhide Hrp4) (unhide Hf4) (unhide Hp4), rfr_t (rfr_t (unhide Hbw3) (rfr_fr (unhide Hf3))) (rfr_fr (unhide Hf4))⟩
end Go.Proofs.YtkimhfajfbcdmaaGreatDoor

/- The reader: what a call reads; cat of one, pre. -/
namespace Go.Proofs.YtkimhfajfbcdmaaGreatDoor
open Go.RowKit Go.Maps

/-- What a reader has come to: behind the last sign, the next one, how many are open, the pool's nodes, its error. -/
structure RSt where
  at' : Nat
  nx : Nat
  op : Nat
  L : List Ab
  e : Int
/-- A call of the reader's goes from one state to another and answers a number. -/
def RdC (f : Nat) (B rb pb mb sb : Nat) (txt : ByteArray) (ov : Value) (sn : Nat) (DS : DataW Unit) (s s' : RSt) (r : Int) : Prop :=
  ∀ (av : Nat → Prop) W, (∀ k, av k → k < W.heap.size) → B ≤ W.heap.size → RP av W B rb pb mb sb txt s.at' s.nx s.op s.L ov s.e sn DS → Calls Tryz.prog f #[.pointer (some ⟨rb, 0, none⟩)] W fun e1 w1 => e1 = .returned (.int .i64 r) ∧ RP av w1 B rb pb mb sb txt s'.at' s'.nx s'.op s'.L ov s'.e sn DS ∧ RFr B mb sb rb W w1
theorem rdc_cat1 {B rb pb mb sb : Nat} {txt : ByteArray} {ov : Value} {sn : Nat} {DS : DataW Unit} {s s' : RSt} {x : Int} (h : RdC 96 B rb pb mb sb txt ov sn DS s s' x)
    (hs : seesB txt s'.nx catT = false) (h2 : 2 ≤ s'.L.length) (hcap : s'.L.length * 2 < 1500000000000) (hx : 0 ≤ x ∧ x.toNat < s'.L.length) (y : Nat) (hy : (catA s'.L [x]).2 = y) (hyl : y < (catA s'.L [x]).1.length) :
    RdC 84 B rb pb mb sb txt ov sn DS s ⟨s'.at', s'.nx, s'.op, (catA s'.L [x]).1, heldE (catA s'.L [x]).1 s'.e y⟩ (heldX (catA s'.L [x]).1 y) := fun av W hav hB hR =>
  rcat1_any W hav B rb pb mb sb hB txt s'.at' s'.op s'.nx s'.L ov s'.e sn DS x (h av W hav hB hR) hs h2 hcap hx y hy hyl
theorem rp_drew {av : Nat → Prop} {W : World} {B rb pb mb sb : Nat} {txt : ByteArray} {a n o : Int} {L : List Ab} {ov : Value} {e : Int} {sn : Nat} {DS : DataW Unit} (q : Nat) (h : RP av W B rb pb mb sb txt a n o L ov e sn DS) : RP av (W.drewN q) B rb pb mb sb txt a n o L ov e sn DS := rp_below h ⟨rfl, rfl, rfl, Nat.le_refl _, fun _ _ => rfl⟩
def notT : ByteArray := ⟨#[33]⟩
set_option maxHeartbeats 2000000 in
set_option maxRecDepth 100000 in
theorem rdc_pre0 {B rb pb mb sb : Nat} {txt : ByteArray} {ov : Value} {sn : Nat} {DS : DataW Unit} {s s' : RSt} {x : Int} (h : RdC 105 B rb pb mb sb txt ov sn DS s s' x) (hs : seesB txt s.nx notT = false) : RdC 96 B rb pb mb sb txt ov sn DS s s' x := by
  intro av W hav hB hR
  have HS := hide (sees_any W rb txt s.at' s.nx s.op _ hR.rd notT)
  rw [hs] at HS
  unfold notT at HS
  have HP := hide (fun q => h av (W.drewN q) hav hB (rp_drew q hR))
  clear h hs hR hav
  go_enter Tryz.func96, Tryz.ntmps96
  go_wp2_with fail
  refine (unhide HS).mono ?_
  rintro e2 w2 ⟨rfl, q, hw⟩
  obtain rfl := hw
  go_wp2_with fail
  refine (unhide HP q).mono ?_
  rintro e3 w3 ⟨rfl, hr3, hb3⟩
  have Hr3 := hide hr3; have Hb3 := hide (rfr_dN q hb3)
  clear hr3 hb3
  go_wp2
  go_ret
  exact ⟨rfl, unhide Hr3, unhide Hb3⟩
end Go.Proofs.YtkimhfajfbcdmaaGreatDoor

/- The reader: alt of one. -/
import Derived.Test.YtkimhfajfbcdmaaGreatDoorQN
import Derived.Test.YtkimhfajfbcdmaaGreatDoorGP
namespace Go.Proofs.YtkimhfajfbcdmaaGreatDoor
open Go.RowKit Go.Maps

def altT : ByteArray := ⟨#[124]⟩
set_option maxHeartbeats 4000000 in
set_option maxRecDepth 100000 in
theorem rdc_alt1 {B rb pb mb sb : Nat} {txt : ByteArray} {sn : Nat} {DS : DataW Unit} {s s' : RSt} {x : Int} (h : RdC 74 B rb pb mb sb txt (cmpV pb) sn DS s s' x) (hs : seesB txt s'.nx altT = false) (hx : 0 ≤ x ∧ x.toNat < s'.L.length) (hL : s'.L.length < 1500000000000)
    (hne : ∀ y ∈ s'.L, y.kind = 4 → y.kids ≠ []) (hfew : ((splA s'.L 4 [x]).filter (isSet s'.L)).length < 2) (hr : (restA s'.L 4 [x]).length ≤ 12) (cf : Int → Int → Int)
    (hcf : ∀ (av : Nat → Prop) W, Pool av W B pb mb sb s'.L (cmpV pb) s'.e sn DS → ∀ a ∈ restA s'.L 4 [x], ∀ b ∈ restA s'.L 4 [x], Calls Tryz.prog 25 #[.pointer (some ⟨pb, 0, none⟩), .int .i64 a, .int .i64 b] W fun e w' => e = .returned (.int .i64 (cf a b)) ∧ ∃ q, w' = W.drewN q)
    (y : Nat) (hy : chX s'.L 4 cf [x] = y) (hyl : y < (chL s'.L 4 cf [x]).length) :
    RdC 55 B rb pb mb sb txt (cmpV pb) sn DS s ⟨s'.at', s'.nx, s'.op, chL s'.L 4 cf [x], heldE (chL s'.L 4 cf [x]) s'.e y⟩ (heldX (chL s'.L 4 cf [x]) y) := by
  intro av w hav hB hR
  have HPre := hide (h av w hav hB hR)
  have Hne := hide hne; have Hfew := hide hfew; have Hcf := hide hcf
  clear h hR hne hfew hcf
  go_enter Tryz.func55, Tryz.ntmps55
  go_wp2_with fail
  refine (unhide HPre).mono ?_
  rintro e1 w1 ⟨rfl, hrp1, hb1⟩
  have hb2 : Below w1.heap.size w1 (w1.alloc (.cells #[.int .i64 x] 3)) := (Below.refl _ _).alloc (Nat.le_refl _) _
  have hrp2 := rp_below hrp1 hb2
  have hbx : (w1.alloc (.cells #[.int .i64 x] 3)).heap[w1.heap.size]? = some (.cells #[.int .i64 x] 3 (0, 0)) := (MapKept.heap_alloc w1 _).1
  have HS := hide (takes_no _ rb txt s'.at' s'.nx s'.op _ hrp2.rd altT hs)
  unfold altT at HS
  have Hrp2 := hide hrp2; have Hbx := hide hbx; have Hbw2 := hide (rfr_t hb1 (rfr_below hb2))
  clear hrp1 hb1 hb2 hrp2 hbx hs
  go_wp2_with fail
  go_loopw [3] (fun lv wr => lv = .slice (some ⟨w1.heap.size, 0, none⟩) 1 1 ∧ wr = w1.alloc (.cells #[.int .i64 x] 3)) (fun _ _ => 0)
  case atStart => exact ⟨rfl, rfl⟩
  case round =>
    obtain ⟨rfl, rfl⟩ := hrel
    go_wp2_with fail
    refine (unhide HS).mono ?_
    rintro e2 w2 ⟨rfl, q, hw⟩
    have hb3 : Below (w1.alloc (.cells #[.int .i64 x] 3)).heap.size (w1.alloc (.cells #[.int .i64 x] 3)) w2 := by rw [hw]; exact ⟨rfl, rfl, rfl, Nat.le_refl _, fun _ _ => rfl⟩
    have hd : Below w2.heap.size w2 w2.drew := (Below.refl _ _).drew
    have hrp3 := rp_below (rp_below (unhide Hrp2) hb3) hd
    have hbx3 : w2.drew.heap[w1.heap.size]? = some (.cells #[.int .i64 x] 3 (0, 0)) := by rw [hw]; exact unhide Hbx
    have hbw3 : RFr B mb sb rb w w2.drew := rfr_t (unhide Hbw2) (rfr_t (rfr_below hb3) (rfr_below hd))
    have c4 := cell_block hrp3.rd 4 _ rfl
    have hcat := altP_any w2.drew B pb mb sb s'.L s'.e sn DS hrp3.pool (Nat.le_trans hB hbw3.size) (some ⟨w1.heap.size, 0, none⟩) 1 [x] (nrow_one hbx3) (by simpa using hx) (unhide Hne) (by simp) (unhide Hfew) hr cf (unhide Hcf av) hL (fun k hk => Nat.lt_of_lt_of_le (hav k hk) hbw3.size)
    rw [hy] at hcat
    have HCat := hide hcat
    have Hrp3 := hide hrp3; have Hbw3 := hide hbw3
    clear hb3 hrp3 hbx3 hbw3 hw hcat hd
    go_wp2_with fail
    go_region_with (first
      | (go_at_call 60; refine (unhide HCat).mono ?_; rintro e3 w3 ⟨rfl, hp3, hf3⟩; have hrp4 := rp_pool (unhide Hrp3) hf3 hp3; have d4 := cell_block hrp4.rd 4 _ rfl; have HH := hide (held_any w3 B pb mb sb _ (cmpV pb) s'.e sn DS hp3 y hyl); have Hrp4 := hide hrp4; have Hf3 := hide hf3; clear hrp4 hf3 hp3)
      | (go_at_call 27; refine (unhide HH).mono ?_; rintro e4 w4 ⟨rfl, hp4, hf4⟩; have Hp4 := hide hp4; have Hf4 := hide hf4; clear hp4 hf4))
    all_goals
      go_wp2
      go_ret
      exact ⟨rfl, rp_pool (unhide Hrp4) (unhide Hf4) (unhide Hp4), rfr_t (rfr_t (unhide Hbw3) (rfr_fr (unhide Hf3))) (rfr_fr (unhide Hf4))⟩
end Go.Proofs.YtkimhfajfbcdmaaGreatDoor

/- A reader and its pool. (and what it leads to) -/
import Derived.Test.YtkimhfajfbcdmaaGreatDoorQL
import Derived.Test.YtkimhfajfbcdmaaGreatDoorQH
/- A reader and its pool. -/
namespace Go.Proofs.YtkimhfajfbcdmaaGreatDoor
open Go.RowKit Go.Maps

variable {av : Nat → Prop}

/-- A reader, and its pool, each in blocks of its own. -/
structure RP (av : Nat → Prop) (w : World) (B rb pb mb sb : Nat) (txt : ByteArray) (at' nx op : Int) (L : List Ab) (ov : Value) (e : Int) (sn : Nat) (DS : DataW Unit) : Prop where
  rd : RdAt w rb txt at' nx op (.pointer (some ⟨pb, 0, none⟩))
  pool : Pool av w B pb mb sb L ov e sn DS
  low : B ≤ rb
section
variable {w w' : World} {B rb pb mb sb : Nat} {txt : ByteArray} {at' nx op at2 nx2 op2 : Int} {L L' : List Ab} {ov ov' : Value} {e e' : Int} {sn sn' : Nat} {DS DS' : DataW Unit}
theorem rd_lt (h : RdAt w rb txt at' nx op ov) : rb < w.heap.size := lt_of_some h
theorem map_block {P : Program} {k : TypeId} {R : Value → Option (DataW Unit × List MemPlace)} {b n : Nat} {D : DataW Unit} (h : w.ownsMap P k R b n D) (cs : Array Value) (t : TypeId) (f : Nat × Nat) : w.heap[b]? ≠ some (.cells cs t f) := by
  obtain ⟨es, clock, hb, -⟩ := h
  rw [hb]
  intro h
  cases h
theorem rp_rd (h : RP av w B rb pb mb sb txt at' nx op L ov e sn DS) (ho : Off (fun k => k = rb) w w') (hr : RdAt w' rb txt at2 nx2 op2 (.pointer (some ⟨pb, 0, none⟩))) : RP av w' B rb pb mb sb txt at2 nx2 op2 L ov e sn DS := by
  have hrd : w.heap[rb]? = _ := h.rd
  refine ⟨hr, pool_offA (O := fun k => k = rb) h.pool ho ?_ ?_ ?_ ?_, h.low⟩
  · rintro k cs t f hk ht rfl
    rw [hrd] at hk
    simp only [Option.some.injEq, Obj.cells.injEq] at hk
    obtain ⟨-, rfl, -⟩ := hk
    rcases ht with h | h | h <;> contradiction
  · intro hm
    obtain ⟨l, g, nc, kv, kl, D, hin⟩ := h.pool.lies
    exact map_block hin.map _ _ _ (hm ▸ hrd)
  · intro hm
    exact map_block h.pool.steps _ _ _ (hm ▸ hrd)
  · rintro k - rfl
    refine .inr ?_
    rintro (h1 | ⟨cs, t, f, h1, ht⟩)
    · have := h.low; omega
    · rw [hrd] at h1
      simp only [Option.some.injEq, Obj.cells.injEq] at h1
      obtain ⟨-, rfl, -⟩ := h1
      rcases ht with h | h <;> contradiction
theorem rd_stay (h : RdAt w rb txt at' nx op ov) : Stay B mb sb w rb := .inr (.inl ⟨_, 77, _, h, by decide, by decide, by decide⟩)
theorem rp_pool (h : RP av w B rb pb mb sb txt at' nx op L ov e sn DS) (hf : Fr B mb sb w w') (hp : Pool av w' B pb mb sb L' ov' e' sn' DS') : RP av w' B rb pb mb sb txt at' nx op L' ov' e' sn' DS' :=
  ⟨(hf.block rb (rd_lt h.rd) (rd_stay h.rd)).trans h.rd, hp, h.low⟩
theorem rp_below (h : RP av w B rb pb mb sb txt at' nx op L ov e sn DS) (hb : Below w.heap.size w w') : RP av w' B rb pb mb sb txt at' nx op L ov e sn DS := rp_pool h (fr_below hb) (pool_below h.pool hb)
end
/-- What a reader's work leaves as it is: all but its own block and its pool's. -/
structure RFr (B mb sb rb : Nat) (w w' : World) : Prop where
  os : w'.os = w.os
  tape : w'.tape = w.tape
  output : w'.output = w.output
  size : w.heap.size ≤ w'.heap.size
  block : ∀ k, k < w.heap.size → Stay B mb sb w k → k ≠ rb → w'.heap[k]? = w.heap[k]?
theorem rfr_fr {B mb sb rb : Nat} {w w' : World} (h : Fr B mb sb w w') : RFr B mb sb rb w w' := ⟨h.os, h.tape, h.output, h.size, fun k hk hs _ => h.block k hk hs⟩
theorem rfr_off {B mb sb rb : Nat} {w w' : World} (h : Off (fun k => k = rb) w w') : RFr B mb sb rb w w' := ⟨h.os, h.tape, h.output, h.size, fun k hk _ hn => h.block k hk hn⟩
theorem rfr_below {B mb sb rb : Nat} {w w' : World} (h : Below w.heap.size w w') : RFr B mb sb rb w w' := rfr_fr (fr_below h)
theorem rfr_t {B mb sb rb : Nat} {a b c : World} (h : RFr B mb sb rb a b) (k : RFr B mb sb rb b c) : RFr B mb sb rb a c :=
  ⟨k.os.trans h.os, k.tape.trans h.tape, k.output.trans h.output, Nat.le_trans h.size k.size, fun i hi hs hn => (k.block i (Nat.lt_of_lt_of_le hi h.size) (stay_of hs (h.block i hi hs hn)) hn).trans (h.block i hi hs hn)⟩
theorem rfr_base {B mb sb rb : Nat} {w w' : World} (h : RFr B mb sb rb w w') (hb : B ≤ rb) (hB : B ≤ w.heap.size) : Below B w w' := ⟨h.os, h.tape, h.output, h.size, fun k hk => h.block k (Nat.lt_of_lt_of_le hk hB) (.inl hk) (by omega)⟩
theorem rfr_dN {B mb sb rb : Nat} {w w' : World} (q : Nat) (h : RFr B mb sb rb (w.drewN q) w') : RFr B mb sb rb w w' := ⟨h.os, h.tape, h.output, h.size, h.block⟩
theorem rfr_d {B mb sb rb : Nat} {w w' : World} (h : RFr B mb sb rb w.drew w') : RFr B mb sb rb w w' := ⟨h.os, h.tape, h.output, h.size, h.block⟩
end Go.Proofs.YtkimhfajfbcdmaaGreatDoor

/- The reader: cat of one. -/
namespace Go.Proofs.YtkimhfajfbcdmaaGreatDoor
open Go.RowKit Go.Maps

variable {av : Nat → Prop}

def catT : ByteArray := ⟨#[33, 40, 91, 34, 46]⟩
set_option maxHeartbeats 2000000 in
set_option maxRecDepth 100000 in
theorem rcat1_any (w : World) (hav : ∀ k, av k → k < w.heap.size) (B rb pb mb sb : Nat) (hB : B ≤ w.heap.size) (txt : ByteArray) (at1 op : Int) (nx1 : Nat) (L : List Ab) (ov : Value) (e : Int) (sn : Nat) (DS : DataW Unit) (x : Int)
    (hpre : Calls Tryz.prog 96 #[.pointer (some ⟨rb, 0, none⟩)] w fun e1 w1 => e1 = .returned (.int .i64 x) ∧ RP av w1 B rb pb mb sb txt at1 nx1 op L ov e sn DS ∧ RFr B mb sb rb w w1)
    (hs : seesB txt nx1 catT = false) (h2 : 2 ≤ L.length) (hcap : L.length * 2 < 1500000000000) (hx : 0 ≤ x ∧ x.toNat < L.length) (y : Nat) (hy : (catA L [x]).2 = y) (hyl : y < (catA L [x]).1.length) :
    Calls Tryz.prog 84 #[.pointer (some ⟨rb, 0, none⟩)] w fun e1 w1 => e1 = .returned (.int .i64 (heldX (catA L [x]).1 y)) ∧ RP av w1 B rb pb mb sb txt at1 nx1 op (catA L [x]).1 ov (heldE (catA L [x]).1 e y) sn DS ∧ RFr B mb sb rb w w1 := by
  have HPre := hide hpre
  clear hpre
  go_enter Tryz.func84, Tryz.ntmps84
  go_wp2_with fail
  refine (unhide HPre).mono ?_
  rintro e1 w1 ⟨rfl, hrp1, hb1⟩
  have hb2 : Below w1.heap.size w1 (w1.alloc (.cells #[.int .i64 x] 3)) := (Below.refl _ _).alloc (Nat.le_refl _) _
  have hrp2 := rp_below hrp1 hb2
  have hbx : (w1.alloc (.cells #[.int .i64 x] 3)).heap[w1.heap.size]? = some (.cells #[.int .i64 x] 3 (0, 0)) := (MapKept.heap_alloc w1 _).1
  have HS := hide (sees_any _ rb txt at1 nx1 op _ hrp2.rd catT)
  rw [hs] at HS
  unfold catT at HS
  have Hrp2 := hide hrp2; have Hbx := hide hbx; have Hbw2 := hide (rfr_t hb1 (rfr_below hb2))
  have Hw1 : Hid (B ≤ w1.heap.size) := hide (Nat.le_trans hB hb1.size)
  clear hrp1 hb1 hb2 hrp2 hbx hs
  go_wp2_with fail
  go_loopw [3] (fun lv wr => lv = .slice (some ⟨w1.heap.size, 0, none⟩) 1 1 ∧ wr = w1.alloc (.cells #[.int .i64 x] 3)) (fun _ _ => 0)
  case atStart => exact ⟨rfl, rfl⟩
  case round =>
    obtain ⟨rfl, rfl⟩ := hrel
    go_wp2_with fail
    refine (unhide HS).mono ?_
    rintro e2 w2 ⟨rfl, q, hw⟩
    have hb3 : Below (w1.alloc (.cells #[.int .i64 x] 3)).heap.size (w1.alloc (.cells #[.int .i64 x] 3)) w2 := by rw [hw]; exact ⟨rfl, rfl, rfl, Nat.le_refl _, fun _ _ => rfl⟩
    have hd : Below w2.heap.size w2 w2.drew := (Below.refl _ _).drew
    have hrp3 := rp_below (rp_below (unhide Hrp2) hb3) hd
    have hbx3 : w2.drew.heap[w1.heap.size]? = some (.cells #[.int .i64 x] 3 (0, 0)) := by rw [hw]; exact unhide Hbx
    have hbw3 : RFr B mb sb rb w w2.drew := rfr_t (unhide Hbw2) (rfr_t (rfr_below hb3) (rfr_below hd))
    have c4 := cell_block hrp3.rd 4 _ rfl
    have hcat := cat_any w2.drew B pb mb sb L ov e sn DS hrp3.pool h2 (some ⟨w1.heap.size, 0, none⟩) 1 [x] (by simp) (by simpa using hcap) (by simpa using hx) (nrow_one hbx3) (held_new _ _ _ hbx3 (fun h => h) 0) (fun k hk => Nat.lt_of_lt_of_le (hav k hk) hbw3.size)
    rw [hy] at hcat
    have HCat := hide hcat
    have Hrp3 := hide hrp3; have Hbw3 := hide hbw3
    clear hb3 hrp3 hbx3 hbw3 hw hcat hd
    go_wp2_with fail
    go_region_with (first
      | (go_at_call 31; refine (unhide HCat).mono ?_; rintro e3 w3 ⟨rfl, hp3, hf3⟩; have hrp4 := rp_pool (unhide Hrp3) hf3 hp3; have d4 := cell_block hrp4.rd 4 _ rfl; have HH := hide (held_any w3 B pb mb sb _ ov e sn DS hp3 y hyl); have Hrp4 := hide hrp4; have Hf3 := hide hf3; clear hrp4 hf3 hp3)
      | (go_at_call 27; refine (unhide HH).mono ?_; rintro e4 w4 ⟨rfl, hp4, hf4⟩; have Hp4 := hide hp4; have Hf4 := hide hf4; clear hp4 hf4))
    all_goals
      go_wp2
      go_ret
      exact ⟨rfl, rp_pool (unhide Hrp4) (unhide Hf4) (unhide Hp4), rfr_t (rfr_t (unhide Hbw3) (rfr_fr (unhide Hf3))) (rfr_fr (unhide Hf4))⟩
end Go.Proofs.YtkimhfajfbcdmaaGreatDoor

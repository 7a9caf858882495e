/- The reader: and of two. (and what it leads to) -/
import Derived.Test.YtkimhfajfbcdmaaGreatDoorH9
/- The reader: and of two. -/
namespace Go.Proofs.YtkimhfajfbcdmaaGreatDoor
open Go.RowKit Go.Maps

def andT : ByteArray := ⟨#[38]⟩
theorem rp_av {av av' : Nat → Prop} {w : World} {B rb pb mb sb : Nat} {txt : ByteArray} {a n o : Int} {L : List Ab} {ov : Value} {e : Int} {sn : Nat} {DS : DataW Unit} (h : RP av w B rb pb mb sb txt a n o L ov e sn DS) (hav : ∀ k, k < w.heap.size → av' k → av k) : RP av' w B rb pb mb sb txt a n o L ov e sn DS := ⟨h.rd, pool_av0 h.pool hav, h.low⟩
def lenV : Value → Nat
  | .slice _ n _ => 2 - n
  | _ => 0
/-- A row of numbers that is a caller's own grows, and may move. -/
theorem rp_grown {av : Nat → Prop} {w w' : World} {B rb pb mb sb b n c base : Nat} {xs : List Value} {txt : ByteArray} {a m o : Int} {L : List Ab} {ov : Value} {e : Int} {sn : Nat} {DS : DataW Unit} (h : RP av w B rb pb mb sb txt a m o L ov e sn DS) (hown : w.ownsRow base 3 1 (.slice (some ⟨b, 0, none⟩) n c) n xs) (hg : w.grownBy w' (some b)) (ha : av b) : RP av w' B rb pb mb sb txt a m o L ov e sn DS := by
  have hb : ∃ cur, w.heap[b]? = some (.cells cur 3 (0, 0)) := by
    rcases hown.2 with ⟨h0, -⟩ | ⟨g, cap, cur, hv, -, hh, -⟩
    · cases h0
    · simp only [Value.slice.injEq, Option.some.injEq, Addr.mk.injEq] at hv
      obtain ⟨⟨rfl, -⟩, -⟩ := hv
      exact ⟨cur, hh⟩
  obtain ⟨cur, hcur⟩ := hb
  have hrd : w.heap[rb]? = _ := h.rd
  have hne : rb ≠ b := by
    rintro rfl
    rw [hrd] at hcur
    simp only [Option.some.injEq, Obj.cells.injEq] at hcur
    exact absurd hcur.2.1 (by decide)
  have ho : Off (fun k => k = b) w w' := off_grown (off_refl _ w) hg (fun k hk => .inl (by cases hk; rfl))
  refine ⟨(ho.block rb (lt_of_some hrd) hne).trans hrd, pool_offA (O := fun k => k = b) h.pool ho ?_ ?_ ?_ ?_, h.low⟩
  · rintro k cs t f hk ht rfl
    rw [hcur] at hk
    simp only [Option.some.injEq, Obj.cells.injEq] at hk
    obtain ⟨-, rfl, -⟩ := hk
    rcases ht with h | h | h <;> contradiction
  · intro hm
    obtain ⟨l, g, nc, kv, kl, D, hin⟩ := h.pool.lies
    exact map_block hin.map _ _ _ (hm ▸ hcur)
  · intro hm
    exact map_block h.pool.steps _ _ _ (hm ▸ hcur)
  · rintro k - rfl
    exact .inl ha
end Go.Proofs.YtkimhfajfbcdmaaGreatDoor

/- The reader: and of two. -/
namespace Go.Proofs.YtkimhfajfbcdmaaGreatDoor
open Go.RowKit Go.Maps

theorem own_rfr {B mb sb rb base b n c : Nat} {w w' : World} {xs : List Value} (h : w.ownsRow base 3 1 (.slice (some ⟨b, 0, none⟩) n c) n xs) (hf : RFr B mb sb rb w w') (hne : b ≠ rb) : w'.ownsRow base 3 1 (.slice (some ⟨b, 0, none⟩) n c) n xs := by
  refine ⟨h.1, ?_⟩
  rcases h.2 with ⟨h0, -⟩ | ⟨g, cap, cur, hv, hg, hh, rest⟩
  · cases h0
  · simp only [Value.slice.injEq, Option.some.injEq, Addr.mk.injEq] at hv
    obtain ⟨⟨rfl, -⟩, -, rfl⟩ := hv
    exact .inr ⟨b, c, cur, rfl, hg, (hf.block b (lt_of_some hh) (.inr (.inl ⟨cur, 3, _, hh, by decide, by decide, by decide⟩)) hne).trans hh, rest⟩
theorem rfr_new {B mb sb rb b : Nat} {w a c : World} (h : RFr B mb sb rb w a) (hg : a.grownBy c (some b)) (hb : w.heap.size ≤ b) : RFr B mb sb rb w c :=
  ⟨hg.os.trans h.os, hg.tape.trans h.tape, hg.output.trans h.output, Nat.le_trans h.size hg.size, fun k hk hs hn => (hg.block k (Nat.lt_of_lt_of_le hk h.size) (fun e => by cases e; omega)).trans (h.block k hk hs hn)⟩
set_option maxHeartbeats 4000000 in
set_option maxRecDepth 100000 in
theorem rdc_and2 {B rb pb mb sb : Nat} {txt : ByteArray} (htx : txt.size ≤ 281474976710656) {sn : Nat} {DS : DataW Unit} {s s1 s2 : RSt} {x1 x2 : Int} (h1 : RdC 84 B rb pb mb sb txt (cmpV pb) sn DS s s1 x1) (hs1 : seesB txt s1.nx andT = true)
    (h2 : RdC 84 B rb pb mb sb txt (cmpV pb) sn DS ⟨s1.nx + 1, skipN txt (s1.nx + 1), s1.op, s1.L, s1.e⟩ s2 x2) (hs2 : seesB txt s2.nx andT = false) (hx : ∀ x ∈ [x1, x2], 0 ≤ x ∧ x.toNat < s2.L.length) (hL : s2.L.length < 1500000000000)
    (hne : ∀ y ∈ s2.L, y.kind = 5 → y.kids ≠ []) (hfew : ((splA s2.L 5 [x1, x2]).filter (isSet s2.L)).length < 2) (hr : (restA s2.L 5 [x1, x2]).length ≤ 12) (cf : Int → Int → Int)
    (hcf : ∀ (av : Nat → Prop) W, Pool av W B pb mb sb s2.L (cmpV pb) s2.e sn DS → ∀ a ∈ restA s2.L 5 [x1, x2], ∀ b ∈ restA s2.L 5 [x1, x2], Calls Tryz.prog 25 #[.pointer (some ⟨pb, 0, none⟩), .int .i64 a, .int .i64 b] W fun e w' => e = .returned (.int .i64 (cf a b)) ∧ ∃ q, w' = W.drewN q)
    (y : Nat) (hy : chX s2.L 5 cf [x1, x2] = y) (hyl : y < (chL s2.L 5 cf [x1, x2]).length) :
    RdC 74 B rb pb mb sb txt (cmpV pb) sn DS s ⟨s2.at', s2.nx, s2.op, chL s2.L 5 cf [x1, x2], heldE (chL s2.L 5 cf [x1, x2]) s2.e y⟩ (heldX (chL s2.L 5 cf [x1, x2]) y) := by
  intro av w hav hB hR
  obtain ⟨i0, hi, hz0, hz1, hz2⟩ := info_parts hint
  have HPre := hide (h1 av w hav hB hR)
  have Hne := hide hne; have Hfew := hide hfew; have Hcf := hide hcf; have Hh2 := hide h2; have Hx := hide hx
  clear h1 h2 hR hne hfew hcf hx
  go_enter Tryz.func74, Tryz.ntmps74
  go_wp2_with fail
  refine (unhide HPre).mono ?_
  rintro e1 w1 ⟨rfl, hrp1, hb1⟩
  have hb2 : Below w1.heap.size w1 (w1.alloc (.cells #[.int .i64 x1] 3)) := (Below.refl _ _).alloc (Nat.le_refl _) _
  have hB1 : B ≤ w1.heap.size := Nat.le_trans hB hb1.size
  have hrp2 := rp_below (rp_av hrp1 (av' := fun k => av k ∨ k = w1.heap.size) (fun k hk h => by rcases h with h | h; exact h; omega)) hb2
  have hown2 : (w1.alloc (.cells #[.int .i64 x1] 3)).ownsRow w1.heap.size 3 1 (.slice (some ⟨w1.heap.size, 0, none⟩) 1 1) 1 (intV [x1]) := ⟨rfl, .inr ⟨_, 1, _, rfl, Nat.le_refl _, (MapKept.heap_alloc w1 _).1, Nat.le_refl _, by unfold maxLen; decide, rfl, rfl⟩⟩
  have hfr2 : RFr B mb sb rb w (w1.alloc (.cells #[.int .i64 x1] 3)) := rfr_t hb1 (rfr_below hb2)
  have HT1 := hide (takes_yes _ rb txt htx s1.at' s1.nx s1.op _ hrp2.rd andT hs1)
  unfold andT at HT1
  have Hrp2 := hide hrp2; have Hown2 := hide hown2; have Hfr2 := hide hfr2; have HB1 := hide hB1
  have HW1s : Hid (w.heap.size ≤ w1.heap.size) := hide hb1.size
  have Havs : Hid (∀ k, av k → k < w1.heap.size) := hide (fun k hk => Nat.lt_of_lt_of_le (hav k hk) hb1.size)
  clear hrp1 hb1 hb2 hrp2 hown2 hfr2 hs1 hB1
  go_wp2_with fail
  go_loopw [3] (fun lv wr => (lv = .slice (some ⟨w1.heap.size, 0, none⟩) 1 1 ∧ wr = w1.alloc (.cells #[.int .i64 x1] 3)) ∨ ∃ g cap, lv = .slice (some ⟨g, 0, none⟩) 2 cap ∧ wr.ownsRow w1.heap.size 3 1 (.slice (some ⟨g, 0, none⟩) 2 cap) 2 (intV [x1, x2]) ∧ RP (fun k => av k ∨ k = w1.heap.size) wr B rb pb mb sb txt s2.at' s2.nx s2.op s2.L (cmpV pb) s2.e sn DS ∧ RFr B mb sb rb w wr) (fun lv _ => lenV lv)
  case atStart => exact .inl ⟨rfl, rfl⟩
  case round =>
    rcases hrel with ⟨rfl, rfl⟩ | ⟨g, cap, rfl, hown, hrp, hfr⟩
    · go_wp2_with fail
      refine (unhide HT1).mono ?_
      rintro e2 w2 ⟨rfl, hrd2, ho2⟩
      have hrp3 := rp_rd (unhide Hrp2) ho2 hrd2
      have hrb : rb < w1.heap.size + 1 := by have := rd_lt (unhide Hrp2).rd; simpa using this
      have hbne : w1.heap.size ≠ rb := by
        intro h
        have h3 : (w1.alloc (.cells #[.int .i64 x1] 3)).heap[rb]? = _ := (unhide Hrp2).rd
        rw [← h, (MapKept.heap_alloc w1 _).1] at h3
        simp only [Option.some.injEq, Obj.cells.injEq] at h3
        exact absurd h3.2.1 (by decide)
      have hown3 := own_off (unhide Hown2) ho2 (fun k hk => by simp only [Value.ownBlock, Option.some.injEq] at hk; omega)
      have hfr3 : RFr B mb sb rb w w2 := rfr_t (unhide Hfr2) (rfr_off ho2)
      have hsz2 := ho2.size
      have HC2 := hide (unhide Hh2 (fun k => av k ∨ k = w1.heap.size) w2 (fun k hk => by simp at hsz2; rcases hk with h | h; have := unhide Havs k h; omega; omega) (Nat.le_trans hB hfr3.size) hrp3)
      have Hown3 := hide hown3; have Hfr3 := hide hfr3
      clear hrp3 hown3 hfr3 ho2 hrd2
      go_wp2_with fail
      refine (unhide HC2).mono ?_
      rintro e3 w3 ⟨rfl, hrp4, hfr4⟩
      have hown4 := own_rfr (unhide Hown3) hfr4 hbne
      have hfr5 : RFr B mb sb rb w w3 := rfr_t (unhide Hfr3) hfr4
      have hw1w : w.heap.size ≤ w1.heap.size := by have := (unhide HW1s); exact this
      have hlt3 : w1.heap.size < w3.heap.size := (hown4.lt w1.heap.size rfl).2
      have Hown4 := hide hown4; have Hfr5 := hide hfr5; have Hrp4 := hide hrp4
      clear hown4 hfr5 hrp4 hfr4 HC2 HT1
      go_wp2_with (at_builtin; refine wpList_append_lies _ rfl _ _ 63 rfl w1.heap.size 3 i0 (.int .i64 0) 1 8 Tryz.underlying63 hi hz0 hz1 hz2 rfl (by decide) _ 1 (intV [x1]) rfl ((unhide Hown4).alloc _) ⟨w3.heap.size, 0, none⟩ 1 1 (intV [x2]) rfl rfl ?zz1 (intV_one _) (by decide) (by unfold maxLen; omega) (by omega) (by simp; omega) (w3.heap.size + 1) (by simp) ?_)
      case zz1 =>
        have h := World.news_of_block (MapKept.heap_alloc w3 (.cells #[.int .i64 x2] 3)).1
        simpa [intV] using h
      intro g4 cap4 w4 hown5 hg4 hgv4 hgl4
      have hb5 : Below w3.heap.size w3 (w3.alloc (.cells #[.int .i64 x2] 3)) := (Below.refl _ _).alloc (Nat.le_refl _) _
      have Hrp5 := hide (rp_grown (rp_below (unhide Hrp4) hb5) ((unhide Hown4).alloc _) hg4 (.inr rfl))
      have Hfr6 := hide (rfr_new (rfr_t (unhide Hfr5) (rfr_below hb5)) hg4 hw1w)
      have Hown5 := hide hown5
      clear hown5 hg4 hgv4 hgl4 hb5
      go_wp2
      go_roundw
      case rel => exact .inr ⟨g4, cap4, rfl, by simpa [intV] using unhide Hown5, unhide Hrp5, unhide Hfr6⟩
      case measure => simp [lenV]
    · have HT2 := hide (takes_no wr rb txt s2.at' s2.nx s2.op _ hrp.rd andT hs2)
      unfold andT at HT2
      have Hown := hide hown; have Hrp := hide hrp; have Hfr := hide hfr
      clear hown hrp hfr HT1 hs2
      go_wp2_with fail
      refine (unhide HT2).mono ?_
      rintro e2 w2 ⟨rfl, q, hw⟩
      have hb3 : Below wr.heap.size wr w2 := by rw [hw]; exact ⟨rfl, rfl, rfl, Nat.le_refl _, fun _ _ => rfl⟩
      have hd : Below w2.heap.size w2 w2.drew := (Below.refl _ _).drew
      have hrp3 := rp_av (rp_below (rp_below (unhide Hrp) hb3) hd) (av' := av) (fun k _ h => .inl h)
      have hown3 : w2.drew.ownsRow w1.heap.size 3 1 (.slice (some ⟨g, 0, none⟩) 2 cap) 2 (intV [x1, x2]) := own_off (O := fun _ => False) (own_off (O := fun _ => False) (unhide Hown) (off_below hb3) (fun _ _ h => h)) (off_below hd) (fun _ _ h => h)
      have hbw3 : RFr B mb sb rb w w2.drew := rfr_t (unhide Hfr) (rfr_t (rfr_below hb3) (rfr_below hd))
      have c4 := cell_block hrp3.rd 4 _ rfl
      have hcat := andP_any w2.drew B pb mb sb s2.L s2.e sn DS hrp3.pool (Nat.le_trans hB hbw3.size) (some ⟨g, 0, none⟩) cap [x1, x2] (nrow_own hown3 rfl) (unhide Hx) (unhide Hne) (by simp) (unhide Hfew) hr cf (unhide Hcf av) hL (fun k hk => Nat.lt_of_lt_of_le (hav k hk) hbw3.size)
      rw [hy] at hcat
      have HCat := hide hcat
      have Hrp3 := hide hrp3; have Hbw3 := hide hbw3
      clear hb3 hrp3 hown3 hbw3 hw hcat hd
      go_wp2_with fail
      go_region_with (first
        | (go_at_call 62; refine (unhide HCat).mono ?_; rintro e3 w3 ⟨rfl, hp3, hf3⟩; have hrp4 := rp_pool (unhide Hrp3) hf3 hp3; have d4 := cell_block hrp4.rd 4 _ rfl; have HH := hide (held_any w3 B pb mb sb _ (cmpV pb) s2.e sn DS hp3 y hyl); have Hrp4 := hide hrp4; have Hf3 := hide hf3; clear hrp4 hf3 hp3)
        | (go_at_call 27; refine (unhide HH).mono ?_; rintro e4 w4 ⟨rfl, hp4, hf4⟩; have Hp4 := hide hp4; have Hf4 := hide hf4; clear hp4 hf4))
      all_goals
        go_wp2
        go_ret
        exact ⟨rfl, rp_pool (unhide Hrp4) (unhide Hf4) (unhide Hp4), rfr_t (rfr_t (unhide Hbw3) (rfr_fr (unhide Hf3))) (rfr_fr (unhide Hf4))⟩
end Go.Proofs.YtkimhfajfbcdmaaGreatDoor

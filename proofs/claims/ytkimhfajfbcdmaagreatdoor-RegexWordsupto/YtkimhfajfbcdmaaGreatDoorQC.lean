/- Pools: which kids take the empty row. (and what it leads to) -/
import Derived.Test.YtkimhfajfbcdmaaGreatDoorQB
/- Pools: which kids take the empty row. -/
namespace Go.Proofs.YtkimhfajfbcdmaaGreatDoor
open Go.RowKit Go.Maps

/-- Some kid takes the empty row; some kid does not. -/
def anyT (l : List Nd) (ks : List Int) : Bool := ks.any fun y => (l.getD y.toNat nd0).nul
def anyF (l : List Nd) (ks : List Int) : Bool := ks.any fun y => !(l.getD y.toNat nd0).nul
set_option maxRecDepth 100000 in
theorem takes136 (bb pb g nc : Nat) (l : List Nd) (p1 p2 p3 p4 p5 : Value) (y : Nat) (hy : y < l.length) (w : World) (hb : w.cell? ⟨bb, 0, none⟩ = some (.pointer (some ⟨pb, 0, none⟩))) (hp : w.heap[pb]? = some (.cells #[.slice (some ⟨g, 0, none⟩) l.length nc, p1, p2, p3, p4, p5] 61 (0, 0))) (hl : NdRow w g l) :
    Calls Tryz.prog 69 #[.int .i64 (y : Int), .pointer (some ⟨bb, 0, none⟩)] w fun e w' => e = .returned (.bool ((l.getD y nd0).nul)) ∧ w' = w := by
  have c0 := cell_block hp 0 _ rfl
  have r5 := hl y hy 5 (by decide)
  simp only [cellsN] at r5
  have hy' : (y : Int) < l.length := by omega
  clear hp hl
  generalize l.getD y nd0 = z at *
  go_enter Tryz.func69, Tryz.ntmps69
  go_wp2
  go_ret
  exact ⟨rfl, rfl⟩
set_option maxRecDepth 100000 in
theorem takes137 (bb pb g nc : Nat) (l : List Nd) (p1 p2 p3 p4 p5 : Value) (y : Nat) (hy : y < l.length) (w : World) (hb : w.cell? ⟨bb, 0, none⟩ = some (.pointer (some ⟨pb, 0, none⟩))) (hp : w.heap[pb]? = some (.cells #[.slice (some ⟨g, 0, none⟩) l.length nc, p1, p2, p3, p4, p5] 61 (0, 0))) (hl : NdRow w g l) :
    Calls Tryz.prog 70 #[.int .i64 (y : Int), .pointer (some ⟨bb, 0, none⟩)] w fun e w' => e = .returned (.bool (!(l.getD y nd0).nul)) ∧ w' = w := by
  have c0 := cell_block hp 0 _ rfl
  have r5 := hl y hy 5 (by decide)
  simp only [cellsN] at r5
  have hy' : (y : Int) < l.length := by omega
  clear hp hl
  generalize l.getD y nd0 = z at *
  go_enter Tryz.func70, Tryz.ntmps70
  go_wp2
  go_ret
  exact ⟨rfl, rfl⟩
set_option maxHeartbeats 2000000 in
set_option maxRecDepth 100000 in
theorem index136 (bb pb g nc : Nat) (l : List Nd) (p1 p2 p3 p4 p5 : Value) (a : Option Addr) (c : Nat) (ks : List Int) (hks : ks.length ≤ 4096) (hkv : ∀ j, j < ks.length → 0 ≤ ks.getD j 0 ∧ (ks.getD j 0).toNat < l.length) (w : World) (hb : w.cell? ⟨bb, 0, none⟩ = some (.pointer (some ⟨pb, 0, none⟩))) (hp : w.heap[pb]? = some (.cells #[.slice (some ⟨g, 0, none⟩) l.length nc, p1, p2, p3, p4, p5] 61 (0, 0))) (hl : NdRow w g l) (hkr : NRow w a ks) :
    Calls Tryz.prog 83 #[.slice a ks.length c, .func (.func 69) #[] #[.pointer (some ⟨bb, 0, none⟩)]] w fun e w' => (∃ r : Int, e = .returned (.int .i64 r) ∧ (0 ≤ r ↔ anyT l ks = true)) ∧ w' = w := by
  have HT := hide (fun y hy => takes136 bb pb g nc l p1 p2 p3 p4 p5 y hy w hb hp hl)
  have Hkr := hide hkr; have Hkv := hide hkv
  clear hb hp hl hkr hkv
  go_enter Tryz.func83, Tryz.ntmps83
  go_wp2
  go_loop [8] (fun x => ∃ k : Nat, x = .int .i64 k ∧ k ≤ ks.length ∧ anyT l (ks.take k) = false) (fun x => ks.length - (intOf x).toNat)
  case atStart => exact ⟨0, rfl, Nat.zero_le _, rfl⟩
  case round =>
    obtain ⟨k, rfl, hk, hany⟩ := hrel
    by_cases hlt : k < ks.length
    · have hlt' : (k : Int) < ks.length := by omega
      rcases unhide Hkr with h | ⟨gk, off, rfl, hgl, hc⟩
      · rw [h] at hlt; simp at hlt
      have c0 := hc k hlt
      obtain ⟨hv0, hv1⟩ := unhide Hkv k hlt
      have HA : Hid (anyT l (ks.take (k + 1)) = (anyT l (ks.take k) || (l.getD (ks.getD k 0).toNat nd0).nul)) := hide (by
        unfold anyT
        rw [List.take_add_one, List.getElem?_eq_getElem hlt, List.any_append, List.getD_eq_getElem?_getD (l := ks), List.getElem?_eq_getElem hlt]
        simp)
      have HY : Hid (((l.getD (ks.getD k 0).toNat nd0).nul) = true → anyT l ks = true) := hide (fun h => by
        unfold anyT
        rw [List.any_eq_true]
        exact ⟨ks.getD k 0, by rw [List.getD_eq_getElem?_getD, List.getElem?_eq_getElem hlt]; exact List.getElem_mem _, h⟩)
      obtain ⟨y, hy⟩ := Int.eq_ofNat_of_zero_le hv0
      rw [hy] at c0
      rw [hy, Int.toNat_natCast] at HA HY
      rw [hy, Int.toNat_natCast] at hv1
      have H1 := hide (unhide HT y hv1)
      rw [hany] at HA
      clear hc hany hv0 hv1
      cases hz : ((l.getD y nd0).nul)
      · rw [hz] at H1 HA
        clear HY hz
        go_wp2_with (go_at_call 69; refine (unhide H1).mono ?_; rintro e w' ⟨rfl, hw⟩; obtain rfl := hw.symm)
        go_round
        case rel => exact ⟨k + 1, by go_num, by omega, by rw [unhide HA]; rfl⟩
        case measure => simp [intOf]; omega
      · rw [hz] at H1 HY
        have hyes := unhide HY rfl
        have Hy := hide hyes
        clear HY hz HA hyes
        go_wp2_with (go_at_call 69; refine (unhide H1).mono ?_; rintro e w' ⟨rfl, hw⟩; obtain rfl := hw.symm)
        go_ret
        exact ⟨⟨_, rfl, by rw [unhide Hy]; simp⟩, rfl⟩
    · obtain rfl : k = ks.length := by omega
      have hlt' : ¬ ((ks.length : Int) < ks.length) := by omega
      rw [List.take_length] at hany
      have Hany := hide hany
      clear hany
      go_wp2
      go_ret
      exact ⟨⟨_, rfl, by rw [unhide Hany]; simp⟩, rfl⟩
set_option maxHeartbeats 2000000 in
set_option maxRecDepth 100000 in
theorem index137 (bb pb g nc : Nat) (l : List Nd) (p1 p2 p3 p4 p5 : Value) (a : Option Addr) (c : Nat) (ks : List Int) (hks : ks.length ≤ 4096) (hkv : ∀ j, j < ks.length → 0 ≤ ks.getD j 0 ∧ (ks.getD j 0).toNat < l.length) (w : World) (hb : w.cell? ⟨bb, 0, none⟩ = some (.pointer (some ⟨pb, 0, none⟩))) (hp : w.heap[pb]? = some (.cells #[.slice (some ⟨g, 0, none⟩) l.length nc, p1, p2, p3, p4, p5] 61 (0, 0))) (hl : NdRow w g l) (hkr : NRow w a ks) :
    Calls Tryz.prog 83 #[.slice a ks.length c, .func (.func 70) #[] #[.pointer (some ⟨bb, 0, none⟩)]] w fun e w' => (∃ r : Int, e = .returned (.int .i64 r) ∧ (0 ≤ r ↔ anyF l ks = true)) ∧ w' = w := by
  have HT := hide (fun y hy => takes137 bb pb g nc l p1 p2 p3 p4 p5 y hy w hb hp hl)
  have Hkr := hide hkr; have Hkv := hide hkv
  clear hb hp hl hkr hkv
  go_enter Tryz.func83, Tryz.ntmps83
  go_wp2
  go_loop [8] (fun x => ∃ k : Nat, x = .int .i64 k ∧ k ≤ ks.length ∧ anyF l (ks.take k) = false) (fun x => ks.length - (intOf x).toNat)
  case atStart => exact ⟨0, rfl, Nat.zero_le _, rfl⟩
  case round =>
    obtain ⟨k, rfl, hk, hany⟩ := hrel
    by_cases hlt : k < ks.length
    · have hlt' : (k : Int) < ks.length := by omega
      rcases unhide Hkr with h | ⟨gk, off, rfl, hgl, hc⟩
      · rw [h] at hlt; simp at hlt
      have c0 := hc k hlt
      obtain ⟨hv0, hv1⟩ := unhide Hkv k hlt
      have HA : Hid (anyF l (ks.take (k + 1)) = (anyF l (ks.take k) || !(l.getD (ks.getD k 0).toNat nd0).nul)) := hide (by
        unfold anyF
        rw [List.take_add_one, List.getElem?_eq_getElem hlt, List.any_append, List.getD_eq_getElem?_getD (l := ks), List.getElem?_eq_getElem hlt]
        simp)
      have HY : Hid ((!(l.getD (ks.getD k 0).toNat nd0).nul) = true → anyF l ks = true) := hide (fun h => by
        unfold anyF
        rw [List.any_eq_true]
        exact ⟨ks.getD k 0, by rw [List.getD_eq_getElem?_getD, List.getElem?_eq_getElem hlt]; exact List.getElem_mem _, h⟩)
      obtain ⟨y, hy⟩ := Int.eq_ofNat_of_zero_le hv0
      rw [hy] at c0
      rw [hy, Int.toNat_natCast] at HA HY
      rw [hy, Int.toNat_natCast] at hv1
      have H1 := hide (unhide HT y hv1)
      rw [hany] at HA
      clear hc hany hv0 hv1
      cases hz : (!(l.getD y nd0).nul)
      · rw [hz] at H1 HA
        clear HY hz
        go_wp2_with (go_at_call 70; refine (unhide H1).mono ?_; rintro e w' ⟨rfl, hw⟩; obtain rfl := hw.symm)
        go_round
        case rel => exact ⟨k + 1, by go_num, by omega, by rw [unhide HA]; rfl⟩
        case measure => simp [intOf]; omega
      · rw [hz] at H1 HY
        have hyes := unhide HY rfl
        have Hy := hide hyes
        clear HY hz HA hyes
        go_wp2_with (go_at_call 70; refine (unhide H1).mono ?_; rintro e w' ⟨rfl, hw⟩; obtain rfl := hw.symm)
        go_ret
        exact ⟨⟨_, rfl, by rw [unhide Hy]; simp⟩, rfl⟩
    · obtain rfl : k = ks.length := by omega
      have hlt' : ¬ ((ks.length : Int) < ks.length) := by omega
      rw [List.take_length] at hany
      have Hany := hide hany
      clear hany
      go_wp2
      go_ret
      exact ⟨⟨_, rfl, by rw [unhide Hany]; simp⟩, rfl⟩
end Go.Proofs.YtkimhfajfbcdmaaGreatDoor

/- Pools: whether a node takes the empty row. -/
namespace Go.Proofs.YtkimhfajfbcdmaaGreatDoor
open Go.RowKit Go.Maps

set_option maxRecDepth 100000 in
theorem contains136 (bb pb g nc : Nat) (l : List Nd) (p1 p2 p3 p4 p5 : Value) (a : Option Addr) (c : Nat) (ks : List Int) (hks : ks.length ≤ 4096) (hkv : ∀ j, j < ks.length → 0 ≤ ks.getD j 0 ∧ (ks.getD j 0).toNat < l.length) (w : World) (hb : w.cell? ⟨bb, 0, none⟩ = some (.pointer (some ⟨pb, 0, none⟩))) (hp : w.heap[pb]? = some (.cells #[.slice (some ⟨g, 0, none⟩) l.length nc, p1, p2, p3, p4, p5] 61 (0, 0))) (hl : NdRow w g l) (hkr : NRow w a ks) :
    Calls Tryz.prog 71 #[.slice a ks.length c, .func (.func 69) #[] #[.pointer (some ⟨bb, 0, none⟩)]] w fun e w' => e = .returned (.bool (anyT l ks)) ∧ w' = w := by
  have HI := hide (index136 bb pb g nc l p1 p2 p3 p4 p5 a c ks hks hkv w hb hp hl hkr)
  clear hb hp hl hkr hkv
  go_enter Tryz.func71, Tryz.ntmps71
  go_wp2_with fail
  refine (unhide HI).mono ?_
  rintro e w' ⟨⟨r, rfl, hr⟩, hw⟩
  obtain rfl := hw.symm
  cases hz : anyT l ks
  · have h0 : ¬ 0 ≤ r := fun h => by rw [hr.1 h] at hz; cases hz
    have h0d : decide (0 ≤ r) = false := decide_eq_false h0
    have Hz := hide hz
    clear h0
    clear hr hz
    go_wp2
    go_ret
    exact ⟨by rw [unhide Hz]; rfl, rfl⟩
  · have h0 : 0 ≤ r := hr.2 hz
    have Hz := hide hz
    clear hr hz
    go_wp2
    go_ret
    exact ⟨by rw [unhide Hz]; rfl, rfl⟩
set_option maxRecDepth 100000 in
theorem contains137 (bb pb g nc : Nat) (l : List Nd) (p1 p2 p3 p4 p5 : Value) (a : Option Addr) (c : Nat) (ks : List Int) (hks : ks.length ≤ 4096) (hkv : ∀ j, j < ks.length → 0 ≤ ks.getD j 0 ∧ (ks.getD j 0).toNat < l.length) (w : World) (hb : w.cell? ⟨bb, 0, none⟩ = some (.pointer (some ⟨pb, 0, none⟩))) (hp : w.heap[pb]? = some (.cells #[.slice (some ⟨g, 0, none⟩) l.length nc, p1, p2, p3, p4, p5] 61 (0, 0))) (hl : NdRow w g l) (hkr : NRow w a ks) :
    Calls Tryz.prog 71 #[.slice a ks.length c, .func (.func 70) #[] #[.pointer (some ⟨bb, 0, none⟩)]] w fun e w' => e = .returned (.bool (anyF l ks)) ∧ w' = w := by
  have HI := hide (index137 bb pb g nc l p1 p2 p3 p4 p5 a c ks hks hkv w hb hp hl hkr)
  clear hb hp hl hkr hkv
  go_enter Tryz.func71, Tryz.ntmps71
  go_wp2_with fail
  refine (unhide HI).mono ?_
  rintro e w' ⟨⟨r, rfl, hr⟩, hw⟩
  obtain rfl := hw.symm
  cases hz : anyF l ks
  · have h0 : ¬ 0 ≤ r := fun h => by rw [hr.1 h] at hz; cases hz
    have h0d : decide (0 ≤ r) = false := decide_eq_false h0
    have Hz := hide hz
    clear h0
    clear hr hz
    go_wp2
    go_ret
    exact ⟨by rw [unhide Hz]; rfl, rfl⟩
  · have h0 : 0 ≤ r := hr.2 hz
    have Hz := hide hz
    clear hr hz
    go_wp2
    go_ret
    exact ⟨by rw [unhide Hz]; rfl, rfl⟩
/-- Whether a node takes the empty row. -/
def nulN (l : List Nd) (kind : Int) (ks : List Int) : Bool :=
  if kind = 1 ∨ kind = 7 then true else if kind = 3 ∨ kind = 5 then !anyF l ks else if kind = 4 then anyT l ks else if kind = 6 then !(l.getD (ks.getD 0 0).toNat nd0).nul else false
theorem ndRow_below {w w' : World} {g : Nat} {l : List Nd} (h : NdRow w g l) (hg : g < w.heap.size) (hb : Below w.heap.size w w') : NdRow w' g l := fun k hk j hj => (hb.cell (p := ⟨g, k * 6 + j, none⟩) hg).trans (h k hk j hj)
theorem nrow_below {w w' : World} {a : Option Addr} {l : List Int} (h : NRow w a l) (hb : Below w.heap.size w w') : NRow w' a l := by
  rcases h with rfl | ⟨g, off, rfl, hlt, hc⟩
  · exact .inl rfl
  · exact .inr ⟨g, off, rfl, Nat.lt_of_lt_of_le hlt hb.size, fun j hj => (hb.cell (p := ⟨g, off + j, none⟩) hlt).trans (hc j hj)⟩
set_option maxHeartbeats 4000000 in
set_option maxRecDepth 100000 in
theorem empty_any (pb nb g nc : Nat) (l : List Nd) (p1 p2 p3 p4 p5 : Value) (d : Nd) (hk : d.kids.length ≤ 4096) (hkv : ∀ j, j < d.kids.length → 0 ≤ d.kids.getD j 0 ∧ (d.kids.getD j 0).toNat < l.length) (hk6 : d.kind = 6 → d.kids ≠ []) (w : World) (hp : w.heap[pb]? = some (.cells #[.slice (some ⟨g, 0, none⟩) l.length nc, p1, p2, p3, p4, p5] 61 (0, 0))) (hn : w.heap[nb]? = some (.cells #[.int .i64 d.kind, .slice d.sa d.set.length d.sc, .slice d.ka d.kids.length d.kc, .int .i64 d.parts, .int .i64 d.levels, .bool d.nul] 65 (0, 0))) (hl : NdRow w g l) (hg : g < w.heap.size) (hkr : NRow w d.ka d.kids) :
    Calls Tryz.prog 44 #[.pointer (some ⟨pb, 0, none⟩), .pointer (some ⟨nb, 0, none⟩)] w fun e w' => e = .returned (.bool (nulN l d.kind d.kids)) ∧ Below w.heap.size w w' := by
  have hb1 : Below w.heap.size w (w.alloc (.cells #[.pointer (some ⟨pb, 0, none⟩)] 36)) := (Below.refl _ _).alloc (Nat.le_refl _) _
  have hbx : (w.alloc (.cells #[.pointer (some ⟨pb, 0, none⟩)] 36)).heap[w.heap.size]? = some (.cells #[.pointer (some ⟨pb, 0, none⟩)] 36 (0, 0)) := (MapKept.heap_alloc w _).1
  have hp1 := (hb1.block _ (lt_of_some hp)).trans hp
  have hn1 := (hb1.block _ (lt_of_some hn)).trans hn
  have hl1 := ndRow_below hl hg hb1
  have hkr1 := nrow_below hkr hb1
  have b0 := cell_block hbx 0 _ rfl
  have n0 := cell_block hn1 0 _ rfl
  have n2 := cell_block hn1 2 _ rfl
  have HC6 := hide (contains136 w.heap.size pb g nc l p1 p2 p3 p4 p5 d.ka d.kc d.kids hk hkv _ b0 hp1 hl1 hkr1)
  have HC7 := hide (contains137 w.heap.size pb g nc l p1 p2 p3 p4 p5 d.ka d.kc d.kids hk hkv _ b0 hp1 hl1 hkr1)
  have HT := hide (fun y hy => takes137 w.heap.size pb g nc l p1 p2 p3 p4 p5 y hy _ b0 hp1 hl1)
  have hmf : ∀ (fn : Fn) (first cap : Array Value) (w : World), (Instr.makeFunc fn first cap).run Tryz.prog w = .ok (.func fn first cap) w := fun _ _ _ _ => rfl
  have Hkr := hide hkr1; have Hkv := hide hkv; have Hb1 := hide hb1
  clear hp hn hl hkr hp1 hn1 hl1 hkr1 hbx hkv hb1 b0
  go_enter Tryz.func44, Tryz.ntmps44
  by_cases h1 : d.kind = 1
  · skip
    have Hv : Hid (nulN l d.kind d.kids = true) := hide (by simp [nulN, h1])
    rw [h1] at n0
    go_wp2
    go_ret
    exact ⟨by rw [unhide Hv]; rfl, unhide Hb1⟩
  by_cases h7 : d.kind = 7
  · skip
    have Hv : Hid (nulN l d.kind d.kids = true) := hide (by simp [nulN, h7])
    rw [h7] at n0
    go_wp2
    go_ret
    exact ⟨by rw [unhide Hv]; rfl, unhide Hb1⟩
  by_cases h3 : d.kind = 3
  · skip
    have Hv : Hid (nulN l d.kind d.kids = !anyF l d.kids) := hide (by simp [nulN, h3])
    rw [h3] at n0
    go_wp2_with fail
    refine (unhide HC7).mono ?_
    rintro e w' ⟨rfl, hw⟩
    obtain rfl := hw.symm
    go_wp2
    go_ret
    exact ⟨by rw [unhide Hv]; rfl, unhide Hb1⟩
  by_cases h5 : d.kind = 5
  · skip
    have Hv : Hid (nulN l d.kind d.kids = !anyF l d.kids) := hide (by simp [nulN, h5])
    rw [h5] at n0
    go_wp2_with fail
    refine (unhide HC7).mono ?_
    rintro e w' ⟨rfl, hw⟩
    obtain rfl := hw.symm
    go_wp2
    go_ret
    exact ⟨by rw [unhide Hv]; rfl, unhide Hb1⟩
  by_cases h4 : d.kind = 4
  · skip
    have Hv : Hid (nulN l d.kind d.kids = anyT l d.kids) := hide (by simp [nulN, h4])
    rw [h4] at n0
    go_wp2_with fail
    refine (unhide HC6).mono ?_
    rintro e w' ⟨rfl, hw⟩
    obtain rfl := hw.symm
    go_wp2
    go_ret
    exact ⟨by rw [unhide Hv]; rfl, unhide Hb1⟩
  by_cases h6 : d.kind = 6
  · skip
    have hne : 0 < d.kids.length := List.length_pos_iff.2 (hk6 h6)
    obtain ⟨hv0, hv1⟩ := unhide Hkv 0 hne
    rcases unhide Hkr with h | ⟨gk, off, hka, hgl, hc⟩
    · exact absurd h (hk6 h6)
    have c0 := hc 0 hne
    have Hv : Hid (nulN l d.kind d.kids = !(l.getD (d.kids.getD 0 0).toNat nd0).nul) := hide (by simp [nulN, h6])
    obtain ⟨y, hy⟩ := Int.eq_ofNat_of_zero_le hv0
    rw [hy] at c0
    rw [hy, Int.toNat_natCast] at Hv
    rw [hy, Int.toNat_natCast] at hv1
    rw [Nat.add_zero] at c0
    have H1 := hide (unhide HT y hv1)
    rw [h6] at n0
    rw [hka] at n2
    clear hc hv0 hv1 hka
    go_wp2_with fail
    refine (unhide H1).mono ?_
    rintro e w' ⟨rfl, hw⟩
    obtain rfl := hw.symm
    go_wp2
    go_ret
    exact ⟨by rw [unhide Hv]; rfl, unhide Hb1⟩
  have Hv : Hid (nulN l d.kind d.kids = false) := hide (by simp [nulN, h1, h7, h3, h5, h4, h6])
  have b1 : (d.kind == 1) = false := by simpa using h1
  have b7 : (d.kind == 7) = false := by simpa using h7
  have b3 : (d.kind == 3) = false := by simpa using h3
  have b5 : (d.kind == 5) = false := by simpa using h5
  have b4 : (d.kind == 4) = false := by simpa using h4
  have b6 : (d.kind == 6) = false := by simpa using h6
  go_wp2
  go_ret
  exact ⟨by rw [unhide Hv]; rfl, unhide Hb1⟩
end Go.Proofs.YtkimhfajfbcdmaaGreatDoor

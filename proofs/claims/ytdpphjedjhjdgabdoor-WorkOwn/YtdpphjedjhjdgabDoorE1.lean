/- What nil sets, lists and numberings answer; the numbering of ints that has no key yet. -/
import Derived.Test.YtdpphjedjhjdgabDoorK3
import Derived.Test.YtdpphjedjhjdgabDoorS3
import Derived.OwnWalk
import Derived.Laws.IdiomStrings
namespace Go.Proofs.YtdpphjedjhjdgabDoor
open Go.RowKit Go.Maps

set_option maxHeartbeats 1000000 in
theorem nil_add (a : Option Addr) (n c : Nat) (w : World) : Calls Tryd.prog 13 #[.pointer none, .slice a n c] w fun e w' => e = .returned (.tuple #[.int .i64 0, .int .i64 2]) ∧ w' = w := by
  go_enter Tryd.func13, Tryd.ntmps13
  go_wp2
  go_ret2
  exact ⟨rfl, rfl⟩
set_option maxHeartbeats 1000000 in
theorem nil_push (n wt : Int) (w : World) : Calls Tryd.prog 14 #[.pointer none, .int .i64 n, .int .i64 wt] w fun e w' => e = .returned (.tuple #[.bool false, .int .i64 2]) ∧ w' = w := by
  go_enter Tryd.func14, Tryd.ntmps14
  go_wp2
  go_ret2
  exact ⟨rfl, rfl⟩
theorem nil_llen (w : World) : Calls Tryd.prog 22 #[.pointer none] w fun e w' => e = .returned (.int .i64 0) ∧ w' = w := by
  go_enter Tryd.func22, Tryd.ntmps22
  go_wp2
  go_ret
  exact ⟨rfl, rfl⟩
theorem nil_pop (w : World) : Calls Tryd.prog 15 #[.pointer none] w fun e w' => e = .returned (.tuple #[.int .i64 0, .int .i64 0, .bool false]) ∧ w' = w := by
  have HL := hide (nil_llen w)
  go_enter Tryd.func15, Tryd.ntmps15
  go_wp2_with (go_at_call 22; refine (unhide HL).mono ?_; rintro e w1 ⟨rfl, hw⟩; obtain rfl := hw.symm)
  go_ret3
  exact ⟨rfl, rfl⟩
theorem nil_at (s : ByteArray) (w : World) : Calls Tryd.prog 16 #[.pointer none, .string s] w fun e w' => e = .returned (.tuple #[.int .i64 0, .bool false, .int .i64 2]) ∧ w' = w := by
  go_enter Tryd.func16, Tryd.ntmps16
  go_wp2
  go_ret3
  exact ⟨rfl, rfl⟩
theorem nil_find (s : ByteArray) (w : World) : Calls Tryd.prog 17 #[.pointer none, .string s] w fun e w' => e = .returned (.tuple #[.int .i64 0, .bool false]) ∧ w' = w := by
  go_enter Tryd.func17, Tryd.ntmps17
  go_wp2
  go_ret2
  exact ⟨rfl, rfl⟩
theorem nil_key (n : Int) (w : World) : Calls Tryd.prog 18 #[.pointer none, .int .i64 n] w fun e w' => e = .returned (.tuple #[.string ⟨#[]⟩, .int .i64 2]) ∧ w' = w := by
  go_enter Tryd.func18, Tryd.ntmps18
  go_wp2
  go_ret2
  exact ⟨rfl, rfl⟩
theorem nil_drop (a : Option Addr) (n c : Nat) (w : World) : Calls Tryd.prog 10 #[.pointer none, .slice a n c] w fun e w' => e = .returned (.int .i64 0) ∧ w' = w := by
  go_enter Tryd.func10, Tryd.ntmps10
  go_wp2
  go_ret
  exact ⟨rfl, rfl⟩
theorem nil_len (w : World) : Calls Tryd.prog 20 #[.pointer none] w fun e w' => e = .returned (.int .i64 0) ∧ w' = w := by
  go_enter Tryd.func20, Tryd.ntmps20
  go_wp2
  go_ret
  exact ⟨rfl, rfl⟩
theorem nil_all (w : World) : Calls Tryd.prog 9 #[.pointer none] w fun e w' => e = .returned (.slice none 0 0) ∧ w' = w := by
  go_enter Tryd.func9, Tryd.ntmps9
  go_wp2
  go_ret
  exact ⟨rfl, rfl⟩
theorem nil_copy (w : World) : Calls Tryd.prog 21 #[.pointer none] w fun e w' => e = .returned (.pointer none) ∧ w' = w := by
  go_enter Tryd.func21, Tryd.ntmps21
  go_wp2
  go_ret
  exact ⟨rfl, rfl⟩
theorem nil_ilen (w : World) : Calls Tryd.prog 23 #[.pointer none] w fun e w' => e = .returned (.int .i64 0) ∧ w' = w := by
  go_enter Tryd.func23, Tryd.ntmps23
  go_wp2
  go_ret
  exact ⟨rfl, rfl⟩
theorem nil_skey (w : World) : Calls Tryd.prog 24 #[.pointer none] w fun e w' => e = .returned (.string ⟨#[]⟩) ∧ w' = w := by
  go_enter Tryd.func24, Tryd.ntmps24
  go_wp2
  go_ret
  exact ⟨rfl, rfl⟩
theorem nil_bits (t : Int) (w : World) : Calls Tryd.prog 43 #[.pointer none, .int .i64 t] w fun e w' => e = .returned (.int .u64 0) ∧ w' = w := by
  go_enter Tryd.func43, Tryd.ntmps43
  go_wp2
  go_ret
  exact ⟨rfl, rfl⟩
theorem below_dN {B : Nat} {a w : World} (h : Below B a w) (n : Nat) : Below B a (w.drewN n) := h.trans ⟨rfl, rfl, rfl, Nat.le_refl _, fun _ _ => rfl⟩
theorem and_zero (x : Int) : bits .and .u64 0 x = 0 := by
  show IntKind.u64.wrap ((BitVec.ofInt 64 0 &&& BitVec.ofInt 64 x).toNat : Int) = 0
  simp [IntKind.wrap_u64]
set_option maxHeartbeats 4000000 in
set_option maxRecDepth 100000 in
theorem nil_has (n : Int) (w : World) : Calls Tryd.prog 19 #[.pointer none, .int .i64 n] w fun e w' => e = .returned (.bool false) ∧ Below w.heap.size w w' := by
  have HB := hide (blockOf_any n w)
  have hz := and_zero (bitV n)
  generalize bitV n = x at *
  go_enter Tryd.func19, Tryd.ntmps19
  go_wp2_with (go_at_call 33; refine (unhide HB).mono ?_; rintro e w1 ⟨rfl, hb1⟩)
  have hb2 := hb1.alloc hb1.size (.cells #[.int .i64 (n / 64), .int .u64 x] 78)
  have HT := hide (fun q => nil_bits (n / 64) ((w1.alloc (.cells #[.int .i64 (n / 64), .int .u64 x] 78)).drewN q))
  have Hb2 := hide hb2
  clear hb1 hb2
  go_quiet ((go_at_call 43; exact Calls.quiet_of_same (unhide HT _)))
  go_wp2
  go_ret
  exact ⟨by simp, below_dN (unhide Hb2) _⟩
theorem nil_join (B : Nat) (w : World) : Calls Tryd.prog 25 #[.pointer (some ⟨B, 0, none⟩), .pointer none] w fun e w' => e = .returned (.int .i64 0) ∧ w' = w := by
  go_enter Tryd.func25, Tryd.ntmps25
  go_wp2
  go_ret
  exact ⟨rfl, rfl⟩
set_option maxHeartbeats 4000000 in
/-- Meets of an empty one. -/
theorem none_meets (B : Nat) (w : World) (hB : w.heap[B]? = some (.cells #[.slice none 0 0, .int .i64 0] 60 (0, 0))) : Calls Tryd.prog 26 #[.pointer (some ⟨B, 0, none⟩), .pointer none] w fun e w' => e = .returned (.bool false) ∧ w' = w := by
  have c0 := cell_block hB 0 _ rfl
  clear hB
  go_enter Tryd.func26, Tryd.ntmps26
  go_wp2
  go_loop [14] (fun x => x = .int .i64 0) (fun x => 0)
  case atStart => rfl
  case round =>
    subst hrel
    go_wp2
    go_ret
    exact ⟨rfl, rfl⟩
theorem hbyte : (Tryd.prog.info? 5).map (fun i => (i.zero, i.size, i.bytes)) = some (some (.int .u8 0), 1, 1) := by kernel_rfl
set_option maxHeartbeats 4000000 in
set_option maxRecDepth 100000 in
/-- Key of an empty one. -/
theorem none_key (B : Nat) (w : World) (hB : w.heap[B]? = some (.cells #[.slice none 0 0, .int .i64 0] 60 (0, 0))) : Calls Tryd.prog 24 #[.pointer (some ⟨B, 0, none⟩)] w fun e w' => e = .returned (.string ⟨#[]⟩) ∧ Below w.heap.size w w' := by
  have c0 := cell_block hB 0 _ rfl
  have hlt := lt_of_some hB
  clear hB
  obtain ⟨i0, hi, hz0, hz1, hz2⟩ := info_parts hbyte
  have hcv : ∀ w' : World, (convert 98 9 (.slice (some ⟨w.heap.size, 0, none⟩) 0 0)).run Tryd.prog w' = .ok (.string ⟨#[]⟩) w' := fun w' => run_convert_bytes_back w' 98 9 5 ⟨w.heap.size, 0, none⟩ 0 [] Tryd.underlying98 Tryd.underlying5 Tryd.underlying9 (fun j hj => by simp at hj)
  go_enter Tryd.func24, Tryd.ntmps24
  go_wp2_with (at_make; refine wpList_make_own _ rfl _ _ 98 rfl w.heap.size 5 i0 (.int .u8 0) 1 Tryd.underlying98 hi hz0 hz1 .i64 .i64 _ 0 rfl rfl rfl (by omega) (by decide) (Nat.le_refl _) ?_; intro w3 hown3 hgrow3; have hb3 : Below w.heap.size w w3 := (Below.refl _ w).grown hgrow3 (Nat.le_refl _) (fun k hk => by cases hk); have c3 : w3.cell? ⟨B, 0, none⟩ = some (.slice none 0 0) := (hb3.cell (p := ⟨B, 0, none⟩) hlt).trans c0; have Hb3 := hide hb3; clear hown3 hgrow3 hb3)
  go_loop [21, 3] (fun x y => x = .int .i64 0 ∧ y = .slice (some ⟨w.heap.size, 0, none⟩) 0 0) (fun x _ => 0)
  case atStart => exact ⟨rfl, rfl⟩
  case round =>
    obtain ⟨rfl, rfl⟩ := hrel
    go_wp2
    go_ret
    exact ⟨rfl, unhide Hb3⟩

/-- The numbering of ints: its look, its first key. -/
theorem idle56 (p q r : Addr) (w : World) :
    CallsD Tryd.prog 56 #[.pointer (some p), .pointer (some q), .pointer (some r)] .returning w fun e u' w' => e = .returned (.tuple #[]) ∧ u' = .returning ∧ w' = w := by
  refine callsD_of_wpS Tryd.func56 rfl fun c₀ cs hu => ?_
  apply wpS_seq
  apply wpS_region
  simp [wpOpsS, go_sem, recoverD, hu, Tryd.ntmps56, Exit.thenS]
  refine wpS_cond (t := false) (by simp [Act.eval, Array.replicate]) ?_
  simp only [Bool.false_eq_true, if_false]
  refine wpS_of_wp (wp_skip ?_)
  cases c₀
  simp_all [bodyPostS, results, Tryd.results56]
theorem lawI : Keyed Tryd.prog 3 := int_keyed Tryd.underlying3
set_option maxHeartbeats 1000000 in
set_option maxRecDepth 100000 in
theorem look_int (B : Nat) (n : Int) (hn : -9223372036854775808 ≤ n ∧ n ≤ 9223372036854775807) (w : World) (hB : w.cell? ⟨B, 1, none⟩ = some (.map none)) :
    Calls Tryd.prog 46 #[.pointer (some ⟨B, 0, none⟩), .int .i64 n] w fun e w' => e = .returned (.tuple #[.int .i64 0, .bool false, .int .i64 0]) ∧ Below w.heap.size w w' := by
  have hmf : ∀ (fn : Fn) (first cap : Array Value) (w : World), (Instr.makeFunc fn first cap).run Tryd.prog w = .ok (.func fn first cap) w := fun _ _ _ _ => rfl
  have hlt := World.block_lt_of_cell? w _ hB
  have hbl : ∀ o1 o2 o3, Below w.heap.size w (((w.alloc o1).alloc o2).alloc o3) := fun o1 o2 o3 => (((Below.refl _ w).alloc (Nat.le_refl _) _).alloc (by simp) _).alloc (by simp; omega) _
  have hc : ∀ o1 o2 o3, (((w.alloc o1).alloc o2).alloc o3).cell? ⟨B, 1, none⟩ = some (.map none) := fun o1 o2 o3 => ((hbl o1 o2 o3).cell (p := ⟨B, 1, none⟩) hlt).trans hB
  have hr : ∀ w' : World, (Instr.lookup 62 (.map none) (.int .i64 n) true).run Tryd.prog w' = .ok (.tuple #[.int .i64 0, .bool false]) w' := fun w' => look_nil (w := w') true lawI Tryd.underlying62 (zero3 _) (keyOf_int_mk Tryd.underlying3 (WalkArith.wf_i64 hn))
  clear hbl
  go_enter_defers Tryd.func46, Tryd.ntmps46
  go_wp2
  go_region
  go_wp2
  refine leaves_cons (f := 56) (args := #[.pointer (some ⟨w.heap.size, 0, none⟩), .pointer (some ⟨w.heap.size + 1, 0, none⟩), .pointer (some ⟨w.heap.size + 1 + 1, 0, none⟩)]) (by simp) (by simp [go_sem]) ?_
  refine (idle56 _ _ _ _).mono ?_
  rintro e u' w'' ⟨rfl, rfl, rfl⟩
  simp [Leaves, settle, results, Tryd.results46, go_sem]
  exact ((((Below.refl _ w).alloc (Nat.le_refl _) _).alloc (by simp) _).alloc (by simp; omega) _).drew
theorem hint : (Tryd.prog.info? 3).map (fun i => (i.zero, i.size, i.bytes)) = some (some (.int .i64 0), 1, 8) := by kernel_rfl
set_option maxHeartbeats 4000000 in
set_option maxRecDepth 100000 in
theorem enter_int (B : Nat) (n : Int) (hn : -9223372036854775808 ≤ n ∧ n ≤ 9223372036854775807) (w : World) (hB : w.heap[B]? = some (.cells #[.slice none 0 0, .map none] 64 (0, 0))) :
    Calls Tryd.prog 47 #[.pointer (some ⟨B, 0, none⟩), .int .i64 n] w fun e w' => e = .returned (.int .i64 0) ∧ Off (fun k => k = B) w w' := by
  obtain ⟨i0, hi, hz0, hz1, hz2⟩ := info_parts hint
  have hlt := lt_of_some hB
  have c0 := cell_block hB 0 _ rfl
  have c1 := cell_block hB 1 _ rfl
  have f0 := frozen_block hB 0
  have f1 := frozen_block hB 1
  have qm : ∀ (w : World) (r : Option Nat), (binOp .eql 62 (.map r) (.map none)).run Tryd.prog w = .ok (.bool r.isNone) w := fun w r => run_eql_map_nil w _ _ _ r Tryd.underlying62
  have qk := fun w : World => run_makeMap (P := Tryd.prog) 62 w
  have hs1 : (w.setCell ⟨B, 1, none⟩ (.map (some w.heap.size))).heap.size = w.heap.size := by simp
  have hB' : ((w.setCell ⟨B, 1, none⟩ (.map (some w.heap.size))).alloc (.map #[] 0)).heap[B]? = some (.cells #[.slice none 0 0, .map (some w.heap.size)] 64 (0, 0)) :=
    (Below.heap_alloc _ _ B (by omega)).trans (block_set (i := 1) hB (.map (some w.heap.size)))
  have hm' : World.ownsMap (H := Unit) ((w.setCell ⟨B, 1, none⟩ (.map (some w.heap.size))).alloc (.map #[] 0)) Tryd.prog 3 (plainElem Tryd.prog 3) w.heap.size 0 (.map []) := by
    have h := World.ownsMap_made (H := Unit) (w.setCell ⟨B, 1, none⟩ (.map (some w.heap.size))) Tryd.prog 3 (plainElem Tryd.prog 3)
    rw [hs1] at h
    exact h
  have hoW : Off (fun k => k = B) w ((w.setCell ⟨B, 1, none⟩ (.map (some w.heap.size))).alloc (.map #[] 0)) := off_alloc (off_set (O := fun k => k = B) (off_refl _ _) (p := ⟨B, 1, none⟩) (.inl rfl) _) _
  have HB' := hide hB'; have Hm' := hide hm'; have HoW := hide hoW
  have Hk := hide (keyOf_int_mk Tryd.underlying3 (WalkArith.wf_i64 hn))
  clear hB hB' hm' hoW
  go_enter Tryd.func47, Tryd.ntmps47
  go_wp2_with (at_builtin; refine wpList_append_lies _ rfl _ _ 22 rfl 0 3 i0 (.int .i64 0) 1 8 Tryd.underlying22 hi hz0 hz1 hz2 rfl (by decide) _ 0 [] rfl (World.ownsRow_nil _ _ _ _) ⟨w.heap.size + 1, 0, none⟩ 1 1 [.int .i64 n] rfl rfl ?c1 ?c2 (by decide) ?c3 ?c4 (Nat.zero_le _) (w.heap.size + 1 + 1) ?c5 ?_)
  case c1 =>
    have h := World.news_of_block (MapKept.heap_alloc ((w.setCell ⟨B, 1, none⟩ (.map (some w.heap.size))).alloc (.map #[] 0)) (.cells #[.int .i64 n] 3)).1
    simpa using h
  case c2 => simp [Value.oneCell']
  case c3 => decide
  case c4 => decide
  case c5 => simp
  intro g cap W1 hown hgr hgv hgl
  have hg : g = w.heap.size + 1 + 1 := by rcases hgv with h | h; simp [Value.ownBlock] at h; exact h
  have hB1 : W1.heap[B]? = some (.cells #[.slice none 0 0, .map (some w.heap.size)] 64 (0, 0)) := (hgr.block B (by simp; omega) (by simp [Value.ownBlock])).trans ((Below.heap_alloc _ _ B (lt_of_some (unhide HB'))).trans (unhide HB'))
  have hm1 : W1.ownsMap (H := Unit) Tryd.prog 3 (plainElem Tryd.prog 3) w.heap.size 0 (.map []) := ((unhide Hm').alloc _).kept hgr (fun e => by simp [Value.ownBlock] at e)
  have ho1 : Off (fun k => k = B) w W1 := off_grown (off_alloc (unhide HoW) _) hgr (fun k hk => by simp [Value.ownBlock] at hk)
  have hm2 := hm1.setCell (a := ⟨B, 0, none⟩) (map_not hB1 hm1) (.slice (some ⟨g, 0, none⟩) 1 cap)
  have hB2 := block_set (i := 0) hB1 (.slice (some ⟨g, 0, none⟩) 1 cap)
  have d0 := cell_block hB1 0 _ rfl
  have e0 := frozen_block hB1 0
  have d1 : (W1.setCell ⟨B, 0, none⟩ (.slice (some ⟨g, 0, none⟩) 1 cap)).cell? ⟨B, 1, none⟩ = some (.map (some w.heap.size)) := cell_block hB2 1 _ rfl
  have Hm2 := hide hm2
  have Ho2 := hide (off_set (O := fun k => k = B) ho1 (p := ⟨B, 0, none⟩) (.inl rfl) (.slice (some ⟨g, 0, none⟩) 1 cap))
  clear hown hgr hgv hm1 hm2 hB1 hB2 ho1 c0 c1 f0 f1 hg
  go_wp2_with (at_mapUpdate; refine wpList_mapUpdate_own _ rfl _ _ _ 62 rfl 3 3 lawI Tryd.underlying62 _ _ 0 _ rfl (unhide Hm2) (by decide) _ _ (.int .i64 n) rfl rfl (unhide Hk) (.lit (.int .i64 0)) [] (plainElem_int Tryd.underlying3 (by decide)) ?_)
  intro W3 hm3 hg3
  have Ho3 := hide (off_grown (unhide Ho2) hg3 (fun k hk => by cases hk; exact .inr (Nat.le_refl _)))
  clear hm3 hg3
  go_wp2
  go_ret
  exact ⟨rfl, unhide Ho3⟩
set_option maxHeartbeats 4000000 in
set_option maxRecDepth 100000 in
theorem at_int (B : Nat) (n : Int) (hn : -9223372036854775808 ≤ n ∧ n ≤ 9223372036854775807) (w : World) (hB : w.heap[B]? = some (.cells #[.slice none 0 0, .map none] 64 (0, 0))) :
    Calls Tryd.prog 27 #[.pointer (some ⟨B, 0, none⟩), .int .i64 n] w fun e w' => e = .returned (.tuple #[.int .i64 0, .bool true, .int .i64 0]) ∧ Off (fun k => k = B) w w' := by
  have HL := hide (look_int B n hn w (cell_block hB 1 _ rfl))
  have hlt := lt_of_some hB
  have HE := hide (fun w' (hb : Below w.heap.size w w') => enter_int B n hn w' ((hb.block B hlt).trans hB))
  have HC := hide (fun w' (hb : Below w.heap.size w w') => cell_block ((hb.block B hlt).trans hB) 0 _ rfl)
  clear hB
  go_enter Tryd.func27, Tryd.ntmps27
  go_wp2_with fail
  refine (unhide HL).mono ?_
  rintro e w1 ⟨rfl, hb1⟩
  have c0 := unhide HC w1 hb1
  have HE1 := hide (unhide HE w1 hb1)
  have Hb1 := hide hb1
  clear HE HC hb1
  go_wp2_with fail
  refine (unhide HE1).mono ?_
  rintro e w2 ⟨rfl, ho2⟩
  have Ho2 := hide ho2
  clear ho2
  go_wp2
  go_ret3
  exact ⟨rfl, off_t (off_below (unhide Hb1)) (unhide Ho2)⟩
end Go.Proofs.YtdpphjedjhjdgabDoor

/- Lists of work: Push of a number that is not in it; down. -/
import Derived.Test.YtdpphjedjhjdgabDoorL5
namespace Go.Proofs.YtdpphjedjhjdgabDoor
open Go.RowKit Go.Maps

set_option maxHeartbeats 4000000 in
set_option maxRecDepth 100000 in
theorem hpush_any (B T : Nat) (O : Nat → Prop) (ts : List Tk) (n wt : Int) (hn : 0 ≤ n ∧ n < 1048576 ∧ -9223372036854775808 ≤ wt ∧ wt ≤ 9223372036854775807) (hnew : n ∉ ts.map Tk.n) (hlen : ts.length < 1048576) (w : World)
    (h : LstIs w B O ts) (hTO : ¬ O T) (hT : w.heap[T]? = some (.cells #[.int .i64 n, .int .i64 wt, .int .i64 0] 88 (0, 0))) :
    Calls Tryd.prog 39 #[.iface 85 (.pointer (some ⟨B, 0, none⟩)), .iface 83 (.pointer (some ⟨T, 0, none⟩))] w fun e w' => e = .returned (.tuple #[]) ∧ Off (fun k => O k ∨ k = T) w w' ∧
      LstIs w' B (fun k => (O k ∨ k = T) ∨ w.heap.size ≤ k ∧ k < w'.heap.size) (upL (ts ++ [⟨T, n, wt⟩]) ts.length) := by
  have HP := hide (tpush_any B T O ts n wt hn hnew hlen w h hTO hT)
  have hTl := lt_of_some hT
  have HO := hide h.lt
  clear h hTO hT hnew
  go_enter Tryd.func39, Tryd.ntmps39
  go_wp2_with (go_at_call 89; refine (unhide HP).mono ?_; rintro e w1 ⟨rfl, ho, hl⟩)
  have HLn := hide (tlen_any _ _ _ w1 hl)
  have HU := hide (up_any _ _ _ ts.length (by simp) (by simp; omega) w1 hl)
  rw [List.length_append, List.length_singleton] at HLn
  have Ho := hide ho
  have hlen' : (ts.length : Int) < 1048576 := by omega
  clear ho hl
  have hsub : ((ts.length + 1 : Nat) : Int) - 1 = ts.length := by omega
  go_wp2_with (first | (go_at_call 86; refine (unhide HLn).mono ?_; rintro e w2 ⟨rfl, hw⟩; obtain rfl := hw.symm) | (go_at_call 53; refine (unhide HU).mono ?_; rintro e w2 ⟨rfl, ho2, hs2, hl2⟩; have Ho2 := hide ho2; have Hl2 := hide hl2; clear ho2 hl2))
  go_end0
  have h2 : Off (fun k => O k ∨ k = T) w w2 := off_t' (unhide Ho) (unhide Ho2) (fun i hi => by rcases hi with h | h; exact .inl h; exact .inr h.1)
  refine ⟨rfl, h2, lst_mono (unhide Hl2) (fun k hk => ?_) (fun k hk => ?_)⟩
  · rcases hk with h | h
    · exact .inl h
    · exact .inr ⟨h.1, by omega⟩
  · rcases hk with (h | h) | h
    · have := unhide HO k h; have := h2.size; omega
    · have := h2.size; omega
    · exact h.2
theorem lookup_not {w : World} {B : Nat} {O : Nat → Prop} {ts : List Tk} (h : LstIs w B O ts) {n : Int} (hn : 0 ≤ n ∧ n < 1048576) (hnew : n ∉ ts.map Tk.n) : ∃ m, w.cell? ⟨B, 1, none⟩ = some (.map m) ∧ ∀ w', Below w.heap.size w w' → (Instr.lookup 67 (.map m) (.int .i64 n) false).run Tryd.prog w' = .ok (.pointer none) w' := by
  obtain ⟨sv, mo, hB, hr, hsv, hm⟩ := h.lies
  have hk := keyOf_int_mk Tryd.underlying3 (WalkArith.wf_i64 (n := n) (by omega))
  refine ⟨mo, cell_block hB 1 _ rfl, fun w' hb => ?_⟩
  rcases hm with ⟨rfl, -⟩ | ⟨mb, D, N, rfl, hO, hN, hmap, hTd, hSz, hD⟩
  · rw [look_nil (w := w') false law3 Tryd.underlying67 (zero76 _) hk]; rfl
  · have hmap' := map_off (O := fun _ => False) hmap (off_below hb) (fun h => h)
    obtain ⟨v, ps, hrun, hv⟩ := hmap'.lookup law3 Tryd.underlying67 (zero76 _) (zd := .lit (.int .i64 0)) (zp := []) rfl hk
    rw [(hD n).2, entry_not hnew] at hv
    rw [hrun, ptrE_zero hv]

set_option maxHeartbeats 4000000 in
set_option maxRecDepth 100000 in
theorem push_new (B : Nat) (O : Nat → Prop) (ts : List Tk) (n wt : Int) (hn : 0 ≤ n ∧ n < 1048576 ∧ -9223372036854775808 ≤ wt ∧ wt ≤ 9223372036854775807) (hnew : n ∉ ts.map Tk.n) (hlen : ts.length < 1048576) (w : World) (h : LstIs w B O ts) :
    Calls Tryd.prog 14 #[.pointer (some ⟨B, 0, none⟩), .int .i64 n, .int .i64 wt] w fun e w' => e = .returned (.tuple #[.bool true, .int .i64 0]) ∧ Off O w w' ∧
      ∃ T, LstIs w' B (fun k => O k ∨ w.heap.size ≤ k ∧ k < w'.heap.size) (upL (ts ++ [⟨T, n, wt⟩]) ts.length) := by
  have HN := hide (isNumber_any n w)
  rw [show decide (0 ≤ n ∧ n < 1048576) = true by simpa using ⟨hn.1, hn.2.1⟩] at HN
  obtain ⟨m, cm, hq⟩ := lookup_not h ⟨hn.1, hn.2.1⟩ hnew
  have hq0 := hq w (Below.refl _ _)
  have hb0 : Below w.heap.size w (w.alloc (.cells #[.int .i64 n, .int .i64 wt, .int .i64 0] 88)) := (Below.refl _ _).alloc (Nat.le_refl _) _
  have HP := hide (hpush_any B w.heap.size O ts n wt hn hnew hlen (w.alloc (.cells #[.int .i64 n, .int .i64 wt, .int .i64 0] 88)) (lst_below h hb0) (fun h' => by have := h.lt _ h'; omega) (MapKept.heap_alloc w _).1)
  have HO := hide h.lt
  have Hb0 := hide hb0
  clear h hnew hb0 hq
  go_enter Tryd.func14, Tryd.ntmps14
  go_wp2_with (first | (go_at_call 37; refine (unhide HN).mono ?_; rintro e w2 ⟨rfl, hw⟩; obtain rfl := hw.symm) | (go_at_call 39; refine (unhide HP).mono ?_; rintro e w2 ⟨rfl, ho2, hl2⟩; have Ho2 := hide ho2; have Hl2 := hide hl2; clear ho2 hl2))
  go_ret2
  have hs : w.heap.size + 1 ≤ w2.heap.size := by have := (unhide Ho2).size; simpa using this
  refine ⟨rfl, off_t' (off_below (unhide Hb0)) (unhide Ho2) (fun i hi => by rcases hi with h | h; exact .inl h; exact .inr (by omega)), w.heap.size, lst_mono (unhide Hl2) (fun k hk => ?_) (fun k hk => ?_)⟩
  · rcases hk with (h | h) | h
    · exact .inl h
    · exact .inr ⟨by omega, by omega⟩
    · exact .inr ⟨by simp at h; omega, h.2⟩
  · rcases hk with h | h
    · have := unhide HO k h; omega
    · exact h.2
end Go.Proofs.YtdpphjedjhjdgabDoor

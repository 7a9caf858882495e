/- Lists of work: container/heap's up. -/
import Derived.Test.YtdpphjedjhjdgabDoorL4
namespace Go.Proofs.YtdpphjedjhjdgabDoor
open Go.RowKit Go.Maps

theorem map_tight {w : World} {H : Type} {P : Program} {k : TypeId} {R : Value → Option (DataW H × List MemPlace)} {b n : Nat} {D : DataW H} (h : w.ownsMap P k R b n D) : w.ownsMap P k R b (Maps.size D) D := by
  obtain ⟨es, clock, hb, F, hs, rfl⟩ := h
  exact ⟨es, clock, hb, F, by simp [Maps.size, length_sorted], rfl⟩

theorem tpush_any (B T : Nat) (O : Nat → Prop) (ts : List Tk) (n wt : Int) (hn : 0 ≤ n ∧ n < 1048576 ∧ -9223372036854775808 ≤ wt ∧ wt ≤ 9223372036854775807) (hnew : n ∉ ts.map Tk.n) (hlen : ts.length < 1048576) (w : World)
    (h : LstIs w B O ts) (hTO : ¬ O T) (hT : w.heap[T]? = some (.cells #[.int .i64 n, .int .i64 wt, .int .i64 0] 88 (0, 0))) :
    Calls Tryd.prog 89 #[.pointer (some ⟨B, 0, none⟩), .iface 83 (.pointer (some ⟨T, 0, none⟩))] w fun e w' => e = .returned (.tuple #[]) ∧ Off (fun k => O k ∨ k = T) w w' ∧ LstIs w' B (fun k => (O k ∨ k = T) ∨ w.heap.size ≤ k ∧ k < w'.heap.size) (ts ++ [⟨T, n, wt⟩]) := by
  obtain ⟨sv, mo, hB, hr, hsv, hm⟩ := h.lies
  rcases hm with ⟨rfl, hk⟩ | ⟨mb, D, N, rfl, hO, hN, hmap, hTd, hSz, hD⟩
  · exact tpush_nil B T O ts n wt hn hnew hlen w h hTO hT sv hk hB hr hsv
  · exact tpush_made B T O ts n wt hn hnew hlen w h hTO hT sv mb (Maps.size D) D hB hr hsv hO (by omega) (map_tight hmap) hTd hSz hD

theorem lst_drewN {w : World} {B : Nat} {O : Nat → Prop} {ts : List Tk} (h : LstIs w B O ts) (q : Nat) : LstIs (w.drewN q) B O ts := lst_off (O' := fun _ => False) h (off_drewN (off_refl _ _) q) (fun _ _ h => h)
/-- A task goes up. -/
def upF : Nat → List Tk → Nat → List Tk
  | 0, ts, _ => ts
  | f + 1, ts, j => if j = 0 then ts else if lessT (ts.getD j tk0) (ts.getD ((j - 1) / 2) tk0) then upF f (swapT ts ((j - 1) / 2) j) ((j - 1) / 2) else ts
def upL (ts : List Tk) (j : Nat) : List Tk := upF j ts j
theorem upF_more (f : Nat) : ∀ (ts : List Tk) (j : Nat), j ≤ f → upF f ts j = upF j ts j := by
  induction f using Nat.strongRecOn with
  | ind f ih =>
    intro ts j hj
    cases f with
    | zero => obtain rfl : j = 0 := by omega
              rfl
    | succ f =>
      cases j with
      | zero => rfl
      | succ j =>
        show (if j + 1 = 0 then ts else if lessT (ts.getD (j + 1) tk0) (ts.getD ((j + 1 - 1) / 2) tk0) then upF f (swapT ts ((j + 1 - 1) / 2) (j + 1)) ((j + 1 - 1) / 2) else ts) = (if j + 1 = 0 then ts else if lessT (ts.getD (j + 1) tk0) (ts.getD ((j + 1 - 1) / 2) tk0) then upF j (swapT ts ((j + 1 - 1) / 2) (j + 1)) ((j + 1 - 1) / 2) else ts)
        rw [ih f (by omega) _ _ (by omega)]
        by_cases h : j = f
        · subst h; rw [ih j (by omega) _ _ (by omega)]
        · rw [ih j (by omega) _ _ (by omega)]
theorem upL_eq (ts : List Tk) (j : Nat) : upL ts j = if j = 0 then ts else if lessT (ts.getD j tk0) (ts.getD ((j - 1) / 2) tk0) then upL (swapT ts ((j - 1) / 2) j) ((j - 1) / 2) else ts := by
  cases j with
  | zero => rfl
  | succ j =>
    unfold upL
    show (if j + 1 = 0 then ts else if lessT (ts.getD (j + 1) tk0) (ts.getD ((j + 1 - 1) / 2) tk0) then upF j (swapT ts ((j + 1 - 1) / 2) (j + 1)) ((j + 1 - 1) / 2) else ts) = _
    rw [upF_more j _ _ (by omega)]

set_option maxHeartbeats 4000000 in
set_option maxRecDepth 100000 in
theorem up_any (B : Nat) (O : Nat → Prop) (ts : List Tk) (j : Nat) (hj : j < ts.length) (hlen : ts.length ≤ 1048576) (w : World) (h : LstIs w B O ts) :
    Calls Tryd.prog 53 #[.iface 85 (.pointer (some ⟨B, 0, none⟩)), .int .i64 j] w fun e w' => e = .returned (.tuple #[]) ∧ Off O w w' ∧ w'.heap.size = w.heap.size ∧ LstIs w' B O (upL ts j) := by
  go_enter Tryd.func53, Tryd.ntmps53
  go_wp2
  go_loopw [1] (fun x wr => ∃ (k : Nat) (ls : List Tk), x = .int .i64 k ∧ k < ls.length ∧ ls.length = ts.length ∧ LstIs wr B O ls ∧ Off O w wr ∧ wr.heap.size = w.heap.size ∧ upL ls k = upL ts j) (fun x _ => (intOf x).toNat)
  case atStart => exact ⟨j, ts, rfl, hj, rfl, h, off_refl _ _, rfl, rfl⟩
  case round =>
    obtain ⟨k, ls, rfl, hk, hll, hL, hoff, hsz, hup⟩ := hrel
    by_cases h0 : k = 0
    · subst h0
      rw [upL_eq, if_pos rfl] at hup
      have HL := hide hL; have Ho := hide hoff; have Hu := hide hup
      clear hL hoff hup h
      go_wp2
      go_end0
      exact ⟨rfl, unhide Ho, hsz, (unhide Hu) ▸ unhide HL⟩
    · obtain ⟨i, hi⟩ : ∃ i : Nat, ((k : Int) - 1).tdiv 2 = i := ⟨(k - 1) / 2, by rw [Int.tdiv_eq_ediv_of_nonneg (by omega)]; omega⟩
      have hi2 : (k - 1) / 2 = i := by
        rw [Int.tdiv_eq_ediv_of_nonneg (by omega)] at hi; omega
      have hik : i < k := by omega
      have hne : ((i : Int) == k) = false := by simp; omega
      rw [upL_eq, if_neg h0, hi2] at hup
      have HLs := hide (less_any B O ls k i hk (by omega) wr hL (by omega))
      have HSw := hide (fun q => swap_any B O ls i k (by omega) hk (wr.drewN q) (lst_drewN hL q))
      have Ho := hide hoff; have HL := hide hL
      cases hb : lessT (ls.getD k tk0) (ls.getD i tk0)
      · rw [hb] at hup HLs
        have Hu := hide hup
        clear hL hoff hup h hb
        go_wp2_with (go_at_call 87; refine (unhide HLs).mono ?_; rintro e w1 ⟨rfl, q, rfl⟩)
        go_end0
        refine ⟨rfl, off_drewN (unhide Ho) q, hsz, ?_⟩
        have := unhide Hu
        simp only [Bool.false_eq_true, if_false] at this
        exact this ▸ lst_drewN (unhide HL) q
      · rw [hb] at hup HLs
        have Hu := hide hup
        clear hL hoff hup h hb
        go_wp2_with (first | (go_at_call 87; refine (unhide HLs).mono ?_; rintro e w1 ⟨rfl, q, rfl⟩) | (go_at_call 90; refine (unhide HSw q).mono ?_; rintro e w2 ⟨rfl, ho2, hs2, hl2⟩; have Ho2 := hide ho2; have Hl2 := hide hl2; clear ho2 hl2))
        go_roundw
        case rel =>
          have := unhide Hu
          simp only [if_true] at this
          exact ⟨i, _, rfl, by rw [swapT_length]; omega, by rw [swapT_length]; exact hll, unhide Hl2, off_t (off_drewN (unhide Ho) q) (unhide Ho2), hs2.trans hsz, this⟩
        case measure => simp [intOf]; omega
end Go.Proofs.YtdpphjedjhjdgabDoor

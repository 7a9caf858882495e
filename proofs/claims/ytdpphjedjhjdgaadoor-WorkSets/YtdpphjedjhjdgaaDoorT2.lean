/- Sets: slices.Insert of one block: at the end; anywhere. -/
import Derived.Test.YtdpphjedjhjdgaaDoorT1
namespace Go.Proofs.YtdpphjedjhjdgaaDoor
open Go.RowKit Go.Maps

set_option maxHeartbeats 8000000 in
set_option maxRecDepth 100000 in
theorem insert_end (t : Int) (b : Nat) (a : Option Addr) (c : Nat) (bl : List Blk) (hn40 : bl.length ≤ 1099511627776) (hac : a = none ∨ ∃ g, a = some ⟨g, 0, none⟩) (hcn : bl.length ≤ c) (w : World) (hb : w.heap[b]? = some (.cells #[.int .i64 t, .int .u64 0] 73 (0, 0)))
    (hr : w.ownsRow 0 73 2 (.slice a bl.length c) bl.length (flatB bl)) :
    Calls Tryd.prog 47 #[.slice a bl.length c, .int .i64 bl.length, .slice (some ⟨b, 0, none⟩) 1 1] w fun e w' => ∃ g c', e = .returned (.slice (some ⟨g, 0, none⟩) (bl.length + 1) c') ∧ w'.ownsRow 0 73 2 (.slice (some ⟨g, 0, none⟩) (bl.length + 1) c') (bl.length + 1) (flatB bl ++ [.int .i64 t, .int .u64 0]) ∧
      ((Value.slice a bl.length c).ownBlock = some g ∨ w.heap.size ≤ g) ∧ Off (fun k => (Value.slice a bl.length c).ownBlock = some k) w w' := by
  obtain ⟨i0, hi, hz0, hz1, hz2⟩ := info_parts hblk
  have Hn : Hid (∀ j u, [Value.int .i64 t, .int .u64 0][j]? = some u → w.cell? ((⟨b, 0, none⟩ : Addr).add j) = some u) := hide (World.news_of_block hb)
  have Hr := hide hr
  have hcn' : (bl.length : Int) ≤ c := by omega
  clear hb hr
  rcases hac with rfl | ⟨g0, rfl⟩
  all_goals
    by_cases hcc : c = bl.length
    all_goals
      go_enter Tryd.func47, Tryd.ntmps47
      go_wp2_with (at_builtin; refine wpList_append_lies _ rfl _ _ 51 rfl 0 73 i0 (.agg #[.int .i64 0, .int .u64 0]) 2 16 Tryd.underlying51 hi hz0 hz1 hz2 rfl (by decide) _ bl.length (flatB bl) rfl (unhide Hr) ⟨b, 0, none⟩ 1 1 [.int .i64 t, .int .u64 0] rfl rfl (unhide Hn) (by simp [Value.oneCell']) (by decide) (by unfold maxLen; omega) (by omega) (Nat.zero_le _) w.heap.size rfl ?_)
      intro g cap W1 hown hgr hgv hgl
      have Hgr := hide hgr
      have Hown := hide hown
      have Hgv := hide hgv
      clear hown hgr hgv
      go_wp2
      go_ret
      exact ⟨g, cap, rfl, unhide Hown, (unhide Hgv).imp (fun h => h) (fun h => by omega), off_grown (off_refl _ w) (unhide Hgr) (fun k hk => .inl hk)⟩

theorem insB_length (bl : List Blk) (i : Nat) (b : Blk) (hi : i ≤ bl.length) : (insB bl i b).length = bl.length + 1 := by unfold insB; simp; omega
/-- Insert of one block. -/
theorem insert_any (t : Int) (b i : Nat) (sv : Value) (bl : List Blk) (hi : i ≤ bl.length) (hn40 : bl.length ≤ 1099511627776) (w : World) (hb : w.heap[b]? = some (.cells #[.int .i64 t, .int .u64 0] 73 (0, 0)))
    (hne : sv.ownBlock ≠ some b) (hr : w.ownsRow 0 73 2 sv bl.length (flatB bl)) :
    Calls Tryd.prog 47 #[sv, .int .i64 i, .slice (some ⟨b, 0, none⟩) 1 1] w fun e w' => ∃ g c, e = .returned (.slice (some ⟨g, 0, none⟩) (bl.length + 1) c) ∧ w'.ownsRow 0 73 2 (.slice (some ⟨g, 0, none⟩) (bl.length + 1) c) (bl.length + 1) (flatB (insB bl i (t, 0))) ∧
      (sv.ownBlock = some g ∨ w.heap.size ≤ g) ∧ Off (fun k => sv.ownBlock = some k) w w' := by
  by_cases hin : i = bl.length
  · subst hin
    have e : flatB (insB bl bl.length (t, 0)) = flatB bl ++ [.int .i64 t, .int .u64 0] := by
      unfold insB; rw [List.take_length, List.drop_length, flatB_append]; rfl
    rw [e]
    rcases hr.2 with ⟨hv, h0⟩ | ⟨g, cap, cur, hv, -, -, h1, h2, -⟩
    · have hbl : bl.length = 0 := h0
      subst hv
      have hr' := hr
      rw [show (Value.slice none 0 0) = Value.slice none bl.length 0 by rw [hbl]] at hr' ⊢
      exact insert_end t b none 0 bl hn40 (.inl rfl) (by omega) w hb hr'
    · subst hv
      exact insert_end t b (some ⟨g, 0, none⟩) cap bl hn40 (.inr ⟨g, rfl⟩) h1 w hb hr
  · have hlt : i < bl.length := by omega
    rcases hr.2 with ⟨-, h0⟩ | ⟨g, cap, cur, hv, -, hg, h1, h2, h3, h4⟩
    · omega
    · subst hv
      have hbg : b ≠ g := fun e => hne (by rw [e]; rfl)
      by_cases hroom : bl.length + 1 ≤ cap
      · refine (insert_room t b g cap i bl cur.toList hlt hroom h2 hbg w hb (by simpa using hg) (by simpa using h3) h4).mono fun e w' ⟨e1, e2, cur', e3, e4, e5⟩ => ?_
        refine ⟨g, cap, e1, ⟨?_, .inr ⟨g, cap, cur'.toArray, rfl, Nat.zero_le _, e3, hroom, h2, by simpa using e4, by simpa using e5⟩⟩, .inl rfl, off_mono e2 (fun k hk => .inl (by rw [hk]; rfl))⟩
        rw [flatB_length, insB_length _ _ _ hi]
      · have hc : cap = bl.length := by omega
        refine (insert_grow t b g cap i bl hlt hn40 hc w hb (lt_of_some hg) (fun j v hj => ?_)).mono fun e w' ⟨G, e1, e2, e6, e7, cur', e3, e4, e5⟩ => ?_
        · have := hr.cells (g := g) rfl j v hj
          have ea : (⟨g, 0, none⟩ : Addr).add j = ⟨g, j, none⟩ := by unfold Addr.add; split <;> simp_all
          rw [ea] at this
          exact this
        · refine ⟨w.heap.size, G, e1, ⟨?_, .inr ⟨w.heap.size, G, cur'.toArray, rfl, Nat.zero_le _, e3, e6, e7, by simpa using e4, by simpa using e5⟩⟩, .inr (Nat.le_refl _), off_below e2⟩
          rw [flatB_length, insB_length _ _ _ hi]
end Go.Proofs.YtdpphjedjhjdgaaDoor

/- The document's At. -/
import Derived.Test.YtdpphjedjhjdgaaA1
import Derived.Laws.AppendOwnNone
import Derived.Laws.Strings
namespace Go.Proofs.Ytdpphjedjhjdgaa
open Go.RowKit Go.Maps

theorem bs_inj {a b : List UInt8} (h : bs a = bs b) : a = b := by
  have := congrArg (fun x : ByteArray => x.data.toList) h
  exact this
theorem pos_at {ks : List (List UInt8)} {s : List UInt8} {i : Nat} (hi : i < ks.length) (hn : s ∉ ks.take i) (he : ks[i] = s) : posB ks s = i ∧ s ∈ ks := by
  have hm : s ∈ ks := he ▸ List.getElem_mem hi
  refine ⟨?_, hm⟩
  unfold posB
  rw [if_pos hm]
  have h1 : ks.idxOf s = i := by
    conv => lhs; rw [← List.take_append_drop i ks]
    rw [List.idxOf_append, if_neg hn, List.drop_eq_getElem_cons hi, he, List.idxOf_cons_self]
    simp
    omega
  omega
theorem strs_cell {w : World} {B g n c : Nat} {ks : List (List UInt8)} (h : w.ownsRow B 9 1 (.slice (some ⟨g, 0, none⟩) n c) n (ks.map fun s => .string (bs s))) (i : Nat) (hi : i < ks.length) : w.cell? ⟨g, i, none⟩ = some (.string (bs ks[i])) := by
  rw [own_cell h rfl i (by simpa using hi), List.getD_eq_getElem?_getD, List.getElem?_map, List.getElem?_eq_getElem hi]; rfl

set_option maxHeartbeats 4000000 in
set_option maxRecDepth 100000 in
theorem refAt_some (g c : Nat) (ks : List (List UInt8)) (hpos : 0 < ks.length) (hlen : ks.length ≤ 1048576) (s : List UInt8) (B : Nat) (w : World) (hr : w.ownsRow B 9 1 (.slice (some ⟨g, 0, none⟩) ks.length c) ks.length (ks.map fun s => .string (bs s))) :
    Calls Try.prog 21 #[.slice (some ⟨g, 0, none⟩) ks.length c, .string (bs s)] w fun e w' => (s ∈ ks → e = .returned (.tuple #[.slice (some ⟨g, 0, none⟩) ks.length c, .int .i64 (posB ks s), .bool false])) ∧
      (s ∉ ks → ∃ v, e = .returned (.tuple #[v, .int .i64 ks.length, .bool true]) ∧ w'.ownsRow w.heap.size 9 1 v (ks.length + 1) ((ks.map fun s => .string (bs s)) ++ [.string (bs s)])) ∧ Below w.heap.size w w' := by
  obtain ⟨i0, hi, hz0, hz1, hz2⟩ := info_parts hstr
  go_enter Try.func21, Try.ntmps21
  go_wp2
  go_loop [7] (fun x => ∃ k : Nat, x = .int .i64 k ∧ k ≤ ks.length ∧ s ∉ ks.take k) (fun x => ks.length - (intOf x).toNat)
  case atStart => exact ⟨0, rfl, Nat.zero_le _, by simp⟩
  case round =>
    obtain ⟨k, rfl, hk, hn⟩ := hrel
    by_cases hlt : k < ks.length
    · have hlt' : (k : Int) < ks.length := by omega
      have ck := strs_cell hr k hlt
      have Hr := hide hr
      clear hr
      by_cases he : ks[k] = s
      · obtain ⟨hp, hm⟩ := pos_at hlt hn he
        rw [he] at ck
        have Hp := hide hp; have Hm := hide hm
        clear hp hm he hn
        go_wp2
        go_ret3
        exact ⟨fun _ => by rw [unhide Hp]; rfl, fun h => absurd (unhide Hm) h, Below.refl _ _⟩
      · have hne : ((bs ks[k]).toList == (bs s).toList) = false := by
          rw [beq_eq_false_iff_ne, ByteArray.toList_eq, ByteArray.toList_eq]; exact he
        have hn' : s ∉ ks.take (k + 1) := by
          rw [List.take_add_one, List.getElem?_eq_getElem hlt, List.mem_append]
          rintro (h | h)
          · exact hn h
          · simp at h; exact he h.symm
        have Hn := hide hn'
        clear he hn hn'
        generalize bs ks[k] = x at *
        go_wp2
        go_round
        case rel => exact ⟨k + 1, by go_num, by omega, unhide Hn⟩
        case measure => simp [intOf]; omega
    · obtain rfl : k = ks.length := by omega
      rw [List.take_length] at hn
      have Hn := hide hn
      have Hr := hide hr
      have Hc : Hid (∀ j u, (ks.map fun s => Value.string (bs s))[j]? = some u → w.cell? ((⟨g, 0, none⟩ : Addr).add j) = some u) := hide (hr.cells (g := g) rfl)
      clear hn hr
      go_wp2_with (at_builtin; refine wpList_append_own _ rfl _ _ 50 rfl w.heap.size 9 i0 (.string ⟨#[]⟩) 1 16 Try.underlying50 hi hz0 hz1 hz2 rfl (by decide) _ 0 [] rfl (World.ownsRow_nil _ _ _ _) ⟨g, 0, none⟩ ks.length c (ks.map fun s => .string (bs s)) rfl (by simp) (unhide Hc) ?c2 ?c3 ?c4 (Nat.le_refl _) ?_)
      case c2 =>
        intro u hu
        rfl
      case c3 => unfold maxLen; omega
      case c4 => omega
      intro v1 W1 hown1 hg1 hv1
      have Hb1 : Hid (Below w.heap.size w W1) := hide ((Below.refl _ w).grown hg1 (Nat.le_refl _) (fun k hk => by simp [Value.ownBlock] at hk))
      obtain ⟨g1, c1, rfl, hg1l, hg1s, -⟩ := own_pos hown1 hpos
      have Ho1 := hide hown1
      have hw1 := (unhide Hb1).size
      clear hown1 hg1 hv1
      go_wp2_with (at_builtin; refine wpList_append_own _ rfl _ _ 50 rfl w.heap.size 9 i0 (.string ⟨#[]⟩) 1 16 Try.underlying50 hi hz0 hz1 hz2 rfl (by decide) _ _ _ rfl ((unhide Ho1).alloc _) ⟨W1.heap.size, 0, none⟩ 1 1 [.string (bs s)] rfl rfl ?d1 ?d2 ?d3 ?d4 ?d5 ?_)
      case d1 => exact World.news_of_block (MapKept.heap_alloc W1 (.cells #[.string (bs s)] 9)).1
      case d2 => simp [Value.oneCell']
      case d3 => unfold maxLen; omega
      case d4 => omega
      case d5 => simp; omega
      intro v2 W2 hown2 hg2 hv2
      have Hb2 : Hid (Below w.heap.size w W2) := hide (((unhide Hb1).alloc hw1 _).grown hg2 (by simp; omega) (fun k hk => by simp [Value.ownBlock] at hk; omega))
      have Ho2 := hide hown2
      clear hown2 hg2 hv2
      obtain ⟨va, vc, rfl⟩ := own_form (unhide Ho2)
      go_wp2
      go_ret3
      exact ⟨fun h => absurd h (unhide Hn), fun _ => ⟨_, rfl, unhide Ho2⟩, unhide Hb2⟩

set_option maxHeartbeats 4000000 in
set_option maxRecDepth 100000 in
theorem refAt_nil (s : List UInt8) (w : World) :
    Calls Try.prog 21 #[.slice none 0 0, .string (bs s)] w fun e w' => (∃ v, e = .returned (.tuple #[v, .int .i64 0, .bool true]) ∧ w'.ownsRow w.heap.size 9 1 v 1 [.string (bs s)]) ∧ Below w.heap.size w w' := by
  obtain ⟨i0, hi, hz0, hz1, hz2⟩ := info_parts hstr
  go_enter Try.func21, Try.ntmps21
  go_wp2
  go_loop [7] (fun x => x = .int .i64 0) (fun x => 0)
  case atStart => rfl
  case round =>
    subst hrel
    go_wp2_with (at_builtin; refine wpList_append_own _ rfl _ _ 50 rfl w.heap.size 9 i0 (.string ⟨#[]⟩) 1 16 Try.underlying50 hi hz0 hz1 hz2 rfl (by decide) _ 0 [] rfl (World.ownsRow_nil _ _ _ _) ⟨w.heap.size, 0, none⟩ 1 1 [.string (bs s)] rfl rfl (World.news_of_block (MapKept.heap_alloc w (.cells #[.string (bs s)] 9)).1) (by simp [Value.oneCell']) (by decide) (by decide) (by simp) ?_)
    intro v2 W2 hown2 hg2 hv2
    have Hb2 : Hid (Below w.heap.size w W2) := hide (((Below.refl _ w).alloc (Nat.le_refl _) _).grown hg2 (by simp) (fun k hk => by simp [Value.ownBlock] at hk))
    have Ho2 := hide hown2
    clear hown2 hg2 hv2
    obtain ⟨va, vc, rfl⟩ := own_form (unhide Ho2)
    go_wp2
    go_ret3
    exact ⟨⟨_, rfl, unhide Ho2⟩, unhide Hb2⟩
end Go.Proofs.Ytdpphjedjhjdgaa

/- alive: a set, a list, a numbering. -/
import Derived.Test.YtdpphjedjhjdgaaDoorLL
namespace Go.Proofs.YtdpphjedjhjdgaaDoor
open Go.RowKit Go.Maps

theorem lst_new (w : World) : LstIs (w.alloc (.cells #[.slice none 0 0, .map none] 86)) w.heap.size (fun k => k = w.heap.size) [] :=
  ⟨rfl, fun k h => by simp; omega, by simp, by simp, by simp, by simp, .slice none 0 0, none, (MapKept.heap_alloc w _).1, ⟨rfl, .inl ⟨rfl, rfl⟩⟩, fun k h => by simp [Value.ownBlock] at h, .inl ⟨rfl, rfl⟩⟩
theorem idx_new (w : World) : Idx (w.alloc (.cells #[.slice none 0 0, .map none] 97)) w.heap.size (fun k => k = w.heap.size) [] :=
  ⟨rfl, fun k h => by simp; omega, by simp, by simp, .slice none 0 0, none, (MapKept.heap_alloc w _).1, ⟨rfl, .inl ⟨rfl, rfl⟩⟩, fun k h => by simp [Value.ownBlock] at h, .inl ⟨rfl, rfl⟩⟩

set_option maxHeartbeats 4000000 in
set_option maxRecDepth 100000 in
theorem alive_any (w : World) : Calls Tryd.prog 7 #[] w fun e w' => e = .returned (.bool true) ∧ Below w.heap.size w w' := by
  have hb0 : Below w.heap.size w (w.alloc (.cells #[.int .i64 5, .int .i64 1, .int .i64 5] 3)) := (Below.refl _ _).alloc (Nat.le_refl _) _
  have HN := hide (new515 ⟨w.heap.size, 0, none⟩ 3 (w.alloc (.cells #[.int .i64 5, .int .i64 1, .int .i64 5] 3)) (.inr ⟨w.heap.size, 0, rfl, by simp, fun j hj => by
    rw [Nat.zero_add]
    refine (World.cell?_alloc_mark w #[.int .i64 5, .int .i64 1, .int .i64 5] 3 (0, 0) j).trans ?_
    match j, hj with
    | 0, _ => rfl
    | 1, _ => rfl
    | 2, _ => rfl⟩))
  have Hb0 := hide hb0
  clear hb0
  go_enter Tryd.func7, Tryd.ntmps7
  go_wp2_with fail
  refine (unhide HN).mono ?_
  rintro e w1 ⟨rfl, hb1, hs1⟩
  simp only [World.size_alloc] at hs1
  have hbw : Below w.heap.size w w1 := (unhide Hb0).trans (hb1.mono (by simp))
  have HL := hide (lenS_any _ _ _ _ w1 hs1)
  have HH := hide (has_any _ _ _ _ 5 w1 hs1)
  rw [show hasB [(0, 34)] 5 = true by decide +kernel] at HH
  have Hbw := hide hbw
  clear hb1 hs1 hbw HN Hb0
  go_wp2_with fail
  refine (unhide HL).mono ?_
  rintro e w2 ⟨rfl, hw⟩
  obtain rfl := hw.symm
  go_wp2_with fail
  refine (unhide HH).mono ?_
  rintro e w2 ⟨rfl, hb2⟩
  have Hbw2 := hide ((unhide Hbw).trans (hb2.mono (unhide Hbw).size))
  clear hb2 HL HH Hbw
  have HP := hide (push_new _ _ [] 4 1 (by decide) (by simp) (by simp) _ (lst_new w2))
  go_wp2_with (go_at_call 21; go_in)
  refine (unhide HP).mono ?_
  rintro e w3 ⟨rfl, ho3, T, hl3⟩
  rw [show upL ([] ++ [⟨T, 4, 1⟩]) ([] : List Tk).length = [⟨T, 4, 1⟩] by rw [upL_eq]; simp] at hl3
  have hb3 : Below w.heap.size w w3 := ((unhide Hbw2).alloc (unhide Hbw2).size _).trans (off_to ho3 (fun i hi => by have := (unhide Hbw2).size; omega) (by have := (unhide Hbw2).size; simp; omega))
  have HQ := hide (pop_some _ _ _ (by simp) (by simp) w3 hl3)
  have Hb3 := hide hb3
  have Hlt := hide hl3.lt
  have hs3 := ho3.size
  simp only [World.size_alloc] at hs3
  have hz2 := (unhide Hbw2).size
  clear ho3 hl3 hb3 HP Hbw2
  go_wp2_with fail
  refine (unhide HQ).mono ?_
  rintro e w4 ⟨rest, t, hrt, rfl, ho4, -⟩
  have hp : popL [⟨T, 4, 1⟩] = [] ++ [⟨T, 4, 1⟩] := by
    simp only [popL]; rw [downL_eq, if_neg (by simp)]; rfl
  rw [hp] at hrt
  have ht := List.append_inj' hrt rfl
  obtain ⟨rfl, h2⟩ := ht
  simp only [List.cons.injEq, and_true] at h2
  subst h2
  have hb4 : Below w.heap.size w w4 := (unhide Hb3).trans (off_to ho4 (fun i hi => by rcases hi with h | h; omega; simp at h; omega) (by omega))
  have Hb4 := hide hb4
  have HA := hide (at_new _ _ [] [97] (by decide) (by simp) (by simp) _ (idx_new w4))
  have hz4 := hb4.size
  clear hrt hp ho4 hb4 HQ Hb3
  simp only at *
  go_wp2_with (go_at_call 24; go_in)
  refine (unhide HA).mono ?_
  rintro e w5 ⟨rfl, ho5, -⟩
  have Hb5 : Hid (Below w.heap.size w w5) := hide (((unhide Hb4).alloc hz4 _).trans (off_to ho5 (fun i hi => by omega) (by simp; omega)))
  clear ho5 HA
  go_wp2
  go_ret
  exact ⟨rfl, unhide Hb5⟩
end Go.Proofs.YtdpphjedjhjdgaaDoor

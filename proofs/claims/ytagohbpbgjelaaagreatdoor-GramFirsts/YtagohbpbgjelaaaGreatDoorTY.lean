/- The code's rings. -/
import Derived.Test.YtagohbpbgjelaaaGreatDoorTW
namespace Go.Proofs.YtagohbpbgjelaaaGreatDoor
open Go.RowKit

/-- Rings, as they lie: a row of rows. -/
structure RingsAt (B : Nat) (w : World) (v : Value) (made : List (List Nat)) : Prop where
  form : ∃ vs, w.ownsRow B 27 1 v made.length vs ∧ ∀ (i : Nat) (a : List Nat), made[i]? = some a → ∃ (g c : Nat) (cs : Array Value), vs[i]? = some (.slice (some ⟨g, 0, none⟩) a.length c) ∧ B ≤ g ∧ w.heap[g]? = some (.cells cs 3 (0, 0)) ∧ ∀ j x : Nat, a[j]? = some x → cs[j]? = some (Value.int .i64 (x : Nat))
theorem rings_below {B : Nat} {w w' : World} {v : Value} {made : List (List Nat)} (h : RingsAt B w v made) (hk : ∀ k cs t, w.heap[k]? = some (.cells cs t (0, 0)) → (t = 3 ∨ t = 27) → B ≤ k → w'.heap[k]? = w.heap[k]?) : RingsAt B w' v made := by
  obtain ⟨vs, h1, h2⟩ := h.form
  refine ⟨vs, ⟨h1.1, ?_⟩, fun i a ha => ?_⟩
  · rcases h1.2 with h3 | ⟨g, cap, cur, hv, hg, hh, rest⟩
    · exact .inl h3
    · exact .inr ⟨g, cap, cur, hv, hg, (hk g _ _ hh (.inr rfl) hg).trans hh, rest⟩
  · obtain ⟨g, c, cs, h3, h4, h5, h6⟩ := h2 i a ha
    exact ⟨g, c, cs, h3, h4, (hk g _ _ h5 (.inl rfl) h4).trans h5, h6⟩
theorem new4 (w : World) (a b c d : Obj) : ((((w.alloc a).alloc b).alloc c).alloc d).heap[w.heap.size]? = some a ∧ ((((w.alloc a).alloc b).alloc c).alloc d).heap[w.heap.size + 1]? = some b ∧ ((((w.alloc a).alloc b).alloc c).alloc d).heap[w.heap.size + 1 + 1]? = some c ∧ ((((w.alloc a).alloc b).alloc c).alloc d).heap[w.heap.size + 1 + 1 + 1]? = some d ∧ Below w.heap.size w ((((w.alloc a).alloc b).alloc c).alloc d) := by
  have s1 : (w.alloc a).heap.size = w.heap.size + 1 := by simp
  have s2 : ((w.alloc a).alloc b).heap.size = w.heap.size + 1 + 1 := by simp
  have s3 : (((w.alloc a).alloc b).alloc c).heap.size = w.heap.size + 1 + 1 + 1 := by simp
  have h1 := Go.Deep.blk_alloc_new w a
  have h2 := Go.Deep.blk_alloc_new (w.alloc a) b
  have h3 := Go.Deep.blk_alloc_new ((w.alloc a).alloc b) c
  have h4 := Go.Deep.blk_alloc_new (((w.alloc a).alloc b).alloc c) d
  rw [s1] at h2; rw [s2] at h3; rw [s3] at h4
  refine ⟨?_, ?_, ?_, h4, ((((Below.refl _ _).alloc (Nat.le_refl _) _).alloc (by omega) _).alloc (by omega) _).alloc (by omega) _⟩
  · rw [Below.heap_alloc _ _ _ (by omega), Below.heap_alloc _ _ _ (by omega), Below.heap_alloc _ _ _ (by omega)]; exact h1
  · rw [Below.heap_alloc _ _ _ (by omega), Below.heap_alloc _ _ _ (by omega)]; exact h2
  · rw [Below.heap_alloc _ _ _ (by omega)]; exact h3
theorem made_row {W : World} {b n t : Nat} {z : Value} (h : W.heap[b]? = some (.cells (madeCells #[z] n) t (0, 0))) : W.rowIs b t n (fun _ => z) := by
  obtain ⟨c, h1, h2, h3⟩ := World.rowIs_made W z n t
  have h4 := Go.Deep.blk_alloc_new W (.cells (madeCells #[z] n) t)
  rw [h1] at h4
  cases h4
  exact ⟨_, h, h2, h3⟩
theorem ts_new {B : Nat} {W : World} {vb n mb lb ib : Nat} {wv : Value} (hx : W.heap[vb]? = some (.cells #[wv, .int .i64 0, .slice (some ⟨mb, 0, none⟩) n n, .slice (some ⟨lb, 0, none⟩) n n, .slice none 0 0, .slice (some ⟨ib, 0, none⟩) n n, .slice none 0 0] 212 (0, 0))) (hm : W.heap[mb]? = some (.cells (madeCells #[.int .i64 0] n) 3 (0, 0))) (hl : W.heap[lb]? = some (.cells (madeCells #[.int .i64 0] n) 3 (0, 0))) (hi : W.heap[ib]? = some (.cells (madeCells #[.bool false] n) 4 (0, 0))) (hml : mb ≠ lb) (b1 : B ≤ vb) (b2 : B ≤ mb) (b3 : B ≤ lb) (b4 : B ≤ ib) : TsV B W vb wv n mb lb ib (.slice none 0 0) (.slice none 0 0) [] ts0 :=
  ⟨hx, made_row hm, made_row hl, made_row hi, World.ownsRow_nil _ _ _ _, World.ownsRow_nil _ _ _ _, fun i a h => by simp [ts0] at h, hml, by simp [Value.ownBlock], by simp [Value.ownBlock], b1, b2, b3, b4⟩
set_option maxHeartbeats 2000000 in
set_option maxRecDepth 100000 in
theorem rings_any (W : Nat → List Nat) (n tb wcp : Nat) (hn : n ≤ 2048) (hW : ∀ r, r < n → ∀ y, y ∈ W r → y < n) (hWl : ∀ r, (W r).length ≤ 1048576) (w : World) (hWay : WayAt w.heap.size w tb n W) :
    Calls Tryz.prog 123 #[.slice (some ⟨tb, 0, none⟩) n wcp] w fun e w' => ∃ v made, e = .returned v ∧ Rings W n made ∧ made.length ≤ n ∧ RingsAt w.heap.size w' v made ∧ Below w.heap.size w w' := by
  have hmk := fun w => run_make_row' (P := Tryz.prog) 27 3 (.int .i64 0) 8 Tryz.underlying27 info3 rfl .i64 .i64 n (by omega) (by omega) w
  have hmb := fun w => run_make_row' (P := Tryz.prog) 28 4 (.bool false) 1 Tryz.underlying28 info4 rfl .i64 .i64 n (by omega) (by omega) w
  have HW := hide hWay
  clear hWay
  go_enter Tryz.func123, Tryz.ntmps123
  go_wp2_with fail
  go_cut [3] (fun s V => ∃ vb mb lb ib, s = .pointer (some ⟨vb, 0, none⟩) ∧ TsV w.heap.size V vb (.slice (some ⟨tb, 0, none⟩) n wcp) n mb lb ib (.slice none 0 0) (.slice none 0 0) [] ts0 ∧ Below w.heap.size w V)
  case first =>
    go_region
    all_goals
      go_wp2_with fail
      go_meet
      first
        | (obtain ⟨x1, x2, x3, x4, x5⟩ := new4 w (.cells (madeCells #[.int .i64 0] n) 3) (.cells (madeCells #[.int .i64 0] n) 3) (.cells (madeCells #[.bool false] n) 4) (.cells #[.slice (some ⟨tb, 0, none⟩) n wcp, .int .i64 0, .slice (some ⟨w.heap.size, 0, none⟩) n n, .slice (some ⟨w.heap.size + 1, 0, none⟩) n n, .slice none 0 0, .slice (some ⟨w.heap.size + 1 + 1, 0, none⟩) n n, .slice none 0 0] 212)
           exact ⟨w.heap.size + 1 + 1 + 1, w.heap.size, w.heap.size + 1, w.heap.size + 1 + 1, rfl, tsv_below (ts_new x4 x1 x2 x3 (by omega) (by omega) (by omega) (by omega) (by omega)) (Below.refl _ _).drew, x5.drew⟩)
        | (obtain ⟨x1, x2, x3, x4, x5⟩ := new4 w (.cells (madeCells #[.int .i64 0] n) 3) (.cells (madeCells #[.int .i64 0] n) 3) (.cells (madeCells #[.bool false] n) 4) (.cells #[.slice (some ⟨tb, 0, none⟩) n wcp, .int .i64 0, .slice (some ⟨w.heap.size + 1, 0, none⟩) n n, .slice (some ⟨w.heap.size, 0, none⟩) n n, .slice none 0 0, .slice (some ⟨w.heap.size + 1 + 1, 0, none⟩) n n, .slice none 0 0] 212)
           exact ⟨w.heap.size + 1 + 1 + 1, w.heap.size + 1, w.heap.size, w.heap.size + 1 + 1, rfl, tsv_below (ts_new x4 x2 x1 x3 (by omega) (by omega) (by omega) (by omega) (by omega)) (Below.refl _ _).drew, x5.drew⟩)
        | (obtain ⟨x1, x2, x3, x4, x5⟩ := new4 w (.cells (madeCells #[.int .i64 0] n) 3) (.cells (madeCells #[.bool false] n) 4) (.cells (madeCells #[.int .i64 0] n) 3) (.cells #[.slice (some ⟨tb, 0, none⟩) n wcp, .int .i64 0, .slice (some ⟨w.heap.size, 0, none⟩) n n, .slice (some ⟨w.heap.size + 1 + 1, 0, none⟩) n n, .slice none 0 0, .slice (some ⟨w.heap.size + 1, 0, none⟩) n n, .slice none 0 0] 212)
           exact ⟨w.heap.size + 1 + 1 + 1, w.heap.size, w.heap.size + 1 + 1, w.heap.size + 1, rfl, tsv_below (ts_new x4 x1 x3 x2 (by omega) (by omega) (by omega) (by omega) (by omega)) (Below.refl _ _).drew, x5.drew⟩)
        | (obtain ⟨x1, x2, x3, x4, x5⟩ := new4 w (.cells (madeCells #[.int .i64 0] n) 3) (.cells (madeCells #[.bool false] n) 4) (.cells (madeCells #[.int .i64 0] n) 3) (.cells #[.slice (some ⟨tb, 0, none⟩) n wcp, .int .i64 0, .slice (some ⟨w.heap.size + 1 + 1, 0, none⟩) n n, .slice (some ⟨w.heap.size, 0, none⟩) n n, .slice none 0 0, .slice (some ⟨w.heap.size + 1, 0, none⟩) n n, .slice none 0 0] 212)
           exact ⟨w.heap.size + 1 + 1 + 1, w.heap.size + 1 + 1, w.heap.size, w.heap.size + 1, rfl, tsv_below (ts_new x4 x3 x1 x2 (by omega) (by omega) (by omega) (by omega) (by omega)) (Below.refl _ _).drew, x5.drew⟩)
        | (obtain ⟨x1, x2, x3, x4, x5⟩ := new4 w (.cells (madeCells #[.bool false] n) 4) (.cells (madeCells #[.int .i64 0] n) 3) (.cells (madeCells #[.int .i64 0] n) 3) (.cells #[.slice (some ⟨tb, 0, none⟩) n wcp, .int .i64 0, .slice (some ⟨w.heap.size + 1, 0, none⟩) n n, .slice (some ⟨w.heap.size + 1 + 1, 0, none⟩) n n, .slice none 0 0, .slice (some ⟨w.heap.size, 0, none⟩) n n, .slice none 0 0] 212)
           exact ⟨w.heap.size + 1 + 1 + 1, w.heap.size + 1, w.heap.size + 1 + 1, w.heap.size, rfl, tsv_below (ts_new x4 x2 x3 x1 (by omega) (by omega) (by omega) (by omega) (by omega)) (Below.refl _ _).drew, x5.drew⟩)
        | (obtain ⟨x1, x2, x3, x4, x5⟩ := new4 w (.cells (madeCells #[.bool false] n) 4) (.cells (madeCells #[.int .i64 0] n) 3) (.cells (madeCells #[.int .i64 0] n) 3) (.cells #[.slice (some ⟨tb, 0, none⟩) n wcp, .int .i64 0, .slice (some ⟨w.heap.size + 1 + 1, 0, none⟩) n n, .slice (some ⟨w.heap.size + 1, 0, none⟩) n n, .slice none 0 0, .slice (some ⟨w.heap.size, 0, none⟩) n n, .slice none 0 0] 212)
           exact ⟨w.heap.size + 1 + 1 + 1, w.heap.size + 1 + 1, w.heap.size + 1, w.heap.size, rfl, tsv_below (ts_new x4 x3 x2 x1 (by omega) (by omega) (by omega) (by omega) (by omega)) (Below.refl _ _).drew, x5.drew⟩)
  case rest =>
    clear hmk hmb
    obtain ⟨vb, mb, lb, ib, rfl, hT, hb⟩ := hcut
    have HT := hide hT; have Hb := hide hb
    clear hT hb
    go_wp2
    go_loopw [19] (fun x V => ∃ (k : Nat) (s : Ts) (ov mv : Value) (vs : List Value), x = .int .i64 k ∧ k ≤ n ∧ TTop W n k s ∧ TsV w.heap.size V vb (.slice (some ⟨tb, 0, none⟩) n wcp) n mb lb ib ov mv vs s ∧ TCnt n s ∧ Below w.heap.size w V) (fun x _ => n - (intOf x).toNat)
    case atStart => exact ⟨0, ts0, _, _, _, rfl, Nat.zero_le _, ttop_start W n, unhide HT, ⟨by show 0 + unm (fun _ => 0) n = n; rw [unm_zero]; omega, Nat.le_refl _, Nat.le_refl _⟩, unhide Hb⟩
    case round =>
      obtain ⟨k, s, ov, mv, vs, rfl, hk, hP, hT, hc, hb⟩ := hrel
      by_cases hlt : k < n
      · have hlt' : (k : Int) < n := by omega
        have HE := hide (enter_any w.heap.size W vb n mb lb ib tb wcp hn hW hWl n ov mv vs s k wr (by omega) hlt hP.inv hc hb.size (way_below (unhide HW) hb) hT)
        have HP := hide hP; have Hbr := hide hb
        clear hP hT hc hb HT Hb
        go_wp2_with fail
        refine (unhide HE).mono ?_
        rintro e W9 ⟨⟨v9, rfl⟩, t', ov9, mv9, vs9, hp, hT9, hc9, -, -, hb9⟩
        have Hp := hide (ttop_step (unhide HP) hp); have HT9 := hide hT9; have Hc9 := hide hc9; have Hb9 := hide ((unhide Hbr).trans hb9)
        clear hp hT9 hc9 hb9
        go_wp2
        go_roundw
        case rel => exact ⟨k + 1, t', ov9, mv9, vs9, by go_num, by omega, unhide Hp, unhide HT9, unhide Hc9, unhide Hb9⟩
        case measure => simp [intOf]; omega
      · obtain rfl : k = n := by omega
        have hbx := hT.box
        have c6 : wr.cell? ⟨vb, 6, none⟩ = some mv := by unfold World.cell?; rw [hbx]; rfl
        obtain ⟨ma, mc, rfl⟩ := own_form hT.made
        have Hend := hide (ttop_end hP)
        have hmd := hc.md
        have hun := hc.un
        have Hr : Hid (RingsAt w.heap.size wr (.slice ma s.made.length mc) s.made) := hide ⟨vs, hT.made, fun i a ha => by
          obtain ⟨g, c, cs, h1, h2, -, -, -, h3, h4⟩ := hT.ring i a ha
          exact ⟨g, c, cs, h1, h2, h3, h4⟩⟩
        have Hbr := hide hb
        clear hP hT hc hb hbx HT Hb
        go_wp2
        go_ret
        exact ⟨_, s.made, rfl, unhide Hend, by omega, unhide Hr, unhide Hbr⟩
end Go.Proofs.YtagohbpbgjelaaaGreatDoor

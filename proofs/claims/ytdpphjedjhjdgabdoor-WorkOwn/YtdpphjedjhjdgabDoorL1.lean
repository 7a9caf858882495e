/- Lists of work: what they are in memory; the heap's Len, Less. -/
import Derived.Test.YtdpphjedjhjdgabDoorS7
namespace Go.Proofs.YtdpphjedjhjdgabDoor
open Go.RowKit Go.Maps

/-- A task: its block, its number, its weight. -/
structure Tk where
  at_ : Nat
  n : Int
  wt : Int
def tk0 : Tk := ⟨0, 0, 0⟩
def lessT (a b : Tk) : Bool := decide (a.wt < b.wt) || (decide (a.wt = b.wt) && decide (a.n < b.n))
def ptrV (t : Tk) : Value := .pointer (some ⟨t.at_, 0, none⟩)

/-- How a task's pointer reads in the map. -/
def ptrE : Value → Option (DataW Unit × List MemPlace)
  | .pointer none => some (.lit (.int .i64 0), [])
  | .pointer (some ⟨b, 0, none⟩) => some (.lit (.int .i64 ((b : Int) + 1)), [])
  | _ => none
theorem ptrE_zero {v : Value} {ps : List MemPlace} (h : ptrE v = some (.lit (.int .i64 0), ps)) : v = .pointer none := by
  unfold ptrE at h
  split at h
  · rfl
  · simp at h; omega
  · simp at h
theorem ptrE_at {v : Value} {ps : List MemPlace} {b : Nat} (h : ptrE v = some (.lit (.int .i64 ((b : Int) + 1)), ps)) : v = .pointer (some ⟨b, 0, none⟩) := by
  unfold ptrE at h
  split at h
  · simp at h; omega
  · simp at h
    rename_i b'
    have e : b' = b := by omega
    rw [e]
  · simp at h

theorem law3 : Keyed Tryd.prog 3 := int_keyed Tryd.underlying3
theorem zero76 (w : World) : (zeroValue 83).run Tryd.prog w = .ok (.pointer none) w := by kernel_rfl

/-- The map's entry of a number. -/
def entryOf (ts : List Tk) (n : Int) : Int := match ts.find? (fun t => t.n == n) with | some t => (t.at_ : Int) + 1 | none => 0
/-- A list of work, in blocks of its own. -/
structure LstIs (w : World) (B : Nat) (O : Nat → Prop) (ts : List Tk) : Prop where
  own : O B
  lt : ∀ k, O k → k < w.heap.size
  nums : ∀ t ∈ ts, 0 ≤ t.n ∧ t.n < 1048576 ∧ -9223372036854775808 ≤ t.wt ∧ t.wt ≤ 9223372036854775807
  apart : (ts.map Tk.n).Nodup
  blocks : (ts.map Tk.at_).Nodup
  tasks : ∀ i, i < ts.length → O (ts.getD i tk0).at_ ∧ w.heap[(ts.getD i tk0).at_]? = some (.cells #[.int .i64 (ts.getD i tk0).n, .int .i64 (ts.getD i tk0).wt, .int .i64 i] 88 (0, 0))
  lies : ∃ sv mo, w.heap[B]? = some (.cells #[sv, .map mo] 71 (0, 0)) ∧ w.ownsRow 0 83 1 sv ts.length (ts.map ptrV) ∧ (∀ k, sv.ownBlock = some k → O k) ∧
    ((mo = none ∧ ts = []) ∨ ∃ mb D N, mo = some mb ∧ O mb ∧ N ≤ 1048576 ∧ w.ownsMap (H := Unit) Tryd.prog 3 ptrE mb N D ∧ Tidy D ∧ Maps.size D = ts.length ∧ ∀ n, Maps.has D (.int .i64 n) = decide (n ∈ ts.map Tk.n) ∧ D.atKey (.int .i64 n) (.lit (.int .i64 0)) = .lit (.int .i64 (entryOf ts n)))
theorem lst_off {w w' : World} {B : Nat} {O O' : Nat → Prop} {ts : List Tk} (h : LstIs w B O ts) (ho : Off O' w w') (hd : ∀ k, O k → ¬ O' k) : LstIs w' B O ts := by
  obtain ⟨h1, h2, h3, h4, h5, h6, sv, mo, hB, hr, hs, hm⟩ := h
  refine ⟨h1, fun k hk => Nat.lt_of_lt_of_le (h2 k hk) ho.size, h3, h4, h5, fun i hi => ⟨(h6 i hi).1, (ho.block _ (h2 _ (h6 i hi).1) (hd _ (h6 i hi).1)).trans (h6 i hi).2⟩, sv, mo, (ho.block B (h2 B h1) (hd B h1)).trans hB, own_off hr ho (fun k hk => hd k (hs k hk)), hs, ?_⟩
  rcases hm with h0 | ⟨mb, D, N, rfl, hO, hN, hmap, hD⟩
  · exact .inl h0
  · exact .inr ⟨mb, D, N, rfl, hO, hN, map_off hmap ho (hd mb hO), hD⟩
theorem lst_below {w w' : World} {B : Nat} {O : Nat → Prop} {ts : List Tk} (h : LstIs w B O ts) (hb : Below w.heap.size w w') : LstIs w' B O ts := lst_off (O' := fun _ => False) h (off_below hb) (fun _ _ h => h)
theorem lst_mono {w : World} {B : Nat} {O O' : Nat → Prop} {ts : List Tk} (h : LstIs w B O ts) (hO : ∀ k, O k → O' k) (hl : ∀ k, O' k → k < w.heap.size) : LstIs w B O' ts := by
  obtain ⟨h1, h2, h3, h4, h5, h6, sv, mo, hB, hr, hs, hm⟩ := h
  refine ⟨hO _ h1, hl, h3, h4, h5, fun i hi => ⟨hO _ (h6 i hi).1, (h6 i hi).2⟩, sv, mo, hB, hr, fun k hk => hO k (hs k hk), ?_⟩
  rcases hm with h0 | ⟨mb, D, N, rfl, ho, r⟩
  · exact .inl h0
  · exact .inr ⟨mb, D, N, rfl, hO _ ho, r⟩

set_option maxHeartbeats 1000000 in
set_option maxRecDepth 100000 in
theorem tlen_any (B : Nat) (O : Nat → Prop) (ts : List Tk) (w : World) (h : LstIs w B O ts) :
    Calls Tryd.prog 86 #[.pointer (some ⟨B, 0, none⟩)] w fun e w' => e = .returned (.int .i64 ts.length) ∧ w' = w := by
  obtain ⟨sv, mo, hB, hr, -⟩ := h.lies
  obtain ⟨a, c, rfl⟩ := own_form hr
  have c0 := cell_block hB 0 _ rfl
  clear hB hr h
  go_enter Tryd.func86, Tryd.ntmps86
  go_wp2
  go_ret
  exact ⟨rfl, rfl⟩

theorem drew_two (w : World) (a b : Nat) : ∃ q, (w.drewN a).drewN b = w.drewN q := ⟨a + b, by simp [World.drewN, Nat.add_assoc]⟩
/-- The cells of the rows, and of a task. -/
theorem lst_row {w : World} {B : Nat} {O : Nat → Prop} {ts : List Tk} (h : LstIs w B O ts) (hpos : 0 < ts.length) : ∃ g c m, w.heap[B]? = some (.cells #[.slice (some ⟨g, 0, none⟩) ts.length c, .map m] 71 (0, 0)) ∧ w.ownsRow 0 83 1 (.slice (some ⟨g, 0, none⟩) ts.length c) ts.length (ts.map ptrV) ∧ O g ∧ g < w.heap.size ∧ g ≠ B ∧ ts.length ≤ c ∧ c ≤ maxLen ∧
    ∀ i, i < ts.length → w.cell? ⟨g, i, none⟩ = some (ptrV (ts.getD i tk0)) := by
  obtain ⟨sv, mo, hB, hr, hs, -⟩ := h.lies
  obtain ⟨g, c, rfl, -, hg, h1, h2⟩ := own_pos hr hpos
  have n1 := row_not hB hr (by decide)
  refine ⟨g, c, mo, hB, hr, hs g rfl, hg, fun e => n1 (by rw [e]; rfl), h1, h2, fun i hi => ?_⟩
  rw [own_cell hr rfl i (by simpa using hi), List.getD_eq_getElem?_getD, List.getD_eq_getElem?_getD, List.getElem?_map, List.getElem?_eq_getElem hi]
  rfl
theorem lst_task {w : World} {B : Nat} {O : Nat → Prop} {ts : List Tk} (h : LstIs w B O ts) (i : Nat) (hi : i < ts.length) :
    w.cell? ⟨(ts.getD i tk0).at_, 0, none⟩ = some (.int .i64 (ts.getD i tk0).n) ∧ w.cell? ⟨(ts.getD i tk0).at_, 1, none⟩ = some (.int .i64 (ts.getD i tk0).wt) ∧ w.cell? ⟨(ts.getD i tk0).at_, 2, none⟩ = some (.int .i64 i) := by
  have hb := (h.tasks i hi).2
  exact ⟨cell_block hb 0 _ rfl, cell_block hb 1 _ rfl, cell_block hb 2 _ rfl⟩

set_option maxHeartbeats 4000000 in
set_option maxRecDepth 100000 in
theorem less_any (B : Nat) (O : Nat → Prop) (ts : List Tk) (i j : Nat) (hi : i < ts.length) (hj : j < ts.length) (w : World) (h : LstIs w B O ts) (hlen : ts.length ≤ 1048576) :
    Calls Tryd.prog 87 #[.pointer (some ⟨B, 0, none⟩), .int .i64 i, .int .i64 j] w fun e w' => e = .returned (.bool (lessT (ts.getD i tk0) (ts.getD j tk0))) ∧ ∃ q, w' = w.drewN q := by
  obtain ⟨g, c, m, hB, -, -, -, -, hc1, hc2, hc⟩ := lst_row h (by omega)
  have c0 := cell_block hB 0 _ rfl
  have ci := hc i hi
  have cj := hc j hj
  obtain ⟨a0, a1, -⟩ := lst_task h i hi
  obtain ⟨b0, b1, -⟩ := lst_task h j hj
  unfold ptrV at ci cj
  have hi' : (i : Int) < ts.length := by omega
  have hj' : (j : Int) < ts.length := by omega
  clear hB hc h
  generalize ts.getD i tk0 = x at *
  generalize ts.getD j tk0 = y at *
  obtain ⟨xa, xn, xw⟩ := x
  obtain ⟨ya, yn, yw⟩ := y
  simp only at *
  by_cases h1 : xw < yw
  · have g1 : decide (xw < yw) = true := by simpa using h1
    rw [show lessT ⟨xa, xn, xw⟩ ⟨ya, yn, yw⟩ = true by simp [lessT, h1]]
    go_enter Tryd.func87, Tryd.ntmps87
    go_wp2
    go_quiet (fail)
    go_wp2
    go_quiet (fail)
    go_wp2
    go_ret
    exact ⟨rfl, drew_two _ _ _⟩
  · have g1 : decide (xw < yw) = false := by simpa using h1
    by_cases h2 : xw = yw
    · have g2 : (xw == yw) = true := by simpa using h2
      by_cases h3 : xn < yn
      · have g3 : decide (xn < yn) = true := by simpa using h3
        rw [show lessT ⟨xa, xn, xw⟩ ⟨ya, yn, yw⟩ = true by simp [lessT, h2, h3]]
        clear h2
        go_enter Tryd.func87, Tryd.ntmps87
        go_wp2
        go_quiet (fail)
        go_wp2
        go_quiet (fail)
        go_wp2
        go_ret
        exact ⟨rfl, drew_two _ _ _⟩
      · have g3 : decide (xn < yn) = false := by simpa using h3
        rw [show lessT ⟨xa, xn, xw⟩ ⟨ya, yn, yw⟩ = false by simp [lessT, h2, h3]]
        clear h2
        go_enter Tryd.func87, Tryd.ntmps87
        go_wp2
        go_quiet (fail)
        go_wp2
        go_quiet (fail)
        go_wp2
        go_ret
        exact ⟨rfl, drew_two _ _ _⟩
    · have g2 : (xw == yw) = false := by simpa using h2
      rw [show lessT ⟨xa, xn, xw⟩ ⟨ya, yn, yw⟩ = false by simp [lessT, h2]; omega]
      clear h2
      go_enter Tryd.func87, Tryd.ntmps87
      go_wp2
      go_quiet (fail)
      go_wp2
      go_quiet (fail)
      go_wp2
      go_ret
      exact ⟨rfl, drew_two _ _ _⟩
end Go.Proofs.YtdpphjedjhjdgabDoor

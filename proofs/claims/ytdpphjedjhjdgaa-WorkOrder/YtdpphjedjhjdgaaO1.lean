/- What WorkOrder keeps: a list, and a set of its numbers. -/
import Derived.Test.YtdpphjedjhjdgaaT8
import Derived.Test.YtdpphjedjhjdgaaR4
namespace Go.Proofs.Ytdpphjedjhjdgaa
open Go.RowKit Go.Maps

theorem fit_nil : FitB [] := fun b hb => by simp at hb
theorem has_nil (m : Int) : hasB [] m = false := by rw [has_bit fit_nil]; simp [bitsB, isAt]
theorem set_new (w : World) : SetOk (w.alloc (.cells #[.slice none 0 0, .int .i64 0] 87)) w.heap.size (fun k => k = w.heap.size) [] 0 :=
  ⟨⟨rfl, fun k h => by simp; omega, List.Pairwise.nil, by simp, .slice none 0 0, (MapKept.heap_alloc w _).1, ⟨rfl, .inl ⟨rfl, rfl⟩⟩, fun k h => by simp [Value.ownBlock] at h⟩, fit_nil⟩
set_option maxHeartbeats 4000000 in
set_option maxRecDepth 100000 in
/-- NewSet of no numbers. -/
theorem new_none (w : World) :
    Calls Try.prog 14 #[.slice none 0 0] w fun e w' => e = .returned (.tuple #[.pointer (some ⟨w.heap.size, 0, none⟩), .int .i64 0]) ∧ Below w.heap.size w w' ∧ ∃ bl O, SetOk w' w.heap.size O bl 0 ∧ (∀ k, O k → w.heap.size ≤ k) ∧ ∀ m, hasB bl m = false := by
  have hb0 : Below w.heap.size w (w.alloc (.cells #[.slice none 0 0, .int .i64 0] 87)) := (Below.refl _ _).alloc (Nat.le_refl _) _
  have HA := hide (add_any w.heap.size _ [] 0 none 0 [] rfl (by decide) (w.alloc (.cells #[.slice none 0 0, .int .i64 0] 87)) (set_new w) (.inl rfl) (fun x h => by cases h))
  have Hb0 := hide hb0
  clear hb0
  go_enter Try.func14, Try.ntmps14
  go_wp2_with (go_at_call 15; refine (unhide HA).mono ?_; rintro e w1 ⟨rfl, ho, bl, O, hok, hO, hh⟩; have Ho := hide ho; have Hok := hide hok; have HO := hide hO; have Hh := hide hh; clear ho hok hO hh)
  go_ret2
  refine ⟨rfl, (unhide Hb0).trans (off_to (unhide Ho) (fun i hi => by omega) (by simp)), bl, O, unhide Hok, fun k hk => ?_, fun m => ?_⟩
  · rcases unhide HO k hk with h | h
    · omega
    · simp at h; omega
  · rw [unhide Hh]; exact has_nil m

structure OInv (w wr : World) (lB sB : Nat) (Ol Os : Nat → Prop) (ts : List Tk) (bl : List Blk) : Prop where
  bel : Below w.heap.size w wr
  lst : LstIs wr lB Ol ts
  heap : HeapN ts ts.length
  set : SetOk wr sB Os bl ts.length
  has : ∀ m, hasB bl m = decide (m ∈ ts.map Tk.n)
  lowl : ∀ k, Ol k → w.heap.size ≤ k
  lows : ∀ k, Os k → w.heap.size ≤ k
  dis : ∀ k, Ol k → ¬ Os k
theorem oinv_below {w wr w' : World} {lB sB : Nat} {Ol Os : Nat → Prop} {ts : List Tk} {bl : List Blk} (h : OInv w wr lB sB Ol Os ts bl) (hb : Below wr.heap.size wr w') : OInv w w' lB sB Ol Os ts bl :=
  ⟨h.bel.trans (hb.mono h.bel.size), lst_below h.lst hb, h.heap, ok_below h.set hb, h.has, h.lowl, h.lows, h.dis⟩
theorem oinv_drewN {w wr : World} {lB sB : Nat} {Ol Os : Nat → Prop} {ts : List Tk} {bl : List Blk} (h : OInv w wr lB sB Ol Os ts bl) (q : Nat) : OInv w (wr.drewN q) lB sB Ol Os ts bl := oinv_below h ⟨rfl, rfl, rfl, Nat.le_refl _, fun _ _ => rfl⟩

theorem push_fst {ts ts' : List Tk} {n wt : Int} (h : (ts'.map prT).Perm (pushR (ts.map prT) n wt)) (hn : (ts.map Tk.n).Nodup) : (∀ m, m ∈ ts'.map Tk.n ↔ m = n ∨ m ∈ ts.map Tk.n) ∧ (ts'.length : Int) = ts.length + newK (decide (n ∈ ts.map Tk.n)) := by
  have hf := h.map (·.1)
  rw [fst_map] at hf
  have hl := h.length_eq
  rw [List.length_map] at hl
  by_cases hm : n ∈ ts.map Tk.n
  · rw [pushR_old (by rw [fst_map]; exact hn) (by rw [fst_map]; exact hm)] at hf hl
    have e : ((ts.map prT).map (upd n wt)).map (·.1) = ts.map Tk.n := by
      rw [← fst_map, List.map_map]
      apply List.map_congr_left
      intro p _
      show (upd n wt p).1 = p.1
      unfold upd
      split
      · rename_i e; exact e.symm
      · rfl
    rw [e] at hf
    refine ⟨fun m => ?_, ?_⟩
    · rw [hf.mem_iff]
      exact ⟨.inr, fun h => h.elim (fun e => by rw [e]; exact hm) id⟩
    · rw [show decide (n ∈ ts.map Tk.n) = true by simpa using hm, hl]
      simp [newK]
  · unfold pushR at hf hl
    rw [if_neg (by rw [fst_map]; exact hm)] at hf hl
    rw [List.map_append, fst_map] at hf
    refine ⟨fun m => ?_, ?_⟩
    · rw [hf.mem_iff]
      simp [or_comm]
    · rw [show decide (n ∈ ts.map Tk.n) = false by simpa using hm, hl]
      simp [newK]
theorem addS_one (h : Int → Bool) (n : Int) : addS h [n] = (fun m => if m = n then true else h m, newK (h n)) := by
  show (_, 0 + newK (h n)) = _
  rw [Int.zero_add]
theorem dropS_one (h : Int → Bool) (n : Int) : dropS h [n] = (fun m => if m = n then false else h m, newK (!h n)) := by
  show (_, 0 + newK (!h n)) = _
  rw [Int.zero_add]
/-- A push of a number, and the set that keeps up with it. -/
theorem oinv_push {w w1 w2 w3 W : World} {lB sB : Nat} {Ol Os Ol' Os' : Nat → Prop} {ts ts' : List Tk} {bl bl' : List Blk} {n wt : Int} (h : OInv w w1 lB sB Ol Os ts bl)
    (ho2 : Off Ol w1 w2) (hl2 : LstIs w2 lB Ol' ts') (hh2 : HeapN ts' ts'.length) (hp2 : (ts'.map prT).Perm (pushR (ts.map prT) n wt)) (hO2 : ∀ k, Ol' k → Ol k ∨ w1.heap.size ≤ k)
    (hbW : Below w2.heap.size w2 W) (ho3 : Off Os W w3) (hs3 : SetOk w3 sB Os' bl' (ts.length + newK (hasB bl n))) (hO3 : ∀ k, Os' k → Os k ∨ W.heap.size ≤ k) (hh3 : ∀ m, hasB bl' m = if m = n then true else hasB bl m) : OInv w w3 lB sB Ol' Os' ts' bl' := by
  obtain ⟨f1, f2⟩ := push_fst hp2 h.lst.apart
  have hb2 : Below w.heap.size w w2 := h.bel.trans (off_to ho2 h.lowl h.bel.size)
  have hbW' : Below w.heap.size w W := hb2.trans (hbW.mono hb2.size)
  have hd : ∀ k, Ol' k → ¬ Os k := fun k hk hs => by
    rcases hO2 k hk with h1 | h1
    · exact h.dis k h1 hs
    · have := h.set.is.lt k hs; omega
  refine ⟨hbW'.trans (off_to ho3 h.lows hbW'.size), lst_off (lst_below hl2 hbW) ho3 hd, hh2, ?_, fun m => ?_, fun k hk => ?_, fun k hk => ?_, fun k hk hs => ?_⟩
  · rw [f2, ← h.has n]; exact hs3
  · rw [hh3, h.has]
    by_cases e : m = n
    · rw [if_pos e, Eq.comm, decide_eq_true_eq, f1]; exact .inl e
    · rw [if_neg e, decide_eq_decide, f1]
      exact ⟨.inr, fun h => h.elim (fun h => absurd h e) id⟩
  · rcases hO2 k hk with h1 | h1
    · exact h.lowl k h1
    · have := h.bel.size; omega
  · rcases hO3 k hk with h1 | h1
    · exact h.lows k h1
    · have := hbW'.size; omega
  · rcases hO3 k hs with h1 | h1
    · exact hd k hk h1
    · have := hl2.lt k hk; have := hbW.size; omega
/-- A pop, and the set that keeps up with it. -/
theorem oinv_pop {w w1 w2 w3 W : World} {lB sB : Nat} {Ol Os : Nat → Prop} {ts rest : List Tk} {t : Tk} {bl bl' : List Blk} (h : OInv w w1 lB sB Ol Os ts bl)
    (ho2 : Off Ol w1 w2) (hl2 : LstIs w2 lB Ol rest) (hh2 : HeapN rest rest.length) (hp2 : (rest ++ [t]).Perm ts)
    (hbW : Below w2.heap.size w2 W) (ho3 : Off Os W w3) (hs3 : SetOk w3 sB Os bl' (ts.length - 1)) (hh3 : ∀ m, hasB bl' m = if m = t.n then false else hasB bl m) : OInv w w3 lB sB Ol Os rest bl' := by
  have hb2 : Below w.heap.size w w2 := h.bel.trans (off_to ho2 h.lowl h.bel.size)
  have hbW' : Below w.heap.size w W := hb2.trans (hbW.mono hb2.size)
  have hl := hp2.length_eq
  have hnd : ((rest ++ [t]).map Tk.n).Nodup := (hp2.map Tk.n).nodup_iff.2 h.lst.apart
  rw [List.map_append, List.nodup_append] at hnd
  have hnt : t.n ∉ rest.map Tk.n := fun hc => hnd.2.2 t.n hc t.n (by simp) rfl
  refine ⟨hbW'.trans (off_to ho3 h.lows hbW'.size), lst_off (lst_below hl2 hbW) ho3 h.dis, hh2, ?_, fun m => ?_, h.lowl, h.lows, h.dis⟩
  · rw [List.length_append] at hl
    rw [show (rest.length : Int) = ts.length - 1 by simp at hl; omega]
    exact hs3
  · rw [hh3, h.has]
    have hm := (hp2.map Tk.n).mem_iff (a := m)
    rw [List.map_append, List.mem_append] at hm
    by_cases e : m = t.n
    · rw [if_pos e, Eq.comm, decide_eq_false_iff_not, e]; exact hnt
    · rw [if_neg e, decide_eq_decide, ← hm]
      simp [e]
def lenAt (lB : Nat) (W : World) : Nat := match W.cell? ⟨lB, 0, none⟩ with | some (.slice _ n _) => n | _ => 0
theorem lenAt_is {W : World} {lB : Nat} {O : Nat → Prop} {ts : List Tk} (h : LstIs W lB O ts) : lenAt lB W = ts.length := by
  obtain ⟨sv, mo, hB, hr, -⟩ := h.lies
  obtain ⟨a, c, rfl⟩ := own_form hr
  unfold lenAt
  rw [cell_block hB 0 _ rfl]
  rfl
/-- What was popped is less than what is left. -/
theorem pop_less {ts rest : List Tk} {t : Tk} (hp : (rest ++ [t]).Perm ts) (hn : (ts.map Tk.n).Nodup) (hl : ∀ x ∈ ts, leT t x) : ∀ x ∈ rest, t.wt < x.wt ∨ t.wt = x.wt ∧ t.n < x.n := fun x hx => by
  have h1 := (leT_iff t x).1 (hl x (hp.subset (List.mem_append_left _ hx)))
  have hnd : ((rest ++ [t]).map Tk.n).Nodup := (hp.map Tk.n).nodup_iff.2 hn
  rw [List.map_append, List.nodup_append] at hnd
  have hne : x.n ≠ t.n := fun e => hnd.2.2 x.n (List.mem_map.2 ⟨x, hx, rfl⟩) t.n (by simp) e
  omega
end Go.Proofs.Ytdpphjedjhjdgaa

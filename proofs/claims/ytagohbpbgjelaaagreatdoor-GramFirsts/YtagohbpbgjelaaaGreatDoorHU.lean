/- The code's leasts: how long shortest rows are. -/
import Derived.Test.YtagohbpbgjelaaaGreatDoorSP
import Derived.Test.YtagohbpbgjelaaaGreatDoorHQ
import Derived.Test.YtagohbpbgjelaaaGreatDoorTV
import Derived.Test.YtagohbpbgjelaaaGreatDoorTY
import Derived.Test.YtagohbpbgjelaaaGreatDoorGV
namespace Go.Proofs.YtagohbpbgjelaaaGreatDoor
open Go.RowKit

theorem newList_any (w : World) : Calls Tryz.prog 106 #[] w fun e w' => e = .returned (.pointer (some ⟨w.heap.size, 0, none⟩)) ∧ w' = w.alloc (.cells #[.slice none 0 0, .map none] 191) := by
  go_enter Tryz.func106, Tryz.ntmps106
  go_wp2
  go_ret
  exact ⟨rfl, rfl⟩
/-- What the search for lengths has made, as it lies. -/
structure LsAt (B : Nat) (w V : World) (n np bb mb sb tb : Nat) (L su : Nat → Int) (ml : List Int) (O : Nat → Prop) (H : Nat → Option Int) : Prop where
  ls : V.rowIs bb 3 n (fun r => .int .i64 (L r))
  ms : V.ownsRow B 3 1 (.slice (some ⟨mb, 0, none⟩) np np) ml.length (vints ml)
  mln : ml.length = np
  sm : V.rowIs sb 3 np (fun q => .int .i64 (su q))
  td : LstH V tb O H
  o1 : ¬ O bb
  o2 : ¬ O mb
  o3 : ¬ O sb
  n1 : bb ≠ mb
  n2 : bb ≠ sb
  n3 : mb ≠ sb
  ob : ∀ k, O k → B ≤ k
  b1 : B ≤ bb
  b2 : B ≤ mb
  b3 : B ≤ sb
  bl : Below B w V
section
variable {B : Nat} {w V V' : World} {n np bb mb sb tb : Nat} {L su : Nat → Int} {ml : List Int} {O : Nat → Prop} {H : Nat → Option Int}
theorem lsAt_below (h : LsAt B w V n np bb mb sb tb L su ml O H) (hB : B ≤ V.heap.size) (hb : Below V.heap.size V V') : LsAt B w V' n np bb mb sb tb L su ml O H :=
  ⟨h.ls.of_block (hb.block _ h.ls.lt), own_blkB h.ms hb, h.mln, h.sm.of_block (hb.block _ h.sm.lt), lstH_off h.td hb, h.o1, h.o2, h.o3, h.n1, h.n2, h.n3, h.ob, h.b1, h.b2, h.b3, h.bl.trans (below_le hb hB)⟩
theorem lsAt_push (h : LsAt B w V n np bb mb sb tb L su ml O H) (hB : B ≤ V.heap.size) {O' : Nat → Prop} {H' : Nat → Option Int} (hf : Fr O V V') (ht : LstH V' tb O' H') (hO : ∀ k, O' k → O k ∨ V.heap.size ≤ k) : LsAt B w V' n np bb mb sb tb L su ml O' H' := by
  have h1 := h.ls.lt
  have h2 := h.sm.lt
  have h3 := (h.ms.lt mb rfl).2
  refine ⟨h.ls.of_block (hf.2.1 _ h1 h.o1), own_blk h.ms (fun k hk => ?_), h.mln, h.sm.of_block (hf.2.1 _ h2 h.o3), ht, fun ho => (hO _ ho).elim h.o1 (by omega), fun ho => (hO _ ho).elim h.o2 (by omega), fun ho => (hO _ ho).elim h.o3 (by omega), h.n1, h.n2, h.n3, fun k hk => (hO k hk).elim (h.ob k) (by omega), h.b1, h.b2, h.b3, h.bl.trans (fr_below hf hB h.ob)⟩
  have e : mb = k := by simpa [Value.ownBlock] using hk
  subst e
  exact hf.2.1 _ h3 h.o2
theorem lstH_set {b o : Nat} {v : Value} (h : LstH V tb O H) (hn : ¬ O b) : LstH (V.setCell ⟨b, o, none⟩ v) tb O H := by
  obtain ⟨ts, h1, h2, h3⟩ := h
  refine ⟨ts, Wk.lst_off h1 (O' := (· = b)) (Wk.off_set (O := (· = b)) (p := ⟨b, o, none⟩) (Wk.off_refl _ _) (.inl rfl) _) (fun k hk e => hn (by have e : k = b := e; rw [← e]; exact hk)), h2, h3⟩
theorem lsAt_ls (h : LsAt B w V n np bb mb sb tb L su ml O H) (r : Nat) (v : Int) : LsAt B w (V.setCell ⟨bb, r, none⟩ (.int .i64 v)) n np bb mb sb tb (upZ L r v) su ml O H :=
  ⟨(h.ls.set r _).congr (fun q _ => by unfold upZ; split <;> rfl), own_set h.ms (by simp [Value.ownBlock]; exact fun e => h.n1 e.symm), h.mln, h.sm.of_block (heap_other V (fun e => h.n2 e.symm)), lstH_set h.td h.o1, h.o1, h.o2, h.o3, h.n1, h.n2, h.n3, h.ob, h.b1, h.b2, h.b3, h.bl.setCell h.b1 _⟩
theorem lsAt_sm (h : LsAt B w V n np bb mb sb tb L su ml O H) (q : Nat) (v : Int) : LsAt B w (V.setCell ⟨sb, q, none⟩ (.int .i64 v)) n np bb mb sb tb L (upZ su q v) ml O H :=
  ⟨h.ls.of_block (heap_other V h.n2), own_set h.ms (by simp [Value.ownBlock]; exact h.n3), h.mln, (h.sm.set q _).congr (fun q _ => by unfold upZ; split <;> rfl), lstH_set h.td h.o3, h.o1, h.o2, h.o3, h.n1, h.n2, h.n3, h.ob, h.b1, h.b2, h.b3, h.bl.setCell h.b3 _⟩
end
/-- Two rows were made, one of them counts. -/
structure RcM (w W : World) (np mb sb : Nat) (ml : List Int) : Prop where
  ms : W.ownsRow w.heap.size 3 1 (.slice (some ⟨mb, 0, none⟩) np np) ml.length (vints ml)
  sm : W.rowIs sb 3 np (fun _ => .int .i64 0)
  ne : mb ≠ sb
  lo : w.heap.size ≤ sb
  bl : Below w.heap.size w W
theorem rcm_a {w W3 : World} {np mb : Nat} {ml : List Int} (ho : W3.ownsRow w.heap.size 3 1 (.slice (some ⟨mb, 0, none⟩) np np) ml.length (vints ml)) (hb : Below w.heap.size w W3) : RcM w (W3.alloc (.cells (madeCells #[.int .i64 0] np) 3)) np mb W3.heap.size ml := by
  have hs := hb.size
  have h1 := (ho.lt mb rfl).2
  exact ⟨ho.alloc _, World.rowIs_made _ _ _ _, by omega, by omega, hb.alloc hs _⟩
theorem rcm_b {w W3 : World} {np mb : Nat} {ml : List Int} (ho : W3.ownsRow (w.alloc (.cells (madeCells #[.int .i64 0] np) 3)).heap.size 3 1 (.slice (some ⟨mb, 0, none⟩) np np) ml.length (vints ml)) (hb : Below (w.alloc (.cells (madeCells #[.int .i64 0] np) 3)).heap.size (w.alloc (.cells (madeCells #[.int .i64 0] np) 3)) W3) : RcM w W3 np mb w.heap.size ml := by
  have hs : (w.alloc (.cells (madeCells #[.int .i64 0] np) 3)).heap.size = w.heap.size + 1 := by simp
  have h1 := (ho.lt mb rfl).1
  have hr := World.rowIs_made w (.int .i64 0) np 3
  exact ⟨own_base ho (by omega), hr.of_block (hb.block _ (by omega)), by omega, Nat.le_refl _, ((Below.refl _ _).alloc (Nat.le_refl _) _).trans (below_le hb (by omega))⟩
/-- The productions without rules that are still to be laid in. -/
def remK (G : Gm) (k : Nat) : List Nat := ((List.range G.prods.length).drop k).filter fun q => decide (rlN G q = [])
theorem remK_step (G : Gm) (k : Nat) (hk : k < G.prods.length) : remK G k = if rlN G k = [] then k :: remK G (k + 1) else remK G (k + 1) := by
  unfold remK
  rw [List.drop_eq_getElem_cons (by simpa using hk), List.getElem_range, List.filter_cons]
  simp
theorem remK_end (G : Gm) : remK G G.prods.length = [] := by
  unfold remK
  rw [List.drop_eq_nil_of_le (by simp)]
  rfl
theorem ls_first {G : Gm} {k : Nat} {H : Nat → Option Int} (hk : k < G.prods.length) (h : LsI G (fun _ => -1) (fun q => (rlN G q).length) (kcN G) H (remK G k)) (hkc : kcN G k ≤ 65537) : LsI G (fun _ => -1) (fun q => (rlN G q).length) (kcN G) (if (rlN G k).length = 0 then pushH H (lfQ G k) (kcN G k) else H) (remK G (k + 1)) := by
  rw [remK_step G k hk] at h
  by_cases e : rlN G k = []
  · rw [if_pos e] at h
    rw [if_pos (by rw [e]; rfl)]
    have := kinv_push h (by decide)
    rw [show min (kcN G k) 65537 = kcN G k by omega] at this
    exact this
  · rw [if_neg e] at h
    rw [if_neg (fun h0 => e (List.eq_nil_of_length_eq_zero h0))]
    exact h
theorem sumL_le {L : Nat → Int} : ∀ (l : List Nat), (∀ x, L x ≤ 65537) → sumL L l ≤ 65537 * l.length
  | [], _ => by simp [sumL]
  | x :: l, h => by
    have := sumL_le l h
    have := h x
    unfold sumL
    rw [List.length_cons]
    push_cast
    split <;> omega
theorem rlN_len (G : Gm) (q : Nat) : (rlN G q).length ≤ (G.prods.getD q pd0).right.length := by unfold rlN; rw [List.length_map]; exact rulesL_len _
theorem ls_su {G : Gm} (hG : GOk G) {L mi su : Nat → Int} {H : Nat → Option Int} {rem : List Nat} (h : LsI G L mi su H rem) {q : Nat} (hq : q < G.prods.length) : 0 ≤ su q ∧ su q ≤ 10000000 := by
  have h1 := h.suE q hq
  have h2 := hG.pr _ (mem_getP hq)
  have h3 := rlN_len G q
  have h4 := sumL_le (L := L) (rlN G q) (fun x => by rcases h.lg x with h | h <;> omega)
  have h5 := (sumL_ge L (rlN G q)).1
  have h6 := kcN_nn G q
  have h7 : kcN G q ≤ 64 := by unfold kcN; omega
  have h8 : (65537 : Int) * (rlN G q).length ≤ 65537 * 64 := by omega
  omega
theorem own_raise {w : World} {B B' e s n : Nat} {v : Value} {xs : List Value} (h : w.ownsRow B e s v n xs) (hB : ∀ k, v.ownBlock = some k → B' ≤ k) : w.ownsRow B' e s v n xs := by
  refine ⟨h.1, ?_⟩
  rcases h.2 with h0 | ⟨g, cap, cur, hv, h1, rest⟩
  · exact .inl h0
  · exact .inr ⟨g, cap, cur, hv, hB g (by rw [hv]; rfl), rest⟩
/-- The rows that readyBy told of lie apart from the list. -/
structure RyAt (S : Nat) (V : World) (u : Value) (l : List Nat) (O : Nat → Prop) : Prop where
  own : V.ownsRow S 3 1 u (castL l).length (vints (castL l))
  no : ∀ k, u.ownBlock = some k → ¬ O k
theorem lsAt_rdy {B M : Nat} {w V W : World} {n np bb mb sb tb : Nat} {L su : Nat → Int} {ml : List Int} {O : Nat → Prop} {H : Nat → Option Int} {P : List Nat} {u : Value} (h : LsAt B w V n np bb mb sb tb L su ml O H) (hB : B ≤ V.heap.size) (hr : RdI M V (.slice (some ⟨mb, 0, none⟩) np np) ml P u W) :
    ∃ ml', atZ ml' = dcM P (atZ ml) ∧ LsAt B w W n np bb mb sb tb L su ml' O H ∧ RyAt V.heap.size W u (dcR P (atZ ml)) O := by
  obtain ⟨hrd, ⟨ml', hl', ha', hms'⟩, hf⟩ := hr
  have hne : ∀ k, (Value.slice (some ⟨mb, 0, none⟩) np np).ownBlock = some k → k = mb := fun k hk => by
    have e : mb = k := by simpa [Value.ownBlock] using hk
    exact e.symm
  have hb1 := h.ls.lt
  have hb2 := h.sm.lt
  refine ⟨ml', ha', ⟨h.ls.of_block (hf.2.1 _ hb1 (fun e => h.n1 (hne _ e))), own_raise hms' (fun k hk => by rw [hne k hk]; exact h.b2), hl'.trans h.mln, h.sm.of_block (hf.2.1 _ hb2 (fun e => h.n3 (hne _ e).symm)), ?_, h.o1, h.o2, h.o3, h.n1, h.n2, h.n3, h.ob, h.b1, h.b2, h.b3, h.bl.trans (fr_below hf hB (fun k hk => by rw [hne k hk]; exact h.b2))⟩, ⟨hrd, fun k hk ho => ?_⟩⟩
  · obtain ⟨ts, h1, h2, h3⟩ := h.td
    exact ⟨ts, Wk.lst_off h1 (off_of_fr hf) (fun k hk e => h.o2 (by rw [← hne k e]; exact hk)), h2, h3⟩
  · obtain ⟨ts, h1, h2, h3⟩ := h.td
    have e1 := h1.lt k ho
    have e2 := (hrd.lt k hk).1
    omega
theorem ryAt_push {S : Nat} {V V' : World} {u : Value} {l : List Nat} {O O' : Nat → Prop} (h : RyAt S V u l O) (hf : Fr O V V') (hO : ∀ k, O' k → O k ∨ V.heap.size ≤ k) : RyAt S V' u l O' :=
  ⟨own_blk h.own (fun k hk => hf.2.1 _ (h.own.lt k hk).2 (h.no k hk)), fun k hk ho => (hO k ho).elim (h.no k hk) (by have := (h.own.lt k hk).2; omega)⟩
theorem ryAt_below {S : Nat} {V V' : World} {u : Value} {l : List Nat} {O : Nat → Prop} (h : RyAt S V u l O) (hb : Below V.heap.size V V') : RyAt S V' u l O :=
  ⟨own_blk h.own (fun k hk => hb.block _ (h.own.lt k hk).2), h.no⟩
theorem ls_mi {G : Gm} (hG : GOk G) {L su : Nat → Int} {ml : List Int} {H : Nat → Option Int} {rem : List Nat} (h : LsI G L (atZ ml) su H rem) (hl : ml.length = G.prods.length) : ∀ q, -1048576 ≤ atZ ml q ∧ atZ ml q ≤ 1048576 := fun q => by
  by_cases hq : q < G.prods.length
  · rw [h.miE q hq]
    have h2 : (rlN G q).countP (fd L) ≤ (rlN G q).length := List.countP_le_length
    have h3 := rlN_len G q
    have h5 := hG.pr _ (mem_getP hq)
    omega
  · have : atZ ml q = 0 := by unfold atZ; rw [List.getD_eq_getElem?_getD, List.getElem?_eq_none (by omega)]; rfl
    omega
end Go.Proofs.YtagohbpbgjelaaaGreatDoor

/- The code's toThemselves: which rules lead to themselves. -/
namespace Go.Proofs.YtagohbpbgjelaaaGreatDoor
open Go.RowKit

open Classical in
/-- A rule leads to itself, by one step or more. -/
noncomputable def selfF (W : Nat → List Nat) : Nat → Bool := fun r => decide (∃ y, y ∈ W r ∧ Rh W y r)
theorem selfF_is {W : Nat → List Nat} {n : Nat} {made : List (List Nat)} (hR : Rings W n made) {i x : Nat} {a : List Nat} (ha : made[i]? = some a) (hx : x ∈ a) : selfF W x = (decide (1 < a.length) || decide (x ∈ W x)) := by
  have h := ring_self hR ha hx
  have h1 : selfF W x = true ↔ ∃ y, y ∈ W x ∧ Rh W y x := by unfold selfF; simp
  rw [Bool.eq_iff_iff, h1, h]
  simp
theorem way_big {B B' : Nat} {w : World} {tb n : Nat} {W : Nat → List Nat} (h : WayAt B w tb n W) (hB : B ≤ B') : WayAt B' w tb n W := by
  refine ⟨by have := h.1; omega, fun r hr => ?_⟩
  obtain ⟨a, c, h1, h2⟩ := h.2 r hr
  refine ⟨a, c, h1, ?_⟩
  rcases h2 with h2 | ⟨b, off, h3, h4, h5⟩
  · exact .inl h2
  · exact .inr ⟨b, off, h3, by omega, h5⟩
theorem contains_any (a : Option Addr) (c : Nat) (l : List Nat) (x : Nat) (hl : l.length ≤ 1048576) (B : Nat) (w : World) (h : NRow B w a (castL l)) : Calls Tryz.prog 126 #[.slice a l.length c, .int .i64 (x : Nat)] w fun e w' => e = .returned (.bool (decide (x ∈ l))) ∧ w' = w := by
  have e1 : (castL l).length = l.length := castL_len l
  rcases h with h | ⟨b, off, rfl, h1, h2⟩
  · have : l = [] := by
      cases l with
      | nil => rfl
      | cons y l => simp [castL] at h
    subst this
    exact Tryz.slices_Contains_int_empty a c x w
  · have h3 := Tryz.slices_Contains_int b off l.length c (castL l) x w (by omega) (by omega) h2
    rw [List.take_of_length_le (by omega)] at h3
    have e2 : (castL l).contains (x : Int) = decide (x ∈ l) := by
      rw [Bool.eq_iff_iff, decide_eq_true_eq, List.contains_iff_mem]
      unfold castL
      rw [List.mem_map]
      exact ⟨fun ⟨y, h4, h5⟩ => by have : y = x := by omega
                                   exact this ▸ h4, fun h4 => ⟨x, h4, rfl⟩⟩
    rw [e2] at h3
    exact h3
set_option maxHeartbeats 2000000 in
set_option maxRecDepth 100000 in
theorem toThemselves_any (W : Nat → List Nat) (n wb wcp : Nat) (hn : n ≤ 2048) (hW : ∀ r, r < n → ∀ y, y ∈ W r → y < n) (hWl : ∀ r, (W r).length ≤ 1048576) (w : World) (hWay : WayAt w.heap.size w wb n W) :
    Calls Tryz.prog 89 #[.slice (some ⟨wb, 0, none⟩) n wcp] w fun e w' => ∃ b : Nat, e = .returned (.slice (some ⟨b, 0, none⟩) n n) ∧ w'.rowIs b 4 n (fun r => .bool (selfF W r)) ∧ w.heap.size ≤ b ∧ Below w.heap.size w w' := by
  have hmb := fun w => run_make_row' (P := Tryz.prog) 28 4 (.bool false) 1 Tryz.underlying28 info4 rfl .i64 .i64 n (by omega) (by omega) w
  have hal : Below w.heap.size w (w.alloc (.cells (madeCells #[.bool false] n) 4)) := (Below.refl _ _).alloc (Nat.le_refl _) _
  have HR := hide (rings_any W n wb wcp hn hW hWl _ (way_big (way_below hWay hal) hal.size))
  have Hrow := hide (World.rowIs_made w (.bool false) n 4)
  have HW := hide hWay; have Hal := hide hal
  have hszA : (w.alloc (.cells (madeCells #[.bool false] n) 4)).heap.size = w.heap.size + 1 := by simp
  clear hWay hal
  go_enter Tryz.func89, Tryz.ntmps89
  go_wp2_with fail
  generalize w.alloc (.cells (madeCells #[.bool false] n) 4) = w0 at *
  refine (unhide HR).mono ?_
  rintro e w1 ⟨v1, made, rfl, hRi, hml, hRa, hb1⟩
  obtain ⟨ra, rc, rfl⟩ := (show ∃ a c, v1 = .slice a made.length c by obtain ⟨vs, h1, -⟩ := hRa.form; exact own_form h1)
  have hrow1 := (unhide Hrow).of_block (hb1.block _ (unhide Hrow).lt)
  have Hrow1 := hide hrow1
  have Hb1 := hide ((unhide Hal).trans (below_le hb1 (by omega))); have HRi := hide hRi; have HRa := hide hRa
  have hs1 := hb1.size
  clear hb1 hRi hRa HR hrow1
  go_wp2
  go_loopw [14] (fun x V => ∃ (i : Nat) (f : Nat → Bool), x = .int .i64 i ∧ i ≤ made.length ∧ V.rowIs w.heap.size 4 n (fun r => .bool (f r)) ∧ (∀ (j : Nat) (a : List Nat) (x : Nat), j < i → made[j]? = some a → x ∈ a → f x = selfF W x) ∧ Fr (· = w.heap.size) w1 V) (fun x _ => made.length - (intOf x).toNat)
  case atStart => exact ⟨0, fun _ => false, rfl, Nat.zero_le _, unhide Hrow1, fun j a x h => by omega, fr_refl _ _⟩
  case round =>
    obtain ⟨i, f, rfl, hi, hrow, hf, hF⟩ := hrel
    have hkeep : ∀ V, Fr (· = w.heap.size) w1 V → RingsAt w0.heap.size V (.slice ra made.length rc) made := fun V hV => rings_below (unhide HRa) (fun q cs t hq _ hge => hV.2.1 q (Array.getElem?_eq_some_iff.1 hq).1 (fun e => by have e : q = w.heap.size := e; omega))
    by_cases hlt : i < made.length
    · have hlt' : (i : Int) < made.length := by omega
      obtain ⟨a, ha⟩ : ∃ a, made[i]? = some a := ⟨made[i], List.getElem?_eq_getElem hlt⟩
      obtain ⟨va, vc, g, c, hv, hc1, hc2⟩ := ring_at (hkeep _ hF) ha
      cases hv
      have hal : a.length ≤ 2048 := by
        have := nodup_lt ((unhide HRi).nd i _ ha) (fun x hx => (unhide HRi).lt i _ x ha hx)
        omega
      have Hc2 : Hid (∀ V', Fr (· = w.heap.size) w1 V' → ∀ j x : Nat, a[j]? = some x → V'.cell? ⟨g, j, none⟩ = some (.int .i64 (x : Nat))) := hide (fun V' hV' j x hx => by
        obtain ⟨va', vc', g', c', hv', d1, d2⟩ := ring_at (hkeep V' hV') ha
        cases hv'
        have e1 : V'.cell? ⟨va, i, none⟩ = wr.cell? ⟨va, i, none⟩ := by
          obtain ⟨vs, q1, -⟩ := (unhide HRa).form
          obtain ⟨cs, q2⟩ := own_ty q1 rfl
          have hge := (q1.lt va rfl).1
          have hl := (q1.lt va rfl).2
          exact World.cell?_of_block ((hV'.2.1 va hl (fun e => by have e : va = w.heap.size := e; omega)).trans (hF.2.1 va hl (fun e => by have e : va = w.heap.size := e; omega)).symm)
        rw [d1, hc1] at e1
        cases e1
        exact d2 j x hx)
      have Hsf := hide (fun x (hx : x ∈ a) => selfF_is (unhide HRi) ha hx)
      have Hrow := hide hrow; have Hf := hide hf; have HF := hide hF; have Hha := hide ha
      clear hrow hf hF ha hc2 hkeep
      go_wp2
      go_loopw [20] (fun x V => ∃ (p : Nat) (f : Nat → Bool), x = .int .i64 p ∧ p ≤ a.length ∧ V.rowIs w.heap.size 4 n (fun r => .bool (f r)) ∧ (∀ (j : Nat) (b : List Nat) (x : Nat), j < i → made[j]? = some b → x ∈ b → f x = selfF W x) ∧ (∀ x, x ∈ a.take p → f x = selfF W x) ∧ Fr (· = w.heap.size) w1 V) (fun x _ => a.length - (intOf x).toNat)
      case atStart => exact ⟨0, f, rfl, Nat.zero_le _, unhide Hrow, unhide Hf, fun x hx => by simp at hx, unhide HF⟩
      case round =>
        clear Hrow Hf HF
        obtain ⟨p, f, rfl, hp, hrow, hf, hfa, hF⟩ := hrel
        by_cases hpl : p < a.length
        · have hpl' : (p : Int) < a.length := by omega
          have hxa : a[p]? = some (a.getD p 0) := by rw [List.getD_eq_getElem?_getD, List.getElem?_eq_getElem hpl]; rfl
          have hxm := List.mem_of_getElem? hxa
          have hxn := (unhide HRi).lt i _ _ (unhide Hha) hxm
          have hcx := unhide Hc2 wr hF p _ hxa
          have hsx := unhide Hsf _ hxm
          have hbV : Below w.heap.size w wr := (unhide Hb1).trans (fr_below hF (by omega) (fun k hk => by have hk : k = w.heap.size := hk; omega))
          obtain ⟨xa, xc, hwc, hwr⟩ := (way_below (unhide HW) hbV).2 _ hxn
          have HC := hide (contains_any xa xc (W (a.getD p 0)) (a.getD p 0) (hWl _) _ wr hwr)
          have mc := hrow.cell hxn
          have mf := hrow.frozen (a.getD p 0)
          have Hrs : Hid ((wr.setCell ⟨w.heap.size, a.getD p 0, none⟩ (.bool (selfF W (a.getD p 0)))).rowIs w.heap.size 4 n (fun r => .bool (upB f (a.getD p 0) (selfF W (a.getD p 0)) r))) := hide ((hrow.set _ _).congr (fun q _ => by unfold upB; split <;> rfl))
          have Hf2 := hide (show ∀ (j : Nat) (b : List Nat) (x : Nat), j < i → made[j]? = some b → x ∈ b → upB f (a.getD p 0) (selfF W (a.getD p 0)) x = selfF W x from fun j b x h1 h2 h3 => by
            by_cases e : x = a.getD p 0
            · rw [e, upB_self]
            · rw [upB_ne e]; exact hf j b x h1 h2 h3)
          have Hfa2 := hide (show ∀ x, x ∈ a.take (p + 1) → upB f (a.getD p 0) (selfF W (a.getD p 0)) x = selfF W x from fun x hx => by
            by_cases e : x = a.getD p 0
            · rw [e, upB_self]
            · rw [upB_ne e]; exact hfa x (((take_mem_succ hpl x).1 hx).resolve_right e))
          have HFs := hide (show Fr (· = w.heap.size) w1 (wr.setCell ⟨w.heap.size, a.getD p 0, none⟩ (.bool (selfF W (a.getD p 0)))) from fr_set hF (by rfl) _)
          generalize hxe : a.getD p 0 = x at *
          have hxn' : (x : Int) < n := by omega
          have hwl := hWl x
          clear hrow hf hfa hF hxa hxm hbV hwr
          by_cases h1 : 1 < a.length
          · have h1' : (1 : Int) < a.length := by omega
            rw [decide_eq_true h1, Bool.true_or] at hsx
            rw [hsx] at Hrs HFs Hf2 Hfa2
            go_wp2
            go_roundw
            case rel => exact ⟨p + 1, _, by go_num, by omega, unhide Hrs, unhide Hf2, unhide Hfa2, unhide HFs⟩
            case measure => simp [intOf]; omega
          · have h1' : ¬ (1 : Int) < a.length := by omega
            rw [decide_eq_false h1, Bool.false_or] at hsx
            rw [hsx] at Hrs HFs Hf2 Hfa2
            generalize decide (x ∈ W x) = bx at *
            go_wp2_with fail
            refine (unhide HC).mono ?_
            rintro e w9 ⟨rfl, rfl⟩
            go_wp2
            go_roundw
            case rel => exact ⟨p + 1, _, by go_num, by omega, unhide Hrs, unhide Hf2, unhide Hfa2, unhide HFs⟩
            case measure => simp [intOf]; omega
        · obtain rfl : p = a.length := by omega
          rw [List.take_length] at hfa
          have Hf3 := hide (show ∀ (j : Nat) (b : List Nat) (x : Nat), j < i + 1 → made[j]? = some b → x ∈ b → f x = selfF W x from fun j b x h1 h2 h3 => by
            by_cases e : j = i
            · subst e; rw [unhide Hha] at h2; cases h2; exact hfa x h3
            · exact hf j b x (by omega) h2 h3)
          have Hrow := hide hrow; have HF := hide hF
          clear hrow hf hfa hF
          go_wp2
          go_roundw
          case rel => exact ⟨i + 1, f, by go_num, by omega, unhide Hrow, unhide Hf3, unhide HF⟩
          case measure => simp [intOf]; omega
    · obtain rfl : i = made.length := by omega
      have Hrw : Hid (wr.rowIs w.heap.size 4 n (fun r => .bool (selfF W r))) := hide (hrow.congr (fun r hr => by
        obtain ⟨j, a, h1, h2⟩ := (unhide HRi).cov r hr
        rw [hf j a r (List.getElem?_eq_some_iff.1 h1).1 h1 h2]))
      have HbV := hide ((unhide Hb1).trans (fr_below hF (by omega) (fun k hk => by have hk : k = w.heap.size := hk; omega)))
      clear hrow hf hF hkeep
      go_wp2
      go_ret
      exact ⟨w.heap.size, rfl, unhide Hrw, Nat.le_refl _, unhide HbV⟩
end Go.Proofs.YtagohbpbgjelaaaGreatDoor

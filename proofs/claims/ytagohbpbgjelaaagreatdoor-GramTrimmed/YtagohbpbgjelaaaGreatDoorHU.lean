/- The code's leasts: how long shortest rows are. -/
import Derived.Test.YtagohbpbgjelaaaGreatDoorSP
import Derived.Test.YtagohbpbgjelaaaGreatDoorHQ
import Derived.Test.YtagohbpbgjelaaaGreatDoorGJ
namespace Go.Proofs.YtagohbpbgjelaaaGreatDoor
open Go.RowKit

theorem newList_any (w : World) : Calls Tryz.prog 106 #[] w fun e w' => e = .returned (.pointer (some ⟨w.heap.size, 0, none⟩)) ∧ w' = w.alloc (.cells #[.slice none 0 0, .map none] 191) := by
  go_enter Tryz.func106, Tryz.ntmps106
  go_wp2
  go_ret
  exact ⟨rfl, rfl⟩
structure LsAt (B : Nat) (w V : World) (n np bb mb sb tb : Nat) (L su : Nat → Int) (ml : List Int) (O : Nat → Prop) (H : Nat → Option Int) : Prop where
  ls : V.rowIs bb 3 n (fun r => .int .i64 (L r))
  ms : V.ownsRow B 3 1 (.slice (some ⟨mb, 0, none⟩) np np) ml.length (vints ml)
  mln : ml.length = np
  sm : V.rowIs sb 3 np (fun q => .int .i64 (su q))
  td : LstH V tb O H
  o1 : ¬ O bb
  o2 : ¬ O mb
  o3 : ¬ O sb
  n1 : bb ≠ mb
  n2 : bb ≠ sb
  n3 : mb ≠ sb
  ob : ∀ k, O k → B ≤ k
  b1 : B ≤ bb
  b2 : B ≤ mb
  b3 : B ≤ sb
  bl : Below B w V
section
variable {B : Nat} {w V V' : World} {n np bb mb sb tb : Nat} {L su : Nat → Int} {ml : List Int} {O : Nat → Prop} {H : Nat → Option Int}
theorem lsAt_below (h : LsAt B w V n np bb mb sb tb L su ml O H) (hB : B ≤ V.heap.size) (hb : Below V.heap.size V V') : LsAt B w V' n np bb mb sb tb L su ml O H :=
  ⟨h.ls.of_block (hb.block _ h.ls.lt), own_blkB h.ms hb, h.mln, h.sm.of_block (hb.block _ h.sm.lt), lstH_off h.td hb, h.o1, h.o2, h.o3, h.n1, h.n2, h.n3, h.ob, h.b1, h.b2, h.b3, h.bl.trans (below_le hb hB)⟩
theorem lsAt_push (h : LsAt B w V n np bb mb sb tb L su ml O H) (hB : B ≤ V.heap.size) {O' : Nat → Prop} {H' : Nat → Option Int} (hf : Fr O V V') (ht : LstH V' tb O' H') (hO : ∀ k, O' k → O k ∨ V.heap.size ≤ k) : LsAt B w V' n np bb mb sb tb L su ml O' H' := by
  have h1 := h.ls.lt
  have h2 := h.sm.lt
  have h3 := (h.ms.lt mb rfl).2
  refine ⟨h.ls.of_block (hf.2.1 _ h1 h.o1), own_blk h.ms (fun k hk => ?_), h.mln, h.sm.of_block (hf.2.1 _ h2 h.o3), ht, fun ho => (hO _ ho).elim h.o1 (by omega), fun ho => (hO _ ho).elim h.o2 (by omega), fun ho => (hO _ ho).elim h.o3 (by omega), h.n1, h.n2, h.n3, fun k hk => (hO k hk).elim (h.ob k) (by omega), h.b1, h.b2, h.b3, h.bl.trans (fr_below hf hB h.ob)⟩
  have e : mb = k := by simpa [Value.ownBlock] using hk
  subst e
  exact hf.2.1 _ h3 h.o2
theorem lstH_set {b o : Nat} {v : Value} (h : LstH V tb O H) (hn : ¬ O b) : LstH (V.setCell ⟨b, o, none⟩ v) tb O H := by
  obtain ⟨ts, h1, h2, h3⟩ := h
  refine ⟨ts, Wk.lst_off h1 (O' := (· = b)) (Wk.off_set (O := (· = b)) (p := ⟨b, o, none⟩) (Wk.off_refl _ _) (.inl rfl) _) (fun k hk e => hn (by have e : k = b := e; rw [← e]; exact hk)), h2, h3⟩
theorem lsAt_ls (h : LsAt B w V n np bb mb sb tb L su ml O H) (r : Nat) (v : Int) : LsAt B w (V.setCell ⟨bb, r, none⟩ (.int .i64 v)) n np bb mb sb tb (upZ L r v) su ml O H :=
  ⟨(h.ls.set r _).congr (fun q _ => by unfold upZ; split <;> rfl), own_set h.ms (by simp [Value.ownBlock]; exact fun e => h.n1 e.symm), h.mln, h.sm.of_block (heap_other V (fun e => h.n2 e.symm)), lstH_set h.td h.o1, h.o1, h.o2, h.o3, h.n1, h.n2, h.n3, h.ob, h.b1, h.b2, h.b3, h.bl.setCell h.b1 _⟩
theorem lsAt_sm (h : LsAt B w V n np bb mb sb tb L su ml O H) (q : Nat) (v : Int) : LsAt B w (V.setCell ⟨sb, q, none⟩ (.int .i64 v)) n np bb mb sb tb L (upZ su q v) ml O H :=
  ⟨h.ls.of_block (heap_other V h.n2), own_set h.ms (by simp [Value.ownBlock]; exact h.n3), h.mln, (h.sm.set q _).congr (fun q _ => by unfold upZ; split <;> rfl), lstH_set h.td h.o3, h.o1, h.o2, h.o3, h.n1, h.n2, h.n3, h.ob, h.b1, h.b2, h.b3, h.bl.setCell h.b3 _⟩
end
structure RcM (w W : World) (np mb sb : Nat) (ml : List Int) : Prop where
  ms : W.ownsRow w.heap.size 3 1 (.slice (some ⟨mb, 0, none⟩) np np) ml.length (vints ml)
  sm : W.rowIs sb 3 np (fun _ => .int .i64 0)
  ne : mb ≠ sb
  lo : w.heap.size ≤ sb
  bl : Below w.heap.size w W
theorem rcm_a {w W3 : World} {np mb : Nat} {ml : List Int} (ho : W3.ownsRow w.heap.size 3 1 (.slice (some ⟨mb, 0, none⟩) np np) ml.length (vints ml)) (hb : Below w.heap.size w W3) : RcM w (W3.alloc (.cells (madeCells #[.int .i64 0] np) 3)) np mb W3.heap.size ml := by
  have hs := hb.size
  have h1 := (ho.lt mb rfl).2
  exact ⟨ho.alloc _, World.rowIs_made _ _ _ _, by omega, by omega, hb.alloc hs _⟩
theorem rcm_b {w W3 : World} {np mb : Nat} {ml : List Int} (ho : W3.ownsRow (w.alloc (.cells (madeCells #[.int .i64 0] np) 3)).heap.size 3 1 (.slice (some ⟨mb, 0, none⟩) np np) ml.length (vints ml)) (hb : Below (w.alloc (.cells (madeCells #[.int .i64 0] np) 3)).heap.size (w.alloc (.cells (madeCells #[.int .i64 0] np) 3)) W3) : RcM w W3 np mb w.heap.size ml := by
  have hs : (w.alloc (.cells (madeCells #[.int .i64 0] np) 3)).heap.size = w.heap.size + 1 := by simp
  have h1 := (ho.lt mb rfl).1
  have hr := World.rowIs_made w (.int .i64 0) np 3
  exact ⟨own_base ho (by omega), hr.of_block (hb.block _ (by omega)), by omega, Nat.le_refl _, ((Below.refl _ _).alloc (Nat.le_refl _) _).trans (below_le hb (by omega))⟩
def remK (G : Gm) (k : Nat) : List Nat := ((List.range G.prods.length).drop k).filter fun q => decide (rlN G q = [])
theorem remK_step (G : Gm) (k : Nat) (hk : k < G.prods.length) : remK G k = if rlN G k = [] then k :: remK G (k + 1) else remK G (k + 1) := by
  unfold remK
  rw [List.drop_eq_getElem_cons (by simpa using hk), List.getElem_range, List.filter_cons]
  simp
theorem remK_end (G : Gm) : remK G G.prods.length = [] := by
  unfold remK
  rw [List.drop_eq_nil_of_le (by simp)]
  rfl
theorem ls_first {G : Gm} {k : Nat} {H : Nat → Option Int} (hk : k < G.prods.length) (h : LsI G (fun _ => -1) (fun q => (rlN G q).length) (kcN G) H (remK G k)) (hkc : kcN G k ≤ 65537) : LsI G (fun _ => -1) (fun q => (rlN G q).length) (kcN G) (if (rlN G k).length = 0 then pushH H (lfQ G k) (kcN G k) else H) (remK G (k + 1)) := by
  rw [remK_step G k hk] at h
  by_cases e : rlN G k = []
  · rw [if_pos e] at h
    rw [if_pos (by rw [e]; rfl)]
    have := kinv_push h (by decide)
    rw [show min (kcN G k) 65537 = kcN G k by omega] at this
    exact this
  · rw [if_neg e] at h
    rw [if_neg (fun h0 => e (List.eq_nil_of_length_eq_zero h0))]
    exact h
theorem sumL_le {L : Nat → Int} : ∀ (l : List Nat), (∀ x, L x ≤ 65537) → sumL L l ≤ 65537 * l.length
  | [], _ => by simp [sumL]
  | x :: l, h => by
    have := sumL_le l h
    have := h x
    unfold sumL
    rw [List.length_cons]
    push_cast
    split <;> omega
theorem rlN_len (G : Gm) (q : Nat) : (rlN G q).length ≤ (G.prods.getD q pd0).right.length := by unfold rlN; rw [List.length_map]; exact rulesL_len _
theorem ls_su {G : Gm} (hG : GOk G) {L mi su : Nat → Int} {H : Nat → Option Int} {rem : List Nat} (h : LsI G L mi su H rem) {q : Nat} (hq : q < G.prods.length) : 0 ≤ su q ∧ su q ≤ 10000000 := by
  have h1 := h.suE q hq
  have h2 := hG.pr _ (mem_getP hq)
  have h3 := rlN_len G q
  have h4 := sumL_le (L := L) (rlN G q) (fun x => by rcases h.lg x with h | h <;> omega)
  have h5 := (sumL_ge L (rlN G q)).1
  have h6 := kcN_nn G q
  have h7 : kcN G q ≤ 64 := by unfold kcN; omega
  have h8 : (65537 : Int) * (rlN G q).length ≤ 65537 * 64 := by omega
  omega
theorem own_raise {w : World} {B B' e s n : Nat} {v : Value} {xs : List Value} (h : w.ownsRow B e s v n xs) (hB : ∀ k, v.ownBlock = some k → B' ≤ k) : w.ownsRow B' e s v n xs := by
  refine ⟨h.1, ?_⟩
  rcases h.2 with h0 | ⟨g, cap, cur, hv, h1, rest⟩
  · exact .inl h0
  · exact .inr ⟨g, cap, cur, hv, hB g (by rw [hv]; rfl), rest⟩
structure RyAt (S : Nat) (V : World) (u : Value) (l : List Nat) (O : Nat → Prop) : Prop where
  own : V.ownsRow S 3 1 u (castL l).length (vints (castL l))
  no : ∀ k, u.ownBlock = some k → ¬ O k
theorem lsAt_rdy {B M : Nat} {w V W : World} {n np bb mb sb tb : Nat} {L su : Nat → Int} {ml : List Int} {O : Nat → Prop} {H : Nat → Option Int} {P : List Nat} {u : Value} (h : LsAt B w V n np bb mb sb tb L su ml O H) (hB : B ≤ V.heap.size) (hr : RdI M V (.slice (some ⟨mb, 0, none⟩) np np) ml P u W) :
    ∃ ml', atZ ml' = dcM P (atZ ml) ∧ LsAt B w W n np bb mb sb tb L su ml' O H ∧ RyAt V.heap.size W u (dcR P (atZ ml)) O := by
  obtain ⟨hrd, ⟨ml', hl', ha', hms'⟩, hf⟩ := hr
  have hne : ∀ k, (Value.slice (some ⟨mb, 0, none⟩) np np).ownBlock = some k → k = mb := fun k hk => by
    have e : mb = k := by simpa [Value.ownBlock] using hk
    exact e.symm
  have hb1 := h.ls.lt
  have hb2 := h.sm.lt
  refine ⟨ml', ha', ⟨h.ls.of_block (hf.2.1 _ hb1 (fun e => h.n1 (hne _ e))), own_raise hms' (fun k hk => by rw [hne k hk]; exact h.b2), hl'.trans h.mln, h.sm.of_block (hf.2.1 _ hb2 (fun e => h.n3 (hne _ e).symm)), ?_, h.o1, h.o2, h.o3, h.n1, h.n2, h.n3, h.ob, h.b1, h.b2, h.b3, h.bl.trans (fr_below hf hB (fun k hk => by rw [hne k hk]; exact h.b2))⟩, ⟨hrd, fun k hk ho => ?_⟩⟩
  · obtain ⟨ts, h1, h2, h3⟩ := h.td
    exact ⟨ts, Wk.lst_off h1 (off_of_fr hf) (fun k hk e => h.o2 (by rw [← hne k e]; exact hk)), h2, h3⟩
  · obtain ⟨ts, h1, h2, h3⟩ := h.td
    have e1 := h1.lt k ho
    have e2 := (hrd.lt k hk).1
    omega
theorem ryAt_push {S : Nat} {V V' : World} {u : Value} {l : List Nat} {O O' : Nat → Prop} (h : RyAt S V u l O) (hf : Fr O V V') (hO : ∀ k, O' k → O k ∨ V.heap.size ≤ k) : RyAt S V' u l O' :=
  ⟨own_blk h.own (fun k hk => hf.2.1 _ (h.own.lt k hk).2 (h.no k hk)), fun k hk ho => (hO k ho).elim (h.no k hk) (by have := (h.own.lt k hk).2; omega)⟩
theorem ryAt_below {S : Nat} {V V' : World} {u : Value} {l : List Nat} {O : Nat → Prop} (h : RyAt S V u l O) (hb : Below V.heap.size V V') : RyAt S V' u l O :=
  ⟨own_blk h.own (fun k hk => hb.block _ (h.own.lt k hk).2), h.no⟩
theorem ls_mi {G : Gm} (hG : GOk G) {L su : Nat → Int} {ml : List Int} {H : Nat → Option Int} {rem : List Nat} (h : LsI G L (atZ ml) su H rem) (hl : ml.length = G.prods.length) : ∀ q, -1048576 ≤ atZ ml q ∧ atZ ml q ≤ 1048576 := fun q => by
  by_cases hq : q < G.prods.length
  · rw [h.miE q hq]
    have h2 : (rlN G q).countP (fd L) ≤ (rlN G q).length := List.countP_le_length
    have h3 := rlN_len G q
    have h5 := hG.pr _ (mem_getP hq)
    omega
  · have : atZ ml q = 0 := by unfold atZ; rw [List.getD_eq_getElem?_getD, List.getElem?_eq_none (by omega)]; rfl
    omega
end Go.Proofs.YtagohbpbgjelaaaGreatDoor

namespace Go.Proofs.YtagohbpbgjelaaaGreatDoor
open Go.RowKit

structure RhI (G : Gm) (ok : Nat → Bool) (okP : Pd → Bool) (w : World) (bb lb base : Nat) (fs : List Nat) (a m g cap : Nat) (W : World) : Prop where
  mrk : W.rowIs bb 4 G.rules.length (fun r => .bool (decide (r ∈ fs.take m)))
  lf : LeftAt W lb G.rules.length (fun i => decide (i < G.rules.length) && !decide (i ∈ fs))
  fd : W.ownsRow base 3 1 (.slice (some ⟨g, 0, none⟩) (castL fs).length cap) (castL fs).length (vints (castL fs))
  rc : RcI G ok okP fs a
  bl : Below w.heap.size w W
  le : base ≤ W.heap.size
set_option maxHeartbeats 1000000 in
set_option maxRecDepth 100000 in
theorem reached_any (G : Gm) (hG : GOk G) (ka pa ra qa : Option Addr) (kc pc rc qc gb ob ub : Nat) (M : Nat) (F : Nat) (cap : Array Value) (ok : Nat → Bool) (okP : Pd → Bool) (hok : ∀ q, q < G.prods.length → ok q = okP (G.prods.getD q pd0)) (hcf : ∀ args W, Sem.run Tryz.prog (callFunc F args) W = .ok (.enter F args) W) (w : World) (hM : M ≤ w.heap.size) (hg : GrAt M w G ka kc pa pc ra rc qa qc gb ob ub)
    (hF : ∀ W q, q < G.prods.length → Below w.heap.size w W → Calls Tryz.prog F (#[.int .i64 (q : Nat)] ++ cap) W fun e W' => e = .returned (.bool (ok q)) ∧ Below W.heap.size W W') :
    Calls Tryz.prog 32 #[.pointer (some ⟨gb, 0, none⟩), .func (.func F) #[] cap] w fun e w' => ∃ b : Nat, e = .returned (.slice (some ⟨b, 0, none⟩) G.rules.length G.rules.length) ∧ w'.rowIs b 4 G.rules.length (fun r => .bool (rchF G okP r)) ∧ w.heap.size ≤ b ∧ Below w.heap.size w w' := by
  obtain ⟨i3, hi3, hz30, hz31, hz32⟩ := info_parts info3
  have hr2 := hG.r2
  unfold Gm.nr at hr2
  have hs0 := hG.s0; have hs1 := hG.s1
  unfold Gm.nr at hs1
  obtain ⟨st, hst⟩ : ∃ st : Nat, G.start = st := ⟨G.start.toNat, by omega⟩
  have c2 : w.cell? ⟨gb, 2, none⟩ = some (.slice ra G.rules.length rc) := by unfold World.cell?; rw [hg.box]; rfl
  have c4 : w.cell? ⟨gb, 4, none⟩ = some (.int .i64 (st : Int)) := by unfold World.cell?; rw [hg.box, ← hst]; rfl
  have hgl : gb < w.heap.size := by have := hg.lt; omega
  have hmk := fun w => run_make_row' (P := Tryz.prog) 28 4 (.bool false) 1 Tryz.underlying28 info4 rfl .i64 .i64 G.rules.length (by omega) (by omega) w
  have hrs := rc_start hG ok okP
  have est : G.start.toNat = st := by omega
  rw [est] at hrs
  have Hg := hide hg; have HF := hide hF; have Hrs := hide hrs; have Hok := hide hok
  clear hg hF hrs hok
  go_enter Tryz.func32, Tryz.ntmps32
  go_wp2_with fail
  have hz1 := World.rowIs_made w (.bool false) G.rules.length 4
  have hb1 : Below w.heap.size w (w.alloc (Obj.cells (madeCells #[Value.bool false] G.rules.length) 4)) := (Below.refl _ _).alloc (Nat.le_refl _) _
  generalize hw1 : w.alloc (Obj.cells (madeCells #[Value.bool false] G.rules.length) 4) = w1 at *
  have hsz1 : w1.heap.size = w.heap.size + 1 := by rw [← hw1]; simp
  clear hw1
  refine (allLeft_any gb G.rules.length ra rc hr2 w1 (by omega) ((hb1.cell (by simpa using hgl)).trans c2)).mono ?_
  rintro e w2 ⟨lb, rfl, hlf2, hlb1, hlb2, hb2⟩
  have hs2 := hb2.size
  have hb12 := hb1.trans (below_le hb2 (by omega))
  have hz2 := hz1.of_block (hb2.block w.heap.size (by omega))
  have c4' := (hb12.cell (p := ⟨gb, 4, none⟩) (by simpa using hgl)).trans c4
  have HT := hide (take_any lb G.rules.length st _ (by omega) w2 hlf2)
  clear hlf2 hz1 c2 c4
  have Hb12 := hide hb12; have Hz2 := hide hz2
  clear hb12 hz2 hb1 hb2
  go_wp2_with fail
  refine (unhide HT).mono ?_
  rintro e w3 ⟨rfl, hlf3, hf3⟩
  have hs3 : w2.heap.size ≤ w3.heap.size := hf3.1
  have hb3 : Below w.heap.size w w3 := (unhide Hb12).trans (fr_below hf3 (by omega) (fun k hk => by omega))
  have hz3 := (unhide Hz2).of_block (hf3.2.1 w.heap.size (by omega) (by omega))
  have c4'' := (hb3.cell (p := ⟨gb, 4, none⟩) (by simpa using hgl)).trans ((unhide Hb12).cell (p := ⟨gb, 4, none⟩) (by simpa using hgl) ▸ c4')
  have HR0 : Hid (RhI G ok okP w w.heap.size lb w3.heap.size [st] 0 0 w3.heap.size 1 (w3.alloc (.cells #[.int .i64 (st : Int)] 3))) := hide (by
    refine ⟨?_, ?_, ?_, unhide Hrs, hb3.alloc hb3.size _, by simp⟩
    · refine ((hz3.of_block (w' := w3.alloc _) ?_)).congr (fun r _ => by simp)
      exact ((Below.refl w3.heap.size w3).alloc (Nat.le_refl _) _).block _ (by omega)
    · refine left_blk (W := w3) ?_ (((Below.refl w3.heap.size w3).alloc (Nat.le_refl _) _).block _ (by omega))
      obtain ⟨D, h1, h2⟩ := hlf3
      exact ⟨D, h1, fun i => by rw [h2 i]; by_cases e : i = st <;> simp [e]⟩
    · have := World.ownsRow_lit (base := w3.heap.size) (e := 3) (size := 1) w3 #[.int .i64 (st : Int)] 1 (Nat.le_refl _) (by unfold maxLen; omega) rfl
      simpa [castL, vints] using this)
  clear hlf3 hf3 hz3 hb3 HT Hb12 Hz2
  have hlb3 : lb < w3.heap.size := by omega
  go_wp2
  go_loopw [7, 8] (fun u x W => ∃ (fs : List Nat) (a g cp : Nat), u = .slice (some ⟨g, 0, none⟩) (castL fs).length cp ∧ x = .int .i64 a ∧ RhI G ok okP w w.heap.size lb w3.heap.size fs a a g cp W) (fun _ x _ => G.rules.length - (intOf x).toNat)
  case atStart => exact ⟨[st], 0, w3.heap.size, 1, rfl, rfl, unhide HR0⟩
  case round =>
    clear HR0 c4'' c4'
    obtain ⟨fs, a, g, cp, rfl, rfl, hR⟩ := hrel
    have hlen := rc_len hR.rc
    have hcl := castL_len fs
    by_cases hlt : a < fs.length
    · have hlt' : (a : Int) < (castL fs).length := by omega
      obtain ⟨_, _, he, hgl2, hca, hcf2⟩ := own_at hR.fd (i := a) (by omega)
      cases he
      rw [castL_get hlt] at hca
      have hrm : fs.getD a 0 ∈ fs := by rw [List.getD_eq_getElem?_getD, List.getElem?_eq_getElem hlt]; exact List.getElem_mem hlt
      have hrl := hR.rc.lt _ hrm
      have hrl' : ((fs.getD a 0 : Nat) : Int) < G.rules.length := by omega
      have hmc := hR.mrk.cell hrl
      have hmf := hR.mrk.frozen (fs.getD a 0)
      have hset : Fr (· = w.heap.size) wr (wr.setCell ⟨w.heap.size, fs.getD a 0, none⟩ (.bool true)) := fr_set (fr_refl _ _) (by rfl) _
      have hR1 : RhI G ok okP w w.heap.size lb w3.heap.size fs a (a + 1) g cp (wr.setCell ⟨w.heap.size, fs.getD a 0, none⟩ (.bool true)) := by
        have hg3 := (hR.fd.lt g rfl).1
        have hle := hR.le
        refine ⟨(hR.mrk.set (fs.getD a 0) _).congr (fun r _ => ?_), left_blk hR.lf (hset.2.1 lb (by omega) (by omega)), own_blk hR.fd (fun k hk => hset.2.1 k (hR.fd.lt k hk).2 (by have := (hR.fd.lt k hk).1; omega)), hR.rc, hR.bl.trans (fr_below hset hR.bl.size (fun k hk => by omega)), by have := hset.1; omega⟩
        have e : fs.take (a + 1) = fs.take a ++ [fs.getD a 0] := by rw [List.take_add_one, List.getD_eq_getElem?_getD, List.getElem?_eq_getElem hlt]; rfl
        rw [e]
        by_cases e2 : r = fs.getD a 0
        · subst e2; simp
        · rw [if_neg e2]; congr 1; rw [decide_eq_decide]; simp only [List.mem_append, List.mem_singleton]; exact ⟨Or.inl, fun h => h.resolve_right e2⟩
      have HN : Hid _ := hide (next_any G hG ka pa ra qa kc pc rc qc gb ob ub M F cap ok hcf (fs.getD a 0) hrl (wr.setCell ⟨w.heap.size, fs.getD a 0, none⟩ (.bool true)) (by have := hR1.bl.size; omega) (gr_kept (unhide Hg) (below_le hR1.bl hM)) (fun W q hq hb => unhide HF W q hq (hR1.bl.trans (below_le hb hR1.bl.size))))
      have hrch := hR1.rc.snd _ hrm
      have Hnx := hide (fun y hy => rc_reach (unhide Hok) hG hrch (y := y) hy)
      have hgl3 : g < (wr.setCell ⟨w.heap.size, fs.getD a 0, none⟩ (.bool true)).heap.size := (hR1.fd.lt g rfl).2
      have HR1 := hide hR1
      have hgb3 : w3.heap.size ≤ g := (hR.fd.lt g rfl).1
      have hrd := hide (show (wr.setCell ⟨w.heap.size, fs.getD a 0, none⟩ (.bool true)).cell? ⟨g, a, none⟩ = some (.int .i64 (fs.getD a 0 : Nat)) from (World.cell?_of_block (hset.2.1 g hgl2 (by omega))).trans hca)
      clear hR hR1 hset hrch
      generalize hrr : fs.getD a 0 = rr at *
      go_wp2_with fail
      generalize wr.setCell ⟨w.heap.size, rr, none⟩ (.bool true) = W1 at *
      refine (unhide HN).mono ?_
      rintro e W5 ⟨v5, rfl, how5, hb5⟩
      obtain ⟨va, vc, rfl⟩ := own_form how5
      have hs5 := hb5.size
      have hR1 := unhide HR1
      have hs1w := hR1.le
      have hl1 := left_lt hR1.lf
      have hm1 := hR1.mrk.lt
      have hR5 : RhI G ok okP w w.heap.size lb w3.heap.size fs a (a + 1) g cp W5 := ⟨hR1.mrk.of_block (hb5.block _ hm1), left_blk hR1.lf (hb5.block _ hl1), own_blk hR1.fd (fun k hk => hb5.block k (hR1.fd.lt k hk).2), hR1.rc, hR1.bl.trans (below_le hb5 hR1.bl.size), by omega⟩
      have hln : (nxtL G ok (ownN G rr)).length ≤ 262144 := by
        have h1 := nxtL_len G hG ok (ownN G rr) (fun q hq => ownN_mem hq)
        have h2 := ownN_len G rr
        have h3 := hG.ps
        omega
      have HR5 := hide hR5; have How5 := hide how5
      clear hR5 hR1 how5 hb5 HR1 HN hca hcf2 hmc hmf hrd
      generalize hL : nxtL G ok (ownN G rr) = L at *
      go_wp2
      go_loopw [7, 53] (fun u x W => ∃ (fs' : List Nat) (j g' cp' : Nat), u = .slice (some ⟨g', 0, none⟩) (castL fs').length cp' ∧ x = .int .i64 j ∧ j ≤ L.length ∧ RhI G ok okP w w.heap.size lb w3.heap.size fs' a (a + 1) g' cp' W ∧ (∃ t, fs' = fs ++ t) ∧ (∀ i, i < j → (L.getD i 0).toNat ∈ fs') ∧ W.ownsRow W1.heap.size 3 1 (.slice va L.length vc) L.length (vints L) ∧ (Value.slice va L.length vc).ownBlock ≠ some g') (fun _ x _ => L.length - (intOf x).toNat)
      case atStart => exact ⟨fs, 0, g, cp, by rw [hcl], rfl, Nat.zero_le _, unhide HR5, ⟨[], by simp⟩, fun i hi => by omega, unhide How5, fun e => by have := ((unhide How5).lt g e).1; omega⟩
      case round =>
        clear HR5 How5
        obtain ⟨fs', j, g', cp', rfl, rfl, hj, hR, hpre, hin, hown, hne⟩ := hrel
        by_cases hjl : j < L.length
        · have hjl' : (j : Int) < L.length := by omega
          obtain ⟨_, _, he, hglL, hcL, -⟩ := own_at hown hjl
          cases he
          have hym : L.getD j 0 ∈ L := by rw [List.getD_eq_getElem?_getD, List.getElem?_eq_getElem hjl]; exact List.getElem_mem hjl
          obtain ⟨hyr, hy0, hyl⟩ := unhide Hnx _ hym
          obtain ⟨y, hy⟩ : ∃ y : Nat, L.getD j 0 = y := ⟨(L.getD j 0).toNat, by omega⟩
          have hin' : ∀ F : List Nat, (∃ t, F = fs' ++ t) → y ∈ F → ∀ i, i < j + 1 → (L.getD i 0).toNat ∈ F := fun F ⟨t, ht⟩ hyF i hi => by
            by_cases e : i = j
            · subst e; rw [hy]; simpa using hyF
            · rw [ht]; exact List.mem_append_left _ (hin i (by omega))
          rw [hy] at hcL hyr hyl
          simp only [Int.toNat_natCast] at hyr hyl
          have HT := hide (take_any lb G.rules.length y _ (by omega) wr hR.lf)
          have hfl := rc_len hR.rc
          have hcl' := hide (castL_len fs')
          have HR := hide hR; have Hpre := hide hpre; have Hin := hide hin'; have Hown := hide hown
          clear hR hpre hin hin' hown
          go_wp2_with fail
          refine (unhide HT).mono ?_
          rintro e w6 ⟨rfl, hlf6, hf6⟩
          have hR := unhide HR
          have hgg := hR.fd.lt g' rfl
          have hmm := hR.mrk.lt
          have hs6 : wr.heap.size ≤ w6.heap.size := hf6.1
          have hmk6 := hR.mrk.of_block (hf6.2.1 _ hmm (by omega))
          have hfd6 := own_blk hR.fd (fun k hk => hf6.2.1 k (hR.fd.lt k hk).2 (by have := (hR.fd.lt k hk).1; omega))
          have hb6 := hR.bl.trans (fr_below hf6 hR.bl.size (fun k hk => by omega))
          have ho6 := own_blk (unhide Hown) (fun k hk => hf6.2.1 k ((unhide Hown).lt k hk).2 (by have := ((unhide Hown).lt k hk).1; omega))
          have hle := hR.le
          by_cases hyf : y ∈ fs'
          · have e1 : (decide (y < G.rules.length) && !decide (y ∈ fs')) = false := by simp [hyf]
            rw [e1]
            have HR6 : Hid (RhI G ok okP w w.heap.size lb w3.heap.size fs' a (a + 1) g' cp' w6) := hide (by
              refine ⟨hmk6, ?_, hfd6, hR.rc, hb6, by omega⟩
              obtain ⟨D, h1, h2⟩ := hlf6
              exact ⟨D, h1, fun i => by rw [h2 i]; by_cases e : i = y <;> simp [e, hyf]⟩)
            have Ho6 := hide ho6
            clear hlf6 hf6 hR hmk6 hfd6 hb6 ho6 HR
            go_wp2
            go_roundw
            case rel => exact ⟨fs', j + 1, g', cp', by rw [unhide hcl'], by go_num, by omega, unhide HR6, unhide Hpre, unhide Hin fs' ⟨[], by simp⟩ hyf, unhide Ho6, hne⟩
            case measure => simp [intOf]; omega
          · have e1 : (decide (y < G.rules.length) && !decide (y ∈ fs')) = true := by simp [hyf, hyl]
            rw [e1]
            have HA := hide (And.intro hmk6 (And.intro hlf6 (And.intro hb6 (And.intro ho6 hR.rc))))
            have Hfd6 := hide hfd6
            clear hlf6 hf6 hR hmk6 hfd6 hb6 ho6 HR
            have hcl2 := unhide hcl'
            rw [hcl2] at Hfd6
            go_wp2_with (at_builtin; refine wpList_append_lies _ rfl _ _ 27 rfl w3.heap.size 3 i3 (.int .i64 0) 1 8 Tryz.underlying27 hi3 hz30 hz31 hz32 rfl (by decide) _ _ _ rfl ((unhide Hfd6).alloc _) ⟨w6.heap.size, 0, none⟩ 1 1 [.int .i64 (y : Int)] rfl rfl (new1 _ _ _) ?zc2 (by decide) ?zc3 ?zc4 ?zc5 (w6.heap.size + 1) (by simp) ?_)
            case zc2 => intro u hu; simp at hu; rcases hu with rfl; rfl
            case zc3 => unfold maxLen; omega
            case zc4 => omega
            case zc5 => simp; omega
            intro g7 cap7 W7 hown7 hgrow hg7 hl7
            obtain ⟨hmk6, hlf6, hb6, ho6, hrc⟩ := unhide HA
            have hal : Below w6.heap.size w6 (w6.alloc (.cells #[.int .i64 (y : Int)] 3)) := (Below.refl _ _).alloc (Nat.le_refl _) _
            have hkp : ∀ k, k < w6.heap.size → k ≠ g' → W7.heap[k]? = w6.heap[k]? := fun k hk hne' => (hgrow.block k (by have := hal.size; omega) (fun e => hne' (by simpa [Value.ownBlock, eq_comm] using e))).trans (hal.block k hk)
            have hs7 : w6.heap.size ≤ W7.heap.size := Nat.le_trans hal.size hgrow.size
            have HR7 : Hid (RhI G ok okP w w.heap.size lb w3.heap.size (fs' ++ [y]) a (a + 1) g7 cap7 W7) := hide (by
              refine ⟨(hmk6.of_block (hkp _ (by omega) (by omega))).congr (fun r _ => ?_), ?_, ?_, rc_push hrc hyl hyr hyf, ?_, by omega⟩
              · have hpl : a + 1 ≤ fs'.length := by obtain ⟨t, ht⟩ := unhide Hpre; rw [ht, List.length_append]; omega
                rw [List.take_append_of_le_length hpl]
              · refine left_blk (W := w6) ?_ (hkp _ (by omega) (by omega))
                obtain ⟨D, h1, h2⟩ := hlf6
                exact ⟨D, h1, fun i => by rw [h2 i]; by_cases e : i = y <;> simp [e, hyl]⟩
              · have e2 : castL (fs' ++ [y]) = castL fs' ++ [(y : Int)] := by simp [castL]
                rw [castL_len, List.length_append, e2, ← vints_snoc]
                exact hown7
              · have hga : ∀ k, (Value.slice (some ⟨g', 0, none⟩) fs'.length cp').ownBlock = some k → w.heap.size ≤ k := fun k hk => by
                  have e3 : g' = k := by simpa [Value.ownBlock] using hk
                  omega
                exact (hb6.alloc hb6.size _).grown hgrow (Nat.le_trans hb6.size hal.size) hga)
            have Ho7 := hide (own_blk ho6 (fun k hk => hkp k (ho6.lt k hk).2 (fun e => hne (by rw [← e]; exact hk))))
            have Hne7 : Hid (∀ k, some k = some g7 → (Value.slice (some ⟨_, 0, none⟩) L.length _).ownBlock ≠ some k) := hide (fun k hk e => by
              cases hk
              rcases hg7 with h | h
              · exact hne (e.trans h.symm)
              · have := (ho6.lt g7 e).2
                omega)
            clear hown7 hgrow hmk6 hlf6 hb6 ho6 hrc HA hkp
            go_wp2
            go_roundw
            case rel => exact ⟨fs' ++ [y], j + 1, g7, cap7, by rw [castL_len, List.length_append]; rfl, by go_num, by omega, unhide HR7, (unhide Hpre).elim fun t ht => ⟨t ++ [y], by rw [ht, List.append_assoc]⟩, unhide Hin _ ⟨[y], rfl⟩ (by simp), unhide Ho7, unhide Hne7 _ rfl⟩
            case measure => simp [intOf]; omega
        · obtain rfl : j = L.length := by omega
          have HR := hide hR; have Hpre := hide hpre; have Hin := hide hin
          clear hR hpre hin hown
          go_wp2
          go_roundw
          case rel =>
            obtain ⟨t, ht⟩ := unhide Hpre
            have hR := unhide HR
            refine ⟨fs', a + 1, g', cp', rfl, by go_num, hR.mrk, hR.lf, hR.fd, rc_next hR.rc (by rw [ht, List.length_append]; omega) (fun y hy => ?_), hR.bl, hR.le⟩
            have e1 : fs'.getD a 0 = rr := by rw [ht, List.getD_eq_getElem?_getD, List.getElem?_append_left hlt, ← List.getD_eq_getElem?_getD]; exact hrr
            rw [e1, hL] at hy
            obtain ⟨i, hi, e2⟩ := List.getElem_of_mem hy
            have := unhide Hin i hi
            rw [List.getD_eq_getElem?_getD, List.getElem?_eq_getElem hi] at this
            simpa [e2] using this
          case measure => simp [intOf]; omega
    · obtain rfl : a = fs.length := by have := hR.rc.le; omega
      have Hend := hide (rc_end (unhide Hok) hR.rc)
      have HR := hide hR
      clear hR
      go_wp2
      go_ret
      refine ⟨w.heap.size, rfl, (unhide HR).mrk.congr (fun r _ => ?_), Nat.le_refl _, (unhide HR).bl⟩
      rw [List.take_of_length_le (Nat.le_refl _), ← unhide Hend]
end Go.Proofs.YtagohbpbgjelaaaGreatDoor

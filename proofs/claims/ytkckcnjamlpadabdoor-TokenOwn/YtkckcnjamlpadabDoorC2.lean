/- Check. -/
import Derived.Test.YtkckcnjamlpadabDoorC1
namespace Go.Proofs.YtkckcnjamlpadabDoor
open Go.RowKit Go.Maps

theorem cell_block {w : World} {B : Nat} {cs : Array Value} {t : TypeId} (h : w.heap[B]? = some (.cells cs t (0, 0))) (j : Nat) (v : Value) (hj : cs[j]? = some v) : w.cell? ⟨B, j, none⟩ = some v := by
  have e : (⟨B, 0, none⟩ : Addr).add j = ⟨B, j, none⟩ := by unfold Addr.add; split <;> simp_all
  rw [← e]
  exact World.news_of_block h j v (by simpa using hj)
theorem frozen_block {w : World} {B : Nat} {cs : Array Value} {t : TypeId} (h : w.heap[B]? = some (.cells cs t (0, 0))) (j : Nat) : w.frozen? ⟨B, j, none⟩ = false := by
  simp [World.frozen?, h]
theorem block_set {w : World} {g i : Nat} {cs : Array Value} {t : TypeId} {fr : Nat × Nat} (h : w.heap[g]? = some (.cells cs t fr)) (v : Value) : (w.setCell ⟨g, i, none⟩ v).heap[g]? = some (.cells (cs.setIfInBounds i v) t fr) := by
  rw [setCell_eq_setRow w g i cs t fr v h]
  exact setRow_heap w g _ _ t _ h
theorem heap_new (w : World) (o : Obj) : (w.alloc o).heap[w.heap.size]? = some o := (MapKept.heap_alloc w o).1

/-- What the tokens ahead of one reach. -/
def reachAt (l : List T3) (k : Nat) : Int := if k = 0 then 0 else (l.getD (k - 1) (0, 0, 0)).2.2
theorem reachAt_succ (l : List T3) (k : Nat) : reachAt l (k + 1) = (l.getD k (0, 0, 0)).2.2 := by simp [reachAt]
def okT (n sz : Nat) (l : List T3) (j : Nat) : Bool := takeB n sz (reachAt l j) (l.getD j (0, 0, 0))
def okTo (n sz : Nat) (l : List T3) (k : Nat) : Prop := ∀ j, j < k → okT n sz l j = true
def badT (n sz : Nat) (l : List T3) : Option Nat := (List.range l.length).find? fun j => !okT n sz l j
theorem badT_some {n sz : Nat} {l : List T3} {k : Nat} (hk : k < l.length) (ho : okTo n sz l k) (hb : okT n sz l k = false) : badT n sz l = some k := by
  unfold badT
  rw [List.find?_range_eq_some]
  refine ⟨by simp [hb], by simpa using hk, fun j hj => by simp [ho j hj]⟩
theorem badT_none {n sz : Nat} {l : List T3} (ho : okTo n sz l l.length) : badT n sz l = none := by
  unfold badT
  rw [List.find?_range_eq_none]
  intro i hi
  simp [ho i hi]
theorem okTo_succ {n sz : Nat} {l : List T3} {k : Nat} (ho : okTo n sz l k) (h : okT n sz l k = true) : okTo n sz l (k + 1) := fun j hj => by
  by_cases e : j = k
  · subst e; exact h
  · exact ho j (by omega)
/-- What both Checks answer. -/
def checkT (ns : List (List UInt8)) (sz : Nat) (l : List T3) : Int × Int :=
  if kindsB ns then (if 65536 < l.length then (65536, 71) else match badT ns.length sz l with | some k => ((k : Int), 71) | none => (0, 0)) else (0, 70)

set_option maxHeartbeats 2000000 in
set_option maxRecDepth 100000 in
theorem check_any (a : Option Addr) (cap : Nat) (ns : List (List UInt8)) (src : ByteArray) (b : Option Addr) (cab : Nat) (l : List T3) (w : World) (hrow : SRow w a ns) (htok : TRow w b l) :
    Calls Tryd.prog 24 #[.slice a ns.length cap, .string src, .slice b l.length cab] w fun e w' => e = .returned (.tuple #[.int .i64 (checkT ns src.size l).1, .int .i64 (checkT ns src.size l).2]) ∧ Below w.heap.size w w' := by
  have HK := hide (kinds_any a cap ns w hrow)
  cases hkk : kindsB ns
  · rw [show kindsV ns = 70 by simp [kindsV, hkk]] at HK
    rw [show checkT ns src.size l = (0, 70) by simp [checkT, hkk]]
    clear hkk hrow htok
    go_enter Tryd.func24, Tryd.ntmps24
    go_wp2_with fail
    refine (unhide HK).mono ?_
    rintro e w1 ⟨rfl, hb1⟩
    have Hb1 := hide hb1
    clear hb1
    go_wp2
    go_ret2
    exact ⟨rfl, unhide Hb1⟩
  rw [show kindsV ns = 0 by simp [kindsV, hkk]] at HK
  by_cases h1 : 65536 < l.length
  · rw [show checkT ns src.size l = (65536, 71) by simp [checkT, hkk, h1]]
    have h1' : (65536 : Int) < l.length := by omega
    clear hkk hrow htok
    go_enter Tryd.func24, Tryd.ntmps24
    go_wp2_with fail
    refine (unhide HK).mono ?_
    rintro e w1 ⟨rfl, hb1⟩
    have Hb1 := hide hb1
    clear hb1
    go_wp2
    go_ret2
    exact ⟨rfl, unhide Hb1⟩
  have h1' : ¬ (65536 : Int) < l.length := by omega
  have Hbad := hide (fun k (h : badT ns.length src.size l = some k) => show checkT ns src.size l = ((k : Int), 71) by simp [checkT, hkk, h1, h])
  have Hgood := hide (fun (h : badT ns.length src.size l = none) => show checkT ns src.size l = (0, 0) by simp [checkT, hkk, h1, h])
  generalize checkT ns src.size l = V at *
  obtain ⟨V1, V2⟩ := V
  have Htok := hide htok
  clear hkk hrow htok
  go_enter Tryd.func24, Tryd.ntmps24
  go_wp2_with fail
  refine (unhide HK).mono ?_
  rintro e w1 ⟨rfl, hb1⟩
  have Hb1 := hide hb1
  have hs1 := hb1.size
  clear hb1 HK
  go_wp2
  go_loopw [25] (fun x wr => ∃ k : Nat, x = .int .i64 k ∧ k ≤ l.length ∧ Below w.heap.size w wr ∧ wr.heap[w1.heap.size]? = some (.cells #[.slice a ns.length cap, .string src, .int .i64 (reachAt l k)] 71 (0, 0)) ∧ okTo ns.length src.size l k) (fun x _ => l.length - (intOf x).toNat)
  case atStart => exact ⟨0, rfl, Nat.zero_le _, (unhide Hb1).alloc hs1 _, heap_new _ _, fun j hj => absurd hj (Nat.not_lt_zero _)⟩
  case round =>
    obtain ⟨k, rfl, hk, hbel, hG, hok⟩ := hrel
    have hsz := hbel.size
    have hGl := lt_of_some hG
    have Hbel := hide hbel; have HG := hide hG; have Hok := hide hok
    clear hbel hG hok
    by_cases hlt : k < l.length
    · have hlt' : (k : Int) < l.length := by omega
      obtain ⟨b, off, rfl, hb, hc⟩ := trow_pos (trow_below (unhide Htok) (Nat.le_refl _) (unhide Hbel)) hlt
      obtain ⟨q0, q1, q2⟩ := hc k hlt
      have Hsuc := hide (reachAt_succ l k)
      have Hokt := hide (show okT ns.length src.size l k = takeB ns.length src.size (reachAt l k) (l.getD k (0, 0, 0)) from rfl)
      have Hbs := hide (fun h => badT_some (n := ns.length) (sz := src.size) hlt (unhide Hok) h)
      have Hos := hide (fun h => okTo_succ (n := ns.length) (sz := src.size) (unhide Hok) h)
      clear hc
      generalize l.getD k (0, 0, 0) = x at *
      generalize reachAt l k = r at *
      obtain ⟨x0, x1, x2⟩ := x
      simp only at q0 q1 q2 Hsuc
      have hG' : ∀ o, (wr.alloc o).heap[w1.heap.size]? = some (.cells #[.slice a ns.length cap, .string src, .int .i64 r] 71 (0, 0)) := fun o => (Below.heap_alloc wr o _ hGl).trans (unhide HG)
      cases ht : takeB ns.length src.size r (x0, x1, x2)
      · have HT := hide (fun o => take_no w1.heap.size a ns.length cap src r x0 x1 x2 (wr.alloc o) (cell_block (hG' o) 0 _ rfl) (cell_block (hG' o) 1 _ rfl) (cell_block (hG' o) 2 _ rfl) ht)
        have Hr := hide (unhide Hbad k (unhide Hbs (by rw [unhide Hokt, ht])))
        clear ht hG'
        go_wp2_with fail
        refine (unhide HT _).mono ?_
        rintro e w2 ⟨rfl, hb2⟩
        have Hb2 := hide (((unhide Hbel).alloc hsz _).trans (hb2.mono (by simp; omega)))
        clear hb2
        go_wp2
        go_ret2
        obtain ⟨rfl, rfl⟩ := Prod.mk.inj (unhide Hr)
        exact ⟨rfl, unhide Hb2⟩
      · have HT := hide (fun o => take_yes w1.heap.size a ns.length cap src r x0 x1 x2 (wr.alloc o) (cell_block (hG' o) 0 _ rfl) (cell_block (hG' o) 1 _ rfl) (cell_block (hG' o) 2 _ rfl) (frozen_block (hG' o) 2) ht)
        have Ho := hide (unhide Hos (by rw [unhide Hokt, ht]))
        have HG' := hide hG'
        clear ht hG'
        go_wp2_with fail
        refine (unhide HT _).mono ?_
        rintro e w2 ⟨rfl, hb2⟩
        have Hb2 := hide ((((unhide Hbel).alloc hsz _).setCell (p := ⟨w1.heap.size, 2, none⟩) hs1 _).trans (hb2.mono (by simp; omega)))
        have HG2 := hide ((hb2.block w1.heap.size (by simp; omega)).trans (block_set (i := 2) (unhide HG' _) _))
        clear hb2
        go_wp2
        go_roundw
        case rel => exact ⟨k + 1, by go_num, by omega, unhide Hb2, by rw [unhide Hsuc]; exact unhide HG2, unhide Ho⟩
        case measure => simp [intOf]; omega
    · obtain rfl : k = l.length := by omega
      have Hr := hide (unhide Hgood (badT_none (unhide Hok)))
      go_wp2
      go_ret2
      obtain ⟨rfl, rfl⟩ := Prod.mk.inj (unhide Hr)
      exact ⟨rfl, unhide Hbel⟩
end Go.Proofs.YtkckcnjamlpadabDoor

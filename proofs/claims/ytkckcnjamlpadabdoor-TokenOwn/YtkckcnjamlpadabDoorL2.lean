/- Lines. -/
import Derived.Test.YtkckcnjamlpadabDoorL1
namespace Go.Proofs.YtkckcnjamlpadabDoor
open Go.RowKit Go.Maps

theorem badT_inv {n sz : Nat} {l : List T3} (h : badT n sz l = none) : okTo n sz l l.length := by
  unfold badT at h
  rw [List.find?_range_eq_none] at h
  intro j hj
  have := h j hj
  simpa using this
theorem checkT_ok {ns : List (List UInt8)} {sz : Nat} {l : List T3} (h : (checkT ns sz l).2 = 0) : kindsB ns = true ∧ l.length ≤ 65536 ∧ okTo ns.length sz l l.length := by
  unfold checkT at h
  cases hk : kindsB ns
  · rw [hk] at h; simp at h
  · rw [hk] at h
    simp only [if_true] at h
    by_cases h1 : 65536 < l.length
    · rw [if_pos h1] at h; simp at h
    · rw [if_neg h1] at h
      refine ⟨rfl, by omega, ?_⟩
      cases hb : badT ns.length sz l with
      | none => exact badT_inv hb
      | some k => rw [hb] at h; simp at h
theorem checkT_yes {ns : List (List UInt8)} {sz : Nat} {l : List T3} (h1 : kindsB ns = true) (h2 : l.length ≤ 65536) (h3 : okTo ns.length sz l l.length) : checkT ns sz l = (0, 0) := by
  unfold checkT
  rw [h1, if_pos rfl, if_neg (by omega), badT_none h3]
theorem takeB_iff {n sz : Nat} {r : Int} {x : T3} : takeB n sz r x = true ↔ 2 ≤ x.1 ∧ x.1 < n ∧ r ≤ x.2.1 ∧ x.2.1 ≤ x.2.2 ∧ x.2.2 ≤ sz := by simp [takeB]
theorem reach_nn {n sz : Nat} {l : List T3} : ∀ k, okTo n sz l k → 0 ≤ reachAt l k
  | 0, _ => by simp [reachAt]
  | k + 1, h => by
    rw [reachAt_succ]
    have h1 := reach_nn k (fun j hj => h j (by omega))
    have h2 := takeB_iff.1 (h k (by omega))
    omega
theorem tok_nat {n sz : Nat} {l : List T3} {j : Nat} (h : okTo n sz l (j + 1)) : ∃ k f t : Nat, l.getD j (0, 0, 0) = ((k : Int), (f : Int), (t : Int)) ∧ 2 ≤ k ∧ k < n ∧ reachAt l j ≤ f ∧ f ≤ t ∧ t ≤ sz := by
  have h1 := reach_nn j (fun i hi => h i (by omega))
  have h2 := takeB_iff.1 (h j (by omega))
  generalize l.getD j (0, 0, 0) = x at *
  obtain ⟨a, b, c⟩ := x
  simp only at h2
  refine ⟨a.toNat, b.toNat, c.toNat, ?_, by omega, by omega, by omega, by omega, by omega⟩
  simp only [Prod.mk.injEq]
  omega
theorem kinds_name {ns : List (List UInt8)} (h : kindsB ns = true) {j : Nat} (hj : j < ns.length) : (ns.getD j []).length ≤ 64 := nameB_le ((of_decide_eq_true h).2.2.2.2.1 j hj)

/-- A token's line. -/
def lineT (ns : List (List UInt8)) (src : ByteArray) (x : T3) : List UInt8 := lineL ns src x.1.toNat x.2.1.toNat x.2.2.toNat ++ [10]
def linesL (ns : List (List UInt8)) (src : ByteArray) (l : List T3) : List UInt8 := (l.map (lineT ns src)).flatten
def longX (x : T3) : Bool := decide (4096 < x.2.2 - x.2.1)
/-- What both Lines answer. -/
def linesT (ns : List (List UInt8)) (src : ByteArray) (l : List T3) : List UInt8 × Int :=
  if (checkT ns src.size l).2 = 0 then (if l.any longX then ([], 3) else (linesL ns src l, 0)) else ([], (checkT ns src.size l).2)
theorem linesL_step (ns : List (List UInt8)) (src : ByteArray) (l : List T3) (k : Nat) (h : k < l.length) : linesL ns src (l.take (k + 1)) = linesL ns src (l.take k) ++ lineT ns src (l.getD k (0, 0, 0)) := by
  rw [take_snoc l k (0, 0, 0) h]; simp [linesL]
theorem lineL_le (ns : List (List UInt8)) (src : ByteArray) (k f t : Nat) (h1 : (ns.getD k []).length ≤ 64) (h2 : f ≤ t) (h3 : t ≤ src.size) (h4 : src.size ≤ 9223372036854775807) (h5 : t - f ≤ 4096) : (lineL ns src k f t).length ≤ 19999 := by
  have lf : (Lib.decDigits f).length ≤ 20 := by rw [Lib.decDigits_length]; exact Lib.nDigits_le20 f (by omega)
  have lt : (Lib.decDigits t).length ≤ 20 := by rw [Lib.decDigits_length]; exact Lib.nDigits_le20 t (by omega)
  have lq := quoteL_le (src.extract f t)
  have hsz : (src.extract f t).size = t - f := by simp; omega
  unfold lineL
  simp only [List.length_append, List.length_cons, List.length_nil]
  omega
theorem builder_below {w w' : World} {B b : Nat} {bs : List Value} (h : Lib.IsBuilder 62 5 B b bs w) {M : Nat} (hM : w.heap.size ≤ M) (hb : Below M w w') : Lib.IsBuilder 62 5 B b bs w' := by
  rcases h with ⟨h1, v, h2, h3, h4⟩ | ⟨h1, v, h2, h3, h4⟩
  · exact .inl ⟨h1, v, (hb.block b (Nat.lt_of_lt_of_le (lt_of_some h2) hM)).trans h2, ownsRow_below h3 hb hM, h4⟩
  · exact .inr ⟨h1, v, (hb.block b (Nat.lt_of_lt_of_le (lt_of_some h2) hM)).trans h2, ownsRow_below h3 hb hM, h4⟩
theorem builder_new (w : World) (B : Nat) (hB : B ≤ w.heap.size) : Lib.IsBuilder 62 5 B w.heap.size (Lib.byteCells []) (w.alloc (.cells #[.pointer none, .slice none 0 0] 62)) :=
  .inl ⟨hB, .slice none 0 0, heap_new _ _, World.ownsRow_nil _ _ _ _, by simp [Value.ownBlock]⟩
theorem any_take {l : List T3} {k : Nat} (hk : k < l.length) (h : longX (l.getD k (0, 0, 0)) = true) : l.any longX = true := by
  rw [List.any_eq_true]
  exact ⟨l.getD k (0, 0, 0), by rw [List.getD_eq_getElem?_getD, List.getElem?_eq_getElem hk]; exact List.getElem_mem hk, h⟩
def shortTo (l : List T3) (k : Nat) : Prop := ∀ j, j < k → longX (l.getD j (0, 0, 0)) = false
theorem any_none {l : List T3} (h : shortTo l l.length) : l.any longX = false := by
  rw [List.any_eq_false]
  intro x hx
  obtain ⟨j, hj, rfl⟩ := List.mem_iff_getElem.1 hx
  have := h j hj
  rw [List.getD_eq_getElem?_getD, List.getElem?_eq_getElem hj] at this
  simpa using this

set_option maxHeartbeats 2000000 in
set_option maxRecDepth 100000 in
theorem lines_any (a : Option Addr) (cap : Nat) (ns : List (List UInt8)) (src : ByteArray) (hsrc : src.size ≤ 9223372036854775807) (b : Option Addr) (cab : Nat) (l : List T3) (w : World) (hrow : SRow w a ns) (htok : TRow w b l) (hE : Env w) :
    Calls Tryd.prog 18 #[.slice a ns.length cap, .string src, .slice b l.length cab] w fun e w' => e = .returned (.tuple #[.string (bs (linesT ns src l).1), .int .i64 (linesT ns src l).2]) ∧ Below w.heap.size w w' := by
  have HC := hide (check_any a cap ns src b cab l w hrow htok)
  by_cases hok : (checkT ns src.size l).2 = 0
  · obtain ⟨hk, hl, ho⟩ := checkT_ok hok
    have Hlong := hide (fun (h : l.any longX = true) => show linesT ns src l = ([], 3) by unfold linesT; rw [if_pos hok, if_pos h])
    have Hgood := hide (fun (h : l.any longX = false) => show linesT ns src l = (linesL ns src l, 0) by unfold linesT; rw [if_pos hok, h]; rfl)
    rw [hok] at HC
    generalize (checkT ns src.size l).1 = c1 at *
    generalize linesT ns src l = V at *
    obtain ⟨V1, V2⟩ := V
    have Hrow := hide hrow; have Htok := hide htok; have HE := hide hE; have Hk := hide hk; have Ho := hide ho
    clear hrow htok hE hk ho hok
    go_enter Tryd.func18, Tryd.ntmps18
    go_wp2_with fail
    refine (unhide HC).mono ?_
    rintro e w1 ⟨rfl, hb1⟩
    have Hb1 := hide hb1
    have hs1 := hb1.size
    clear hb1 HC
    go_wp2
    go_loopw [27] (fun x wr => ∃ k : Nat, x = .int .i64 k ∧ k ≤ l.length ∧ Below w.heap.size w wr ∧ Lib.IsBuilder 62 5 w.heap.size w1.heap.size (Lib.byteCells (linesL ns src (l.take k))) wr ∧ (linesL ns src (l.take k)).length ≤ 20000 * k ∧ shortTo l k) (fun x _ => l.length - (intOf x).toNat)
    case atStart => exact ⟨0, rfl, Nat.zero_le _, (unhide Hb1).alloc hs1 _, builder_new w1 _ hs1, by simp [linesL], fun j hj => absurd hj (Nat.not_lt_zero _)⟩
    case round =>
      obtain ⟨k, rfl, hk, hbel, hB, hll, hsh⟩ := hrel
      have hsz := hbel.size
      have Hbel := hide hbel; have HB := hide hB; have Hsh := hide hsh
      clear hbel hB hsh
      by_cases hlt : k < l.length
      · have hlt' : (k : Int) < l.length := by omega
        obtain ⟨tb, toff, rfl, htb, hc⟩ := trow_pos (trow_below (unhide Htok) (Nat.le_refl _) (unhide Hbel)) hlt
        obtain ⟨q0, q1, q2⟩ := hc k hlt
        obtain ⟨kn, fn, tn, hx, hk2, hkn, -, hft, hts⟩ := tok_nat (j := k) (fun j hj => unhide Ho j (by omega))
        have hnk := kinds_name (unhide Hk) hkn
        have Hst := hide (linesL_step ns src l k hlt)
        have Hlx := hide (fun (h : longX (l.getD k (0, 0, 0)) = true) => unhide Hlong (any_take hlt h))
        have Hss := hide (fun (h : longX (l.getD k (0, 0, 0)) = false) => show shortTo l (k + 1) from fun j hj => by
          by_cases e : j = k
          · subst e; exact h
          · exact unhide Hsh j (by omega))
        rw [hx] at q0 q1 q2 Hst Hlx Hss
        have HL := hide (fun o => lineOf_any a cap ns src hsrc kn fn tn hkn hnk hft hts (wr.alloc o) (srow_below (unhide Hrow) (Nat.le_refl _) ((unhide Hbel).alloc hsz o)) (env_below (unhide HE) ((unhide Hbel).alloc hsz o)))
        clear hc hx
        simp only at q0 q1 q2
        by_cases hq : tn - fn ≤ 4096
        · have hlong : longX ((kn : Int), (fn : Int), (tn : Int)) = false := by simp [longX]; omega
          have Hs2 := hide (unhide Hss hlong)
          have hle := lineL_le ns src kn fn tn hnk hft hts hsrc hq
          rw [show lineV ns src kn fn tn = (lineL ns src kn fn tn, 0) by unfold lineV; rw [if_pos hq]] at HL
          rw [show lineT ns src ((kn : Int), (fn : Int), (tn : Int)) = lineL ns src kn fn tn ++ [10] from rfl] at Hst
          generalize lineL ns src kn fn tn = X at *
          generalize linesL ns src (l.take k) = acc at *
          generalize hac : linesL ns src (l.take (k + 1)) = acc2 at *
          have Hac := hide hac
          clear hac
          clear Hlx Hss hlong
          go_wp2_with fail
          refine (unhide HL _).mono ?_
          rintro e w2 ⟨rfl, hb2⟩
          have Hb2 := hide (((unhide Hbel).alloc hsz _).trans (hb2.mono (by simp; omega)))
          have hB2 := builder_below (builder_below (unhide HB) (Nat.le_refl _) ((Below.refl _ _).alloc (Nat.le_refl _) _)) (Nat.le_refl _) hb2
          have hs2 := (unhide Hb2).size
          have HW := hide (writeString_any w.heap.size w1.heap.size _ (bs X) w2 hB2 (by rw [Lib.byteCells, List.length_map, bs_size]; omega) hs2)
          clear hb2 hB2 HL
          go_wp2_with fail
          refine (unhide HW).mono ?_
          rintro e w3 ⟨rfl, hB3, hb3⟩
          have hs3 := hb3.size
          have Hb3 := hide ((unhide Hb2).trans hb3)
          have HW2 := hide (writeByte_any w.heap.size w1.heap.size _ 10 w3 (.inr hB3) (by rw [List.length_append, Lib.strCells_length, Lib.byteCells, List.length_map, bs_size]; omega) (unhide Hb3).size)
          clear hB3 hb3 HW
          go_wp2_with fail
          refine (unhide HW2).mono ?_
          rintro e w4 ⟨rfl, hB4, hb4⟩
          have Hb4 := hide ((unhide Hb3).trans hb4)
          have HB4 := hide (show Lib.IsBuilder 62 5 w.heap.size w1.heap.size (Lib.byteCells acc2) w4 by
            rw [unhide Hst, Lib.byteCells_append, Lib.byteCells_append]
            rw [List.append_assoc] at hB4
            exact .inr hB4)
          have hal : acc2.length ≤ 20000 * (k + 1) := by rw [unhide Hst]; simp only [List.length_append, List.length_cons, List.length_nil]; omega
          clear hB4 hb4 HW2
          go_wp2
          go_roundw
          case rel => exact ⟨k + 1, by go_num, by omega, unhide Hb4, by rw [unhide Hac]; exact unhide HB4, by rw [unhide Hac]; exact hal, unhide Hs2⟩
          case measure => simp [intOf]; omega
        · have Hr := hide (unhide Hlx (by simp [longX]; omega))
          rw [show lineV ns src kn fn tn = ([], 3) by unfold lineV; rw [if_neg hq]] at HL
          clear Hst Hss Hlx
          go_wp2_with fail
          refine (unhide HL _).mono ?_
          rintro e w2 ⟨rfl, hb2⟩
          have Hb2 := hide (((unhide Hbel).alloc hsz _).trans (hb2.mono (by simp; omega)))
          clear hb2
          go_wp2
          go_ret2
          obtain ⟨rfl, rfl⟩ := Prod.mk.inj (unhide Hr)
          exact ⟨rfl, unhide Hb2⟩
      · obtain rfl : k = l.length := by omega
        have Hr := hide (unhide Hgood (any_none (unhide Hsh)))
        rw [List.take_length] at HB
        have HS := hide (Tryd.Builder_String_any w.heap.size w1.heap.size _ wr (unhide HB) hsz)
        go_wp2_with fail
        refine (unhide HS).mono ?_
        rintro e w2 ⟨rfl, hb2⟩
        have Hb2 := hide ((unhide Hbel).trans hb2)
        clear hb2
        go_wp2
        go_ret2
        obtain ⟨rfl, rfl⟩ := Prod.mk.inj (unhide Hr)
        exact ⟨rfl, unhide Hb2⟩
  · rw [show linesT ns src l = ([], (checkT ns src.size l).2) by unfold linesT; rw [if_neg hok]]
    have hok' : ((checkT ns src.size l).2 == 0) = false := by simp; omega
    clear hrow htok hE
    generalize checkT ns src.size l = V at *
    obtain ⟨V1, V2⟩ := V
    simp only at hok' HC hok
    go_enter Tryd.func18, Tryd.ntmps18
    go_wp2_with fail
    refine (unhide HC).mono ?_
    rintro e w1 ⟨rfl, hb1⟩
    have Hb1 := hide hb1
    clear hb1 HC
    go_wp2
    go_ret2
    exact ⟨rfl, unhide Hb1⟩
end Go.Proofs.YtkckcnjamlpadabDoor

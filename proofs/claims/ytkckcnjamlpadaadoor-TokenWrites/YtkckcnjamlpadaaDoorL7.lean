/- The law TokenBack, walked. -/
import Derived.Test.YtkckcnjamlpadaaDoorA1
namespace Go.Proofs.YtkckcnjamlpadaaDoor
open Go.RowKit Go.Maps

theorem short_of_any {l : List T3} (h : l.any longX = false) : shortTo l l.length := by
  intro j hj
  rw [List.any_eq_false] at h
  have := h (l.getD j (0, 0, 0)) (by rw [List.getD_eq_getElem?_getD, List.getElem?_eq_getElem hj]; exact List.getElem_mem hj)
  simpa using this
theorem linesL_le {ns : List (List UInt8)} {src : ByteArray} (hsrc : src.size ≤ 9223372036854775807) {l : List T3} (hk : kindsB ns = true) (ho : okTo ns.length src.size l l.length) (hs : shortTo l l.length) : ∀ k, k ≤ l.length → (linesL ns src (l.take k)).length ≤ 20000 * k
  | 0, _ => by simp [linesL]
  | k + 1, h => by
    have ih := linesL_le hsrc hk ho hs k (by omega)
    obtain ⟨kn, fn, tn, hx, hk2, hkn, -, hft, hts⟩ := tok_nat (j := k) (fun j hj => ho j (by omega))
    have hsh := hs k (by omega)
    rw [linesL_step ns src l k (by omega), hx, List.length_append]
    rw [hx] at hsh
    simp only [longX, decide_eq_false_iff_not] at hsh
    have := lineL_le ns src kn fn tn (kinds_name hk hkn) hft hts hsrc (by omega)
    have e : lineT ns src ((kn : Int), (fn : Int), (tn : Int)) = lineL ns src kn fn tn ++ [10] := rfl
    rw [e]
    simp only [List.length_append, List.length_cons, List.length_nil]
    omega
theorem lines_back {ns : List (List UInt8)} {src : ByteArray} (hsrc : src.size ≤ 9223372036854775807) {l : List T3} (h : (linesT ns src l).2 = 0) : readT ns src (linesT ns src l).1 = (l, 0, 0) ∧ (linesT ns src l).1.length ≤ 1310720000 := by
  unfold linesT at h ⊢
  by_cases hc : (checkT ns src.size l).2 = 0
  · rw [if_pos hc] at h ⊢
    obtain ⟨h1, h2, h3⟩ := checkT_ok hc
    cases ha : l.any longX
    · rw [ha] at h
      simp only [Bool.false_eq_true, if_false]
      refine ⟨read_lines hsrc h1 h2 h3 (short_of_any ha), ?_⟩
      have := linesL_le hsrc h1 h3 (short_of_any ha) l.length (Nat.le_refl _)
      rw [List.take_length] at this
      omega
    · rw [ha] at h; simp at h
  · rw [if_neg hc] at h
    exact absurd h hc

/-- What holds all through a law over kinds, a text and a row. -/
structure LB (w : World) (a : Option Addr) (ca : Nat) (ns : List (List UInt8)) (src : ByteArray) (b : Option Addr) (cb : Nat) (l : List T3) (W : World) : Prop where
  box : W.heap[w.heap.size]? = some (.cells #[.slice a ns.length ca, .string src, .slice b l.length cb] 25 (0, 0))
  row : SRow W a ns
  tok : TRow W b l
  env : Env W
  bel : Below w.heap.size w W
theorem LB.below {w : World} {a : Option Addr} {ca : Nat} {ns : List (List UInt8)} {src : ByteArray} {b : Option Addr} {cb : Nat} {l : List T3} {W W' : World} (h : LB w a ca ns src b cb l W) (hb : Below W.heap.size W W') : LB w a ca ns src b cb l W' :=
  ⟨(hb.block _ (lt_of_some h.box)).trans h.box, srow_below h.row (Nat.le_refl _) hb, trow_below h.tok (Nat.le_refl _) hb, env_below h.env hb, h.bel.trans (hb.mono h.bel.size)⟩
theorem LB.alloc {w : World} {a : Option Addr} {ca : Nat} {ns : List (List UInt8)} {src : ByteArray} {b : Option Addr} {cb : Nat} {l : List T3} {W : World} (h : LB w a ca ns src b cb l W) (o : Obj) : LB w a ca ns src b cb l (W.alloc o) := h.below ((Below.refl _ _).alloc (Nat.le_refl _) _)
theorem LB.new {w : World} {a : Option Addr} {ca : Nat} {ns : List (List UInt8)} {src : ByteArray} {b : Option Addr} {cb : Nat} {l : List T3} (h1 : SRow w a ns) (h2 : TRow w b l) (h3 : Env w) : LB w a ca ns src b cb l (w.alloc (.cells #[.slice a ns.length ca, .string src, .slice b l.length cb] 25)) :=
  ⟨heap_new _ _, srow_below h1 (Nat.le_refl _) ((Below.refl _ _).alloc (Nat.le_refl _) _), trow_below h2 (Nat.le_refl _) ((Below.refl _ _).alloc (Nat.le_refl _) _), env_below h3 ((Below.refl _ _).alloc (Nat.le_refl _) _), (Below.refl _ _).alloc (Nat.le_refl _) _⟩

/-- The law's second half: what is read has its lines. -/
def backPost (w : World) (e : Ending) (w' : World) : Prop := e = .returned (.bool true) ∧ Below w.heap.size w w'
set_option maxHeartbeats 4000000 in
set_option maxRecDepth 100000 in
theorem back_walk (a : Option Addr) (ca : Nat) (ns : List (List UInt8)) (src : ByteArray) (hsrc : src.size ≤ 9223372036854775807) (b : Option Addr) (cb : Nat) (l : List T3) (hl9 : l.length ≤ 281474976710656) (lines : List UInt8) (hl : lines.length ≤ 281474976710656) (w : World) (hrow : SRow w a ns) (htok : TRow w b l) (hE : Env w) :
    Calls Tryd.prog 7 #[.agg #[.slice a ns.length ca, .string src, .slice b l.length cb], .string (bs lines)] w fun e w' => backPost w e w' := by
  have HLB := hide (LB.new (ca := ca) (src := src) (cb := cb) hrow htok hE)
  have q43 := fun a b w => neq43 a b 0 0 w
  have g43 := guard43
  clear hrow htok hE
  have Hback := hide (fun h => lines_back (ns := ns) (l := l) hsrc h)
  have Hlr := hide (fun m (h : readT ns src lines = (m, 0, 0)) => lines_read h)
  have Hrw := hide (read_wrong ns src lines)
  go_enter Tryd.func7, Tryd.ntmps7
  go_wp2_with fail
  refine (alive_any _ (unhide HLB).env).mono ?_
  rintro e w1 ⟨rfl, hb1⟩
  have h1 := (unhide HLB).below hb1
  have b0 := cell_block h1.box 0 _ rfl
  have b1 := cell_block h1.box 1 _ rfl
  have b2 := cell_block h1.box 2 _ rfl
  have HL := hide (lines_any a ca ns src hsrc b cb l w1 h1.row h1.tok h1.env)
  have H1 := hide h1
  clear h1 hb1 HLB
  go_wp2_with fail
  refine (unhide HL).mono ?_
  rintro e w2 ⟨rfl, hb2⟩
  have h2 := (unhide H1).below hb2
  have H2 := hide h2
  clear h2 hb2 HL H1 b0 b1 b2
  by_cases he : (linesT ns src l).2 = 0
  · obtain ⟨hr, hlen⟩ := unhide Hback he
    rw [he]
    generalize (linesT ns src l).1 = S at *
    have b0 := cell_block (unhide H2).box 0 _ rfl
    have b1 := cell_block (unhide H2).box 1 _ rfl
    have HR := hide (read_any a ca ns src hsrc S (by omega) w2 (unhide H2).row (unhide H2).env)
    rw [hr] at HR
    go_wp2_with fail
    refine (unhide HR).mono ?_
    rintro e w3 ⟨v, rfl, hown, hb3⟩
    have h3 := (unhide H2).below hb3
    obtain ⟨va, vc, rfl, htr, -⟩ := trow_own hown
    have q3 := fun w => neq43 0 0 0 0 w
    rw [show (!decide (((0 : Int), (0 : Int)) = (0, 0))) = false by decide] at q3
    have HS := hide (fun o => same_any va b vc cb l l hl9 (w3.alloc o) (trow_below htr (Nat.le_refl _) ((Below.refl _ _).alloc (Nat.le_refl _) o)) (h3.alloc o).tok)
    rw [show decide (l = l) = true from decide_eq_true rfl] at HS
    have c2 := fun o => cell_block (h3.alloc o).box 2 _ rfl
    have H3 := hide (fun o => h3.alloc o)
    clear h3 hb3 hown htr HR b0 b1 hr H2 Hback
    go_wp2_with fail
    refine (unhide HS _).mono ?_
    rintro e w4 ⟨rfl, hb4⟩
    have H4 := hide ((unhide H3 _).below hb4)
    clear hb4 H3 HS q3 c2
    have b0 := cell_block (unhide H4).box 0 _ rfl
    have b1 := cell_block (unhide H4).box 1 _ rfl
    have HRD := hide (read_any a ca ns src hsrc lines hl w4 (unhide H4).row (unhide H4).env)
    generalize readT ns src lines = Z at *
    obtain ⟨m, z1, z2⟩ := Z
    simp only at HRD Hrw
    go_wp2_with fail
    refine (unhide HRD).mono ?_
    rintro e W7 ⟨v, rfl, hown, hb7⟩
    have h7 := (unhide H4).below hb7
    obtain ⟨va, vc, rfl, htr, -⟩ := trow_own hown
    have hlen7 := hown.1
    rcases unhide Hrw with hz | ⟨hz1, hz2⟩
    · obtain ⟨rfl, rfl⟩ := Prod.mk.inj hz
      have hlr := unhide Hlr m rfl
      have q7 := fun w => neq43 0 0 0 0 w
      rw [show (!decide (((0 : Int), (0 : Int)) = (0, 0))) = false by decide] at q7
      have HL7 := hide (fun o => lines_any a ca ns src hsrc va vc m (W7.alloc o) (h7.alloc o).row (trow_below htr (Nat.le_refl _) ((Below.refl _ _).alloc (Nat.le_refl _) o)) (h7.alloc o).env)
      rw [hlr] at HL7
      have c0 := fun o => cell_block (h7.alloc o).box 0 _ rfl
      have c1 := fun o => cell_block (h7.alloc o).box 1 _ rfl
      have H7 := hide (fun o => h7.alloc o)
      clear h7 hb7 hown htr hlen7 hz hlr HRD b0 b1 q43 Hlr Hrw
      go_wp2_with fail
      refine (unhide HL7 _).mono ?_
      rintro e W8 ⟨rfl, hb8⟩
      have HB8 := hide ((unhide H7 _).below hb8).bel
      clear hb8 HL7 H7
      go_wp2
      go_ret
      exact ⟨rfl, unhide HB8⟩
    · subst hz1
      have q7 := fun w => neq43 z1 z2 0 0 w
      rw [show (!decide ((z1, z2) = (0, 0))) = true by simp; omega] at q7
      have HB7 := hide (fun o => (h7.alloc o).bel)
      clear h7 hb7 hown htr hlen7 HRD b0 b1 q43 Hlr Hrw
      go_wp2
      go_ret
      exact ⟨rfl, unhide HB7 _⟩
  · have he' : ((linesT ns src l).2 == 0) = false := by rw [beq_eq_false_iff_ne]; exact he
    clear he Hback
    generalize linesT ns src l = V at *
    obtain ⟨V1, V2⟩ := V
    simp only at he'
    have b0 := cell_block (unhide H2).box 0 _ rfl
    have b1 := cell_block (unhide H2).box 1 _ rfl
    have HRD := hide (read_any a ca ns src hsrc lines hl w2 (unhide H2).row (unhide H2).env)
    generalize readT ns src lines = Z at *
    obtain ⟨m, z1, z2⟩ := Z
    simp only at HRD Hrw
    go_wp2_with fail
    refine (unhide HRD).mono ?_
    rintro e W7 ⟨v, rfl, hown, hb7⟩
    have h7 := (unhide H2).below hb7
    obtain ⟨va, vc, rfl, htr, -⟩ := trow_own hown
    have hlen7 := hown.1
    rcases unhide Hrw with hz | ⟨hz1, hz2⟩
    · obtain ⟨rfl, rfl⟩ := Prod.mk.inj hz
      have hlr := unhide Hlr m rfl
      have q7 := fun w => neq43 0 0 0 0 w
      rw [show (!decide (((0 : Int), (0 : Int)) = (0, 0))) = false by decide] at q7
      have HL7 := hide (fun o => lines_any a ca ns src hsrc va vc m (W7.alloc o) (h7.alloc o).row (trow_below htr (Nat.le_refl _) ((Below.refl _ _).alloc (Nat.le_refl _) o)) (h7.alloc o).env)
      rw [hlr] at HL7
      have c0 := fun o => cell_block (h7.alloc o).box 0 _ rfl
      have c1 := fun o => cell_block (h7.alloc o).box 1 _ rfl
      have H7 := hide (fun o => h7.alloc o)
      clear h7 hb7 hown htr hlen7 hz hlr HRD b0 b1 q43 Hlr Hrw
      go_wp2_with fail
      refine (unhide HL7 _).mono ?_
      rintro e W8 ⟨rfl, hb8⟩
      have HB8 := hide ((unhide H7 _).below hb8).bel
      clear hb8 HL7 H7
      go_wp2
      go_ret
      exact ⟨rfl, unhide HB8⟩
    · subst hz1
      have q7 := fun w => neq43 z1 z2 0 0 w
      rw [show (!decide ((z1, z2) = (0, 0))) = true by simp; omega] at q7
      have HB7 := hide (fun o => (h7.alloc o).bel)
      clear h7 hb7 hown htr hlen7 HRD b0 b1 q43 Hlr Hrw
      go_wp2
      go_ret
      exact ⟨rfl, unhide HB7 _⟩
end Go.Proofs.YtkckcnjamlpadaaDoor

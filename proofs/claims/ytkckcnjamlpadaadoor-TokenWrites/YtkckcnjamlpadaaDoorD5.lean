/- The document's Lines. -/
import Derived.Test.YtkckcnjamlpadaaDoorD4
import Derived.Test.YtkckcnjamlpadaaDoorG3
namespace Go.Proofs.YtkckcnjamlpadaaDoor
open Go.RowKit Go.Maps

set_option maxHeartbeats 4000000 in
set_option maxRecDepth 100000 in
theorem rLines_any (a : Option Addr) (cap : Nat) (ns : List (List UInt8)) (src : ByteArray) (hsrc : src.size ≤ 9223372036854775807) (b : Option Addr) (cab : Nat) (l : List T3) (w : World) (hrow : SRow w a ns) (htok : TRow w b l) (hE : Env w) :
    Calls Tryd.prog 17 #[.slice a ns.length cap, .string src, .slice b l.length cab] w fun e w' => e = .returned (.tuple #[.string (bs (linesT ns src l).1), .int .i64 (linesT ns src l).2]) ∧ Below w.heap.size w w' := by
  obtain ⟨i0, hi, hz0, hz1, hz2⟩ := info_parts hbyte
  have HC := hide (rCheck_any a cap ns src b cab l w hrow htok)
  by_cases hok : (checkT ns src.size l).2 = 0
  · obtain ⟨hk, hl, ho⟩ := checkT_ok hok
    have Hlong := hide (fun (h : l.any longX = true) => show linesT ns src l = ([], 3) by unfold linesT; rw [if_pos hok, if_pos h])
    have Hgood := hide (fun (h : l.any longX = false) => show linesT ns src l = (linesL ns src l, 0) by unfold linesT; rw [if_pos hok, h]; rfl)
    rw [hok] at HC
    generalize (checkT ns src.size l).1 = c1 at *
    generalize linesT ns src l = V at *
    obtain ⟨V1, V2⟩ := V
    have Hrow := hide hrow; have Htok := hide htok; have HE := hide hE; have Hk := hide hk; have Ho := hide ho
    clear hrow htok hE hk ho hok
    go_enter Tryd.func17, Tryd.ntmps17
    go_wp2_with fail
    refine (unhide HC).mono ?_
    rintro e w1 ⟨rfl, hb1⟩
    have Hb1 := hide hb1
    have hs1 := hb1.size
    clear hb1 HC
    go_wp2
    go_loopw [9, 10] (fun y x wr => ∃ (k : Nat) (c : Int), x = .int .i64 k ∧ y = .int .i64 c ∧ k ≤ l.length ∧ Below w.heap.size w wr ∧ ((c = 0 ∧ shortTo l k) ∨ (c = 3 ∧ l.any longX = true))) (fun _ x _ => l.length - (intOf x).toNat)
    case atStart => exact ⟨0, 0, rfl, rfl, Nat.zero_le _, unhide Hb1, .inl ⟨rfl, fun j hj => absurd hj (Nat.not_lt_zero _)⟩⟩
    case round =>
      obtain ⟨k, c, rfl, rfl, hk, hbel, hcc⟩ := hrel
      have hsz := hbel.size
      have Hbel := hide hbel
      clear hbel
      rcases hcc with ⟨rfl, hsh⟩ | ⟨rfl, hany⟩
      · have Hsh := hide hsh
        clear hsh
        by_cases hlt : k < l.length
        · have hlt' : (k : Int) < l.length := by omega
          obtain ⟨tb, toff, rfl, htb, hc⟩ := trow_pos (trow_below (unhide Htok) (Nat.le_refl _) (unhide Hbel)) hlt
          obtain ⟨q0, q1, q2⟩ := hc k hlt
          obtain ⟨kn, fn, tn, hx, hk2, hkn, -, hft, hts⟩ := tok_nat (j := k) (fun j hj => unhide Ho j (by omega))
          have Hlx := hide (fun (h : longX (l.getD k (0, 0, 0)) = true) => any_take hlt h)
          have Hss := hide (fun (h : longX (l.getD k (0, 0, 0)) = false) => show shortTo l (k + 1) from fun j hj => by
            by_cases e : j = k
            · subst e; exact h
            · exact unhide Hsh j (by omega))
          rw [hx] at q0 q1 q2 Hlx Hss
          clear hc hx
          simp only at q0 q1 q2
          by_cases hq : tn - fn ≤ 4096
          · have hq' : ¬ (4096 : Int) < (tn : Int) - (fn : Int) := by omega
            have Hs2 := hide (unhide Hss (by simp [longX]; omega))
            clear Hlx Hss
            go_wp2
            go_quiet (fail)
            go_wp2
            go_roundw
            case rel => exact ⟨k + 1, 0, by go_num, rfl, by omega, below_drewN (unhide Hbel) _, .inl ⟨rfl, unhide Hs2⟩⟩
            case measure => simp [intOf]; omega
          · have hq' : (4096 : Int) < (tn : Int) - (fn : Int) := by omega
            have Hs2 := hide (unhide Hlx (by simp [longX]; omega))
            clear Hlx Hss
            go_wp2
            go_quiet (fail)
            go_wp2
            go_roundw
            case rel => exact ⟨k + 1, 3, by go_num, rfl, by omega, below_drewN (unhide Hbel) _, .inr ⟨rfl, unhide Hs2⟩⟩
            case measure => simp [intOf]; omega
        · obtain rfl : k = l.length := by omega
          have Hr := hide (unhide Hgood (any_none (unhide Hsh)))
          go_wp2
          go_loopw [11, 12] (fun u x wr2 => ∃ (k : Nat) (acc : List UInt8), x = .int .i64 k ∧ k ≤ l.length ∧ acc = linesL ns src (l.take k) ∧ wr2.ownsRow w.heap.size 5 1 u acc.length (Lib.byteCells acc) ∧ acc.length ≤ 20000 * k ∧ Below w.heap.size w wr2) (fun _ x _ => l.length - (intOf x).toNat)
          case atStart => exact ⟨0, [], rfl, Nat.zero_le _, by simp [linesL], World.ownsRow_nil _ _ _ _, by simp, unhide Hbel⟩
          case round =>
            obtain ⟨k, acc, rfl, hk, hac, hown, hal, hbel⟩ := hrel
            have hsz := hbel.size
            obtain ⟨ua, ucap, rfl⟩ := ownsRow_slice hown
            have Hbel := hide hbel; have Hown := hide hown; have Hac := hide hac
            clear hbel hown hac
            by_cases hlt : k < l.length
            · have hlt' : (k : Int) < l.length := by omega
              obtain ⟨tb, toff, rfl, htb, hc⟩ := trow_pos (trow_below (unhide Htok) (Nat.le_refl _) (unhide Hbel)) hlt
              obtain ⟨q0, q1, q2⟩ := hc k hlt
              obtain ⟨kn, fn, tn, hx, hk2, hkn, -, hft, hts⟩ := tok_nat (j := k) (fun j hj => unhide Ho j (by omega))
              have hnk := kinds_name (unhide Hk) hkn
              have Hst := hide (linesL_step ns src l k hlt)
              have hsx := unhide Hsh k hlt
              rw [hx] at q0 q1 q2 Hst hsx
              clear hc hx
              have hq : tn - fn ≤ 4096 := by simp [longX] at hsx; omega
              clear hsx
              simp only at q0 q1 q2
              have HL := hide (rLine_any a cap ns src hsrc kn fn tn hkn hnk hft hts hq wr (srow_below (unhide Hrow) (Nat.le_refl _) (unhide Hbel)) (env_below (unhide HE) (unhide Hbel)))
              have hle := lineL_le ns src kn fn tn hnk hft hts hsrc hq
              rw [show lineT ns src ((kn : Int), (fn : Int), (tn : Int)) = lineL ns src kn fn tn ++ [10] from rfl] at Hst
              have hle' : (lineL ns src kn fn tn ++ [10]).length ≤ 20000 := by simp; omega
              generalize lineL ns src kn fn tn ++ [10] = X at *
              clear hle
              go_wp2_with fail
              refine (unhide HL).mono ?_
              rintro e w2 ⟨rfl, hb2⟩
              have Hb2 := hide ((unhide Hbel).trans (hb2.mono hsz))
              have hs2 := (unhide Hb2).size
              have Ho2 := hide (ownsRow_below (unhide Hown) hb2 (Nat.le_refl _))
              clear hb2 HL
              go_wp2_with (at_builtin; refine Lib.wpList_append_own_string _ rfl _ _ 76 9 rfl w.heap.size 5 i0 Tryd.underlying76 Tryd.underlying9 hi hz0 hz1 hz2 _ _ _ rfl (unhide Ho2) (bs X) rfl ?c3 ?c4 ?c5 ?_)
              case c3 => rw [bs_size]; unfold maxLen; omega
              case c4 => rw [bs_size]; omega
              case c5 => omega
              intro v' w3 hown' hgrow _
              have Hb3 := hide ((unhide Hb2).grown hgrow (by omega) (fun x hx => ((unhide Ho2).lt x hx).1))
              have Hown' := hide hown'
              clear hown' hgrow
              go_wp2
              go_roundw
              case rel =>
                refine ⟨k + 1, acc ++ X, by go_num, by omega, by rw [unhide Hst, ← unhide Hac], ?_, by rw [List.length_append]; omega, unhide Hb3⟩
                rw [Lib.byteCells_append, List.length_append]
                exact unhide Hown'
              case measure => simp [intOf]; omega
            · obtain rfl : k = l.length := by omega
              have hcv := own_to_string (unhide Hown)
              have Hac2 := unhide Hac
              rw [List.take_length] at Hac2
              rw [← Hac2] at Hr
              have Hr := hide Hr
              clear Hac2
              go_wp2
              go_ret2
              obtain ⟨rfl, rfl⟩ := Prod.mk.inj (unhide Hr)
              exact ⟨rfl, unhide Hbel⟩
      · have Hr := hide (unhide Hlong hany)
        clear hany
        by_cases hkl : (k : Int) < l.length
        · go_wp2
          go_ret2
          obtain ⟨rfl, rfl⟩ := Prod.mk.inj (unhide Hr)
          exact ⟨rfl, unhide Hbel⟩
        · go_wp2
          go_ret2
          obtain ⟨rfl, rfl⟩ := Prod.mk.inj (unhide Hr)
          exact ⟨rfl, unhide Hbel⟩
  · rw [show linesT ns src l = ([], (checkT ns src.size l).2) by unfold linesT; rw [if_neg hok]]
    have hok' : ((checkT ns src.size l).2 == 0) = false := by simp; omega
    clear hrow htok hE
    generalize checkT ns src.size l = V at *
    obtain ⟨V1, V2⟩ := V
    simp only at hok' HC hok
    go_enter Tryd.func17, Tryd.ntmps17
    go_wp2_with fail
    refine (unhide HC).mono ?_
    rintro e w1 ⟨rfl, hb1⟩
    have Hb1 := hide hb1
    have hs1 := hb1.size
    clear hb1 HC
    go_wp2
    go_loopw [9, 10] (fun y x wr => y = .int .i64 V2 ∧ x = .int .i64 0 ∧ Below w.heap.size w wr) (fun _ _ _ => 0)
    case atStart => exact ⟨rfl, rfl, unhide Hb1⟩
    case round =>
      obtain ⟨rfl, rfl, hbel⟩ := hrel
      have Hbel := hide hbel
      clear hbel
      by_cases h0 : (0 : Int) < l.length
      · go_wp2
        go_ret2
        exact ⟨rfl, unhide Hbel⟩
      · go_wp2
        go_ret2
        exact ⟨rfl, unhide Hbel⟩
end Go.Proofs.YtkckcnjamlpadaaDoor

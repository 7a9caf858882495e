/- The document's right and Check; both Finds. -/
import Derived.Test.YtkckcnjamlpadaaDoorG2
namespace Go.Proofs.YtkckcnjamlpadaaDoor
open Go.RowKit Go.Maps

set_option maxHeartbeats 4000000 in
set_option maxRecDepth 100000 in
theorem right_any (n : Nat) (src : ByteArray) (a : Option Addr) (cap : Nat) (l : List T3) (hl9 : l.length ≤ 281474976710656) (k : Nat) (hk : k < l.length) (w : World) (h : TRow w a l) :
    Calls Tryd.prog 33 #[.int .i64 (n : Int), .string src, .slice a l.length cap, .int .i64 (k : Int)] w fun e w' => e = .returned (.bool (okT n src.size l k)) ∧ Below w.heap.size w w' := by
  obtain ⟨b, off, rfl, hb, hc⟩ := trow_pos h hk
  obtain ⟨q0, q1, q2⟩ := hc k hk
  have hk' : (k : Int) < l.length := by omega
  unfold okT
  by_cases h0 : k = 0
  · have h0' : ¬ (0 : Int) < k := by omega
    rw [show reachAt l k = 0 by simp [reachAt, h0]]
    clear hc h h0
    generalize l.getD k (0, 0, 0) = x at *
    obtain ⟨x0, x1, x2⟩ := x
    simp only at q0 q1 q2
    have Ht := hide (show takeB n src.size 0 (x0, x1, x2) = decide (2 ≤ x0 ∧ x0 < n ∧ 0 ≤ x1 ∧ x1 ≤ x2 ∧ x2 ≤ src.size) from rfl)
    generalize takeB n src.size 0 (x0, x1, x2) = R at *
    go_enter Tryd.func33, Tryd.ntmps33
    go_wp2
    all_goals
      go_ret
      refine ⟨ret_bool ?_, (Below.refl _ _).alloc (Nat.le_refl _) _⟩
      rw [unhide Ht]
      rw [Bool.eq_iff_iff]
      simp
      omega
  · obtain ⟨m, rfl⟩ : ∃ m, k = m + 1 := ⟨k - 1, by omega⟩
    obtain ⟨-, -, p2⟩ := hc m (by omega)
    have h0' : (0 : Int) < ((m + 1 : Nat) : Int) := by omega
    rw [reachAt_succ]
    have hm' : (m : Int) < l.length := by omega
    have hm9 : m ≤ 281474976710656 := by omega
    clear hc h h0
    generalize l.getD (m + 1) (0, 0, 0) = x at *
    generalize l.getD m (0, 0, 0) = y at *
    obtain ⟨x0, x1, x2⟩ := x
    obtain ⟨y0, y1, y2⟩ := y
    simp only at q0 q1 q2 p2
    have Ht := hide (show takeB n src.size y2 (x0, x1, x2) = decide (2 ≤ x0 ∧ x0 < n ∧ y2 ≤ x1 ∧ x1 ≤ x2 ∧ x2 ≤ src.size) from rfl)
    simp only
    generalize takeB n src.size y2 (x0, x1, x2) = R at *
    go_enter Tryd.func33, Tryd.ntmps33
    go_wp2
    all_goals
      go_ret
      refine ⟨ret_bool ?_, (Below.refl _ _).alloc (Nat.le_refl _) _⟩
      rw [unhide Ht]
      rw [Bool.eq_iff_iff]
      simp
      omega

set_option maxHeartbeats 2000000 in
set_option maxRecDepth 100000 in
theorem rCheck_any (a : Option Addr) (cap : Nat) (ns : List (List UInt8)) (src : ByteArray) (b : Option Addr) (cab : Nat) (l : List T3) (w : World) (hrow : SRow w a ns) (htok : TRow w b l) :
    Calls Tryd.prog 12 #[.slice a ns.length cap, .string src, .slice b l.length cab] w fun e w' => e = .returned (.tuple #[.int .i64 (checkT ns src.size l).1, .int .i64 (checkT ns src.size l).2]) ∧ Below w.heap.size w w' := by
  have HK := hide (rKinds_any a cap ns w hrow)
  cases hkk : kindsB ns
  · rw [hkk] at HK
    rw [show checkT ns src.size l = (0, 70) by simp [checkT, hkk]]
    clear hkk hrow htok
    go_enter Tryd.func12, Tryd.ntmps12
    go_wp2_with fail
    refine (unhide HK).mono ?_
    rintro e w1 ⟨rfl, hb1⟩
    have Hb1 := hide hb1
    clear hb1
    go_wp2
    go_ret2
    exact ⟨rfl, unhide Hb1⟩
  rw [hkk] at HK
  by_cases h1 : 65536 < l.length
  · rw [show checkT ns src.size l = (65536, 71) by simp [checkT, hkk, h1]]
    have h1' : (65536 : Int) < l.length := by omega
    clear hkk hrow htok
    go_enter Tryd.func12, Tryd.ntmps12
    go_wp2_with fail
    refine (unhide HK).mono ?_
    rintro e w1 ⟨rfl, hb1⟩
    have Hb1 := hide hb1
    clear hb1
    go_wp2
    go_ret2
    exact ⟨rfl, unhide Hb1⟩
  have h1' : ¬ (65536 : Int) < l.length := by omega
  have Hbad := hide (fun k (h : badT ns.length src.size l = some k) => show checkT ns src.size l = ((k : Int), 71) by simp [checkT, hkk, h1, h])
  have Hgood := hide (fun (h : badT ns.length src.size l = none) => show checkT ns src.size l = (0, 0) by simp [checkT, hkk, h1, h])
  generalize checkT ns src.size l = V at *
  obtain ⟨V1, V2⟩ := V
  have Htok := hide htok
  clear hkk hrow htok
  go_enter Tryd.func12, Tryd.ntmps12
  go_wp2_with fail
  refine (unhide HK).mono ?_
  rintro e w1 ⟨rfl, hb1⟩
  have Hb1 := hide hb1
  clear hb1 HK
  go_wp2
  go_loopw [8] (fun x wr => ∃ k : Nat, x = .int .i64 k ∧ k ≤ l.length ∧ Below w.heap.size w wr ∧ okTo ns.length src.size l k) (fun x _ => l.length - (intOf x).toNat)
  case atStart => exact ⟨0, rfl, Nat.zero_le _, unhide Hb1, fun j hj => absurd hj (Nat.not_lt_zero _)⟩
  case round =>
    obtain ⟨k, rfl, hk, hbel, hok⟩ := hrel
    have hsz := hbel.size
    have Hbel := hide hbel; have Hok := hide hok
    clear hbel hok
    by_cases hlt : k < l.length
    · have hlt' : (k : Int) < l.length := by omega
      have HR := hide (right_any ns.length src b cab l (by omega) k hlt wr (trow_below (unhide Htok) (Nat.le_refl _) (unhide Hbel)))
      have Hbs := hide (fun h => badT_some (n := ns.length) (sz := src.size) hlt (unhide Hok) h)
      have Hos := hide (fun h => okTo_succ (n := ns.length) (sz := src.size) (unhide Hok) h)
      cases ht : okT ns.length src.size l k
      · rw [ht] at HR
        have Hr := hide (unhide Hbad k (unhide Hbs ht))
        clear ht
        go_wp2_with fail
        refine (unhide HR).mono ?_
        rintro e w2 ⟨rfl, hb2⟩
        have Hb2 := hide ((unhide Hbel).trans (hb2.mono hsz))
        clear hb2
        go_wp2
        go_ret2
        obtain ⟨rfl, rfl⟩ := Prod.mk.inj (unhide Hr)
        exact ⟨rfl, unhide Hb2⟩
      · rw [ht] at HR
        have Ho := hide (unhide Hos ht)
        clear ht
        go_wp2_with fail
        refine (unhide HR).mono ?_
        rintro e w2 ⟨rfl, hb2⟩
        have Hb2 := hide ((unhide Hbel).trans (hb2.mono hsz))
        clear hb2
        go_wp2
        go_roundw
        case rel => exact ⟨k + 1, by go_num, by omega, unhide Hb2, unhide Ho⟩
        case measure => simp [intOf]; omega
    · obtain rfl : k = l.length := by omega
      have Hr := hide (unhide Hgood (badT_none (unhide Hok)))
      go_wp2
      go_ret2
      obtain ⟨rfl, rfl⟩ := Prod.mk.inj (unhide Hr)
      exact ⟨rfl, unhide Hbel⟩

/-- What both Finds answer. -/
def findT (ns : List (List UInt8)) (s : List UInt8) : Int × Bool := if s ∈ ns then ((ns.idxOf s : Nat), true) else (0, false)
theorem findT_at {ns : List (List UInt8)} {s : List UInt8} {i : Nat} (hi : i < ns.length) (hn : ∀ j, j < i → ns.getD j [] ≠ s) (he : ns.getD i [] = s) : findT ns s = ((i : Int), true) := by
  have hg : ns[i] = s := by rw [List.getD_eq_getElem?_getD, List.getElem?_eq_getElem hi] at he; exact he
  have hm : s ∈ ns := hg ▸ List.getElem_mem hi
  have h1 : ns.idxOf s = i := by
    have hnt : s ∉ ns.take i := fun h => by
      obtain ⟨j, hj, e⟩ := List.mem_iff_getElem.1 h
      have hj' : j < i := by simp at hj; omega
      apply hn j hj'
      rw [List.getD_eq_getElem?_getD, List.getElem?_eq_getElem (by omega)]
      simpa using e
    conv => lhs; rw [← List.take_append_drop i ns]
    rw [List.idxOf_append, if_neg hnt, List.drop_eq_getElem_cons hi, hg, List.idxOf_cons_self]
    simp
    omega
  unfold findT
  rw [if_pos hm, h1]
theorem findT_none {ns : List (List UInt8)} {s : List UInt8} (hn : ∀ j, j < ns.length → ns.getD j [] ≠ s) : findT ns s = (0, false) := by
  unfold findT
  rw [if_neg (fun h => by
    obtain ⟨j, hj, e⟩ := List.mem_iff_getElem.1 h
    apply hn j hj
    rw [List.getD_eq_getElem?_getD, List.getElem?_eq_getElem hj]
    exact e)]

set_option maxHeartbeats 2000000 in
set_option maxRecDepth 100000 in
theorem rFind_any (a : Option Addr) (cap : Nat) (ns : List (List UInt8)) (hl : ns.length ≤ 281474976710656) (s : List UInt8) (w : World) (hrow : SRow w a ns) :
    Calls Tryd.prog 10 #[.slice a ns.length cap, .string (bs s)] w fun e w' => e = .returned (.tuple #[.int .i64 (findT ns s).1, .bool (findT ns s).2]) ∧ w = w' := by
  have Hyes := hide (fun i => findT_at (ns := ns) (s := s) (i := i))
  have Hno := hide (fun h => findT_none (ns := ns) (s := s) h)
  generalize findT ns s = V at *
  obtain ⟨V1, V2⟩ := V
  have Hrow := hide hrow
  clear hrow
  go_enter Tryd.func10, Tryd.ntmps10
  go_wp2
  go_loop [6] (fun x => ∃ k : Nat, x = .int .i64 k ∧ k ≤ ns.length ∧ ∀ j, j < k → ns.getD j [] ≠ s) (fun x => ns.length - (intOf x).toNat)
  case atStart => exact ⟨0, rfl, Nat.zero_le _, fun j hj => absurd hj (Nat.not_lt_zero _)⟩
  case round =>
    obtain ⟨k, rfl, hk, hn⟩ := hrel
    have Hn := hide hn
    clear hn
    by_cases hlt : k < ns.length
    · have hlt' : (k : Int) < ns.length := by omega
      obtain ⟨b, off, rfl, hb, hc⟩ := srow_pos (unhide Hrow) hlt
      have ck := hc k hlt
      clear hc
      by_cases he : ns.getD k [] = s
      · have Hr := hide (unhide Hyes k hlt (unhide Hn) he)
        rw [he] at ck
        clear he
        generalize bs s = S at *
        go_wp2
        go_ret2
        obtain ⟨rfl, rfl⟩ := Prod.mk.inj (unhide Hr)
        exact ⟨rfl, rfl⟩
      · have Hn2 := hide (show ∀ j, j < k + 1 → ns.getD j [] ≠ s from fun j hj => by
          by_cases e : j = k
          · subst e; exact he
          · exact unhide Hn j (by omega))
        have hne := bs_ne he
        clear he
        generalize bs s = S at *
        generalize bs (ns.getD k []) = X at *
        go_wp2
        go_round
        case rel => exact ⟨k + 1, by go_num, by omega, unhide Hn2⟩
        case measure => simp [intOf]; omega
    · obtain rfl : k = ns.length := by omega
      have Hr := hide (unhide Hno (unhide Hn))
      go_wp2
      go_ret2
      obtain ⟨rfl, rfl⟩ := Prod.mk.inj (unhide Hr)
      exact ⟨rfl, rfl⟩
end Go.Proofs.YtkckcnjamlpadaaDoor

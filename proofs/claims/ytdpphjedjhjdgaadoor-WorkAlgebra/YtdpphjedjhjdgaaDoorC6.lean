/- The law WorkAlgebra, walked: where one row has a number that is none. -/
import Derived.Test.YtdpphjedjhjdgaaDoorC5
namespace Go.Proofs.YtdpphjedjhjdgaaDoor
open Go.RowKit Go.Maps

/-- NewSet, as far as it is told without a look at the set. -/
theorem new_loose (a : Option Addr) (c : Nat) (l : List Int) (hl : l.length ≤ 281474976710656) (w : World) (hrow : NRow w a l) :
    Calls Tryd.prog 5 #[.slice a l.length c] w fun e w' => ∃ p : Option Addr, e = .returned (.tuple #[.pointer p, .int .i64 (if numsB l then 0 else 1)]) ∧ p.isSome = numsB l ∧ Below w.heap.size w w' := by
  cases h : numsB l
  · exact (new_wrong a c l hl h w hrow).mono fun e w' ⟨e1, e2⟩ => ⟨none, e1, rfl, e2⟩
  · exact (new_nums 1048576 rfl a c l hl h w hrow).mono fun e w' ⟨e1, e2, _⟩ => ⟨_, e1, rfl, e2⟩
set_option maxHeartbeats 8000000 in
set_option maxRecDepth 100000 in
theorem alg_no1 (aa ab : Option Addr) (ca cb : Nat) (l m : List Int) (n : Int) (hl : l.length ≤ 281474976710656) (hm : m.length ≤ 281474976710656) (hnl : numsB l = false) (w : World) (hra : NRow w aa l) (hrb : NRow w ab m) :
    Calls Tryd.prog 4 #[.slice aa l.length ca, .slice ab m.length cb, .int .i64 n] w fun e w' => e = .returned (.bool true) ∧ Below w.heap.size w w' := by
  have HN1 := hide (new_wrong aa ca l hl hnl w hra)
  have Hra := hide hra; have Hrb := hide hrb; have Hnl := hide hnl
  clear hra hrb hnl
  go_enter Tryd.func4, Tryd.ntmps4
  go_wp2_with fail
  refine (unhide HN1).mono ?_
  rintro e W1 ⟨rfl, hb1⟩
  have HN2 := hide (new_loose ab cb m hm W1 (nrow_below (unhide Hrb) hb1 (Nat.le_refl _)))
  have Hb1 := hide hb1
  clear hb1 HN1
  go_wp2_with fail
  refine (unhide HN2).mono ?_
  rintro e W2 ⟨p, rfl, hp, hb2⟩
  have Hb2 := hide ((unhide Hb1).trans (hb2.mono (unhide Hb1).size))
  clear hb2 HN2 hp
  generalize (if numsB m then (0 : Int) else 1) = e2
  have HAl := hide (alive_any W2)
  go_wp2_with fail
  refine (unhide HAl).mono ?_
  rintro e W3 ⟨rfl, hb3⟩
  have Hb3 := hide ((unhide Hb2).trans (hb3.mono (unhide Hb2).size))
  have HNm := hide (refNumbers_any aa ca l hl W3 (nrow_below (unhide Hra) (unhide Hb3) (Nat.le_refl _)))
  rw [unhide Hnl] at HNm
  clear hb3 HAl
  go_wp2_with fail
  refine (unhide HNm).mono ?_
  rintro e W4 ⟨rfl, hw⟩
  obtain rfl := hw.symm
  go_wp2
  go_ret
  exact ⟨rfl, unhide Hb3⟩
set_option maxHeartbeats 8000000 in
set_option maxRecDepth 100000 in
theorem alg_no2 (aa ab : Option Addr) (ca cb : Nat) (l m : List Int) (n : Int) (hl : l.length ≤ 281474976710656) (hm : m.length ≤ 281474976710656) (hnl : numsB l = true) (hnm : numsB m = false) (w : World) (hra : NRow w aa l) (hrb : NRow w ab m) :
    Calls Tryd.prog 4 #[.slice aa l.length ca, .slice ab m.length cb, .int .i64 n] w fun e w' => e = .returned (.bool true) ∧ Below w.heap.size w w' := by
  have HN1 := hide (new_nums 1048576 rfl aa ca l hl hnl w hra)
  have Hra := hide hra; have Hrb := hide hrb; have Hnl := hide hnl; have Hnm := hide hnm
  clear hra hrb hnl hnm
  go_enter Tryd.func4, Tryd.ntmps4
  go_wp2_with fail
  refine (unhide HN1).mono ?_
  rintro e W1 ⟨rfl, hb1, -⟩
  have HN2 := hide (new_wrong ab cb m hm (unhide Hnm) W1 (nrow_below (unhide Hrb) hb1 (Nat.le_refl _)))
  have Hb1 := hide hb1
  clear hb1 HN1
  go_wp2_with fail
  refine (unhide HN2).mono ?_
  rintro e W2 ⟨rfl, hb2⟩
  have Hb2 := hide ((unhide Hb1).trans (hb2.mono (unhide Hb1).size))
  clear hb2 HN2
  have HAl := hide (alive_any W2)
  go_wp2_with fail
  refine (unhide HAl).mono ?_
  rintro e W3 ⟨rfl, hb3⟩
  have Hb3 := hide ((unhide Hb2).trans (hb3.mono (unhide Hb2).size))
  have HNm := hide (refNumbers_any aa ca l hl W3 (nrow_below (unhide Hra) (unhide Hb3) (Nat.le_refl _)))
  have HNn := hide (refNumbers_any ab cb m hm W3 (nrow_below (unhide Hrb) (unhide Hb3) (Nat.le_refl _)))
  rw [unhide Hnl] at HNm
  rw [unhide Hnm] at HNn
  clear hb3 HAl
  go_wp2_with fail
  refine (unhide HNm).mono ?_
  rintro e W4 ⟨rfl, hw⟩
  obtain rfl := hw.symm
  go_wp2_with fail
  refine (unhide HNn).mono ?_
  rintro e W4 ⟨rfl, hw⟩
  obtain rfl := hw.symm
  go_wp2
  go_ret
  exact ⟨rfl, unhide Hb3⟩
theorem alg_walk (aa ab : Option Addr) (ca cb : Nat) (l m : List Int) (n : Int) (hl : l.length ≤ 281474976710656) (hm : m.length ≤ 281474976710656) (w : World) (hra : NRow w aa l) (hrb : NRow w ab m) (ht : Tab w) (h0 : 0 < w.heap.size) :
    Calls Tryd.prog 4 #[.slice aa l.length ca, .slice ab m.length cb, .int .i64 n] w fun e w' => e = .returned (.bool true) ∧ Below w.heap.size w w' := by
  cases hnl : numsB l
  · exact alg_no1 aa ab ca cb l m n hl hm hnl w hra hrb
  · cases hnm : numsB m
    · exact alg_no2 aa ab ca cb l m n hl hm hnl hnm w hra hrb
    · exact alg_yes aa ab ca cb l m n hl hm hnl hnm w hra hrb ht h0
end Go.Proofs.YtdpphjedjhjdgaaDoor

/- The law WorkSets, walked: where a row has a number that is none; all of it. -/
import Derived.Test.YtdpphjedjhjdgaaDoorDC
namespace Go.Proofs.YtdpphjedjhjdgaaDoor
open Go.RowKit Go.Maps

set_option maxHeartbeats 8000000 in
set_option maxRecDepth 100000 in
theorem sets_no_false_false (aa ab asc : Option Addr) (ca cb ls cs : Nat) (l m : List Int) (hl : l.length ≤ 281474976710656) (hm : m.length ≤ 281474976710656) (hnl : numsB l = false) (hnm : numsB m = false) (w : World) (hra : NRow w aa l) (hrb : NRow w ab m) :
    Calls Tryd.prog 3 #[.slice aa l.length ca, .slice ab m.length cb, .slice asc ls cs] w fun e w' => e = .returned (.bool true) ∧ Below w.heap.size w w' := by
  have HN1 := hide (new_wrong aa ca l hl hnl w hra)
  have Hra := hide hra; have Hrb := hide hrb; have Hnl := hide hnl; have Hnm := hide hnm
  clear hra hrb hnl hnm
  go_enter Tryd.func3, Tryd.ntmps3
  go_wp2_with fail
  refine (unhide HN1).mono ?_
  rintro e W1 ⟨rfl, hb1⟩
  have HN2 := hide (new_wrong ab cb m hm (unhide Hnm) W1 (nrow_below (unhide Hrb) hb1 (Nat.le_refl _)))
  have Hb1 := hide hb1
  clear hb1 HN1
  go_wp2_with fail
  refine (unhide HN2).mono ?_
  rintro e W2 ⟨rfl, hb2⟩
  have hbw2 := (unhide Hb1).trans (hb2.mono (unhide Hb1).size)
  have HNa := hide (refNumbers_any aa ca l hl W2 (nrow_below (unhide Hra) hbw2 (Nat.le_refl _)))
  have HNb := hide (refNumbers_any ab cb m hm W2 (nrow_below (unhide Hrb) hbw2 (Nat.le_refl _)))
  rw [unhide Hnl] at HNa
  rw [unhide Hnm] at HNb
  have HAl := hide (alive_any W2)
  have Hbw2 := hide hbw2
  clear hbw2 hb2 HN2 Hb1
  go_wp2_with fail
  refine (unhide HNa).mono ?_
  rintro e W9 ⟨rfl, hw9⟩
  obtain rfl := hw9.symm
  go_wp2_with fail
  refine (unhide HNb).mono ?_
  rintro e W9 ⟨rfl, hw9⟩
  obtain rfl := hw9.symm
  go_wp2_with fail
  refine (unhide HNa).mono ?_
  rintro e W9 ⟨rfl, hw9⟩
  obtain rfl := hw9.symm
  go_wp2_with fail
  refine (unhide HAl).mono ?_
  rintro e W3 ⟨rfl, hb3⟩
  have hbw3 := (unhide Hbw2).trans (hb3.mono (unhide Hbw2).size)
  have HNc := hide (refNumbers_any ab cb m hm W3 (nrow_below (unhide Hrb) hbw3 (Nat.le_refl _)))
  rw [unhide Hnm] at HNc
  have Hbw3 := hide hbw3
  clear hbw3 hb3 HNa HNb HAl
  go_wp2_with fail
  refine (unhide HNc).mono ?_
  rintro e W9 ⟨rfl, hw9⟩
  obtain rfl := hw9.symm
  go_wp2
  go_ret
  exact ⟨rfl, unhide Hbw3⟩
set_option maxHeartbeats 8000000 in
set_option maxRecDepth 100000 in
theorem sets_no_false_true (aa ab asc : Option Addr) (ca cb ls cs : Nat) (l m : List Int) (hl : l.length ≤ 281474976710656) (hm : m.length ≤ 281474976710656) (hnl : numsB l = false) (hnm : numsB m = true) (w : World) (hra : NRow w aa l) (hrb : NRow w ab m) :
    Calls Tryd.prog 3 #[.slice aa l.length ca, .slice ab m.length cb, .slice asc ls cs] w fun e w' => e = .returned (.bool true) ∧ Below w.heap.size w w' := by
  have HN1 := hide (new_wrong aa ca l hl hnl w hra)
  have Hra := hide hra; have Hrb := hide hrb; have Hnl := hide hnl; have Hnm := hide hnm
  clear hra hrb hnl hnm
  go_enter Tryd.func3, Tryd.ntmps3
  go_wp2_with fail
  refine (unhide HN1).mono ?_
  rintro e W1 ⟨rfl, hb1⟩
  have HN2 := hide (new_nums 1048576 rfl ab cb m hm (unhide Hnm) W1 (nrow_below (unhide Hrb) hb1 (Nat.le_refl _)))
  have Hb1 := hide hb1
  clear hb1 HN1
  go_wp2_with fail
  refine (unhide HN2).mono ?_
  rintro e W2 ⟨rfl, hb2, -⟩
  have hbw2 := (unhide Hb1).trans (hb2.mono (unhide Hb1).size)
  have HNa := hide (refNumbers_any aa ca l hl W2 (nrow_below (unhide Hra) hbw2 (Nat.le_refl _)))
  have HNb := hide (refNumbers_any ab cb m hm W2 (nrow_below (unhide Hrb) hbw2 (Nat.le_refl _)))
  rw [unhide Hnl] at HNa
  rw [unhide Hnm] at HNb
  have HAl := hide (alive_any W2)
  have Hbw2 := hide hbw2
  clear hbw2 hb2 HN2 Hb1
  go_wp2_with fail
  refine (unhide HNa).mono ?_
  rintro e W9 ⟨rfl, hw9⟩
  obtain rfl := hw9.symm
  go_wp2_with fail
  refine (unhide HNb).mono ?_
  rintro e W9 ⟨rfl, hw9⟩
  obtain rfl := hw9.symm
  go_wp2_with fail
  refine (unhide HNa).mono ?_
  rintro e W9 ⟨rfl, hw9⟩
  obtain rfl := hw9.symm
  go_wp2_with fail
  refine (unhide HAl).mono ?_
  rintro e W3 ⟨rfl, hb3⟩
  have hbw3 := (unhide Hbw2).trans (hb3.mono (unhide Hbw2).size)
  have HNc := hide (refNumbers_any ab cb m hm W3 (nrow_below (unhide Hrb) hbw3 (Nat.le_refl _)))
  rw [unhide Hnm] at HNc
  have Hbw3 := hide hbw3
  clear hbw3 hb3 HNa HNb HAl
  go_wp2_with fail
  refine (unhide HNc).mono ?_
  rintro e W9 ⟨rfl, hw9⟩
  obtain rfl := hw9.symm
  go_wp2
  go_ret
  exact ⟨rfl, unhide Hbw3⟩
set_option maxHeartbeats 8000000 in
set_option maxRecDepth 100000 in
theorem sets_no_true_false (aa ab asc : Option Addr) (ca cb ls cs : Nat) (l m : List Int) (hl : l.length ≤ 281474976710656) (hm : m.length ≤ 281474976710656) (hnl : numsB l = true) (hnm : numsB m = false) (w : World) (hra : NRow w aa l) (hrb : NRow w ab m) :
    Calls Tryd.prog 3 #[.slice aa l.length ca, .slice ab m.length cb, .slice asc ls cs] w fun e w' => e = .returned (.bool true) ∧ Below w.heap.size w w' := by
  have HN1 := hide (new_nums 1048576 rfl aa ca l hl hnl w hra)
  have Hra := hide hra; have Hrb := hide hrb; have Hnl := hide hnl; have Hnm := hide hnm
  clear hra hrb hnl hnm
  go_enter Tryd.func3, Tryd.ntmps3
  go_wp2_with fail
  refine (unhide HN1).mono ?_
  rintro e W1 ⟨rfl, hb1, -⟩
  have HN2 := hide (new_wrong ab cb m hm (unhide Hnm) W1 (nrow_below (unhide Hrb) hb1 (Nat.le_refl _)))
  have Hb1 := hide hb1
  clear hb1 HN1
  go_wp2_with fail
  refine (unhide HN2).mono ?_
  rintro e W2 ⟨rfl, hb2⟩
  have hbw2 := (unhide Hb1).trans (hb2.mono (unhide Hb1).size)
  have HNa := hide (refNumbers_any aa ca l hl W2 (nrow_below (unhide Hra) hbw2 (Nat.le_refl _)))
  have HNb := hide (refNumbers_any ab cb m hm W2 (nrow_below (unhide Hrb) hbw2 (Nat.le_refl _)))
  rw [unhide Hnl] at HNa
  rw [unhide Hnm] at HNb
  have HAl := hide (alive_any W2)
  have Hbw2 := hide hbw2
  clear hbw2 hb2 HN2 Hb1
  go_wp2_with fail
  refine (unhide HNa).mono ?_
  rintro e W9 ⟨rfl, hw9⟩
  obtain rfl := hw9.symm
  go_wp2_with fail
  refine (unhide HNb).mono ?_
  rintro e W9 ⟨rfl, hw9⟩
  obtain rfl := hw9.symm
  go_wp2_with fail
  refine (unhide HNa).mono ?_
  rintro e W9 ⟨rfl, hw9⟩
  obtain rfl := hw9.symm
  go_wp2_with fail
  refine (unhide HAl).mono ?_
  rintro e W3 ⟨rfl, hb3⟩
  have hbw3 := (unhide Hbw2).trans (hb3.mono (unhide Hbw2).size)
  have HNc := hide (refNumbers_any ab cb m hm W3 (nrow_below (unhide Hrb) hbw3 (Nat.le_refl _)))
  rw [unhide Hnm] at HNc
  have Hbw3 := hide hbw3
  clear hbw3 hb3 HNa HNb HAl
  go_wp2_with fail
  refine (unhide HNc).mono ?_
  rintro e W9 ⟨rfl, hw9⟩
  obtain rfl := hw9.symm
  go_wp2
  go_ret
  exact ⟨rfl, unhide Hbw3⟩
theorem sets_walk (aa ab : Option Addr) (ca cb : Nat) (l m : List Int) (hl : l.length ≤ 281474976710656) (hm : m.length ≤ 281474976710656) (asc : Option Addr) (cs : Nat) (ss : List Sc) (hss : ss.length ≤ 281474976710656) (w : World) (hra : NRow w aa l) (hrb : NRow w ab m) (hrs : SRow w asc ss) (ht : Tab w) (h0 : 0 < w.heap.size) :
    Calls Tryd.prog 3 #[.slice aa l.length ca, .slice ab m.length cb, .slice asc ss.length cs] w fun e w' => e = .returned (.bool true) ∧ Below w.heap.size w w' := by
  cases hnl : numsB l
  · cases hnm : numsB m
    · exact sets_no_false_false aa ab asc ca cb _ cs l m hl hm hnl hnm w hra hrb
    · exact sets_no_false_true aa ab asc ca cb _ cs l m hl hm hnl hnm w hra hrb
  · cases hnm : numsB m
    · exact sets_no_true_false aa ab asc ca cb _ cs l m hl hm hnl hnm w hra hrb
    · exact sets_yes aa ab ca cb l m hl hm hnl hnm asc cs ss hss w hra hrb hrs ht h0
end Go.Proofs.YtdpphjedjhjdgaaDoor

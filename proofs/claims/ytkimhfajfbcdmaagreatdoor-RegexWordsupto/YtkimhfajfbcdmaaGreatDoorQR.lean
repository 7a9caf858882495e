/- Pools: load of awake's tree. (and what it leads to) -/
import Derived.Test.YtkimhfajfbcdmaaGreatDoorJB
/- Pools: load of awake's tree. -/
namespace Go.Proofs.YtkimhfajfbcdmaaGreatDoor
open Go.RowKit Go.Maps

section
variable {B pb mb sb sn : Nat} {DS : DataW Unit}
theorem made2 {s : List Rg} (hs0 : s ≠ []) (hs : s.length ≤ 4096) {L : List Ab} (hL : L.length < 1500000000000) : MadeC B pb mb sb sn DS 2 s [] L (setL L s) (setX L s) := by
  intro av W sa sc g hav hB hP hsr hsq hown hg
  have hh : Held av B mb sb W sa := fun y hy => by
    rcases hsr with h | ⟨g', off, rfl, hlt, -⟩
    · exact absurd h hs0
    · rcases hsq with h | h
      · exact absurd h hs0
      · cases hy
        have hb := h _ rfl
        exact ⟨hlt, .inl hb, fun ha => Nat.not_lt.2 (hav _ ha).1 hb⟩
  refine (madeOf_2 pb sa (some ⟨g, 0, none⟩) s.length sc 0 0 W (fun z w1 => z = (setX L s : Int) ∧ Pool av w1 B pb mb sb (setL L s) (cmpV pb) 0 sn DS ∧ Fr B mb sb W w1) ?_).mono ?_
  · refine (set_any W B pb mb sb L (cmpV pb) 0 sn DS hP hB sa sc s hs hsr hh hL).mono ?_
    rintro e1 w1 ⟨rfl, h1, h2⟩
    exact ⟨_, rfl, rfl, h1, h2⟩
  · rintro e1 w1 ⟨z, rfl, rfl, h1, h2⟩
    exact ⟨rfl, h1, h2⟩
theorem first_cell {W : World} {g y : Nat} (h : W.ownsRow B 3 1 (.slice (some ⟨g, 0, none⟩) [y].length [y].length) [y].length (intV ([y].map fun n : Nat => (n : Int)))) : W.cell? ⟨g, 0, none⟩ = some (.int .i64 (y : Int)) := by
  have := h.cellAt 0 (by simp)
  rw [this]
  rfl
theorem made6 {L : List Ab} (hL : L.length < 1500000000000) {y x : Nat} (hy : y < L.length) (hx : notX L y = x) : MadeC B pb mb sb sn DS 6 [] [y] L (notL L y) x := by
  intro av W sa sc g hav hB hP hsr hsq hown hg
  refine (madeOf_6 pb sa g 0 0 sc 1 1 (by decide) y W (first_cell hown) (fun z w1 => z = (x : Int) ∧ Pool av w1 B pb mb sb (notL L y) (cmpV pb) 0 sn DS ∧ Fr B mb sb W w1) ?_).mono ?_
  · refine (not_any W B pb mb sb L (cmpV pb) 0 sn DS hP hB y hy hL (fun q hq => (hav q hq).2)).mono ?_
    rintro e1 w1 ⟨rfl, h1, h2⟩
    exact ⟨_, rfl, hx, h1, h2⟩
  · rintro e1 w1 ⟨z, rfl, rfl, h1, h2⟩
    exact ⟨rfl, h1, h2⟩
theorem made7 {L : List Ab} (hL : L.length < 1500000000000) {y : Nat} (hy : y < L.length) : MadeC B pb mb sb sn DS 7 [] [y] L (starL L y) (starX L y) := by
  intro av W sa sc g hav hB hP hsr hsq hown hg
  refine (madeOf_7 pb sa g 0 0 sc 1 1 (by decide) y W (first_cell hown) (fun z w1 => z = (starX L y : Int) ∧ Pool av w1 B pb mb sb (starL L y) (cmpV pb) 0 sn DS ∧ Fr B mb sb W w1) ?_).mono ?_
  · refine (star_any W B pb mb sb L (cmpV pb) 0 sn DS hP hB y hy hL (fun q hq => (hav q hq).2)).mono ?_
    rintro e1 w1 ⟨rfl, h1, h2⟩
    exact ⟨_, rfl, rfl, h1, h2⟩
  · rintro e1 w1 ⟨z, rfl, rfl, h1, h2⟩
    exact ⟨rfl, h1, h2⟩
theorem made5 {L : List Ab} (hL : L.length < 1500000000000) {xs : List Nat} (hxs : ∀ z ∈ xs.map (fun n : Nat => (n : Int)), 0 ≤ z ∧ z.toNat < L.length) (hlx : xs.length ≤ 4096) (hne : ∀ y ∈ L, y.kind = 5 → y.kids ≠ []) (hfew : ((splA L 5 (xs.map fun n : Nat => (n : Int))).filter (isSet L)).length < 2) (hr : (restA L 5 (xs.map fun n : Nat => (n : Int))).length ≤ 12) (cf : Int → Int → Int)
    (hcf : ∀ (av : Nat → Prop) W, Pool av W B pb mb sb L (cmpV pb) 0 sn DS → ∀ x ∈ restA L 5 (xs.map fun n : Nat => (n : Int)), ∀ y ∈ restA L 5 (xs.map fun n : Nat => (n : Int)), Calls Tryz.prog 25 #[.pointer (some ⟨pb, 0, none⟩), .int .i64 x, .int .i64 y] W fun e w' => e = .returned (.int .i64 (cf x y)) ∧ ∃ q, w' = W.drewN q)
    {x : Nat} (hx : chX L 5 cf (xs.map fun n : Nat => (n : Int)) = x) : MadeC B pb mb sb sn DS 5 [] xs L (chL L 5 cf (xs.map fun n : Nat => (n : Int))) x := by
  intro av W sa sc g hav hB hP hsr hsq hown hg
  have hnr : NRow W (some ⟨g, 0, none⟩) (xs.map fun n : Nat => (n : Int)) := nrow_own hown (by simp)
  have ha := andP_any W B pb mb sb L 0 sn DS hP hB (some ⟨g, 0, none⟩) xs.length (xs.map fun n : Nat => (n : Int)) hnr hxs hne (by simp; omega) hfew hr cf (hcf av) hL (fun q hq => (hav q hq).2)
  rw [List.length_map] at ha
  refine (madeOf_5 pb sa (some ⟨g, 0, none⟩) 0 sc xs.length xs.length W (fun z w1 => z = (x : Int) ∧ Pool av w1 B pb mb sb (chL L 5 cf (xs.map fun n : Nat => (n : Int))) (cmpV pb) 0 sn DS ∧ Fr B mb sb W w1) ?_).mono ?_
  · refine ha.mono ?_
    rintro e1 w1 ⟨rfl, h1, h2⟩
    exact ⟨_, rfl, hx, h1, h2⟩
  · rintro e1 w1 ⟨z, rfl, rfl, h1, h2⟩
    exact ⟨rfl, h1, h2⟩
/-! ### awake's tree in a new pool -/
theorem ldc_eq {t : Rx} {L L' L'' : List Ab} {x x' : Nat} (h : LdC B pb mb sb sn DS t L L' x) (e : L' = L'') (ex : x = x') : LdC B pb mb sb sn DS t L L'' x' := by subst e; subst ex; exact h
def tb : Rx := .mk 2 [(98, 98)] []
def tac : Rx := .mk 2 [(97, 99)] []
def tnot : Rx := .mk 6 [] [tb]
def tstar : Rx := .mk 7 [] [tac]
def tAwk : Rx := .mk 5 [] [tnot, tstar]
theorem tAwk_is : treeA A5 7 = tAwk := by kernel_rfl
def C1 : List Ab := base3 ++ [⟨2, [(98, 98)], [], 2, 1, false⟩]
def C2 : List Ab := C1 ++ [⟨6, [], [3], 3, 2, true⟩]
def C3 : List Ab := C2 ++ [⟨2, [(97, 99)], [], 2, 1, false⟩]
def C4 : List Ab := C3 ++ [⟨7, [], [5], 3, 2, true⟩]
def C5 : List Ab := C4 ++ [⟨5, [], [4, 6], 7, 3, true⟩]
theorem l1 : LdC B pb mb sb sn DS tb base3 C1 3 := load_any (xs := []) ⟨rfl, rfl⟩ (by decide) (by have := made2 (B := B) (pb := pb) (mb := mb) (sb := sb) (sn := sn) (DS := DS) (s := [(98, 98)]) (by decide) (by decide) (L := base3) (by decide); rwa [show setL base3 [(98, 98)] = C1 by kernel_rfl, show setX base3 [(98, 98)] = 3 by kernel_rfl] at this) (by decide) (by kernel_rfl) (by kernel_rfl) (by decide) (by decide)
theorem l2 : LdC B pb mb sb sn DS tnot base3 C2 4 := load_any (xs := [3]) ⟨C1, 3, [], l1, ⟨rfl, rfl⟩, rfl⟩ (by decide) (by have := made6 (B := B) (pb := pb) (mb := mb) (sb := sb) (sn := sn) (DS := DS) (L := C1) (by decide) (y := 3) (x := 4) (by decide) (by kernel_rfl); rwa [show notL C1 3 = C2 by kernel_rfl] at this) (by decide) (by kernel_rfl) (by kernel_rfl) (by decide) (by decide)
theorem l3 : LdC B pb mb sb sn DS tac C2 C3 5 := load_any (xs := []) ⟨rfl, rfl⟩ (by decide) (by have := made2 (B := B) (pb := pb) (mb := mb) (sb := sb) (sn := sn) (DS := DS) (s := [(97, 99)]) (by decide) (by decide) (L := C2) (by decide); rwa [show setL C2 [(97, 99)] = C3 by kernel_rfl, show setX C2 [(97, 99)] = 5 by kernel_rfl] at this) (by decide) (by kernel_rfl) (by kernel_rfl) (by decide) (by decide)
theorem l4 : LdC B pb mb sb sn DS tstar C2 C4 6 := load_any (xs := [5]) ⟨C3, 5, [], l3, ⟨rfl, rfl⟩, rfl⟩ (by decide) (by have := made7 (B := B) (pb := pb) (mb := mb) (sb := sb) (sn := sn) (DS := DS) (L := C3) (by decide) (y := 5) (by decide); rwa [show starL C3 5 = C4 by kernel_rfl, show starX C3 5 = 6 by kernel_rfl] at this) (by decide) (by kernel_rfl) (by kernel_rfl) (by decide) (by decide)
def cfC (a b : Int) : Int := cmpI (C4.getD a.toNat ab0).kind (C4.getD b.toNat ab0).kind
theorem spl5C : splA C4 5 [4, 6] = [4, 6] := by
  unfold splA
  rw [show flatA C4 5 [4, 6] = [4, 6] by kernel_rfl, List.mergeSort_of_pairwise (by decide)]
  kernel_rfl
theorem rest5C : restA C4 5 [4, 6] = [4, 6] := by unfold restA; rw [spl5C]; kernel_rfl
theorem sort5C : sortA cfC [4, 6] = [4, 6] := by
  unfold sortA Go.Sort.insertionSort
  rw [Go.Sort.insOuter, if_pos (by decide), Go.Sort.insOuter, if_neg (by decide)]
  kernel_rfl
theorem ch5C : chX C4 5 cfC [4, 6] = 7 ∧ chL C4 5 cfC [4, 6] = C5 := by
  unfold chX chL
  rw [spl5C, rest5C, sort5C]
  exact ⟨by kernel_rfl, by kernel_rfl⟩
theorem cmpC4 (av : Nat → Prop) (W : World) (hP : Pool av W B pb mb sb C4 (cmpV pb) 0 sn DS) : ∀ a ∈ restA C4 5 [4, 6], ∀ b ∈ restA C4 5 [4, 6], Calls Tryz.prog 25 #[.pointer (some ⟨pb, 0, none⟩), .int .i64 a, .int .i64 b] W fun e w' => e = .returned (.int .i64 (cfC a b)) ∧ ∃ q, w' = W.drewN q := by
  rw [rest5C]
  intro a ha b hb
  have ha' : a = 4 ∨ a = 6 := by simpa using ha
  have hb' : b = 4 ∨ b = 6 := by simpa using hb
  rcases ha' with rfl | rfl <;> rcases hb' with rfl | rfl
  · exact compareS _ 4 W
  · exact compareK_any W B pb mb sb C4 _ 0 sn DS hP 4 6 (by decide) (by decide) (by decide)
  · exact compareK_any W B pb mb sb C4 _ 0 sn DS hP 6 4 (by decide) (by decide) (by decide)
  · exact compareS _ 6 W
theorem l5 : LdC B pb mb sb sn DS tAwk base3 C5 7 :=
  load_any (xs := [4, 6]) ⟨C2, 4, [6], l2, ⟨C4, 6, [], l4, ⟨rfl, rfl⟩, rfl⟩, rfl⟩ (by decide)
    (by
      have := made5 (B := B) (pb := pb) (mb := mb) (sb := sb) (sn := sn) (DS := DS) (L := C4) (by decide) (xs := [4, 6]) (by decide) (by decide) (by decide) (by show ((splA C4 5 [4, 6]).filter (isSet C4)).length < 2; rw [spl5C]; decide +kernel) (by show (restA C4 5 [4, 6]).length ≤ 12; rw [rest5C]; decide) cfC (fun av W hP => cmpC4 av W hP) (x := 7) ch5C.1
      rwa [show chL C4 5 cfC ([4, 6].map fun n : Nat => (n : Int)) = C5 from ch5C.2] at this)
    (by decide) (by kernel_rfl) (by kernel_rfl) (by decide) (by decide)
end
end Go.Proofs.YtkimhfajfbcdmaaGreatDoor

/- Pools: take of awake's tree; Right. -/
namespace Go.Proofs.YtkimhfajfbcdmaaGreatDoor
open Go.RowKit Go.Maps

theorem may_awk : mayA tAwk = true := by kernel_rfl
theorem sm_awk : RxSm tAwk := by
  simp [tAwk, tnot, tstar, tb, tac, RxSm, RxSms]
set_option maxHeartbeats 1000000 in
set_option maxRecDepth 100000 in
theorem take1 {av : Nat → Prop} {B pb mb sb sn : Nat} {DS : DataW Unit} (W : World) (g c : Nat) (v0 v1 v2 : Value) (hav : ∀ k, av k → B ≤ k ∧ k < W.heap.size) (hB : B ≤ W.heap.size) (hP : Pool av W B pb mb sb base3 (cmpV pb) 0 sn DS) (hX : RxAt (fun q => q < B) W tAwk v0 v1 v2) (hrow : W.heap[g]? = some (.cells #[v0, v1, v2] 26 (0, 0))) :
    Calls Tryz.prog 36 #[.pointer (some ⟨pb, 0, none⟩), .slice (some ⟨g, 0, none⟩) 1 c] W fun e w' => ∃ a d, e = .returned (.tuple #[.slice a 1 d, .bool true]) ∧ w'.ownsRow W.heap.size 3 1 (.slice a 1 d) 1 (intV [7]) ∧ Pool av w' B pb mb sb C5 (cmpV pb) 0 sn DS ∧ Fr B mb sb W w' := by
  obtain ⟨i0, hi, hz0, hz1, hz2⟩ := info_parts hint
  obtain ⟨kk, s1, n1, c1, s2, n2, c2, rfl, rfl, rfl⟩ := rxAt_formQ hX
  have HP := hide hP; have HX := hide hX; have Hrow := hide hrow
  clear hP hX hrow
  go_enter Tryz.func36, Tryz.ntmps36
  go_wp2_with fail
  go_loopw [4, 12] (fun lv iv wr => (iv = .int .i64 0 ∧ lv = .slice none 0 0 ∧ wr = W) ∨ (iv = .int .i64 1 ∧ ∃ a d, lv = .slice a 1 d ∧ wr.ownsRow W.heap.size 3 1 (.slice a 1 d) 1 (intV [7]) ∧ Pool av wr B pb mb sb C5 (cmpV pb) 0 sn DS ∧ Fr B mb sb W wr)) (fun _ iv _ => 1 - (intOf iv).toNat)
  case atStart => exact .inl ⟨rfl, rfl, rfl⟩
  case round =>
    rcases hrel with ⟨rfl, rfl, hw⟩ | ⟨rfl, a, d, rfl, hown, hp, hf⟩
    · obtain rfl := hw.symm
      have q0 := cell_block (unhide Hrow) 0 _ rfl
      have q1 := cell_block (unhide Hrow) 1 _ rfl
      have q2 := cell_block (unhide Hrow) 2 _ rfl
      have hb1 : Below W.heap.size W (W.alloc (.cells #[.int .i64 kk, .slice s1 n1 c1, .slice s2 n2 c2] 26)) := (Below.refl _ _).alloc (Nat.le_refl _) _
      have hX1 := rx_fr (unhide HX) (fr_below (mb := mb) (sb := sb) hb1)
      have HMB := hide (mayBe_any (fun q => q < B) tAwk sm_awk (W.alloc (.cells #[.int .i64 kk, .slice s1 n1 c1, .slice s2 n2 c2] 26)) _ _ _ hX1)
      rw [may_awk] at HMB
      have hN := heap_new W (.cells #[.int .i64 kk, .slice s1 n1 c1, .slice s2 n2 c2] 26)
      have HN := hide hN; have HX1 := hide hX1; have Hb1 := hide hb1
      clear hb1 hX1 hN
      go_wp2_with fail
      refine (unhide HMB).mono ?_
      rintro e1 w2 ⟨rfl, hb2⟩
      have hn2 := (hb2.block W.heap.size (by simp)).trans (unhide HN)
      have n0 := cell_block hn2 0 _ rfl
      have n1' := cell_block hn2 1 _ rfl
      have n2' := cell_block hn2 2 _ rfl
      have hB2 : Below W.heap.size W w2 := (unhide Hb1).trans (hb2.mono (by simp))
      have HLd := hide (l5 (B := B) (pb := pb) (mb := mb) (sb := sb) (sn := sn) (DS := DS) av w2 _ _ _ (fun q hq => ⟨(hav q hq).1, Nat.lt_of_lt_of_le (hav q hq).2 hB2.size⟩) (Nat.le_trans hB hB2.size) (pool_below (unhide HP) hB2) (rx_fr (unhide HX) (fr_below (mb := mb) (sb := sb) hB2)))
      have HB2 := hide hB2
      clear hb2 hn2 hB2 HMB HN HX1 Hb1 q0 q1 q2
      go_wp2_with fail
      refine (unhide HLd).mono ?_
      rintro e2 w3 ⟨rfl, hp3, hf3⟩
      have hs3 : W.heap.size ≤ w3.heap.size := Nat.le_trans (unhide HB2).size hf3.size
      have Hp3 := hide hp3; have Hf3 := hide (fr_t (fr_below (unhide HB2)) hf3)
      clear hp3 hf3 HLd HB2 n0 n1' n2'
      go_wp2_with (at_builtin; refine wpList_append_own _ rfl _ _ 63 rfl W.heap.size 3 i0 (.int .i64 0) 1 8 Tryz.underlying63 hi hz0 hz1 hz2 rfl (by decide) _ _ _ rfl (World.ownsRow_nil _ _ _ _) ⟨w3.heap.size, 0, none⟩ 1 1 [.int .i64 7] rfl rfl ?zc1 ?zc2 ?zc3 ?zc4 ?zc5 ?_)
      case zc1 => exact cell_one_new _ _ _
      case zc2 => intro u hu; simp at hu; subst hu; rfl
      case zc3 => unfold maxLen; omega
      case zc4 => omega
      case zc5 => simp; omega
      intro v' w4 hown' hgrow _
      have hb4 : Below w3.heap.size w3 w4 := ((Below.refl w3.heap.size w3).alloc (Nat.le_refl _) _).grown hgrow (by simp) (fun k hk => by simp [Value.ownBlock] at hk)
      obtain ⟨va, vc, rfl⟩ := own_form hown'
      have Ho4 := hide hown'; have Hp4 := hide (pool_below (unhide Hp3) hb4); have Hf4 := hide (fr_t (unhide Hf3) (fr_below hb4))
      clear hown' hgrow hb4 Hp3 Hf3
      go_wp2
      go_roundw
      case rel => exact .inr ⟨by go_num, va, vc, rfl, unhide Ho4, unhide Hp4, unhide Hf4⟩
      case measure => simp [intOf]
    · have Hown := hide hown; have Hp := hide hp; have Hf := hide hf
      clear hown hp hf
      go_wp2
      refine bodyPost_ret (v := .tuple #[.slice a 1 d, .bool true]) (by simp [results, Tryz.results36, go_sem]) rfl ⟨_, _, rfl, unhide Hown, unhide Hp, unhide Hf⟩
end Go.Proofs.YtkimhfajfbcdmaaGreatDoor

/- Right of awake's tree. -/
namespace Go.Proofs.YtkimhfajfbcdmaaGreatDoor
open Go.RowKit Go.Maps

set_option maxHeartbeats 1000000 in
set_option maxRecDepth 100000 in
theorem right_awk (W : World) (v0 v1 v2 : Value) (hX : RxAt (fun q => q < W.heap.size) W tAwk v0 v1 v2) :
    Calls Tryz.prog 22 #[.agg #[v0, v1, v2]] W fun e w' => e = .returned (.bool true) ∧ Below W.heap.size W w' := by
  obtain ⟨kk, s1, n1, c1, s2, n2, c2, rfl, rfl, rfl⟩ := rxAt_formQ hX
  have HX := hide hX
  clear hX
  go_enter Tryz.func22, Tryz.ntmps22
  go_upto_region 1 with fail
  go_cut [4] (fun v wc => v = .bool true ∧ Below W.heap.size W wc)
  case first =>
    have hW1 : Below W.heap.size W (W.alloc (.cells #[.int .i64 kk, .slice s1 n1 c1, .slice s2 n2 c2] 26)).drew := ((Below.refl _ _).alloc (Nat.le_refl _) _).drew
    have hs1 : (W.alloc (.cells #[.int .i64 kk, .slice s1 n1 c1, .slice s2 n2 c2] 26)).drew.heap.size = W.heap.size + 1 := by simp
    have hN1 : (W.alloc (.cells #[.int .i64 kk, .slice s1 n1 c1, .slice s2 n2 c2] 26)).drew.heap[W.heap.size]? = some (.cells #[.int .i64 kk, .slice s1 n1 c1, .slice s2 n2 c2] 26 (0, 0)) := heap_new W _
    have x0 := cell_block hN1 0 _ rfl
    have x1 := cell_block hN1 1 _ rfl
    have x2 := cell_block hN1 2 _ rfl
    have HS9 := hide (fun W' (hb : Below (W.heap.size + 1) (W.alloc (.cells #[.int .i64 kk, .slice s1 n1 c1, .slice s2 n2 c2] 26)).drew W') => show W'.cell? ⟨W.heap.size, 0, none⟩ = some (.int .i64 kk) ∧ W'.cell? ⟨W.heap.size, 1, none⟩ = some (.slice s1 n1 c1) ∧ W'.cell? ⟨W.heap.size, 2, none⟩ = some (.slice s2 n2 c2) from ⟨(hb.cell (p := ⟨W.heap.size, 0, none⟩) (Nat.lt_succ_self _)).trans x0, (hb.cell (p := ⟨W.heap.size, 1, none⟩) (Nat.lt_succ_self _)).trans x1, (hb.cell (p := ⟨W.heap.size, 2, none⟩) (Nat.lt_succ_self _)).trans x2⟩)
    have HX1 := hide (fun W' (hb : Below (W.heap.size + 1) (W.alloc (.cells #[.int .i64 kk, .slice s1 n1 c1, .slice s2 n2 c2] 26)).drew W') => rxAt_kept (Q := fun q => q < W.heap.size) (Q' := fun q => q < W.heap.size + 1) (w' := W') (Nat.le_trans hW1.size hb.size) (fun q hq hl => (hb.block q (by have : q < W.heap.size := hq; omega)).trans (hW1.block q hq)) (fun q hq _ => by show q < W.heap.size + 1; have : q < W.heap.size := hq; omega) _ _ _ _ (unhide HX))
    refine wp_region_held_drew (S := fun W' : World => W'.cell? ⟨W.heap.size, 0, none⟩ = some (.int .i64 kk) ∧ W'.cell? ⟨W.heap.size, 1, none⟩ = some (.slice s1 n1 c1) ∧ W'.cell? ⟨W.heap.size, 2, none⟩ = some (.slice s2 n2 c2)) (by kernel_rfl) (unhide HS9 _ (Below.refl _ _)) (fun hHeld => ?_)
    clear x0 x1 x2 hN1
    generalize (W.alloc (.cells #[.int .i64 kk, .slice s1 n1 c1, .slice s2 n2 c2] 26)).drew = W1 at *
    refine take_dst (i := 1) (dst := some 7) (v := ?_) rfl rfl (by kernel_rfl) (by kernel_rfl) (by kernel_rfl) (fun _ _ _ h => h) (Or.inl ⟨by rfl, ?_⟩) hHeld ?_
    rotate_left
    · intro w hSw; obtain ⟨z0, z1, z2⟩ := hSw; go_simp; try (with_reducible rfl)
    simp only [Act.put, List.setIfInBounds_toArray, List.set_cons_zero, List.set_cons_succ]
    refine wpAnyH_ready (rs := [0, 2]) (by kernel_rfl) (by simp) ?_
    refine (AllReadyH.cons rfl (fun K hK => ?_) (AllReadyH.cons rfl (fun K hK => ?_) AllReadyH.nil))
    · go_simp
      go_at_call 11
      refine (newPool_any W1).mono ?_
      rintro e1 w1 ⟨pb, mb, sb, rfl, hpool, hb1⟩
      rw [hs1] at hpool hb1
      go_wp2_with fail
      refine hK.out _ _ (unhide HS9 _ hb1) (fun hHeld => ?_)
      clear hK K
      refine wpAnyH_ready (rs := [2]) (by kernel_rfl) (by simp) ?_
      refine (AllReadyH.cons rfl (fun K hK => ?_) AllReadyH.nil)
      go_simp
      have hb2 : Below (W.heap.size + 1) W1 (w1.alloc (.cells #[.int .i64 kk, .slice s1 n1 c1, .slice s2 n2 c2] 26)) := hb1.alloc (by have := hb1.size; omega) _
      refine hK.out _ _ (unhide HS9 _ hb2) (fun hHeld => ?_)
      clear hK K
      have hsw : W.heap.size + 1 ≤ w1.heap.size := by have := hb1.size; omega
      have hBw : W.heap.size + 1 ≤ (w1.alloc (.cells #[.int .i64 kk, .slice s1 n1 c1, .slice s2 n2 c2] 26)).heap.size := by simp; omega
      have hPw := pool_below hpool ((Below.refl w1.heap.size w1).alloc (Nat.le_refl _) (.cells #[.int .i64 kk, .slice s1 n1 c1, .slice s2 n2 c2] 26))
      have hXw := unhide HX1 _ hb2
      have hrw := heap_new w1 (.cells #[.int .i64 kk, .slice s1 n1 c1, .slice s2 n2 c2] 26)
      have hbW := hb2
      clear hpool hb1 hb2
      refine wpAnyH_ready (rs := [3]) (by kernel_rfl) (by simp) ?_
      refine (AllReadyH.cons rfl (fun K hK => ?_) AllReadyH.nil)
      go_simp
      go_at_call 36
      refine (take1 (av := fun _ => False) (w1.alloc (.cells #[.int .i64 kk, .slice s1 n1 c1, .slice s2 n2 c2] 26)) _ 1 _ _ _ (fun k hk => hk.elim) hBw hPw hXw hrw).mono ?_
      rintro e3 w5 ⟨a5, d5, rfl, -, -, hf5⟩
      have hb5 := hbW.trans ((show Below (W.heap.size + 1) (w1.alloc (.cells #[.int .i64 kk, .slice s1 n1 c1, .slice s2 n2 c2] 26)) w5 from ⟨hf5.os, hf5.tape, hf5.output, hf5.size, fun k hk => hf5.block k (by omega) (.inl hk)⟩).mono (by omega))
      have Hb5 := hide hb5
      clear hb5 hf5
      go_wp2_with fail
      refine hK.out _ _ (unhide HS9 _ (unhide Hb5)) (fun hHeld => ?_)
      clear hK K
      refine take_dst (i := 4) (dst := some 5) (v := ?_) rfl rfl (by kernel_rfl) (by kernel_rfl) (by kernel_rfl) (fun _ _ _ h => h) (Or.inl ⟨by rfl, ?_⟩) hHeld ?_
      rotate_left
      · intro w hSw; obtain ⟨z0, z1, z2⟩ := hSw; go_simp; try (with_reducible rfl)
      simp only [Act.put, List.setIfInBounds_toArray, List.set_cons_zero, List.set_cons_succ]
      refine take_dst (i := 5) (dst := some 10) (v := ?_) rfl rfl (by kernel_rfl) (by kernel_rfl) (by kernel_rfl) (fun _ _ _ h => h) (Or.inl ⟨by rfl, ?_⟩) hHeld ?_
      rotate_left
      · intro w hSw; obtain ⟨z0, z1, z2⟩ := hSw; go_simp; try (with_reducible rfl)
      simp only [Act.put, List.setIfInBounds_toArray, List.set_cons_zero, List.set_cons_succ]
      refine take_dst (i := 6) (dst := some 11) (v := ?_) rfl rfl (by kernel_rfl) (by kernel_rfl) (by kernel_rfl) (fun _ _ _ h => h) (Or.inl ⟨by rfl, ?_⟩) hHeld ?_
      rotate_left
      · intro w hSw; obtain ⟨z0, z1, z2⟩ := hSw; go_simp; try (with_reducible rfl)
      simp only [Act.put, List.setIfInBounds_toArray, List.set_cons_zero, List.set_cons_succ]
      refine wpAnyH_ready (rs := [7]) (by kernel_rfl) (by simp) ?_
      refine (AllReadyH.cons rfl (fun K hK => ?_) AllReadyH.nil)
      go_simp
      refine hK.out _ _ (unhide HS9 _ (unhide Hb5)) (fun hHeld => ?_)
      clear hK K
      refine wpAnyH_ready (rs := [8]) (by kernel_rfl) (by simp) ?_
      refine (AllReadyH.cons rfl (fun K hK => ?_) AllReadyH.nil)
      go_simp
      refine hK.out _ _ (unhide HS9 _ (unhide Hb5)) (fun hHeld => ?_)
      clear hK K
      refine wpAnyH_done (by kernel_rfl) ?_ _
      go_wp2_with fail
      go_meet
      have hb6 := unhide Hb5
      exact ⟨rfl, (show Below W.heap.size W W1 from hW1).trans (hb6.mono (by omega))⟩
    · go_simp
      have hb0 : Below (W.heap.size + 1) W1 (W1.alloc (.cells #[.int .i64 kk, .slice s1 n1 c1, .slice s2 n2 c2] 26)) := (Below.refl _ _).alloc (by omega) _
      have hr0 := heap_new W1 (.cells #[.int .i64 kk, .slice s1 n1 c1, .slice s2 n2 c2] 26)
      rw [hs1] at hr0
      have hs2 : (W1.alloc (.cells #[.int .i64 kk, .slice s1 n1 c1, .slice s2 n2 c2] 26)).heap.size = W.heap.size + 2 := by simp; omega
      refine hK.out _ _ (unhide HS9 _ hb0) (fun hHeld => ?_)
      clear hK K
      refine wpAnyH_ready (rs := [0]) (by kernel_rfl) (by simp) ?_
      refine (AllReadyH.cons rfl (fun K hK => ?_) AllReadyH.nil)
      go_simp
      go_at_call 11
      refine (newPool_any (W1.alloc (.cells #[.int .i64 kk, .slice s1 n1 c1, .slice s2 n2 c2] 26))).mono ?_
      rintro e1 w1 ⟨pb, mb, sb, rfl, hpool, hb1⟩
      rw [hs2] at hpool hb1
      have hb2 : Below (W.heap.size + 1) W1 w1 := hb0.trans (hb1.mono (by omega))
      go_wp2_with fail
      refine hK.out _ _ (unhide HS9 _ hb2) (fun hHeld => ?_)
      clear hK K
      have hBw : W.heap.size + 2 ≤ w1.heap.size := by have := hb1.size; omega
      have hPw := hpool
      have hXw := rxAt_kept (Q := fun q => q < W.heap.size + 1) (Q' := fun q => q < W.heap.size + 2) (Nat.le_refl _) (fun _ _ _ => rfl) (fun _ h _ => by show _ < _; have h : _ < W.heap.size + 1 := h; omega) _ _ _ _ (unhide HX1 _ hb2)
      have hrw := (hb1.block (W.heap.size + 1) (by omega)).trans hr0
      have hbW := hb2
      clear hpool hb1 hb2 hb0 hr0
      refine wpAnyH_ready (rs := [3]) (by kernel_rfl) (by simp) ?_
      refine (AllReadyH.cons rfl (fun K hK => ?_) AllReadyH.nil)
      go_simp
      go_at_call 36
      refine (take1 (av := fun _ => False) w1 _ 1 _ _ _ (fun k hk => hk.elim) hBw hPw hXw hrw).mono ?_
      rintro e3 w5 ⟨a5, d5, rfl, -, -, hf5⟩
      have hb5 := hbW.trans ((show Below (W.heap.size + 2) w1 w5 from ⟨hf5.os, hf5.tape, hf5.output, hf5.size, fun k hk => hf5.block k (by omega) (.inl hk)⟩).mono (by omega))
      have Hb5 := hide hb5
      clear hb5 hf5
      go_wp2_with fail
      refine hK.out _ _ (unhide HS9 _ (unhide Hb5)) (fun hHeld => ?_)
      clear hK K
      refine take_dst (i := 4) (dst := some 5) (v := ?_) rfl rfl (by kernel_rfl) (by kernel_rfl) (by kernel_rfl) (fun _ _ _ h => h) (Or.inl ⟨by rfl, ?_⟩) hHeld ?_
      rotate_left
      · intro w hSw; obtain ⟨z0, z1, z2⟩ := hSw; go_simp; try (with_reducible rfl)
      simp only [Act.put, List.setIfInBounds_toArray, List.set_cons_zero, List.set_cons_succ]
      refine take_dst (i := 5) (dst := some 10) (v := ?_) rfl rfl (by kernel_rfl) (by kernel_rfl) (by kernel_rfl) (fun _ _ _ h => h) (Or.inl ⟨by rfl, ?_⟩) hHeld ?_
      rotate_left
      · intro w hSw; obtain ⟨z0, z1, z2⟩ := hSw; go_simp; try (with_reducible rfl)
      simp only [Act.put, List.setIfInBounds_toArray, List.set_cons_zero, List.set_cons_succ]
      refine take_dst (i := 6) (dst := some 11) (v := ?_) rfl rfl (by kernel_rfl) (by kernel_rfl) (by kernel_rfl) (fun _ _ _ h => h) (Or.inl ⟨by rfl, ?_⟩) hHeld ?_
      rotate_left
      · intro w hSw; obtain ⟨z0, z1, z2⟩ := hSw; go_simp; try (with_reducible rfl)
      simp only [Act.put, List.setIfInBounds_toArray, List.set_cons_zero, List.set_cons_succ]
      refine wpAnyH_ready (rs := [7]) (by kernel_rfl) (by simp) ?_
      refine (AllReadyH.cons rfl (fun K hK => ?_) AllReadyH.nil)
      go_simp
      refine hK.out _ _ (unhide HS9 _ (unhide Hb5)) (fun hHeld => ?_)
      clear hK K
      refine wpAnyH_ready (rs := [8]) (by kernel_rfl) (by simp) ?_
      refine (AllReadyH.cons rfl (fun K hK => ?_) AllReadyH.nil)
      go_simp
      refine hK.out _ _ (unhide HS9 _ (unhide Hb5)) (fun hHeld => ?_)
      clear hK K
      refine wpAnyH_done (by kernel_rfl) ?_ _
      go_wp2_with fail
      go_meet
      have hb6 := unhide Hb5
      exact ⟨rfl, (show Below W.heap.size W W1 from hW1).trans (hb6.mono (by omega))⟩
  case rest =>
    obtain ⟨rfl, hb⟩ := hcut
    have Hb := hide hb
    clear hb
    go_wp2
    go_ret
    exact ⟨rfl, unhide Hb⟩
end Go.Proofs.YtkimhfajfbcdmaaGreatDoor

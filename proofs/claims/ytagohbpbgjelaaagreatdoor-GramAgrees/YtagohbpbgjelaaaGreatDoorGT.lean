/- The code's reached. -/
import Derived.Test.YtagohbpbgjelaaaGreatDoorHQ
import Derived.Test.YtagohbpbgjelaaaGreatDoorIB
import Derived.Test.YtagohbpbgjelaaaGreatDoorA4
namespace Go.Proofs.YtagohbpbgjelaaaGreatDoor
open Go.RowKit

/-- While what is reached is gone through. -/
structure RhI (G : Gm) (ok : Nat → Bool) (okP : Pd → Bool) (w : World) (bb lb base : Nat) (fs : List Nat) (a m g cap : Nat) (W : World) : Prop where
  mrk : W.rowIs bb 4 G.rules.length (fun r => .bool (decide (r ∈ fs.take m)))
  lf : LeftAt W lb G.rules.length (fun i => decide (i < G.rules.length) && !decide (i ∈ fs))
  fd : W.ownsRow base 3 1 (.slice (some ⟨g, 0, none⟩) (castL fs).length cap) (castL fs).length (vints (castL fs))
  rc : RcI G ok okP fs a
  bl : Below w.heap.size w W
  le : base ≤ W.heap.size
set_option maxHeartbeats 1000000 in
set_option maxRecDepth 100000 in
theorem reached_any (G : Gm) (hG : GOk G) (ka pa ra qa : Option Addr) (kc pc rc qc gb ob ub : Nat) (M : Nat) (F : Nat) (cap : Array Value) (ok : Nat → Bool) (okP : Pd → Bool) (hok : ∀ q, q < G.prods.length → ok q = okP (G.prods.getD q pd0)) (hcf : ∀ args W, Sem.run Tryz.prog (callFunc F args) W = .ok (.enter F args) W) (w : World) (hM : M ≤ w.heap.size) (hg : GrAt M w G ka kc pa pc ra rc qa qc gb ob ub)
    (hF : ∀ W q, q < G.prods.length → Below w.heap.size w W → Calls Tryz.prog F (#[.int .i64 (q : Nat)] ++ cap) W fun e W' => e = .returned (.bool (ok q)) ∧ Below W.heap.size W W') :
    Calls Tryz.prog 32 #[.pointer (some ⟨gb, 0, none⟩), .func (.func F) #[] cap] w fun e w' => ∃ b : Nat, e = .returned (.slice (some ⟨b, 0, none⟩) G.rules.length G.rules.length) ∧ w'.rowIs b 4 G.rules.length (fun r => .bool (rchF G okP r)) ∧ w.heap.size ≤ b ∧ Below w.heap.size w w' := by
  obtain ⟨i3, hi3, hz30, hz31, hz32⟩ := info_parts info3
  have hr2 := hG.r2
  unfold Gm.nr at hr2
  have hs0 := hG.s0; have hs1 := hG.s1
  unfold Gm.nr at hs1
  obtain ⟨st, hst⟩ : ∃ st : Nat, G.start = st := ⟨G.start.toNat, by omega⟩
  have c2 : w.cell? ⟨gb, 2, none⟩ = some (.slice ra G.rules.length rc) := by unfold World.cell?; rw [hg.box]; rfl
  have c4 : w.cell? ⟨gb, 4, none⟩ = some (.int .i64 (st : Int)) := by unfold World.cell?; rw [hg.box, ← hst]; rfl
  have hgl : gb < w.heap.size := by have := hg.lt; omega
  have hmk := fun w => run_make_row' (P := Tryz.prog) 28 4 (.bool false) 1 Tryz.underlying28 info4 rfl .i64 .i64 G.rules.length (by omega) (by omega) w
  have hrs := rc_start hG ok okP
  have est : G.start.toNat = st := by omega
  rw [est] at hrs
  have Hg := hide hg; have HF := hide hF; have Hrs := hide hrs; have Hok := hide hok
  clear hg hF hrs hok
  go_enter Tryz.func32, Tryz.ntmps32
  go_wp2_with fail
  have hz1 := World.rowIs_made w (.bool false) G.rules.length 4
  have hb1 : Below w.heap.size w (w.alloc (Obj.cells (madeCells #[Value.bool false] G.rules.length) 4)) := (Below.refl _ _).alloc (Nat.le_refl _) _
  generalize hw1 : w.alloc (Obj.cells (madeCells #[Value.bool false] G.rules.length) 4) = w1 at *
  have hsz1 : w1.heap.size = w.heap.size + 1 := by rw [← hw1]; simp
  clear hw1
  refine (allLeft_any gb G.rules.length ra rc hr2 w1 (by omega) ((hb1.cell (by simpa using hgl)).trans c2)).mono ?_
  rintro e w2 ⟨lb, rfl, hlf2, hlb1, hlb2, hb2⟩
  have hs2 := hb2.size
  have hb12 := hb1.trans (below_le hb2 (by omega))
  have hz2 := hz1.of_block (hb2.block w.heap.size (by omega))
  have c4' := (hb12.cell (p := ⟨gb, 4, none⟩) (by simpa using hgl)).trans c4
  have HT := hide (take_any lb G.rules.length st _ (by omega) w2 hlf2)
  clear hlf2 hz1 c2 c4
  have Hb12 := hide hb12; have Hz2 := hide hz2
  clear hb12 hz2 hb1 hb2
  go_wp2_with fail
  refine (unhide HT).mono ?_
  rintro e w3 ⟨rfl, hlf3, hf3⟩
  have hs3 : w2.heap.size ≤ w3.heap.size := hf3.1
  have hb3 : Below w.heap.size w w3 := (unhide Hb12).trans (fr_below hf3 (by omega) (fun k hk => by omega))
  have hz3 := (unhide Hz2).of_block (hf3.2.1 w.heap.size (by omega) (by omega))
  have c4'' := (hb3.cell (p := ⟨gb, 4, none⟩) (by simpa using hgl)).trans ((unhide Hb12).cell (p := ⟨gb, 4, none⟩) (by simpa using hgl) ▸ c4')
  have HR0 : Hid (RhI G ok okP w w.heap.size lb w3.heap.size [st] 0 0 w3.heap.size 1 (w3.alloc (.cells #[.int .i64 (st : Int)] 3))) := hide (by
    refine ⟨?_, ?_, ?_, unhide Hrs, hb3.alloc hb3.size _, by simp⟩
    · refine ((hz3.of_block (w' := w3.alloc _) ?_)).congr (fun r _ => by simp)
      exact ((Below.refl w3.heap.size w3).alloc (Nat.le_refl _) _).block _ (by omega)
    · refine left_blk (W := w3) ?_ (((Below.refl w3.heap.size w3).alloc (Nat.le_refl _) _).block _ (by omega))
      obtain ⟨D, h1, h2⟩ := hlf3
      exact ⟨D, h1, fun i => by rw [h2 i]; by_cases e : i = st <;> simp [e]⟩
    · have := World.ownsRow_lit (base := w3.heap.size) (e := 3) (size := 1) w3 #[.int .i64 (st : Int)] 1 (Nat.le_refl _) (by unfold maxLen; omega) rfl
      simpa [castL, vints] using this)
  clear hlf3 hf3 hz3 hb3 HT Hb12 Hz2
  have hlb3 : lb < w3.heap.size := by omega
  go_wp2
  go_loopw [7, 8] (fun u x W => ∃ (fs : List Nat) (a g cp : Nat), u = .slice (some ⟨g, 0, none⟩) (castL fs).length cp ∧ x = .int .i64 a ∧ RhI G ok okP w w.heap.size lb w3.heap.size fs a a g cp W) (fun _ x _ => G.rules.length - (intOf x).toNat)
  case atStart => exact ⟨[st], 0, w3.heap.size, 1, rfl, rfl, unhide HR0⟩
  case round =>
    clear HR0 c4'' c4'
    obtain ⟨fs, a, g, cp, rfl, rfl, hR⟩ := hrel
    have hlen := rc_len hR.rc
    have hcl := castL_len fs
    by_cases hlt : a < fs.length
    · have hlt' : (a : Int) < (castL fs).length := by omega
      obtain ⟨_, _, he, hgl2, hca, hcf2⟩ := own_at hR.fd (i := a) (by omega)
      cases he
      rw [castL_get hlt] at hca
      have hrm : fs.getD a 0 ∈ fs := by rw [List.getD_eq_getElem?_getD, List.getElem?_eq_getElem hlt]; exact List.getElem_mem hlt
      have hrl := hR.rc.lt _ hrm
      have hrl' : ((fs.getD a 0 : Nat) : Int) < G.rules.length := by omega
      have hmc := hR.mrk.cell hrl
      have hmf := hR.mrk.frozen (fs.getD a 0)
      have hset : Fr (· = w.heap.size) wr (wr.setCell ⟨w.heap.size, fs.getD a 0, none⟩ (.bool true)) := fr_set (fr_refl _ _) (by rfl) _
      have hR1 : RhI G ok okP w w.heap.size lb w3.heap.size fs a (a + 1) g cp (wr.setCell ⟨w.heap.size, fs.getD a 0, none⟩ (.bool true)) := by
        have hg3 := (hR.fd.lt g rfl).1
        have hle := hR.le
        refine ⟨(hR.mrk.set (fs.getD a 0) _).congr (fun r _ => ?_), left_blk hR.lf (hset.2.1 lb (by omega) (by omega)), own_blk hR.fd (fun k hk => hset.2.1 k (hR.fd.lt k hk).2 (by have := (hR.fd.lt k hk).1; omega)), hR.rc, hR.bl.trans (fr_below hset hR.bl.size (fun k hk => by omega)), by have := hset.1; omega⟩
        have e : fs.take (a + 1) = fs.take a ++ [fs.getD a 0] := by rw [List.take_add_one, List.getD_eq_getElem?_getD, List.getElem?_eq_getElem hlt]; rfl
        rw [e]
        by_cases e2 : r = fs.getD a 0
        · subst e2; simp
        · rw [if_neg e2]; congr 1; rw [decide_eq_decide]; simp only [List.mem_append, List.mem_singleton]; exact ⟨Or.inl, fun h => h.resolve_right e2⟩
      have HN : Hid _ := hide (next_any G hG ka pa ra qa kc pc rc qc gb ob ub M F cap ok hcf (fs.getD a 0) hrl (wr.setCell ⟨w.heap.size, fs.getD a 0, none⟩ (.bool true)) (by have := hR1.bl.size; omega) (gr_kept (unhide Hg) (below_le hR1.bl hM)) (fun W q hq hb => unhide HF W q hq (hR1.bl.trans (below_le hb hR1.bl.size))))
      have hrch := hR1.rc.snd _ hrm
      have Hnx := hide (fun y hy => rc_reach (unhide Hok) hG hrch (y := y) hy)
      have hgl3 : g < (wr.setCell ⟨w.heap.size, fs.getD a 0, none⟩ (.bool true)).heap.size := (hR1.fd.lt g rfl).2
      have HR1 := hide hR1
      have hgb3 : w3.heap.size ≤ g := (hR.fd.lt g rfl).1
      have hrd := hide (show (wr.setCell ⟨w.heap.size, fs.getD a 0, none⟩ (.bool true)).cell? ⟨g, a, none⟩ = some (.int .i64 (fs.getD a 0 : Nat)) from (World.cell?_of_block (hset.2.1 g hgl2 (by omega))).trans hca)
      clear hR hR1 hset hrch
      generalize hrr : fs.getD a 0 = rr at *
      go_wp2_with fail
      generalize wr.setCell ⟨w.heap.size, rr, none⟩ (.bool true) = W1 at *
      refine (unhide HN).mono ?_
      rintro e W5 ⟨v5, rfl, how5, hb5⟩
      obtain ⟨va, vc, rfl⟩ := own_form how5
      have hs5 := hb5.size
      have hR1 := unhide HR1
      have hs1w := hR1.le
      have hl1 := left_lt hR1.lf
      have hm1 := hR1.mrk.lt
      have hR5 : RhI G ok okP w w.heap.size lb w3.heap.size fs a (a + 1) g cp W5 := ⟨hR1.mrk.of_block (hb5.block _ hm1), left_blk hR1.lf (hb5.block _ hl1), own_blk hR1.fd (fun k hk => hb5.block k (hR1.fd.lt k hk).2), hR1.rc, hR1.bl.trans (below_le hb5 hR1.bl.size), by omega⟩
      have hln : (nxtL G ok (ownN G rr)).length ≤ 262144 := by
        have h1 := nxtL_len G hG ok (ownN G rr) (fun q hq => ownN_mem hq)
        have h2 := ownN_len G rr
        have h3 := hG.ps
        omega
      have HR5 := hide hR5; have How5 := hide how5
      clear hR5 hR1 how5 hb5 HR1 HN hca hcf2 hmc hmf hrd
      generalize hL : nxtL G ok (ownN G rr) = L at *
      go_wp2
      go_loopw [7, 53] (fun u x W => ∃ (fs' : List Nat) (j g' cp' : Nat), u = .slice (some ⟨g', 0, none⟩) (castL fs').length cp' ∧ x = .int .i64 j ∧ j ≤ L.length ∧ RhI G ok okP w w.heap.size lb w3.heap.size fs' a (a + 1) g' cp' W ∧ (∃ t, fs' = fs ++ t) ∧ (∀ i, i < j → (L.getD i 0).toNat ∈ fs') ∧ W.ownsRow W1.heap.size 3 1 (.slice va L.length vc) L.length (vints L) ∧ (Value.slice va L.length vc).ownBlock ≠ some g') (fun _ x _ => L.length - (intOf x).toNat)
      case atStart => exact ⟨fs, 0, g, cp, by rw [hcl], rfl, Nat.zero_le _, unhide HR5, ⟨[], by simp⟩, fun i hi => by omega, unhide How5, fun e => by have := ((unhide How5).lt g e).1; omega⟩
      case round =>
        clear HR5 How5
        obtain ⟨fs', j, g', cp', rfl, rfl, hj, hR, hpre, hin, hown, hne⟩ := hrel
        by_cases hjl : j < L.length
        · have hjl' : (j : Int) < L.length := by omega
          obtain ⟨_, _, he, hglL, hcL, -⟩ := own_at hown hjl
          cases he
          have hym : L.getD j 0 ∈ L := by rw [List.getD_eq_getElem?_getD, List.getElem?_eq_getElem hjl]; exact List.getElem_mem hjl
          obtain ⟨hyr, hy0, hyl⟩ := unhide Hnx _ hym
          obtain ⟨y, hy⟩ : ∃ y : Nat, L.getD j 0 = y := ⟨(L.getD j 0).toNat, by omega⟩
          have hin' : ∀ F : List Nat, (∃ t, F = fs' ++ t) → y ∈ F → ∀ i, i < j + 1 → (L.getD i 0).toNat ∈ F := fun F ⟨t, ht⟩ hyF i hi => by
            by_cases e : i = j
            · subst e; rw [hy]; simpa using hyF
            · rw [ht]; exact List.mem_append_left _ (hin i (by omega))
          rw [hy] at hcL hyr hyl
          simp only [Int.toNat_natCast] at hyr hyl
          have HT := hide (take_any lb G.rules.length y _ (by omega) wr hR.lf)
          have hfl := rc_len hR.rc
          have hcl' := hide (castL_len fs')
          have HR := hide hR; have Hpre := hide hpre; have Hin := hide hin'; have Hown := hide hown
          clear hR hpre hin hin' hown
          go_wp2_with fail
          refine (unhide HT).mono ?_
          rintro e w6 ⟨rfl, hlf6, hf6⟩
          have hR := unhide HR
          have hgg := hR.fd.lt g' rfl
          have hmm := hR.mrk.lt
          have hs6 : wr.heap.size ≤ w6.heap.size := hf6.1
          have hmk6 := hR.mrk.of_block (hf6.2.1 _ hmm (by omega))
          have hfd6 := own_blk hR.fd (fun k hk => hf6.2.1 k (hR.fd.lt k hk).2 (by have := (hR.fd.lt k hk).1; omega))
          have hb6 := hR.bl.trans (fr_below hf6 hR.bl.size (fun k hk => by omega))
          have ho6 := own_blk (unhide Hown) (fun k hk => hf6.2.1 k ((unhide Hown).lt k hk).2 (by have := ((unhide Hown).lt k hk).1; omega))
          have hle := hR.le
          by_cases hyf : y ∈ fs'
          · have e1 : (decide (y < G.rules.length) && !decide (y ∈ fs')) = false := by simp [hyf]
            rw [e1]
            have HR6 : Hid (RhI G ok okP w w.heap.size lb w3.heap.size fs' a (a + 1) g' cp' w6) := hide (by
              refine ⟨hmk6, ?_, hfd6, hR.rc, hb6, by omega⟩
              obtain ⟨D, h1, h2⟩ := hlf6
              exact ⟨D, h1, fun i => by rw [h2 i]; by_cases e : i = y <;> simp [e, hyf]⟩)
            have Ho6 := hide ho6
            clear hlf6 hf6 hR hmk6 hfd6 hb6 ho6 HR
            go_wp2
            go_roundw
            case rel => exact ⟨fs', j + 1, g', cp', by rw [unhide hcl'], by go_num, by omega, unhide HR6, unhide Hpre, unhide Hin fs' ⟨[], by simp⟩ hyf, unhide Ho6, hne⟩
            case measure => simp [intOf]; omega
          · have e1 : (decide (y < G.rules.length) && !decide (y ∈ fs')) = true := by simp [hyf, hyl]
            rw [e1]
            have HA := hide (And.intro hmk6 (And.intro hlf6 (And.intro hb6 (And.intro ho6 hR.rc))))
            have Hfd6 := hide hfd6
            clear hlf6 hf6 hR hmk6 hfd6 hb6 ho6 HR
            have hcl2 := unhide hcl'
            rw [hcl2] at Hfd6
            go_wp2_with (at_builtin; refine wpList_append_lies _ rfl _ _ 27 rfl w3.heap.size 3 i3 (.int .i64 0) 1 8 Tryz.underlying27 hi3 hz30 hz31 hz32 rfl (by decide) _ _ _ rfl ((unhide Hfd6).alloc _) ⟨w6.heap.size, 0, none⟩ 1 1 [.int .i64 (y : Int)] rfl rfl (new1 _ _ _) ?zc2 (by decide) ?zc3 ?zc4 ?zc5 (w6.heap.size + 1) (by simp) ?_)
            case zc2 => intro u hu; simp at hu; rcases hu with rfl; rfl
            case zc3 => unfold maxLen; omega
            case zc4 => omega
            case zc5 => simp; omega
            intro g7 cap7 W7 hown7 hgrow hg7 hl7
            obtain ⟨hmk6, hlf6, hb6, ho6, hrc⟩ := unhide HA
            have hal : Below w6.heap.size w6 (w6.alloc (.cells #[.int .i64 (y : Int)] 3)) := (Below.refl _ _).alloc (Nat.le_refl _) _
            have hkp : ∀ k, k < w6.heap.size → k ≠ g' → W7.heap[k]? = w6.heap[k]? := fun k hk hne' => (hgrow.block k (by have := hal.size; omega) (fun e => hne' (by simpa [Value.ownBlock, eq_comm] using e))).trans (hal.block k hk)
            have hs7 : w6.heap.size ≤ W7.heap.size := Nat.le_trans hal.size hgrow.size
            have HR7 : Hid (RhI G ok okP w w.heap.size lb w3.heap.size (fs' ++ [y]) a (a + 1) g7 cap7 W7) := hide (by
              refine ⟨(hmk6.of_block (hkp _ (by omega) (by omega))).congr (fun r _ => ?_), ?_, ?_, rc_push hrc hyl hyr hyf, ?_, by omega⟩
              · have hpl : a + 1 ≤ fs'.length := by obtain ⟨t, ht⟩ := unhide Hpre; rw [ht, List.length_append]; omega
                rw [List.take_append_of_le_length hpl]
              · refine left_blk (W := w6) ?_ (hkp _ (by omega) (by omega))
                obtain ⟨D, h1, h2⟩ := hlf6
                exact ⟨D, h1, fun i => by rw [h2 i]; by_cases e : i = y <;> simp [e, hyl]⟩
              · have e2 : castL (fs' ++ [y]) = castL fs' ++ [(y : Int)] := by simp [castL]
                rw [castL_len, List.length_append, e2, ← vints_snoc]
                exact hown7
              · have hga : ∀ k, (Value.slice (some ⟨g', 0, none⟩) fs'.length cp').ownBlock = some k → w.heap.size ≤ k := fun k hk => by
                  have e3 : g' = k := by simpa [Value.ownBlock] using hk
                  omega
                exact (hb6.alloc hb6.size _).grown hgrow (Nat.le_trans hb6.size hal.size) hga)
            have Ho7 := hide (own_blk ho6 (fun k hk => hkp k (ho6.lt k hk).2 (fun e => hne (by rw [← e]; exact hk))))
            have Hne7 : Hid (∀ k, some k = some g7 → (Value.slice (some ⟨_, 0, none⟩) L.length _).ownBlock ≠ some k) := hide (fun k hk e => by
              cases hk
              rcases hg7 with h | h
              · exact hne (e.trans h.symm)
              · have := (ho6.lt g7 e).2
                omega)
            clear hown7 hgrow hmk6 hlf6 hb6 ho6 hrc HA hkp
            go_wp2
            go_roundw
            case rel => exact ⟨fs' ++ [y], j + 1, g7, cap7, by rw [castL_len, List.length_append]; rfl, by go_num, by omega, unhide HR7, (unhide Hpre).elim fun t ht => ⟨t ++ [y], by rw [ht, List.append_assoc]⟩, unhide Hin _ ⟨[y], rfl⟩ (by simp), unhide Ho7, unhide Hne7 _ rfl⟩
            case measure => simp [intOf]; omega
        · obtain rfl : j = L.length := by omega
          have HR := hide hR; have Hpre := hide hpre; have Hin := hide hin
          clear hR hpre hin hown
          go_wp2
          go_roundw
          case rel =>
            obtain ⟨t, ht⟩ := unhide Hpre
            have hR := unhide HR
            refine ⟨fs', a + 1, g', cp', rfl, by go_num, hR.mrk, hR.lf, hR.fd, rc_next hR.rc (by rw [ht, List.length_append]; omega) (fun y hy => ?_), hR.bl, hR.le⟩
            have e1 : fs'.getD a 0 = rr := by rw [ht, List.getD_eq_getElem?_getD, List.getElem?_append_left hlt, ← List.getD_eq_getElem?_getD]; exact hrr
            rw [e1, hL] at hy
            obtain ⟨i, hi, e2⟩ := List.getElem_of_mem hy
            have := unhide Hin i hi
            rw [List.getD_eq_getElem?_getD, List.getElem?_eq_getElem hi] at this
            simpa [e2] using this
          case measure => simp [intOf]; omega
    · obtain rfl : a = fs.length := by have := hR.rc.le; omega
      have Hend := hide (rc_end (unhide Hok) hR.rc)
      have HR := hide hR
      clear hR
      go_wp2
      go_ret
      refine ⟨w.heap.size, rfl, (unhide HR).mrk.congr (fun r _ => ?_), Nat.le_refl _, (unhide HR).bl⟩
      rw [List.take_of_length_le (Nat.le_refl _), ← unhide Hend]
end Go.Proofs.YtagohbpbgjelaaaGreatDoor

/- Plain mathematics: the code's productions of shortest rows are the document's, wherever a row is not too long. -/
namespace Go.Proofs.YtagohbpbgjelaaaGreatDoor
open Go.RowKit

theorem okP_iff {G : Gm} {f c : Nat → Int} {q : Nat} : okP G f c (G.prods.getD q pd0) = true ↔ (∀ x, x ∈ rlN G q → 0 ≤ c x) ∧ lenR G.nk f (G.prods.getD q pd0).right 0 = f (lfN G q) := by
  unfold okP
  rw [Bool.and_eq_true, wholeB_iff, decide_eq_true_eq]
  refine and_congr ?_ Iff.rfl
  constructor
  · intro h x hx
    obtain ⟨y, h1, h2, rfl⟩ := rlN_mem.1 hx
    exact of_decide_eq_true (h y h1 h2)
  · intro h y h1 h2
    exact decide_eq_true (h _ (rlN_mem.2 ⟨y, h1, h2, rfl⟩))
theorem sumL_mem {L : Nat → Int} : ∀ (l : List Nat) (x : Nat), x ∈ l → 0 ≤ L x → L x ≤ sumL L l
  | [], x, h, _ => by cases h
  | y :: l, x, h, h0 => by
    have hs := (sumL_ge L l).1
    rcases List.mem_cons.1 h with rfl | h
    · unfold sumL; rw [if_pos h0]; omega
    · have := sumL_mem l x h h0
      unfold sumL
      split <;> omega
theorem lnN_fd {G : Gm} {f : Nat → Int} {q : Nat} (h : ∀ x, x ∈ rlN G q → 0 ≤ f x) : lnN G f q = kcN G q + sumL f (rlN G q) := by unfold lnN; rw [smA_fd _ h]
theorem okR_iff {rl : Nat → List Nat} {el : Nat → Bool} {c : Nat → Int} {q : Nat} : okR rl el c q = true ↔ el q = true ∧ ∀ x, x ∈ rl q → 0 ≤ c x := by
  unfold okR
  rw [Bool.and_eq_true, List.all_eq_true]
  refine and_congr Iff.rfl ?_
  constructor
  · intro h x hx; exact of_decide_eq_true (h x hx)
  · intro h x hx; exact decide_eq_true (h x hx)
theorem chL_from (lf : Nat → Nat) : ∀ (l : List Nat) (c : Nat → Int) (r : Nat), 0 ≤ chL lf l c r → 0 ≤ c r ∨ ∃ q, q ∈ l ∧ lf q = r
  | [], _, _, h => .inl h
  | k :: l, c, r, h => by
    rcases chL_from lf l _ r h with h1 | ⟨q, h1, h2⟩
    · by_cases e : lf k = r
      · exact .inr ⟨k, by simp, e⟩
      · left
        split at h1
        · rwa [upZ_ne (fun h => e h.symm)] at h1
        · exact h1
    · exact .inr ⟨q, by simp [h1], h2⟩
section
variable {G : Gm} {f c c' : Nat → Int} {el : Nat → Bool}
theorem st_ok (hc : ∀ x, 0 ≤ c x → 0 ≤ f x) (hc' : ∀ x, 0 ≤ c' x → 0 ≤ f x) (ha : ∀ r, f r ≤ 65536 → c r = c' r) {q : Nat} (hel : el q = decide (lnN G f q = f (lfN G q))) (hq : f (lfN G q) ≤ 65536) : okR (rlN G) el c q = okP G f c' (G.prods.getD q pd0) := by
  rw [Bool.eq_iff_iff, okR_iff, okP_iff, hel, decide_eq_true_eq]
  have hk := kcN_nn G q
  constructor
  · rintro ⟨h1, h2⟩
    have h3 : ∀ x, x ∈ rlN G q → 0 ≤ f x := fun x hx => hc x (h2 x hx)
    have h4 := lnN_fd h3
    refine ⟨fun x hx => ?_, ?_⟩
    · have := sumL_mem (L := f) _ x hx (h3 x hx)
      rw [← ha x (by omega)]
      exact h2 x hx
    · rw [lenR_q h3]; omega
  · rintro ⟨h1, h2⟩
    have h3 : ∀ x, x ∈ rlN G q → 0 ≤ f x := fun x hx => hc' x (h1 x hx)
    have h4 := lnN_fd h3
    rw [lenR_q h3] at h2
    refine ⟨by omega, fun x hx => ?_⟩
    have := sumL_mem (L := f) _ x hx (h3 x hx)
    rw [ha x (by omega)]
    exact h1 x hx
theorem st_to (hc : ∀ x, 0 ≤ c x → 0 ≤ f x) (hc' : ∀ x, 0 ≤ c' x → 0 ≤ f x) (ha : ∀ r, f r ≤ 65536 → c r = c' r) (hel : ∀ q, q < G.prods.length → el q = decide (lnN G f q = f (lfN G q))) : ∀ k, k ≤ G.prods.length → ∀ r, f r ≤ 65536 → chL (lfN G) ((List.range k).filter (okR (rlN G) el c)) c r = chTo G f c' k r
  | 0, _, r, hr => ha r hr
  | k + 1, hk, r, hr => by
    have ih := st_to hc hc' ha hel k (by omega) r hr
    rw [List.range_succ, List.filter_append, chL_append]
    generalize chL (lfN G) ((List.range k).filter (okR (rlN G) el c)) c = d at *
    have elf : (G.prods.getD k pd0).left.toNat = lfN G k := rfl
    by_cases e : lfN G k = r
    · have hok := st_ok hc hc' ha (hel k (by omega)) (by rw [e]; exact hr)
      conv => rhs; unfold chTo
      rw [elf, e, ← ih, ← hok]
      by_cases ho : okR (rlN G) el c k = true
      · rw [List.filter_cons, if_pos ho]
        show (if d (lfN G k) < 0 then upZ d (lfN G k) k else d) r = _
        rw [e]
        by_cases hd : d r < 0
        · rw [if_pos hd, if_pos ⟨hd, ho⟩, upZ_self]; unfold updI; rw [if_pos rfl]
        · rw [if_neg hd, if_neg (fun h => hd h.1)]; exact ih
      · rw [List.filter_cons, if_neg ho, if_neg (fun h => ho h.2)]
        exact ih
    · have h1 : chTo G f c' (k + 1) r = chTo G f c' k r := by
        conv => lhs; unfold chTo
        split
        · unfold updI; rw [if_neg (by rw [elf]; exact fun h => e h.symm)]
        · rfl
      rw [h1, ← ih, List.filter_cons]
      split
      · show (if d (lfN G k) < 0 then upZ d (lfN G k) k else d) r = _
        split
        · rw [upZ_ne (fun h => e h.symm)]
        · rfl
      · rfl
theorem short_agree (hel : ∀ q, q < G.prods.length → el q = decide (lnN G f q = f (lfN G q))) : ∀ n, (∀ r, 0 ≤ stN (lfN G) (rlN G) el G.prods.length n r → 0 ≤ f r) ∧ (∀ r, 0 ≤ chS G f n r → 0 ≤ f r) ∧ ∀ r, f r ≤ 65536 → stN (lfN G) (rlN G) el G.prods.length n r = chS G f n r
  | 0 => ⟨fun r h => by have h : (0 : Int) ≤ -1 := h; omega, fun r h => by have h : (0 : Int) ≤ -1 := h; omega, fun r _ => rfl⟩
  | n + 1 => by
    obtain ⟨h1, h2, h3⟩ := short_agree hel n
    refine ⟨fun r hr => ?_, fun r hr => ?_, fun r hr => st_to h1 h2 h3 hel _ (Nat.le_refl _) r hr⟩
    · rcases chL_from _ _ _ r hr with h | ⟨q, hq, rfl⟩
      · exact h1 r h
      · obtain ⟨hq1, hq2⟩ := List.mem_filter.1 hq
        obtain ⟨ho1, ho2⟩ := okR_iff.1 hq2
        rw [hel q (List.mem_range.1 hq1), decide_eq_true_eq, lnN_fd (fun x hx => h1 x (ho2 x hx))] at ho1
        have := kcN_nn G q
        have := (sumL_ge f (rlN G q)).1
        omega
    · rcases chTo_what _ hr with ⟨h, -⟩ | ⟨i, hi, -, rfl, ho⟩
      · exact h2 r h
      · obtain ⟨ho1, ho2⟩ := okP_iff.1 ho
        rw [lenR_q (fun x hx => h2 x (ho1 x hx))] at ho2
        have := kcN_nn G i
        have := (sumL_ge f (rlN G i)).1
        show 0 ≤ f (lfN G i)
        omega
theorem stN_fix {n : Nat} (h : stT (lfN G) (rlN G) el G.prods.length (stN (lfN G) (rlN G) el G.prods.length n) = stN (lfN G) (rlN G) el G.prods.length n) : ∀ d, stN (lfN G) (rlN G) el G.prods.length (n + d) = stN (lfN G) (rlN G) el G.prods.length n
  | 0 => rfl
  | d + 1 => by
    show stT _ _ _ _ (stN (lfN G) (rlN G) el G.prods.length (n + d)) = _
    rw [stN_fix h d, h]
/-- What the code has chosen is what the document chooses, of rules whose rows are not too long. -/
theorem short_chosen {n : Nat} (hel : ∀ q, q < G.prods.length → el q = decide (lnN G f q = f (lfN G q))) (hc : c = stN (lfN G) (rlN G) el G.prods.length n) (hs : stT (lfN G) (rlN G) el G.prods.length c = c) (hch : ChosenIs G f c') {r : Nat} (hr : f r ≤ 65536) : c r = c' r := by
  subst hc
  obtain ⟨m, rfl, hm⟩ := hch
  have h1 := (short_agree hel (n + m)).2.2 r hr
  rw [stN_fix hs m, Nat.add_comm n m, chS_fix hm n] at h1
  exact h1
end
end Go.Proofs.YtagohbpbgjelaaaGreatDoor

/- The code's Row, where it tells no row. -/
namespace Go.Proofs.YtagohbpbgjelaaaGreatDoor
open Go.RowKit

set_option maxHeartbeats 2000000 in
set_option maxRecDepth 100000 in
theorem rowno26 (G : Gm) (hc : checkB G = false) (ka pa ra qa : Option Addr) (kc pc rc qc : Nat) (rule : Int) (w : World) (hin : GIn w.heap.size w G ka pa ra qa) (hsm : smG G) : Calls Tryz.prog 26 #[gV G ka pa ra qa kc pc rc qc, .int .i64 rule] w fun e w' => e = .returned (.tuple #[.slice none 0 0, .int .i64 130]) ∧ Below w.heap.size w w' := by
  have hst := gst_new (kc := kc) (pc := pc) (rc := rc) (qc := qc) (Nat.le_refl _) hin 26
  have hb1 : Below w.heap.size w (w.alloc (.cells #[.slice ka G.kinds.length kc, .slice pa G.precs.length pc, .slice ra G.rules.length rc, .slice qa G.prods.length qc, .int .i64 G.start] 26)) := (Below.refl _ _).alloc (Nat.le_refl _) _
  have HM := hide (mayBe_any G ka pa ra qa kc pc rc qc _ (gin_up hin hb1) hsm)
  rw [hc] at HM
  have Hb1 := hide hb1
  have hnot := run_not
  clear hst hb1 hin hsm hc
  go_enter Tryz.func26, Tryz.ntmps26
  go_wp2_with fail
  refine (unhide HM).mono ?_
  rintro e w2 ⟨rfl, hb2⟩
  have Hb2 := hide ((unhide Hb1).trans (below_le hb2 (by simp)))
  clear hb2
  go_wp2
  refine bodyPost_ret (v := .tuple #[.slice none 0 0, .int .i64 130]) ?zz9 rfl ⟨rfl, unhide Hb2⟩
  case zz9 => simp [results, Tryz.results26, go_sem]
set_option maxHeartbeats 2000000 in
set_option maxRecDepth 100000 in
theorem rowout26 (G : Gm) (hc : checkB G = true) (ka pa ra qa : Option Addr) (kc pc rc qc : Nat) (rule : Int) (hr : rule < 0 ∨ (G.rules.length : Int) ≤ rule) (w : World) (hin : GIn w.heap.size w G ka pa ra qa) : Calls Tryz.prog 26 #[gV G ka pa ra qa kc pc rc qc, .int .i64 rule] w fun e w' => e = .returned (.tuple #[.slice none 0 0, .int .i64 1]) ∧ Below w.heap.size w w' := by
  have hG := check_ok hc
  have hst := gst_new (kc := kc) (pc := pc) (rc := rc) (qc := qc) (Nat.le_refl _) hin 26
  have hb1 : Below w.heap.size w (w.alloc (.cells #[.slice ka G.kinds.length kc, .slice pa G.precs.length pc, .slice ra G.rules.length rc, .slice qa G.prods.length qc, .int .i64 G.start] 26)) := (Below.refl _ _).alloc (Nat.le_refl _) _
  have HM := hide (mayBe_any G ka pa ra qa kc pc rc qc _ (gin_up hin hb1) (smG_ok hG))
  rw [hc] at HM
  have Hb1 := hide hb1; have Hst := hide hst
  have hnot := run_not
  have hs1 : (w.alloc (.cells #[.slice ka G.kinds.length kc, .slice pa G.precs.length pc, .slice ra G.rules.length rc, .slice qa G.prods.length qc, .int .i64 G.start] 26)).heap.size = w.heap.size + 1 := by simp
  clear hst hb1 hin hc
  go_enter Tryz.func26, Tryz.ntmps26
  go_wp2_with fail
  generalize w.alloc (.cells #[.slice ka G.kinds.length kc, .slice pa G.precs.length pc, .slice ra G.rules.length rc, .slice qa G.prods.length qc, .int .i64 G.start] 26) = w1 at *
  refine (unhide HM).mono ?_
  rintro e w2 ⟨rfl, hb2⟩
  have hs2 := hb2.size
  have hbw2 := (unhide Hb1).trans (below_le hb2 (by omega))
  have hst2 := gst_kept (below_le hb2 (by omega)) (Nat.le_refl _) (unhide Hst)
  have d0 := hst2.c0; have d1 := hst2.c1; have d2 := hst2.c2; have d3 := hst2.c3; have d4 := hst2.c4
  have HA := hide (isRule_any ka pa ra qa G.kinds.length kc G.precs.length pc G.rules.length rc G.prods.length qc G.start rule w2)
  have hdec : decide (0 ≤ rule ∧ rule < G.rules.length) = false := decide_eq_false (by omega)
  rw [hdec] at HA
  have Hbw2 := hide hbw2
  have hs2w : w.heap.size + 1 ≤ w2.heap.size := by omega
  clear hb2 hbw2 hst2 HM hdec
  go_wp2_with fail
  refine (unhide HA).mono ?_
  rintro e w3 ⟨rfl, hb3⟩
  have Hbw3 := hide ((unhide Hbw2).trans (below_le hb3 (by omega)))
  clear hb3
  go_wp2
  refine bodyPost_ret (v := .tuple #[.slice none 0 0, .int .i64 1]) ?zz9 rfl ⟨rfl, unhide Hbw3⟩
  case zz9 => simp [results, Tryz.results26, go_sem]
set_option maxHeartbeats 2000000 in
set_option maxRecDepth 100000 in
theorem rownone26 (G : Gm) (hc : checkB G = true) (ka pa ra qa : Option Addr) (kc pc rc qc : Nat) (r : Nat) (hr : r < G.rules.length) (f : Nat → Int) (hf : LeastIs G f) (hfr : f r = -1 ∨ f r = 65537) (w : World) (hin : GIn w.heap.size w G ka pa ra qa) : Calls Tryz.prog 26 #[gV G ka pa ra qa kc pc rc qc, .int .i64 (r : Int)] w fun e w' => e = .returned (.tuple #[.slice none 0 0, .int .i64 (if f r = -1 then 8 else 3)]) ∧ Below w.heap.size w w' := by
  have hG := check_ok hc
  have hst := gst_new (kc := kc) (pc := pc) (rc := rc) (qc := qc) (Nat.le_refl _) hin 26
  have hb1 : Below w.heap.size w (w.alloc (.cells #[.slice ka G.kinds.length kc, .slice pa G.precs.length pc, .slice ra G.rules.length rc, .slice qa G.prods.length qc, .int .i64 G.start] 26)) := (Below.refl _ _).alloc (Nat.le_refl _) _
  have HM := hide (mayBe_any G ka pa ra qa kc pc rc qc _ (gin_up hin hb1) (smG_ok hG))
  rw [hc] at HM
  have Hb1 := hide hb1; have Hst := hide hst; have Hin := hide hin
  have hnot := run_not
  have hs1 : (w.alloc (.cells #[.slice ka G.kinds.length kc, .slice pa G.precs.length pc, .slice ra G.rules.length rc, .slice qa G.prods.length qc, .int .i64 G.start] 26)).heap.size = w.heap.size + 1 := by simp
  clear hst hb1 hin hc
  go_enter Tryz.func26, Tryz.ntmps26
  go_wp2_with fail
  generalize w.alloc (.cells #[.slice ka G.kinds.length kc, .slice pa G.precs.length pc, .slice ra G.rules.length rc, .slice qa G.prods.length qc, .int .i64 G.start] 26) = w1 at *
  refine (unhide HM).mono ?_
  rintro e w2 ⟨rfl, hb2⟩
  have hs2 := hb2.size
  have hbw2 := (unhide Hb1).trans (below_le hb2 (by omega))
  have hst2 := gst_kept (below_le hb2 (by omega)) (Nat.le_refl _) (unhide Hst)
  have d0 := hst2.c0; have d1 := hst2.c1; have d2 := hst2.c2; have d3 := hst2.c3; have d4 := hst2.c4
  have HA := hide (isRule_any ka pa ra qa G.kinds.length kc G.precs.length pc G.rules.length rc G.prods.length qc G.start (r : Int) w2)
  have hdec : decide (0 ≤ (r : Int) ∧ (r : Int) < G.rules.length) = true := decide_eq_true (by omega)
  rw [hdec] at HA
  have Hbw2 := hide hbw2
  have hs2w : w.heap.size + 1 ≤ w2.heap.size := by omega
  clear hb2 hbw2 hst2 HM hdec
  go_wp2_with fail
  refine (unhide HA).mono ?_
  rintro e w3 ⟨rfl, hb3⟩
  have hs3 := hb3.size
  have hbw3 := (unhide Hbw2).trans (below_le hb3 (by omega))
  have e0 := (hb3.cell (p := ⟨w.heap.size, 0, none⟩) (by show w.heap.size < _; omega)).trans d0
  have e1 := (hb3.cell (p := ⟨w.heap.size, 1, none⟩) (by show w.heap.size < _; omega)).trans d1
  have e2 := (hb3.cell (p := ⟨w.heap.size, 2, none⟩) (by show w.heap.size < _; omega)).trans d2
  have e3 := (hb3.cell (p := ⟨w.heap.size, 3, none⟩) (by show w.heap.size < _; omega)).trans d3
  have e4 := (hb3.cell (p := ⟨w.heap.size, 4, none⟩) (by show w.heap.size < _; omega)).trans d4
  have HNG := hide (newGrammar_any G hG ka pa ra qa kc pc rc qc w3 (gin_up (unhide Hin) hbw3))
  have Hbw3 := hide hbw3
  clear hb3 hbw3 d0 d1 d2 d3 d4 HA
  go_wp2_with fail
  refine (unhide HNG).mono ?_
  rintro e w4 ⟨gb, ob, ub, rfl, hg4, hb4⟩
  have hs4 := hb4.size
  have HLE := hide (leasts_any G hG ka pa ra qa kc pc rc qc gb ob ub w4.heap.size w4 (Nat.le_refl _) hg4)
  have Hbw4 := hide ((unhide Hbw3).trans (below_le hb4 (by have := (unhide Hbw3).size; omega)))
  clear hg4 hb4 HNG e0 e1 e2 e3 e4
  go_wp2_with fail
  refine (unhide HLE).mono ?_
  rintro e w5 ⟨b, L, rfl, hrow, hL, hbb, hb5⟩
  have Hbw5 := hide ((unhide Hbw4).trans (below_le hb5 (unhide Hbw4).size))
  have lc := hrow.cell hr
  have hr' : (r : Int) < G.rules.length := by omega
  obtain rfl := least_uniq hf hL
  clear hb5 HLE hL hrow hf
  rcases hfr with hneg | hlong
  · rw [hneg] at lc
    go_wp2
    refine bodyPost_ret (v := .tuple #[.slice none 0 0, .int .i64 8]) ?zz9 rfl ⟨rfl, unhide Hbw5⟩
    case zz9 => simp [results, Tryz.results26, go_sem]
  · rw [hlong] at lc
    go_wp2
    refine bodyPost_ret (v := .tuple #[.slice none 0 0, .int .i64 3]) ?zz9 rfl ⟨rfl, unhide Hbw5⟩
    case zz9 => simp [results, Tryz.results26, go_sem]
end Go.Proofs.YtagohbpbgjelaaaGreatDoor

/- Sets: slices.Delete of one block. -/
import Derived.Test.YtdpphjedjhjdgaaDoorT3
namespace Go.Proofs.YtdpphjedjhjdgaaDoor
open Go.RowKit Go.Maps

theorem run_append_over {P : Program} (w : World) (dT sT ty elem : TypeId) (i : TypeInfo) (sz : Nat) (g k c : Nat) (a : Addr) (m sCap : Nat) (cur : List Value) (t : TypeId) (cs : List Value)
    (hu : P.underlying dT = some (.slice elem)) (hu2 : P.underlying sT = some (.slice elem)) (hi : P.info? elem = some i) (hs : i.size = sz)
    (hg : w.heap[g]? = some (.cells cur.toArray t (0, 0))) (hn : cs.length = m * sz) (hroom : k + m ≤ c)
    (hsrc : ∀ j v, cs[j]? = some v → w.cell? (a.add j) = some v) (hfit : k * sz + cs.length ≤ cur.length) (h1 : ∀ v ∈ cs, v.oneCell' = true) :
    (Builtin.append_ #[dT, sT] ty #[.slice (some ⟨g, 0, none⟩) k c, .slice (some a) m sCap]).run P w = .ok (.slice (some ⟨g, 0, none⟩) (k + m) c) (w.setRow g (over cur (k * sz) cs).toArray) := by
  have hl := run_firstCells_some (P := P) w sz m a m sCap cs hn hsrc
  have hst := run_storeCells_at P g (k * sz) t cs 0 cur.toArray w hg (by simpa using hfit) h1
  have hadd : (⟨g, 0, none⟩ : Addr).add (k * sz) = ⟨g, k * sz, none⟩ := by unfold Addr.add; split <;> simp_all
  simp [Builtin.append_, run_underlying hu, run_underlying hu2, sizeOf, typeInfo, hi, hs, Builtin.lenOf, hroom, hl, hadd, hst, over]
theorem run_clear_over {P : Program} (w : World) (t e ty : TypeId) (z : Value) (ht : P.underlying t = some (.slice e)) (hv : ∀ w, (zeroValue e).run P w = .ok z w) (g o n c : Nat) (hn : 0 < n) (cur : List Value) (tt : TypeId)
    (hg : w.heap[g]? = some (.cells cur.toArray tt (0, 0))) (hfit : o + (Builtin.zeroCells z.cells n).toList.length ≤ cur.length) (h1 : ∀ v ∈ (Builtin.zeroCells z.cells n).toList, v.oneCell' = true) :
    (Builtin.clear_ #[t] ty #[.slice (some ⟨g, o, none⟩) n c]).run P w = .ok (.tuple #[]) (w.setRow g (over cur o (Builtin.zeroCells z.cells n).toList).toArray) := by
  have hst := run_storeCells_at P g o tt (Builtin.zeroCells z.cells n).toList 0 cur.toArray w hg (by simpa using hfit) h1
  obtain ⟨m, rfl⟩ : ∃ m, n = m + 1 := ⟨n - 1, by omega⟩
  simp [Builtin.clear_, run_underlying ht, hv, hst, over]
theorem wpList_clear_known {P : Program} (w : World) {ops : Array Oper} {rest : List Oper} {o : Oper} {a : Act} {Q : Exit → Act → World → Prop} (hgd : o.guard = none) (s : Operand) (t : TypeId)
    (ho : o.op = .call { callee := .builtin .clear, args := #[s], argTypes := #[t] }) (u : Value) (hs : a.eval s = u) {v' : Value} {w' : World}
    (hr : (Builtin.clear_ #[t] o.type #[u]).run P w = .ok v' w') (h : wpList P ops Q rest (a.put o.dst v') w') : wpList P ops Q (o :: rest) a w :=
  wpList_plain hgd fun _ hK => by
    unfold Oper.wp execOp
    simp only [ho, resolve, invoke, builtin, Sem.run_bind, Sem.run_pure, Result.andThen_ok, List.map_toArray, List.map_cons, List.map_nil, hs, hr]
    exact hK _ _ h
theorem step_append_known {P : Program} {ops : Array Oper} {o : Oper} {a : Act} {w : World} {K : Act → World → Prop} {Q : Exit → Act → World → Prop} {E : Prop}
    (hg : o.guard = none) (d x : Operand) (t t' : TypeId) (ho : o.op = .call { callee := .builtin .append, args := #[d, x], argTypes := #[t, t'] })
    (v u : Value) (hd : a.eval d = v) (hx : a.eval x = u) {v' : Value} {w' : World} (hr : (Builtin.append_ #[t, t'] o.type #[v, u]).run P w = .ok v' w') (hK : K (a.put o.dst v') w') :
    if Region.wanted o (yielded ops a.tmps) = true then Oper.wp P o a w K Q else E := by
  have hw : Region.wanted o (yielded ops a.tmps) = true := by simp [Region.wanted, hg]
  rw [if_pos hw]
  unfold Oper.wp execOp
  simp only [ho, resolve, invoke, builtin, Sem.run_bind, Sem.run_pure, Result.andThen_ok, List.map_toArray, List.map_cons, List.map_nil, hd, hx, hr]
  exact hK

theorem over_del {L F z : List Value} {p q m : Nat} (hF : L.take (m + q) = F) (hp : p + q ≤ m + q) (hL : m + q ≤ L.length) : (over (over L p (F.drop (p + q))) m z).take m = F.take p ++ F.drop (p + q) := by
  have hFl : F.length = m + q := by rw [← hF, List.length_take]; omega
  have e0 : L.take p = F.take p := by rw [← hF, List.take_take, Nat.min_eq_left (by omega)]
  have e1 : (over L p (F.drop (p + q))).take m = F.take p ++ F.drop (p + q) := by
    unfold over
    rw [e0, ← List.append_assoc, List.take_append_of_le_length (by simp; omega), List.take_of_length_le (by simp; omega)]
  have hl : (over L p (F.drop (p + q))).length = L.length := over_length _ _ _ (by rw [List.length_drop]; omega)
  generalize over L p (F.drop (p + q)) = M at *
  unfold over
  rw [List.take_append_of_le_length (by simp; omega), List.take_take, Nat.min_self, e1]

set_option maxHeartbeats 8000000 in
set_option maxRecDepth 100000 in
theorem delete_one (g c i M : Nat) (bl : List Blk) (cur : List Value) (hM : bl.length = M + 1) (hi : i < M + 1) (hc : M + 1 ≤ c) (hcm : c ≤ maxLen) (w : World)
    (hg : w.heap[g]? = some (.cells cur.toArray 73 (0, 0))) (hcl : cur.length = c * 2) (hcur : cur.take (bl.length * 2) = flatB bl) :
    Calls Tryd.prog 54 #[.slice (some ⟨g, 0, none⟩) (M + 1) c, .int .i64 i, .int .i64 ((i : Int) + 1)] w fun e w' => e = .returned (.slice (some ⟨g, 0, none⟩) M c) ∧ Off (fun k => k = g) w w' ∧
      ∃ cur', w'.heap[g]? = some (.cells (List.toArray cur') 73 (0, 0)) ∧ cur'.length = c * 2 ∧ cur'.take (M * 2) = flatB (bl.eraseIdx i) := by
  obtain ⟨i0, hi0, hz0, hzs, hzb⟩ := info_parts hblk
  have hfl := flatB_length bl
  have hn9 : c ≤ 9223372036854775807 := by unfold maxLen at hcm; exact hcm
  have hdl : ((flatB bl).drop ((i + 1) * 2)).length = (M + 1 - (i + 1)) * 2 := by rw [List.length_drop, hfl]; omega
  obtain ⟨A, hA, hAc⟩ : ∃ A : Addr, (if c = i + 1 then some (⟨g, 0, none⟩ : Addr) else some ⟨g, (i + 1) * 2, none⟩) = some A ∧ (M + 1 = i + 1 ∨ A = ⟨g, (i + 1) * 2, none⟩) := by
    by_cases h : c = i + 1
    · exact ⟨_, if_pos h, .inl (by omega)⟩
    · exact ⟨_, if_neg h, .inr rfl⟩
  obtain ⟨C1, hC1⟩ : ∃ C1, C1 = over cur (i * 2) ((flatB bl).drop ((i + 1) * 2)) := ⟨_, rfl⟩
  have hC1l : C1.length = c * 2 := by rw [hC1, over_length _ _ _ (by rw [hdl]; omega), hcl]
  have hap : ∀ ty sc, (Builtin.append_ #[51, 51] ty #[.slice (some ⟨g, 0, none⟩) i c, .slice (some A) (M + 1 - (i + 1)) sc]).run Tryd.prog w.drew = .ok (.slice (some ⟨g, 0, none⟩) M c) (w.drew.setRow g C1.toArray) := fun ty sc => by
    have h := run_append_over w.drew 51 51 ty 73 i0 2 g i c A (M + 1 - (i + 1)) sc cur 73 ((flatB bl).drop ((i + 1) * 2)) Tryd.underlying51 Tryd.underlying51 hi0 hzs hg hdl (by omega) (fun j v hj => by
        rcases hAc with h | rfl
        · rw [List.drop_of_length_le (by omega)] at hj; simp at hj
        · rw [List.getElem?_drop] at hj
          have e : (⟨g, (i + 1) * 2, none⟩ : Addr).add j = ⟨g, (i + 1) * 2 + j, none⟩ := by unfold Addr.add; split <;> simp_all
          rw [e]
          refine cell_block (w := w) hg _ _ ?_
          rw [← hcur, List.getElem?_take] at hj
          split at hj
          · simpa using hj
          · cases hj)
      (by rw [hdl, hcl]; omega) (fun v hv => flatB_one bl v (List.mem_of_mem_drop hv))
    rw [show i + (M + 1 - (i + 1)) = M by omega] at h
    rw [hC1]
    exact h
  have hg1 : (w.drew.setRow g C1.toArray).heap[g]? = some (.cells C1.toArray 73 (0, 0)) := setRow_heap w.drew g _ _ 73 _ hg
  obtain ⟨W1, hW1⟩ : ∃ W1, W1 = w.drew.setRow g C1.toArray := ⟨_, rfl⟩
  have ho1 : Off (fun k => k = g) w W1 := by rw [hW1]; exact off_setRow (O := fun k => k = g) (off_drew (off_refl _ _)) (.inl rfl) _
  rw [← hW1] at hap hg1
  have hzc : (Builtin.zeroCells (Value.agg #[.int .i64 0, .int .u64 0]).cells 1).toList = [.int .i64 0, .int .u64 0] := by kernel_rfl
  have hcle : ∀ W : World, W = W1 → ∀ ty cc, (Builtin.clear_ #[51] ty #[.slice (some ⟨g, M * 2, none⟩) 1 cc]).run Tryd.prog W = .ok (.tuple #[]) (W1.setRow g (over C1 (M * 2) [.int .i64 0, .int .u64 0]).toArray) := fun W hW ty cc => by
    subst hW
    have h := run_clear_over W 51 73 ty (.agg #[.int .i64 0, .int .u64 0]) Tryd.underlying51 (fun w => by kernel_rfl) g (M * 2) 1 cc (by decide) C1 73 hg1 (by rw [hzc]; simp; omega) (by rw [hzc]; simp [Value.oneCell'])
    rw [hzc] at h
    exact h
  have Hend : Hid (Off (fun k => k = g) w (W1.setRow g (over C1 (M * 2) [.int .i64 0, .int .u64 0]).toArray) ∧ ∃ cur', (W1.setRow g (over C1 (M * 2) [.int .i64 0, .int .u64 0]).toArray).heap[g]? = some (.cells (List.toArray cur') 73 (0, 0)) ∧ cur'.length = c * 2 ∧ cur'.take (M * 2) = flatB (bl.eraseIdx i)) := by
    refine hide ⟨off_setRow ho1 (.inl rfl) _, _, setRow_heap W1 g _ _ 73 _ hg1, by rw [over_length _ _ _ (by rw [hC1l]; simp; omega), hC1l], ?_⟩
    rw [hC1, show (i + 1) * 2 = i * 2 + 2 by omega, over_del (by rw [show M * 2 + 2 = bl.length * 2 by omega]; exact hcur) (by omega) (by omega), List.eraseIdx_eq_take_drop_succ, flatB_append, ← flatB_take, ← flatB_drop, show (i + 1) * 2 = i * 2 + 2 by omega]
  have hz2 : ¬ ((i : Int) = (i : Int) + 1) := by omega
  have hz3 : ((i : Int) == (i : Int) + 1) = false := by rw [beq_eq_false_iff_ne]; omega
  have hb1 : (0 : Int) ≤ (i : Int) + 1 := by omega
  have htn : ((i : Int) + 1).toNat = i + 1 := by omega
  have hb2 : (i : Int) + 1 ≤ (M : Int) + 1 := by omega
  have hb3 : (i : Int) ≤ (i : Int) + 1 := by omega
  have hb4 : (M : Int) + 1 ≤ c := by omega
  have hb5 : (i : Int) ≤ c := by omega
  have hb6 : ¬ c = M := by omega
  have hb7 : (M : Int) ≤ (M : Int) + 1 := by omega
  have hb8 : M + 1 - M = 1 := by omega
  clear hcur hcl hg hg1 ho1 hC1l hdl hfl hAc hC1 hW1 hzc hM hn9 hcm
  go_enter Tryd.func54, Tryd.ntmps54
  go_wp2
  go_region_law (refine step_append_known rfl (.tmp 22) (.tmp 25) 51 51 rfl (.slice (some ⟨g, 0, none⟩) i c) (.slice (some A) (M + 1 - (i + 1)) (c - (i + 1))) (by simp [Act.eval, Act.put]) (by simp [Act.eval, Act.put]) (hap _ _) ?_)
  all_goals
    go_wp2_with (at_builtin; refine wpList_clear_known _ rfl _ 51 rfl _ rfl (hcle _ rfl _ _) ?_)
    go_ret
    exact ⟨rfl, unhide Hend⟩
end Go.Proofs.YtdpphjedjhjdgaaDoor

/- Memory that is somebody's own: what stays while it turns. (and what it leads to) -/
import Derived.Test.YtkimhfajfbcdmaaGreatDoorRows
import Derived.WalkKit
import Derived.WalkSpells
import Derived.WalkLawsBesides
import Derived.Handy
import Derived.Below
import Derived.Deep.RegionWith
import Derived.Deep.AppendLies
import Derived.Maps.OwnSet
import Derived.Shelf.Small.Bits
import Derived.Shelf.Small.Strs
import Derived.Laws.StructEq
import Derived.Deep.QuietTactic
import Derived.BigQuiet
import Derived.Laws.AppendOwn
/- Memory that is somebody's own: what stays while it turns. -/
namespace Go.Proofs.YtkimhfajfbcdmaaGreatDoor
open Go.RowKit Go.Maps

theorem hide {p : Prop} (h : p) : Hid p := h
theorem unhide {p : Prop} (h : Hid p) : p := h
theorem ret_bool {a b : Bool} (h : a = b) : Ending.returned (.bool a) = .returned (.bool b) := by rw [h]

/-- All but some blocks are as they were. -/
structure Off (O : Nat → Prop) (w w' : World) : Prop where
  os : w'.os = w.os
  tape : w'.tape = w.tape
  output : w'.output = w.output
  size : w.heap.size ≤ w'.heap.size
  block : ∀ k, k < w.heap.size → ¬ O k → w'.heap[k]? = w.heap[k]?
theorem off_refl (O : Nat → Prop) (w : World) : Off O w w := ⟨rfl, rfl, rfl, Nat.le_refl _, fun _ _ _ => rfl⟩
theorem off_t {O : Nat → Prop} {a b c : World} (h : Off O a b) (k : Off O b c) : Off O a c :=
  ⟨k.os.trans h.os, k.tape.trans h.tape, k.output.trans h.output, Nat.le_trans h.size k.size, fun i hi hn => (k.block i (Nat.lt_of_lt_of_le hi h.size) hn).trans (h.block i hi hn)⟩
/-- One step, whose own blocks are some of these or new. -/
theorem off_t' {O O' : Nat → Prop} {a b c : World} (h : Off O a b) (k : Off O' b c) (hO : ∀ i, O' i → O i ∨ a.heap.size ≤ i) : Off O a c :=
  ⟨k.os.trans h.os, k.tape.trans h.tape, k.output.trans h.output, Nat.le_trans h.size k.size, fun i hi hn => (k.block i (Nat.lt_of_lt_of_le hi h.size) (fun ho => by rcases hO i ho with h1 | h1; exact hn h1; omega)).trans (h.block i hi hn)⟩
theorem off_mono {O O' : Nat → Prop} {a b : World} (h : Off O a b) (hO : ∀ i, O i → O' i ∨ a.heap.size ≤ i) : Off O' a b :=
  ⟨h.os, h.tape, h.output, h.size, fun i hi hn => h.block i hi (fun ho => by rcases hO i ho with h1 | h1; exact hn h1; omega)⟩
theorem off_below {O : Nat → Prop} {a b : World} (h : Below a.heap.size a b) : Off O a b := ⟨h.os, h.tape, h.output, h.size, fun k hk _ => h.block k hk⟩
theorem off_to {O : Nat → Prop} {a b : World} {B : Nat} (h : Off O a b) (hO : ∀ i, O i → B ≤ i) (hB : B ≤ a.heap.size) : Below B a b := ⟨h.os, h.tape, h.output, h.size, fun k hk => h.block k (by omega) (fun ho => by have := hO k ho; omega)⟩
theorem off_alloc {O : Nat → Prop} {a w : World} (h : Off O a w) (o : Obj) : Off O a (w.alloc o) :=
  ⟨h.os, h.tape, h.output, by simp; have := h.size; omega, fun k hk hn => (Below.heap_alloc w o k (Nat.lt_of_lt_of_le hk h.size)).trans (h.block k hk hn)⟩
theorem off_drew {O : Nat → Prop} {a w : World} (h : Off O a w) : Off O a w.drew := ⟨h.os, h.tape, h.output, h.size, h.block⟩
theorem off_set {O : Nat → Prop} {a w : World} (h : Off O a w) {p : Addr} (hp : O p.block ∨ a.heap.size ≤ p.block) (u : Value) : Off O a (w.setCell p u) := by
  have hb := (Below.refl 0 w).setCell (p := p) (Nat.zero_le _) u
  exact ⟨hb.os.trans h.os, hb.tape.trans h.tape, hb.output.trans h.output, Nat.le_trans h.size hb.size, fun k hk hn => (Below.heap_setCell w p u k (fun e => by subst e; rcases hp with h1 | h1; exact hn h1; omega)).trans (h.block k hk hn)⟩
theorem off_grown {O : Nat → Prop} {a w w' : World} {row : Option Nat} (h : Off O a w) (hg : w.grownBy w' row) (hr : ∀ k, row = some k → O k ∨ a.heap.size ≤ k) : Off O a w' :=
  ⟨hg.os.trans h.os, hg.tape.trans h.tape, hg.output.trans h.output, Nat.le_trans h.size hg.size, fun k hk hn => (hg.block k (Nat.lt_of_lt_of_le hk h.size) (fun e => by rcases hr k e.symm with h1 | h1; exact hn h1; omega)).trans (h.block k hk hn)⟩
theorem off_cell {O : Nat → Prop} {a b : World} (h : Off O a b) {p : Addr} (hp : p.block < a.heap.size) (hn : ¬ O p.block) : b.cell? p = a.cell? p := World.cell?_of_block (h.block _ hp hn)
theorem off_frozen {O : Nat → Prop} {a b : World} (h : Off O a b) {p : Addr} (hp : p.block < a.heap.size) (hn : ¬ O p.block) : b.frozen? p = a.frozen? p := World.frozen?_of_block (h.block _ hp hn)
theorem lt_of_some {w : World} {b : Nat} {o : Obj} (h : w.heap[b]? = some o) : b < w.heap.size := (Array.getElem?_eq_some_iff.1 h).1

/-- A row's value and its block. -/
theorem own_form {w : World} {B : Nat} {e : TypeId} {size : Nat} {v : Value} {n : Nat} {xs : List Value} (h : w.ownsRow B e size v n xs) : ∃ a c, v = .slice a n c := by
  rcases h.2 with ⟨rfl, rfl⟩ | ⟨g, cap, cur, rfl, _⟩
  · exact ⟨_, _, rfl⟩
  · exact ⟨_, _, rfl⟩
theorem own_off {O : Nat → Prop} {w w' : World} {B : Nat} {e : TypeId} {size : Nat} {v : Value} {n : Nat} {xs : List Value} (h : w.ownsRow B e size v n xs) (ho : Off O w w') (hn : ∀ k, v.ownBlock = some k → ¬ O k) : w'.ownsRow B e size v n xs := by
  refine ⟨h.1, ?_⟩
  rcases h.2 with h0 | ⟨g, cap, cur, rfl, hg, hh, rest⟩
  · exact .inl h0
  · exact .inr ⟨g, cap, cur, rfl, hg, (ho.block g (lt_of_some hh) (hn g rfl)).trans hh, rest⟩
theorem own_zero {w : World} {B : Nat} {e : TypeId} {size : Nat} {v : Value} {n : Nat} {xs : List Value} (h : w.ownsRow B e size v n xs) : w.ownsRow 0 e size v n xs := by
  refine ⟨h.1, ?_⟩
  rcases h.2 with h0 | ⟨g, cap, cur, hv, hg, rest⟩
  · exact .inl h0
  · exact .inr ⟨g, cap, cur, hv, Nat.zero_le _, rest⟩
theorem own_cell {w : World} {B : Nat} {e : TypeId} {size : Nat} {v : Value} {n : Nat} {xs : List Value} (h : w.ownsRow B e size v n xs) {g c : Nat} (hv : v = .slice (some ⟨g, 0, none⟩) n c) (j : Nat) (hj : j < xs.length) : w.cell? ⟨g, j, none⟩ = some (xs.getD j undef) := by
  have e : (⟨g, 0, none⟩ : Addr).add j = ⟨g, j, none⟩ := by unfold Addr.add; split <;> simp_all
  rw [← e]
  refine h.cells (g := g) (by rw [hv]; rfl) j _ ?_
  rw [List.getD_eq_getElem?_getD, List.getElem?_eq_getElem hj]; rfl
theorem own_pos {w : World} {B : Nat} {e : TypeId} {size : Nat} {v : Value} {n : Nat} {xs : List Value} (h : w.ownsRow B e size v n xs) (hn : 0 < n) : ∃ g c, v = .slice (some ⟨g, 0, none⟩) n c ∧ B ≤ g ∧ g < w.heap.size ∧ n ≤ c ∧ c ≤ maxLen := by
  rcases h.2 with ⟨_, h0⟩ | ⟨g, cap, cur, hv, hb, hg, h1, h2, _⟩
  · omega
  · exact ⟨g, cap, hv, hb, lt_of_some hg, h1, h2⟩
theorem map_off {O : Nat → Prop} {w w' : World} {H : Type} {P : Program} {k : TypeId} {R : Value → Option (DataW H × List MemPlace)} {b n : Nat} {D : DataW H} (h : w.ownsMap P k R b n D) (ho : Off O w w') (hn : ¬ O b) : w'.ownsMap P k R b n D := by
  have hlt := h.lt
  obtain ⟨es, clock, hb, F, hs, hD⟩ := h
  exact ⟨es, clock, (ho.block b hlt hn).trans hb, F, hs, hD⟩
end Go.Proofs.YtkimhfajfbcdmaaGreatDoor

/- The library's bits.Len and strings.IndexByte at this program: their bodies are the ones that the library's contracts speak of. -/
namespace Go.Proofs
open Go.Shelf
def Tryz.lays125_ren : Go.Shelf.Ren := ⟨fun | 125 => 104 | 128 => 122 | 129 => 123 | n => n, fun | 46 => 126 | 3 => 3 | 51 => 111 | 53 => 153 | 4 => 4 | 5 => 5 | 9 => 9 | n => n, fun | n => n⟩
theorem Tryz.lays125 : Go.Proofs.Lays.n125 Tryz.prog Tryz.lays125_ren := {
  mixed := by kernel_rfl
  f125 := Tryz.func104.trans (congrArg some (by kernel_rfl))
  f128 := Tryz.func122.trans (congrArg some (by kernel_rfl))
  f129 := Tryz.func123.trans (congrArg some (by kernel_rfl))
  t3 := Tryz.underlying3
  a3 := Tryz.isAgg3
  z3 := Tryz.sizeOf3
  v3 := Tryz.zeroValue3
  t4 := Tryz.underlying4
  a4 := Tryz.isAgg4
  z4 := Tryz.sizeOf4
  v4 := Tryz.zeroValue4
  t5 := Tryz.underlying5
  a5 := Tryz.isAgg5
  z5 := Tryz.sizeOf5
  v5 := Tryz.zeroValue5
  t9 := Tryz.underlying9
  a9 := Tryz.isAgg9
  z9 := Tryz.sizeOf9
  v9 := Tryz.zeroValue9
  t46 := Tryz.underlying126
  a46 := Tryz.isAgg126
  z46 := Tryz.sizeOf126
  v46 := Tryz.zeroValue126
  t51 := Tryz.underlying111
  a51 := Tryz.isAgg111
  z51 := Tryz.sizeOf111
  v51 := Tryz.zeroValue111
  t53 := Tryz.underlying153
  a53 := Tryz.isAgg153
  z53 := Tryz.sizeOf153
  v53 := Tryz.zeroValue153 }
def Tryz.lays137_ren : Go.Shelf.Ren := ⟨fun | 137 => 97 | 217 => 108 | 266 => 128 | n => n, fun | 9 => 9 | 5 => 5 | 3 => 3 | n => n, fun | n => n⟩
theorem Tryz.lays137 : Go.Proofs.Lays.n137 Tryz.prog Tryz.lays137_ren := {
  mixed := by kernel_rfl
  f137 := Tryz.func97.trans (congrArg some (by kernel_rfl))
  f217 := Tryz.func108.trans (congrArg some (by kernel_rfl))
  f266 := Tryz.func128.trans (congrArg some (by kernel_rfl))
  t3 := Tryz.underlying3
  a3 := Tryz.isAgg3
  z3 := Tryz.sizeOf3
  v3 := Tryz.zeroValue3
  t5 := Tryz.underlying5
  a5 := Tryz.isAgg5
  z5 := Tryz.sizeOf5
  v5 := Tryz.zeroValue5
  t9 := Tryz.underlying9
  a9 := Tryz.isAgg9
  z9 := Tryz.sizeOf9
  v9 := Tryz.zeroValue9 }
end Go.Proofs

/- runes: isByte; readRune and readRange where plain bytes stand. -/
namespace Go.Proofs.YtkimhfajfbcdmaaGreatDoor
open Go.RowKit Go.Maps

/-! ### Faults are held against one another -/
theorem fields49 : (Tryz.prog.fieldsOf 49).toList.map (fun f => (f.type, f.offset, decide (f.name = "_"))) = [(27, 0, false), (3, 1, false)] := by kernel_rfl
theorem part_int (t : TypeId) (xs : Array Value) (o : Nat) (v : Value) (ha : ∀ w, (isAgg t).run Tryz.prog w = .ok false w) (hx : xs[o]? = some v) (w : World) : (part t xs o).run Tryz.prog w = .ok v w := by
  simp [part, ha, hx, Result.andThen]
theorem eq_fields2 (d : Nat) (fs : List Field) (h : fs.map (fun f => (f.type, f.offset, decide (f.name = "_"))) = [(27, 0, false), (3, 1, false)]) (a b x y : Int) (w : World) :
    (Op.eqFields (d + 1) #[.int .i64 a, .int .i64 b] #[.int .i64 x, .int .i64 y] fs).run Tryz.prog w = .ok (decide ((a, b) = (x, y))) w := by
  have hlen : fs.length = 2 := by simpa using congrArg List.length h
  match fs, hlen, h with
  | [f, g], _, h =>
    simp only [List.map_cons, List.map_nil, List.cons.injEq, Prod.mk.injEq, and_true, decide_eq_false_iff_not] at h
    obtain ⟨⟨f1, f2, f3⟩, ⟨g1, g2, g3⟩⟩ := h
    have e0 : ∀ w (u v : Int), (Op.equalIn (d + 1) 27 (.int .i64 u) (.int .i64 v)).run Tryz.prog w = .ok (u == v) w := fun w u v => run_equalIn_int w d 27 .i64 .i64 u v Tryz.underlying27
    have e1 : ∀ w (u v : Int), (Op.equalIn (d + 1) 3 (.int .i64 u) (.int .i64 v)).run Tryz.prog w = .ok (u == v) w := fun w u v => run_equalIn_int w d 3 .i64 .i64 u v Tryz.underlying3
    have p0 : ∀ w (u v : Int), (part 27 #[.int .i64 u, .int .i64 v] 0).run Tryz.prog w = .ok (.int .i64 u) w := fun w u v => part_int 27 _ 0 _ Tryz.isAgg27 rfl w
    have p1 : ∀ w (u v : Int), (part 3 #[.int .i64 u, .int .i64 v] 1).run Tryz.prog w = .ok (.int .i64 v) w := fun w u v => part_int 3 _ 1 _ Tryz.isAgg3 rfl w
    simp only [Op.eqFields, f1, f2, f3, g1, g2, g3, ne_eq, not_false_eq_true, if_true, Sem.run_bind, p0, p1, e0, e1, Result.andThen_ok, Sem.run_ite, Sem.run_pure]
    by_cases h1 : a = x
    · by_cases h2 : b = y
      · simp [h1, h2]
      · simp [h1, h2]
    · simp [h1]
theorem eql49 (a b x y : Int) (w : World) : (binOp .eql 49 (.agg #[.int .i64 a, .int .i64 b]) (.agg #[.int .i64 x, .int .i64 y])).run Tryz.prog w = .ok (.bool (decide ((a, b) = (x, y)))) w := by
  rw [run_eql_struct, run_equalIn_agg w 9999 49 _ _ (by kernel_rfl) (by kernel_rfl), eq_fields2 9998 _ fields49]
  rfl
theorem neq49 (a b x y : Int) (w : World) : (binOp .neq 49 (.agg #[.int .i64 a, .int .i64 b]) (.agg #[.int .i64 x, .int .i64 y])).run Tryz.prog w = .ok (.bool (!decide ((a, b) = (x, y)))) w := by
  rw [run_neq_struct, run_equalIn_agg w 9999 49 _ _ (by kernel_rfl) (by kernel_rfl), eq_fields2 9998 _ fields49]
  rfl
theorem guard49 : Tryz.prog.eqGuardType Tryz.prog.depth 49 = false := by kernel_rfl
theorem neq49_0 (w : World) : (binOp .neq 49 (.agg #[.int .i64 0, .int .i64 0]) (.agg #[.int .i64 0, .int .i64 0])).run Tryz.prog w = .ok (.bool false) w := neq49 0 0 0 0 w
theorem eql49_0 (w : World) : (binOp .eql 49 (.agg #[.int .i64 0, .int .i64 0]) (.agg #[.int .i64 0, .int .i64 0])).run Tryz.prog w = .ok (.bool true) w := eql49 0 0 0 0 w

/-- Byte c stands at place p. -/
def byteB (s : ByteArray) (p c : Nat) : Bool := decide (p < s.size) && decide ((s.data.getD p 0).toNat = c)
theorem getD_get (s : ByteArray) (p : Nat) (h : p < s.size) : s.data.getD p 0 = s[p] := by
  have h2 : p < s.data.size := h
  simp only [Array.getD]; rw [dif_pos h2]; rfl
set_option maxHeartbeats 1000000 in
set_option maxRecDepth 100000 in
theorem isByte_any (s : ByteArray) (p c : Nat) (w : World) :
    Calls Tryz.prog 175 #[.string s, .int .i64 p, .int .u8 c] w fun e w' => e = .returned (.bool (byteB s p c)) ∧ w = w' := by
  by_cases hlt : p < s.size
  · have hlt' : (p : Int) < s.size := by omega
    have hld : decide ((p : Int) < s.size) = true := decide_eq_true hlt'
    have HX : Hid (byteB s p c = decide ((s[p].toNat : Int) = c)) := hide (by
      unfold byteB
      rw [decide_eq_true hlt, Bool.true_and, getD_get s p hlt, decide_eq_decide]
      omega)
    go_enter Tryz.func175, Tryz.ntmps175
    go_wp2
    go_ret
    exact ⟨by rw [unhide HX]; rfl, rfl⟩
  · have hlt' : ¬ (p : Int) < s.size := by omega
    have hld : decide ((p : Int) < s.size) = false := decide_eq_false hlt'
    have HX : Hid (byteB s p c = false) := hide (by unfold byteB; rw [decide_eq_false hlt, Bool.false_and])
    go_enter Tryz.func175, Tryz.ntmps175
    go_wp2
    go_ret
    exact ⟨by rw [unhide HX]; rfl, rfl⟩
end Go.Proofs.YtkimhfajfbcdmaaGreatDoor

/- Pools: a number behind a row of bytes. -/
namespace Go.Proofs.YtkimhfajfbcdmaaGreatDoor
open Go.RowKit Go.Maps

theorem cell_block {w : World} {B : Nat} {cs : Array Value} {t : TypeId} (h : w.heap[B]? = some (.cells cs t (0, 0))) (j : Nat) (v : Value) (hj : cs[j]? = some v) : w.cell? ⟨B, j, none⟩ = some v := by
  have e : (⟨B, 0, none⟩ : Addr).add j = ⟨B, j, none⟩ := by unfold Addr.add; split <;> simp_all
  rw [← e]
  exact World.news_of_block h j v (by simpa using hj)
theorem frozen_block {w : World} {B : Nat} {cs : Array Value} {t : TypeId} (h : w.heap[B]? = some (.cells cs t (0, 0))) (j : Nat) : w.frozen? ⟨B, j, none⟩ = false := by
  simp [World.frozen?, h]

theorem info_parts {P : Program} {e : TypeId} {z : Option Value} {n b : Nat} (h : (P.info? e).map (fun i => (i.zero, i.size, i.bytes)) = some (z, n, b)) : ∃ i, P.info? e = some i ∧ i.zero = z ∧ i.size = n ∧ i.bytes = b := by
  rw [Option.map_eq_some_iff] at h
  obtain ⟨i, hi, h⟩ := h
  simp only [Prod.mk.injEq] at h
  exact ⟨i, hi, h.1, h.2.1, h.2.2⟩
theorem block_set {w : World} {g i : Nat} {cs : Array Value} {t : TypeId} {fr : Nat × Nat} (h : w.heap[g]? = some (.cells cs t fr)) (v : Value) : (w.setCell ⟨g, i, none⟩ v).heap[g]? = some (.cells (cs.setIfInBounds i v) t fr) := by
  rw [setCell_eq_setRow w g i cs t fr v h]
  exact setRow_heap w g _ _ t _ h
theorem row_not {w : World} {B base : Nat} {cs : Array Value} {t e : TypeId} {f : Nat × Nat} {size n : Nat} {v : Value} {xs : List Value} (hB : w.heap[B]? = some (.cells cs t f)) (hr : w.ownsRow base e size v n xs) (ht : e ≠ t) : v.ownBlock ≠ some B := fun h => by
  rcases hr.2 with ⟨rfl, _⟩ | ⟨g, cap, cur, rfl, _, hh, _⟩
  · simp [Value.ownBlock] at h
  · simp only [Value.ownBlock, Option.some.injEq] at h
    subst h
    rw [hB] at hh
    simp only [Option.some.injEq, Obj.cells.injEq] at hh
    exact ht hh.2.1.symm
theorem hbyte : (Tryz.prog.info? 5).map (fun i => (i.zero, i.size, i.bytes)) = some (some (.int .u8 0), 1, 1) := by kernel_rfl
def byteV (l : List Int) : List Value := l.map fun m => .int .u8 m
theorem byteV_append (a b : List Int) : byteV (a ++ b) = byteV a ++ byteV b := List.map_append
theorem byteV_length (l : List Int) : (byteV l).length = l.length := List.length_map _
theorem byteV_one (l : List Int) : ∀ u ∈ byteV l, u.oneCell' = true := by
  intro u hu
  unfold byteV at hu
  obtain ⟨m, -, rfl⟩ := List.mem_map.1 hu
  rfl
/-- The four bytes of a number, the least first. -/
def le4 (x : Int) : List Int := [x % 256, x / 256 % 256, x / 65536 % 256, x / 16777216 % 256]
set_option maxHeartbeats 2000000 in
set_option maxRecDepth 100000 in
theorem appNum_any (B : Nat) (v : Value) (L : List Int) (hL : L.length ≤ 1073741824) (x : Int) (w : World) (hB : B ≤ w.heap.size) (h : w.ownsRow B 5 1 v L.length (byteV L)) :
    Calls Tryz.prog 68 #[v, .int .u32 x] w fun e w' => ∃ g cap, e = .returned (.slice (some ⟨g, 0, none⟩) (L.length + 4) cap) ∧ w'.ownsRow B 5 1 (.slice (some ⟨g, 0, none⟩) (L.length + 4) cap) (L.length + 4) (byteV (L ++ le4 x)) ∧ Off (fun k => v.ownBlock = some k) w w' ∧ (v.ownBlock = some g ∨ w.heap.size ≤ g) := by
  obtain ⟨i0, hi, hz0, hz1, hz2⟩ := info_parts hbyte
  obtain ⟨va, vc, rfl⟩ := own_form h
  have H := hide h
  clear h
  go_enter Tryz.func68, Tryz.ntmps68
  go_wp2_with (at_builtin; refine wpList_append_lies _ rfl _ _ 58 rfl B 5 i0 (.int .u8 0) 1 1 Tryz.underlying58 hi hz0 hz1 hz2 rfl (by decide) _ _ _ rfl ((unhide H).alloc _) ⟨w.heap.size, 0, none⟩ 4 4 (byteV (le4 x)) rfl rfl ?n1 (byteV_one _) (by decide) (by unfold maxLen; omega) (by omega) (by simp; omega) (w.heap.size + 1) (by simp) ?_)
  case n1 =>
    have h := World.news_of_block (MapKept.heap_alloc w (.cells #[.int .u8 (x % 256), .int .u8 (x / 256 % 256), .int .u8 (x / 65536 % 256), .int .u8 (x / 16777216 % 256)] 5)).1
    simpa [byteV, le4] using h
  intro g cap W2 hown2 hg2 hgv hgl
  rw [← byteV_append] at hown2
  have ho : Off (fun k => (Value.slice va L.length vc).ownBlock = some k) w W2 := off_grown (off_alloc (off_refl _ _) _) hg2 (fun k hk => .inl hk)
  have hgv2 : (Value.slice va L.length vc).ownBlock = some g ∨ w.heap.size ≤ g := hgv.imp id (fun h => by omega)
  have Hown := hide hown2; have Ho := hide ho; have Hgv := hide hgv2
  clear hown2 hg2 hgv hgl ho hgv2
  go_wp2
  go_ret
  exact ⟨g, cap, rfl, unhide Hown, unhide Ho, unhide Hgv⟩
end Go.Proofs.YtkimhfajfbcdmaaGreatDoor

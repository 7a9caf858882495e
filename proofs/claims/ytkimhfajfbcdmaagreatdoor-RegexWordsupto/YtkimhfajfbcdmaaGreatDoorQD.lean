/- Pools: what a pool is in memory. (and what it leads to) -/
import Derived.Test.YtkimhfajfbcdmaaGreatDoorQC
import Derived.Laws.BytesArg
/- Pools: what a pool is in memory. -/
namespace Go.Proofs.YtkimhfajfbcdmaaGreatDoor
open Go.RowKit Go.Maps

variable {av : Nat → Prop}

/-- A node, wherever it lies. -/
structure Ab where
  kind : Int
  set : List Rg
  kids : List Int
  parts : Int
  levels : Int
  nul : Bool
def ab0 : Ab := ⟨0, [], [], 0, 0, false⟩
def Nd.ab (d : Nd) : Ab := ⟨d.kind, d.set, d.kids, d.parts, d.levels, d.nul⟩
theorem ab_getD (l : List Nd) (k : Nat) : (l.map Nd.ab).getD k ab0 = (l.getD k nd0).ab := by
  rw [List.getD_eq_getElem?_getD, List.getD_eq_getElem?_getD, List.getElem?_map]
  cases l[k]? <;> rfl
def measA (L : List Ab) (kind : Int) (s : Nat) (kids : List Int) : Nat → Int × Int
  | 0 => (1 + s, 1)
  | k + 1 => ((measA L kind s kids k).1 + ((L.getD (kids.getD k 0).toNat ab0).parts - 1 + ownI kind k (L.getD (kids.getD k 0).toNat ab0).kind), maxI (measA L kind s kids k).2 ((L.getD (kids.getD k 0).toNat ab0).levels + ownI kind k (L.getD (kids.getD k 0).toNat ab0).kind))
theorem measTo_ab (l : List Nd) (kind : Int) (s : Nat) (kids : List Int) (k : Nat) : measTo l kind s kids k = measA (l.map Nd.ab) kind s kids k := by
  induction k with
  | zero => rfl
  | succ k ih => simp only [measTo, measA, ih, ab_getD]; rfl
def nulA (L : List Ab) (kind : Int) (ks : List Int) : Bool :=
  if kind = 1 ∨ kind = 7 then true else if kind = 3 ∨ kind = 5 then !(ks.any fun k => !(L.getD k.toNat ab0).nul) else if kind = 4 then (ks.any fun k => (L.getD k.toNat ab0).nul) else if kind = 6 then !(L.getD (ks.getD 0 0).toNat ab0).nul else false
theorem nulN_ab (l : List Nd) (kind : Int) (ks : List Int) : nulN l kind ks = nulA (l.map Nd.ab) kind ks := by
  unfold nulN nulA anyT anyF
  simp only [ab_getD]
  rfl
/-- The node that is put behind others. -/
def newA (L : List Ab) (kind : Int) (set : List Rg) (kids : List Int) : Ab := ⟨kind, set, kids, min (measA L kind set.length kids kids.length).1 4097, min (measA L kind set.length kids kids.length).2 65, nulA L kind kids⟩
def keyS (kind : Int) (set : List Rg) (kids : List Int) : List UInt8 := (keyN kind set kids).map fun n => UInt8.ofNat n.toNat
def keysA (L : List Ab) : List (List UInt8) := L.map fun a => keyS a.kind a.set a.kids
def putX (L : List Ab) (kind : Int) (set : List Rg) (kids : List Int) : Nat := (keysA L).idxOf (keyS kind set kids)
def putL (L : List Ab) (kind : Int) (set : List Rg) (kids : List Int) : List Ab := if keyS kind set kids ∈ keysA L then L else L ++ [newA L kind set kids]
def posB (ks : List (List UInt8)) (s : List UInt8) : Int := if s ∈ ks then (ks.idxOf s : Int) else 0
def bs (l : List UInt8) : ByteArray := ⟨⟨l⟩⟩
theorem keyN_len (kind : Int) (set : List Rg) (kids : List Int) : (keyN kind set kids).length = 1 + 8 * set.length + 4 * kids.length := by
  unfold keyN
  rw [List.length_append, List.length_append, keyR_len, keyK_len]
  simp
theorem strOf_key (kind : Int) (set : List Rg) (kids : List Int) : strOfNums (keyN kind set kids) = bs (keyS kind set kids) := rfl

/-- Blocks that a pool's work leaves as they are. -/
def Stay (B mb sb : Nat) (w : World) (k : Nat) : Prop := k < B ∨ (∃ cs t f, w.heap[k]? = some (.cells cs t f) ∧ t ≠ 5 ∧ t ≠ 65 ∧ t ≠ 61) ∨ (∃ o, w.heap[k]? = some o ∧ (∀ cs t f, o ≠ .cells cs t f) ∧ k ≠ mb ∧ k ≠ sb)
structure Fr (B mb sb : Nat) (w w' : World) : Prop where
  os : w'.os = w.os
  tape : w'.tape = w.tape
  output : w'.output = w.output
  size : w.heap.size ≤ w'.heap.size
  block : ∀ k, k < w.heap.size → Stay B mb sb w k → w'.heap[k]? = w.heap[k]?
theorem fr_refl (B mb sb : Nat) (w : World) : Fr B mb sb w w := ⟨rfl, rfl, rfl, Nat.le_refl _, fun _ _ _ => rfl⟩
theorem stay_of {B mb sb : Nat} {w w' : World} {k : Nat} (h : Stay B mb sb w k) (he : w'.heap[k]? = w.heap[k]?) : Stay B mb sb w' k := by
  rcases h with h | ⟨cs, t, f, h, r⟩ | ⟨o, h, r⟩
  · exact .inl h
  · exact .inr (.inl ⟨cs, t, f, he.trans h, r⟩)
  · exact .inr (.inr ⟨o, he.trans h, r⟩)
theorem fr_t {B mb sb : Nat} {a b c : World} (h : Fr B mb sb a b) (k : Fr B mb sb b c) : Fr B mb sb a c :=
  ⟨k.os.trans h.os, k.tape.trans h.tape, k.output.trans h.output, Nat.le_trans h.size k.size, fun i hi hs => (k.block i (Nat.lt_of_lt_of_le hi h.size) (stay_of hs (h.block i hi hs))).trans (h.block i hi hs)⟩
theorem fr_stay {B mb sb : Nat} {w w' : World} (h : Fr B mb sb w w') {k : Nat} (hk : k < w.heap.size) (hs : Stay B mb sb w k) : Stay B mb sb w' k := stay_of hs (h.block k hk hs)
theorem fr_off {B mb sb : Nat} {O : Nat → Prop} {w w' : World} (h : Off O w w') (hO : ∀ k, k < w.heap.size → O k → ¬ Stay B mb sb w k) : Fr B mb sb w w' :=
  ⟨h.os, h.tape, h.output, h.size, fun k hk hs => h.block k hk (fun ho => hO k hk ho hs)⟩
theorem fr_below {B mb sb : Nat} {w w' : World} (h : Below w.heap.size w w') : Fr B mb sb w w' := ⟨h.os, h.tape, h.output, h.size, fun k hk _ => h.block k hk⟩
theorem fr_base {B mb sb : Nat} {w w' : World} (h : Fr B mb sb w w') (hB : B ≤ w.heap.size) : Below B w w' := ⟨h.os, h.tape, h.output, h.size, fun k hk => h.block k (Nat.lt_of_lt_of_le hk hB) (.inl hk)⟩
/-- Rows of numbers and of ranges, or what was there ahead of the pool. -/
def Rowy (B : Nat) (w : World) (k : Nat) : Prop := k < B ∨ ∃ cs t f, w.heap[k]? = some (.cells cs t f) ∧ (t = 3 ∨ t = 45)
theorem rowy_stay {B mb sb : Nat} {w : World} {k : Nat} (h : Rowy B w k) : Stay B mb sb w k := by
  rcases h with h | ⟨cs, t, f, h, ht⟩
  · exact .inl h
  · refine .inr (.inl ⟨cs, t, f, h, ?_⟩)
    rcases ht with rfl | rfl <;> decide
theorem rowy_of {B : Nat} {w w' : World} {k : Nat} (h : Rowy B w k) (he : w'.heap[k]? = w.heap[k]?) : Rowy B w' k := by
  rcases h with h | ⟨cs, t, f, h, r⟩
  · exact .inl h
  · exact .inr ⟨cs, t, f, he.trans h, r⟩
def Held (av : Nat → Prop) (B _mb _sb : Nat) (w : World) (a : Option Addr) : Prop := ∀ x, a = some x → x.block < w.heap.size ∧ Rowy B w x.block ∧ ¬ av x.block
theorem held_fr {B mb sb : Nat} {w w' : World} {a : Option Addr} (h : Held av B mb sb w a) (hf : Fr B mb sb w w') : Held av B mb sb w' a := fun x hx => ⟨Nat.lt_of_lt_of_le (h x hx).1 hf.size, rowy_of (h x hx).2.1 (hf.block _ (h x hx).1 (rowy_stay (h x hx).2.1)), (h x hx).2.2⟩
theorem rrow_fr {B mb sb : Nat} {w w' : World} {a : Option Addr} {l : List Rg} (h : RRow w a l) (hh : Held av B mb sb w a) (hf : Fr B mb sb w w') : RRow w' a l := by
  rcases h with h | ⟨g, off, rfl, hlt, hc⟩
  · exact .inl h
  · have hb := hf.block g hlt (rowy_stay (hh _ rfl).2.1)
    exact .inr ⟨g, off, rfl, Nat.lt_of_lt_of_le hlt hf.size, fun j hj => ⟨(World.cell?_of_block (a := ⟨g, off + j * 2, none⟩) hb).trans (hc j hj).1, (World.cell?_of_block (a := ⟨g, off + j * 2 + 1, none⟩) hb).trans (hc j hj).2⟩⟩
theorem nrow_fr {B mb sb : Nat} {w w' : World} {a : Option Addr} {l : List Int} (h : NRow w a l) (hh : Held av B mb sb w a) (hf : Fr B mb sb w w') : NRow w' a l := by
  rcases h with h | ⟨g, off, rfl, hlt, hc⟩
  · exact .inl h
  · have hb := hf.block g hlt (rowy_stay (hh _ rfl).2.1)
    exact .inr ⟨g, off, rfl, Nat.lt_of_lt_of_le hlt hf.size, fun j hj => (World.cell?_of_block (a := ⟨g, off + j, none⟩) hb).trans (hc j hj)⟩

/-- Nodes as they may be in a pool. -/
structure WfA (L : List Ab) : Prop where
  nodup : (keysA L).Nodup
  fit : ∀ a ∈ L, (1 ≤ a.parts ∧ a.parts ≤ 4097) ∧ (1 ≤ a.levels ∧ a.levels ≤ 65)
  kids : ∀ (i : Nat) (a : Ab), L[i]? = some a → ∀ k ∈ a.kids, 0 ≤ k ∧ k.toNat < i
  short : ∀ a ∈ L, a.set.length ≤ 4096 ∧ a.kids.length ≤ 4096
  kind : ∀ a ∈ L, 0 ≤ a.kind ∧ a.kind ≤ 7
  form : ∀ a ∈ L, (a.kind = 3 → a.kids.length = 2) ∧ (a.kind = 6 ∨ a.kind = 7 → a.kids.length = 1)
structure PoolIn (av : Nat → Prop) (w : World) (B pb mb sb : Nat) (L : List Ab) (ov : Value) (e : Int) (l : List Nd) (g nc : Nat) (kv : Value) (kl : List Int) (D : DataW Unit) : Prop where
  ab : l.map Nd.ab = L
  blk : w.heap[pb]? = some (.cells #[.slice (some ⟨g, 0, none⟩) L.length nc, .map (some mb), kv, .map (some sb), ov, .int .i64 e] 61 (0, 0))
  nodes : w.ownsRow B 65 6 (.slice (some ⟨g, 0, none⟩) L.length nc) L.length (flatN l)
  key : w.ownsRow B 5 1 kv kl.length (byteV kl)
  map : w.ownsMap (H := Unit) Tryz.prog 9 (plainElem Tryz.prog 3) mb L.length D
  has : ∀ s, Maps.has D (.string s) = decide (s ∈ keysA L) ∧ D.atKey (.string s) (.lit (.int .i64 0)) = .lit (.int .i64 (posB (keysA L) s))
  rows : ∀ d ∈ l, RRow w d.sa d.set ∧ NRow w d.ka d.kids ∧ Held av B mb sb w d.sa ∧ Held av B mb sb w d.ka
/-- A pool, in blocks of its own. -/
structure Pool (av : Nat → Prop) (w : World) (B pb mb sb : Nat) (L : List Ab) (ov : Value) (e : Int) (sn : Nat) (DS : DataW Unit) : Prop where
  bp : B ≤ pb
  bm : B ≤ mb
  bs : B ≤ sb
  ne : mb ≠ sb
  wf : WfA L
  steps : w.ownsMap (H := Unit) Tryz.prog 102 (plainElem Tryz.prog 3) sb sn DS
  lies : ∃ l g nc kv kl D, PoolIn av w B pb mb sb L ov e l g nc kv kl D
theorem poolIn_len {w : World} {B pb mb sb : Nat} {L : List Ab} {ov : Value} {e : Int} {l : List Nd} {g nc : Nat} {kv : Value} {kl : List Int} {D : DataW Unit} (h : PoolIn av w B pb mb sb L ov e l g nc kv kl D) : l.length = L.length := by rw [← h.ab, List.length_map]
theorem poolIn_below {w w' : World} {B pb mb sb : Nat} {L : List Ab} {ov : Value} {e : Int} {l : List Nd} {g nc : Nat} {kv : Value} {kl : List Int} {D : DataW Unit} (h : PoolIn av w B pb mb sb L ov e l g nc kv kl D) (hb : Below w.heap.size w w') : PoolIn av w' B pb mb sb L ov e l g nc kv kl D :=
  ⟨h.ab, (hb.block _ (lt_of_some h.blk)).trans h.blk, own_off (O := fun _ => False) h.nodes (off_below hb) (fun _ _ h => h), own_off (O := fun _ => False) h.key (off_below hb) (fun _ _ h => h), map_off (O := fun _ => False) h.map (off_below hb) (fun h => h), h.has, fun d hd => ⟨rrow_fr (h.rows d hd).1 (h.rows d hd).2.2.1 (fr_below hb), nrow_fr (h.rows d hd).2.1 (h.rows d hd).2.2.2 (fr_below hb), held_fr (h.rows d hd).2.2.1 (fr_below hb), held_fr (h.rows d hd).2.2.2 (fr_below hb)⟩⟩
theorem pool_below {w w' : World} {B pb mb sb : Nat} {L : List Ab} {ov : Value} {e : Int} {sn : Nat} {DS : DataW Unit} (h : Pool av w B pb mb sb L ov e sn DS) (hb : Below w.heap.size w w') : Pool av w' B pb mb sb L ov e sn DS := by
  obtain ⟨l, g, nc, kv, kl, D, hl⟩ := h.lies
  exact ⟨h.bp, h.bm, h.bs, h.ne, h.wf, map_off (O := fun _ => False) h.steps (off_below hb) (fun h => h), l, g, nc, kv, kl, D, poolIn_below hl hb⟩
theorem not_stay_cells {w : World} {B mb sb k : Nat} {cs : Array Value} {t : TypeId} {f : Nat × Nat} (h : w.heap[k]? = some (.cells cs t f)) (hB : B ≤ k) (ht : t = 5 ∨ t = 65 ∨ t = 61) : ¬ Stay B mb sb w k := by
  rintro (h1 | ⟨cs', t', f', h1, h5, h65, h61⟩ | ⟨o, h1, hc, -⟩)
  · omega
  · rw [h] at h1
    simp only [Option.some.injEq, Obj.cells.injEq] at h1
    obtain ⟨-, rfl, -⟩ := h1
    rcases ht with h | h | h <;> contradiction
  · rw [h] at h1; cases h1; exact hc _ _ _ rfl
theorem not_stay_row {w : World} {B base mb sb k n size : Nat} {t : TypeId} {v : Value} {xs : List Value} (h : w.ownsRow base t size v n xs) (hB : B ≤ base) (ht : t = 5 ∨ t = 65 ∨ t = 61) (hk : v.ownBlock = some k) : ¬ Stay B mb sb w k := by
  rcases h.2 with ⟨rfl, _⟩ | ⟨g, cap, cur, rfl, hg, hh, _⟩
  · simp [Value.ownBlock] at hk
  · simp only [Value.ownBlock, Option.some.injEq] at hk
    subst hk
    exact not_stay_cells hh (by omega) ht
theorem pool_av0 {av av' : Nat → Prop} {w : World} {B pb mb sb : Nat} {L : List Ab} {ov : Value} {e : Int} {sn : Nat} {DS : DataW Unit} (h : Pool av w B pb mb sb L ov e sn DS) (hav : ∀ k, k < w.heap.size → av' k → av k) : Pool av' w B pb mb sb L ov e sn DS := by
  obtain ⟨l, g, nc, kv, kl, D, hl⟩ := h.lies
  refine ⟨h.bp, h.bm, h.bs, h.ne, h.wf, h.steps, l, g, nc, kv, kl, D, hl.ab, hl.blk, hl.nodes, hl.key, hl.map, hl.has, fun d hd => ?_⟩
  obtain ⟨h1, h2, h3, h4⟩ := hl.rows d hd
  exact ⟨h1, h2, fun x hx => ⟨(h3 x hx).1, (h3 x hx).2.1, fun ha => (h3 x hx).2.2 (hav _ (h3 x hx).1 ha)⟩, fun x hx => ⟨(h4 x hx).1, (h4 x hx).2.1, fun ha => (h4 x hx).2.2 (hav _ (h4 x hx).1 ha)⟩⟩
theorem held_ne {w : World} {B mb sb k : Nat} {a : Option Addr} (h : Held av B mb sb w a) (hk : ¬ Stay B mb sb w k) : ∀ x, a = some x → x.block ≠ k := fun x hx e => hk (e ▸ rowy_stay (h x hx).2.1)
end Go.Proofs.YtkimhfajfbcdmaaGreatDoor

/- Pools: what stays of a pool, and what becomes of it when a node is put. -/
namespace Go.Proofs.YtkimhfajfbcdmaaGreatDoor
open Go.RowKit Go.Maps

variable {av : Nat → Prop}

theorem own_nil_of {w : World} {B : Nat} {e : TypeId} {size n c : Nat} {a : Option Addr} {xs : List Value} (h : w.ownsRow B e size (.slice a n c) n xs) : w.ownsRow B e size (.slice a 0 c) 0 [] := by
  refine ⟨by simp, ?_⟩
  rcases h.2 with ⟨h0, -⟩ | ⟨g, cap, cur, hv, hg, hh, h1, h2, h3, -⟩
  · simp only [Value.slice.injEq] at h0
    exact .inl ⟨by rw [h0.1, h0.2.2], rfl⟩
  · simp only [Value.slice.injEq, true_and] at hv
    exact .inr ⟨g, cap, cur, by rw [hv.1, hv.2], hg, hh, Nat.zero_le _, h2, h3, by simp⟩
theorem row_row {w : World} {B B' : Nat} {e e' : TypeId} {s s' n n' : Nat} {v v' : Value} {xs xs' : List Value} (h : w.ownsRow B e s v n xs) (h' : w.ownsRow B' e' s' v' n' xs') (he : e ≠ e') {k : Nat} (hk : v.ownBlock = some k) : v'.ownBlock ≠ some k := fun hk' => by
  rcases h.2 with ⟨rfl, _⟩ | ⟨g, cap, cur, rfl, _, hh, _⟩
  · simp [Value.ownBlock] at hk
  simp only [Value.ownBlock, Option.some.injEq] at hk
  subst hk
  exact row_not hh h' (fun e => he e.symm) hk'
theorem map_not {w : World} {B b n : Nat} {cs : Array Value} {t : TypeId} {f : Nat × Nat} {H : Type} {P : Program} {k : TypeId} {R : Value → Option (DataW H × List MemPlace)} {D : DataW H} (hB : w.heap[B]? = some (.cells cs t f)) (hm : w.ownsMap P k R b n D) : b ≠ B := fun h => by
  obtain ⟨es, c, hb, _⟩ := hm
  rw [h, hB] at hb
  simp at hb
theorem row_map {w : World} {base b n m : Nat} {e : TypeId} {size : Nat} {v : Value} {xs : List Value} {H : Type} {P : Program} {k : TypeId} {R : Value → Option (DataW H × List MemPlace)} {D : DataW H} (hr : w.ownsRow base e size v n xs) (hm : w.ownsMap P k R b m D) : v.ownBlock ≠ some b := fun h => by
  rcases hr.2 with ⟨rfl, _⟩ | ⟨g, cap, cur, rfl, _, hh, _⟩
  · simp [Value.ownBlock] at h
  · simp only [Value.ownBlock, Option.some.injEq] at h
    exact map_not hh hm h.symm
theorem row_lt {w : World} {B : Nat} {e : TypeId} {s n : Nat} {v : Value} {xs : List Value} (h : w.ownsRow B e s v n xs) {k : Nat} (hk : v.ownBlock = some k) : B ≤ k ∧ k < w.heap.size := by
  rcases h.2 with ⟨rfl, _⟩ | ⟨g, cap, cur, rfl, hg, hh, _⟩
  · simp [Value.ownBlock] at hk
  · simp only [Value.ownBlock, Option.some.injEq] at hk
    subst hk
    exact ⟨hg, lt_of_some hh⟩

section
variable {w w' : World} {B pb mb sb : Nat} {L : List Ab} {ov : Value} {e : Int} {l : List Nd} {g nc : Nat} {kv : Value} {kl : List Int} {D : DataW Unit}
theorem poolIn_off {O : Nat → Prop} (h : PoolIn av w B pb mb sb L ov e l g nc kv kl D) (ho : Off O w w') (h1 : ¬ O pb) (h2 : ¬ O g) (h3 : ∀ k, kv.ownBlock = some k → ¬ O k) (h4 : ¬ O mb) (h5 : ∀ k, k < w.heap.size → O k → ¬ Stay B mb sb w k) : PoolIn av w' B pb mb sb L ov e l g nc kv kl D := by
  have hf := fr_off ho h5
  exact ⟨h.ab, (ho.block _ (lt_of_some h.blk) h1).trans h.blk, own_off h.nodes ho (fun k hk => by simp only [Value.ownBlock, Option.some.injEq] at hk; exact hk ▸ h2), own_off h.key ho h3, map_off h.map ho h4, h.has, fun d hd => ⟨rrow_fr (h.rows d hd).1 (h.rows d hd).2.2.1 hf, nrow_fr (h.rows d hd).2.1 (h.rows d hd).2.2.2 hf, held_fr (h.rows d hd).2.2.1 hf, held_fr (h.rows d hd).2.2.2 hf⟩⟩
theorem poolIn_g (h : PoolIn av w B pb mb sb L ov e l g nc kv kl D) : B ≤ g ∧ g < w.heap.size ∧ g ≠ pb ∧ g ≠ mb ∧ kv.ownBlock ≠ some g ∧ kv.ownBlock ≠ some pb ∧ kv.ownBlock ≠ some mb ∧ mb ≠ pb ∧ pb < w.heap.size := by
  have hg := row_lt h.nodes (k := g) rfl
  refine ⟨hg.1, hg.2, fun e => ?_, fun e => ?_, row_row h.nodes h.key (by decide) rfl, row_not h.blk h.key (by decide), row_map h.key h.map, map_not h.blk h.map, lt_of_some h.blk⟩
  · exact row_not h.blk h.nodes (by decide) (by rw [← e]; rfl)
  · exact row_map h.nodes h.map (by rw [← e]; rfl)
theorem not_stay_pb (h : PoolIn av w B pb mb sb L ov e l g nc kv kl D) (hB : B ≤ pb) : ¬ Stay B mb sb w pb := not_stay_cells h.blk hB (by decide)
theorem not_stay_g (h : PoolIn av w B pb mb sb L ov e l g nc kv kl D) : ¬ Stay B mb sb w g := not_stay_row h.nodes (Nat.le_refl _) (by decide) rfl
theorem not_stay_kv (h : PoolIn av w B pb mb sb L ov e l g nc kv kl D) {k : Nat} (hk : kv.ownBlock = some k) : ¬ Stay B mb sb w k := not_stay_row h.key (Nat.le_refl _) (by decide) hk
theorem not_stay_mb (h : PoolIn av w B pb mb sb L ov e l g nc kv kl D) (hB : B ≤ mb) : ¬ Stay B mb sb w mb := by
  obtain ⟨es, c, hb, -⟩ := h.map
  rintro (h1 | ⟨cs', t', f', h1, -⟩ | ⟨o, h1, hc, h2, -⟩)
  · omega
  · rw [hb] at h1; cases h1
  · exact h2 rfl
end

/-- Behind the key. -/
theorem put_mid {w W1 : World} {B pb mb sb : Nat} {L : List Ab} {ov : Value} {e : Int} {l : List Nd} {g nc : Nat} {a : Option Addr} {c : Nat} {kl ks : List Int} {D : DataW Unit} {bx : Array Value} {gk cap kn : Nat} (hB : B ≤ pb)
    (hin : PoolIn av w B pb mb sb L ov e l g nc (.slice a kl.length c) kl D) (hst : KSt B (fun k => (Value.slice a 0 c).ownBlock = some k) (w.alloc (.cells bx 65)) W1 gk cap kn ks) :
    (W1.cell? ⟨pb, 2, none⟩ = some (.slice a kl.length c) ∧ W1.frozen? ⟨pb, 2, none⟩ = false) ∧
    PoolIn av (W1.setCell ⟨pb, 2, none⟩ (.slice (some ⟨gk, 0, none⟩) kn cap)) B pb mb sb L ov e l g nc (.slice (some ⟨gk, 0, none⟩) kn cap) ks D ∧
    (W1.setCell ⟨pb, 2, none⟩ (.slice (some ⟨gk, 0, none⟩) kn cap)).heap[w.heap.size]? = some (.cells bx 65 (0, 0)) ∧
    Fr B mb sb w (W1.setCell ⟨pb, 2, none⟩ (.slice (some ⟨gk, 0, none⟩) kn cap)) ∧ Off (fun k => k = pb ∨ (Value.slice a kl.length c).ownBlock = some k) w (W1.setCell ⟨pb, 2, none⟩ (.slice (some ⟨gk, 0, none⟩) kn cap)) := by
  obtain ⟨hg1, hg2, hg3, hg4, hk1, hk2, hk3, hm1, hpl⟩ := poolIn_g hin
  have hlen := hst.len
  subst hlen
  have hob : (Value.slice a 0 c).ownBlock = (Value.slice a kl.length c).ownBlock := by cases a <;> rfl
  have ho1 : Off (fun k => (Value.slice a kl.length c).ownBlock = some k) w W1 := off_t' (off_alloc (off_refl _ w) (.cells bx 65)) hst.off (fun k hk => .inl (hob ▸ hk))
  have hp1 : W1.heap[pb]? = _ := (ho1.block pb hpl hk2).trans hin.blk
  have ho2 := off_set (off_mono (O' := fun k => k = pb ∨ (Value.slice a kl.length c).ownBlock = some k) ho1 (fun k hk => .inl (.inr hk))) (p := ⟨pb, 2, none⟩) (.inl (.inl rfl)) (.slice (some ⟨gk, 0, none⟩) ks.length cap)
  have hO : ∀ k, k < w.heap.size → (k = pb ∨ (Value.slice a kl.length c).ownBlock = some k) → ¬ Stay B mb sb w k := by
    rintro k - (rfl | hk)
    · exact not_stay_pb hin hB
    · exact not_stay_kv hin hk
  have hf := fr_off ho2 hO
  have hgk : (Value.slice (some ⟨gk, 0, none⟩) ks.length cap).ownBlock ≠ some pb := row_not hp1 hst.own (by decide)
  have hnb : (w.alloc (.cells bx 65)).heap[w.heap.size]? = some (.cells bx 65 (0, 0)) := (MapKept.heap_alloc w _).1
  have hnk : ¬ (Value.slice a 0 c).ownBlock = some w.heap.size := fun h => by
    rw [hob] at h
    have := (row_lt hin.key h).2
    omega
  refine ⟨⟨cell_block hp1 2 _ rfl, frozen_block hp1 2⟩, ⟨hin.ab, ?_, ?_, ?_, ?_, hin.has, ?_⟩, ?_, hf, ho2⟩
  · exact block_set (i := 2) hp1 _
  · refine own_off hin.nodes ho2 (fun k hk => ?_)
    simp only [Value.ownBlock, Option.some.injEq] at hk
    subst hk
    rintro (h | h)
    · exact hg3 h
    · exact hk1 h
  · exact own_off (O := fun k => k = pb) hst.own (off_set (O := fun k => k = pb) (off_refl _ _) (p := ⟨pb, 2, none⟩) (.inl rfl) _) (fun k hk e => hgk (e ▸ hk))
  · refine map_off hin.map ho2 ?_
    rintro (h | h)
    · exact hm1 h
    · exact hk3 h
  · exact fun d hd => ⟨rrow_fr (hin.rows d hd).1 (hin.rows d hd).2.2.1 hf, nrow_fr (hin.rows d hd).2.1 (hin.rows d hd).2.2.2 hf, held_fr (hin.rows d hd).2.2.1 hf, held_fr (hin.rows d hd).2.2.2 hf⟩
  · have h1 : W1.heap[w.heap.size]? = some (.cells bx 65 (0, 0)) := (hst.off.block _ (lt_of_some hnb) hnk).trans hnb
    exact (Below.heap_setCell W1 ⟨pb, 2, none⟩ _ w.heap.size (fun e => by simp only at e; omega)).trans h1

theorem keysA_append (L : List Ab) (a : Ab) : keysA (L ++ [a]) = keysA L ++ [keyS a.kind a.set a.kids] := by simp [keysA]
theorem flatN_append (l : List Nd) (d : Nd) : flatN (l ++ [d]) = flatN l ++ cellsN d := by simp [flatN]
/-- Behind the new node. -/
theorem put_end {W W7 W9 : World} {B pb mb sb : Nat} {L : List Ab} {ov : Value} {e : Int} {l : List Nd} {g nc : Nat} {kv : Value} {kl : List Int} {D : DataW Unit} {d : Nd} {o : Obj} {g' cap : Nat} (hB : B ≤ pb) (hBm : B ≤ mb)
    (hin : PoolIn av W B pb mb sb L ov e l g nc kv kl D) (hnew : keyS d.kind d.set d.kids ∉ keysA L) (hrow : RRow W d.sa d.set ∧ NRow W d.ka d.kids ∧ Held av B mb sb W d.sa ∧ Held av B mb sb W d.ka)
    (hown : W7.ownsRow B 65 6 (.slice (some ⟨g', 0, none⟩) (L.length + 1) cap) (L.length + 1) (flatN l ++ cellsN d)) (hg : (W.alloc o).grownBy W7 (some g)) :
    (W7.cell? ⟨pb, 0, none⟩ = some (.slice (some ⟨g, 0, none⟩) L.length nc) ∧ W7.frozen? ⟨pb, 0, none⟩ = false) ∧
    ((W7.setCell ⟨pb, 0, none⟩ (.slice (some ⟨g', 0, none⟩) (L.length + 1) cap)).heap[pb]? = some (.cells #[.slice (some ⟨g', 0, none⟩) (L.length + 1) cap, .map (some mb), kv, .map (some sb), ov, .int .i64 e] 61 (0, 0)) ∧
     (W7.setCell ⟨pb, 0, none⟩ (.slice (some ⟨g', 0, none⟩) (L.length + 1) cap)).ownsMap (H := Unit) Tryz.prog 9 (plainElem Tryz.prog 3) mb L.length D ∧
     (W7.setCell ⟨pb, 0, none⟩ (.slice (some ⟨g', 0, none⟩) (L.length + 1) cap)).ownsRow B 5 1 kv kl.length (byteV kl)) ∧
    (W9.ownsMap (H := Unit) Tryz.prog 9 (plainElem Tryz.prog 3) mb (L.length + 1) (D.put (.string (keyS d.kind d.set d.kids)) (.lit (.int .i64 L.length))) → (W7.setCell ⟨pb, 0, none⟩ (.slice (some ⟨g', 0, none⟩) (L.length + 1) cap)).grownBy W9 (some mb) →
      PoolIn av W9 B pb mb sb (L ++ [d.ab]) ov e (l ++ [d]) g' cap kv kl (D.put (.string (keyS d.kind d.set d.kids)) (.lit (.int .i64 L.length))) ∧ Off (fun k => k = pb ∨ k = g ∨ k = mb) W W9 ∧ Fr B mb sb W W9) := by
  obtain ⟨hg1, hg2, hg3, hg4, hk1, hk2, hk3, hm1, hpl⟩ := poolIn_g hin
  have ho7 : Off (fun k => k = pb ∨ k = g ∨ k = mb) W W7 := off_grown (off_alloc (off_refl _ W) o) hg (fun k hk => by cases hk; exact .inl (.inr (.inl rfl)))
  have hblk : ∀ k, k < W.heap.size → k ≠ g → W7.heap[k]? = W.heap[k]? := fun k hk hn => (hg.block k (by simp; omega) (fun e => by cases e; exact hn rfl)).trans (Below.heap_alloc W o k hk)
  have hp7 : W7.heap[pb]? = _ := (hblk pb hpl (fun e => hg3 e.symm)).trans hin.blk
  have hgp : (Value.slice (some ⟨g', 0, none⟩) (L.length + 1) cap).ownBlock ≠ some pb := row_not hp7 hown (by decide)
  have ho7g : Off (fun k => k = g) W W7 := off_grown (off_alloc (off_refl _ W) o) hg (fun k hk => by cases hk; exact .inl rfl)
  have hkey7 : W7.ownsRow B 5 1 kv kl.length (byteV kl) := own_off hin.key ho7g (fun k hk e => hk1 (by rw [hk, e]))
  have hm7 : W7.ownsMap (H := Unit) Tryz.prog 9 (plainElem Tryz.prog 3) mb L.length D := map_off hin.map ho7g (fun e => hg4 e.symm)
  have ho8 : Off (fun k => k = pb) W7 (W7.setCell ⟨pb, 0, none⟩ (.slice (some ⟨g', 0, none⟩) (L.length + 1) cap)) := off_set (O := fun k => k = pb) (off_refl _ _) (p := ⟨pb, 0, none⟩) (.inl rfl) _
  have hB8 := block_set (i := 0) hp7 (.slice (some ⟨g', 0, none⟩) (L.length + 1) cap)
  have hkey8 := own_off hkey7 ho8 (fun k hk e => hk2 (by rw [hk, e]))
  have hm8 := map_off hm7 ho8 hm1
  refine ⟨⟨cell_block hp7 0 _ rfl, frozen_block hp7 0⟩, ⟨hB8, hm8, hkey8⟩, fun hm9 hg9 => ?_⟩
  have ho9 : Off (fun k => k = mb) (W7.setCell ⟨pb, 0, none⟩ (.slice (some ⟨g', 0, none⟩) (L.length + 1) cap)) W9 := off_grown (off_refl _ _) hg9 (fun k hk => by cases hk; exact .inl rfl)
  have hoff : Off (fun k => k = pb ∨ k = g ∨ k = mb) W W9 := off_t (off_t ho7 (off_mono ho8 (fun k hk => .inl (.inl hk)))) (off_mono ho9 (fun k hk => .inl (.inr (.inr hk))))
  have hO : ∀ k, k < W.heap.size → (k = pb ∨ k = g ∨ k = mb) → ¬ Stay B mb sb W k := by
    rintro k - (rfl | rfl | rfl)
    · exact not_stay_pb hin hB
    · exact not_stay_g hin
    · exact not_stay_mb hin hBm
  have hf := fr_off hoff hO
  have hown8 := own_off hown ho8 (fun k hk e => hgp (e ▸ hk))
  have hl : (L ++ [d.ab]).length = L.length + 1 := by simp
  refine ⟨⟨?_, ?_, ?_, ?_, ?_, ?_, ?_⟩, hoff, hf⟩
  · rw [List.map_append, hin.ab]; rfl
  · rw [hl]; exact (ho9.block pb (lt_of_some hB8) (fun e => hm1 e.symm)).trans hB8
  · rw [hl, flatN_append]; exact own_off hown8 ho9 (fun k hk e => row_map hown8 hm8 (e ▸ hk))
  · exact own_off hkey8 ho9 (fun k hk e => hk3 (e ▸ hk))
  · rw [hl]; exact hm9
  · intro x
    rw [keysA_append]
    by_cases hx : x = keyS d.kind d.set d.kids
    · subst hx
      have hkl : WideAt.IsKeyLit (.string (keyS d.kind d.set d.kids)) := trivial
      rw [has_put_same hm8.isMap hkl, atKey_put_same hm8.isMap hkl]
      have : keyS d.ab.kind d.ab.set d.ab.kids = keyS d.kind d.set d.kids := rfl
      have hkl2 : (keysA L).length = L.length := by simp [keysA]
      refine ⟨by simp [this], ?_⟩
      rw [this]
      unfold posB
      rw [if_pos (by simp), List.idxOf_append, if_neg hnew, hkl2]
      simp
    · have hne : (Lit.string x) ≠ .string (keyS d.kind d.set d.kids) := by simpa using hx
      rw [has_put_other hne, atKey_put_other hne, (hin.has x).1, (hin.has x).2]
      have : keyS d.ab.kind d.ab.set d.ab.kids = keyS d.kind d.set d.kids := rfl
      refine ⟨by simp [hx, this], ?_⟩
      unfold posB
      by_cases hk : x ∈ keysA L
      · simp [hk, List.idxOf_append]
      · simp [hk, hx, this]
  · intro x hx
    rcases List.mem_append.1 hx with hx | hx
    · exact ⟨rrow_fr (hin.rows x hx).1 (hin.rows x hx).2.2.1 hf, nrow_fr (hin.rows x hx).2.1 (hin.rows x hx).2.2.2 hf, held_fr (hin.rows x hx).2.2.1 hf, held_fr (hin.rows x hx).2.2.2 hf⟩
    · simp only [List.mem_singleton] at hx
      subst hx
      exact ⟨rrow_fr hrow.1 hrow.2.2.1 hf, nrow_fr hrow.2.1 hrow.2.2.2 hf, held_fr hrow.2.2.1 hf, held_fr hrow.2.2.2 hf⟩
end Go.Proofs.YtkimhfajfbcdmaaGreatDoor

/- Pools: a node is put. -/
namespace Go.Proofs.YtkimhfajfbcdmaaGreatDoor
open Go.RowKit Go.Maps

variable {av : Nat → Prop}

theorem law9 : Keyed Tryz.prog 9 := string_keyed Tryz.underlying9
theorem keyOfS (s : List UInt8) (hs : s.length ≤ maxLen) : keyOf Tryz.prog 9 (.string (bs s)) = some (.string s) := WideMaps.keyOf_string_mk Tryz.underlying9 (s := bs s) hs
theorem zero3 (w : World) : (zeroValue 3).run Tryz.prog w = .ok (.int .i64 0) w := by kernel_rfl
theorem hnode : (Tryz.prog.info? 65).map (fun i => (i.zero, i.size, i.bytes)) = some (some (.agg #[.int .i64 0, .slice none 0 0, .slice none 0 0, .int .i64 0, .int .i64 0, .bool false]), 6, 80) := by kernel_rfl
theorem keyS_len (kind : Int) (set : List Rg) (kids : List Int) : (keyS kind set kids).length = 1 + 8 * set.length + 4 * kids.length := by
  unfold keyS; rw [List.length_map, keyN_len]
/-- The key of a pool as a text, and what is found by it. -/
theorem key_text {w : World} {B pb mb sb : Nat} {L : List Ab} {ov : Value} {e : Int} {l : List Nd} {g nc gk cap kn : Nat} {D : DataW Unit} {kind : Int} {set : List Rg} {kids : List Int} (hin : PoolIn av w B pb mb sb L ov e l g nc (.slice (some ⟨gk, 0, none⟩) kn cap) (keyN kind set kids) D) (hn : kn = (keyN kind set kids).length) (hs : set.length ≤ 4096) (hk : kids.length ≤ 4096) :
    (convert 58 9 (.slice (some ⟨gk, 0, none⟩) kn cap)).run Tryz.prog w = .ok (.string (bs (keyS kind set kids))) w ∧
    (Instr.lookup 56 (.map (some mb)) (.string (bs (keyS kind set kids))) true).run Tryz.prog w = .ok (.tuple #[.int .i64 (posB (keysA L) (keyS kind set kids)), .bool (decide (keyS kind set kids ∈ keysA L))]) w := by
  have hlen := keyS_len kind set kids
  refine ⟨?_, ?_⟩
  · rw [← strOf_key]
    refine run_convert_bytes_arg w 58 5 Tryz.underlying58 Tryz.underlying5 gk 0 kn cap (keyN kind set kids) hn.symm (fun i hi => ?_) 9 Tryz.underlying9
    have hkey := hin.key
    rw [← hn] at hkey
    rw [Nat.zero_add, own_cell hkey rfl i (by rw [byteV_length]; omega), List.getD_eq_getElem?_getD, List.getD_eq_getElem?_getD]
    unfold byteV
    rw [List.getElem?_map, List.getElem?_eq_getElem (by omega)]
    rfl
  · obtain ⟨v, ps, hrun, hv⟩ := hin.map.look_ok law9 Tryz.underlying56 (zero3 _) (plainElem_int Tryz.underlying3 (by decide)) (keyOfS (keyS kind set kids) (by unfold maxLen; omega))
    obtain ⟨c, rfl, hc, hwc⟩ := plainElem_int_inv Tryz.underlying3 hv
    rw [hrun]
    have := (hin.has (keyS kind set kids)).2
    simp only [Prod.mk.injEq] at hc
    rw [hc.1] at this
    rw [(hin.has (keyS kind set kids)).1]
    simp only [DataW.lit.injEq, Lit.int.injEq, true_and] at this
    rw [this]

set_option maxHeartbeats 4000000 in
set_option maxRecDepth 100000 in
theorem put_old (w : World) (B pb mb sb : Nat) (L : List Ab) (ov : Value) (e : Int) (sn : Nat) (DS : DataW Unit) (hP : Pool av w B pb mb sb L ov e sn DS) (hBw : B ≤ w.heap.size) (kind : Int) (sa ka : Option Addr) (sc kc : Nat) (set : List Rg) (kids : List Int)
    (hs : set.length ≤ 4096) (hk : kids.length ≤ 4096) (hsr : RRow w sa set) (hkr : NRow w ka kids) (hsh : Held av B mb sb w sa) (hkh : Held av B mb sb w ka) (hold : keyS kind set kids ∈ keysA L) :
    Calls Tryz.prog 26 #[.pointer (some ⟨pb, 0, none⟩), .agg #[.int .i64 kind, .slice sa set.length sc, .slice ka kids.length kc, .int .i64 0, .int .i64 0, .bool false]] w fun e' w' => e' = .returned (.int .i64 (putX L kind set kids)) ∧ Pool av w' B pb mb sb (putL L kind set kids) ov e sn DS ∧ Fr B mb sb w w' := by
  obtain ⟨l, g, nc, kv, kl, D, hin⟩ := hP.lies
  obtain ⟨a, c, rfl⟩ := own_form hin.key
  have hb0 : Below w.heap.size w (w.alloc (.cells #[.int .i64 kind, .slice sa set.length sc, .slice ka kids.length kc, .int .i64 0, .int .i64 0, .bool false] 65)) := (Below.refl _ _).alloc (Nat.le_refl _) _
  have hin0 := poolIn_below hin hb0
  have d2 := cell_block hin0.blk 2 _ rfl
  have hbox : (w.alloc (.cells #[.int .i64 kind, .slice sa set.length sc, .slice ka kids.length kc, .int .i64 0, .int .i64 0, .bool false] 65)).heap[w.heap.size]? = some (.cells #[.int .i64 kind, .slice sa set.length sc, .slice ka kids.length kc, .int .i64 0, .int .i64 0, .bool false] 65 (0, 0)) := (MapKept.heap_alloc w _).1
  have hob : (Value.slice a 0 c).ownBlock = (Value.slice a kl.length c).ownBlock := by cases a <;> rfl
  have HK := hide (appKey_any B (.slice a 0 c) _ (Nat.le_trans hBw hb0.size) (own_nil_of hin0.key) w.heap.size kind sa ka sc kc set kids _ _ _ hs hk hbox (rrow_fr hsr hsh (fr_below hb0)) (nrow_fr hkr hkh (fr_below hb0)) (fun x hx h => by rw [hob] at h; exact not_stay_kv hin0 h (rowy_stay (held_fr hsh (fr_below hb0) x hx).2.1)) (fun x hx h => by rw [hob] at h; exact not_stay_kv hin0 h (rowy_stay (held_fr hkh (fr_below hb0) x hx).2.1)))
  have HM := hide (fun W1 gk cap kn (hst : KSt B (fun k => (Value.slice a 0 c).ownBlock = some k) (w.alloc (.cells #[.int .i64 kind, .slice sa set.length sc, .slice ka kids.length kc, .int .i64 0, .int .i64 0, .bool false] 65)) W1 gk cap kn (keyN kind set kids)) => And.intro hst.len (put_mid hP.bp hin hst))
  have hval : posB (keysA L) (keyS kind set kids) = putX L kind set kids := by simp [posB, putX, hold]
  have hputL : putL L kind set kids = L := by simp [putL, hold]
  have hdec : decide (keyS kind set kids ∈ keysA L) = true := by simpa using hold
  have hsb : ¬ (sb = pb ∨ (Value.slice a kl.length c).ownBlock = some sb) := by
    rintro (h | h)
    · exact map_not hin.blk hP.steps h
    · exact row_map hin.key hP.steps h
  have HP := hide hP; have Hv := hide hval; have HL := hide hputL; have Hsb := hide hsb
  clear hP hin hin0 hbox hval hputL hold hb0 hsr hkr hsh hkh hsb
  go_enter Tryz.func26, Tryz.ntmps26
  go_wp2_with fail
  refine (unhide HK).mono ?_
  rintro e1 W1 ⟨gk, cap, rfl, hst⟩
  obtain ⟨hlen, ⟨m1, m2⟩, hin2, hbx2, hf2, ho2⟩ := unhide HM W1 gk cap _ hst
  have m3 := hin2.blk
  obtain ⟨hcv, hlk⟩ := key_text (poolIn_below hin2 ((Below.refl _ _).drew)) hlen hs hk
  rw [unhide Hv, hdec] at hlk
  have hp2 : Pool av (W1.setCell ⟨pb, 2, none⟩ (.slice (some ⟨gk, 0, none⟩) (1 + 8 * set.length + 4 * kids.length) cap)) B pb mb sb L ov e sn DS := by
    have h := unhide HP
    exact ⟨h.bp, h.bm, h.bs, h.ne, h.wf, map_off h.steps ho2 (unhide Hsb), _, _, _, _, _, _, hin2⟩
  have e1 := cell_block m3 1 _ rfl
  have e2 := cell_block m3 2 _ rfl
  have Hp2 := hide hp2; have Hf2 := hide hf2
  clear hst hin2 hbx2 hf2 ho2 m3 hp2 HK HM hlen d2
  go_wp2
  go_region
  all_goals
    go_wp2
    go_ret
    exact ⟨rfl, by rw [unhide HL]; exact pool_below (unhide Hp2) (Below.refl _ _).drew, fr_t (unhide Hf2) (fr_below (Below.refl _ _).drew)⟩
end Go.Proofs.YtkimhfajfbcdmaaGreatDoor

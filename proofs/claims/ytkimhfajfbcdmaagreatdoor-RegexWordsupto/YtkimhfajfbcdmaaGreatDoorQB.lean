/- Pools: the key of a node. (and what it leads to) -/
import Derived.Test.YtkimhfajfbcdmaaGreatDoorG1
import Derived.Deep.RegionHeld3
/- Pools: the key of a node. -/
namespace Go.Proofs.YtkimhfajfbcdmaaGreatDoor
open Go.RowKit Go.Maps

/-- Ranges. -/
abbrev Rg := Int × Int
/-- A row of ranges lies there; a row of numbers. -/
def RRow (w : World) (a : Option Addr) (l : List Rg) : Prop := l = [] ∨ ∃ g off, a = some ⟨g, off, none⟩ ∧ g < w.heap.size ∧ ∀ j, j < l.length → w.cell? ⟨g, off + j * 2, none⟩ = some (.int .i32 (l.getD j (0, 0)).1) ∧ w.cell? ⟨g, off + j * 2 + 1, none⟩ = some (.int .i32 (l.getD j (0, 0)).2)
def NRow (w : World) (a : Option Addr) (l : List Int) : Prop := l = [] ∨ ∃ g off, a = some ⟨g, off, none⟩ ∧ g < w.heap.size ∧ ∀ j, j < l.length → w.cell? ⟨g, off + j, none⟩ = some (.int .i64 (l.getD j 0))
def wU (x : Int) : Int := IntKind.u32.wrap x
/-- What no other node has. -/
def keyR (l : List Rg) : List Int := l.flatMap fun x => le4 (wU x.1) ++ le4 (wU x.2)
def keyK (l : List Int) : List Int := l.flatMap fun x => le4 (wU x)
def keyN (kind : Int) (set : List Rg) (kids : List Int) : List Int := [kind % 256] ++ keyR set ++ keyK kids
theorem keyR_len (l : List Rg) : (keyR l).length = 8 * l.length := by
  induction l with
  | nil => rfl
  | cons b l ih =>
    simp only [keyR, List.flatMap_cons, List.length_append, List.length_cons] at ih ⊢
    rw [ih]; simp [le4]; omega
theorem keyK_len (l : List Int) : (keyK l).length = 4 * l.length := by
  induction l with
  | nil => rfl
  | cons b l ih =>
    simp only [keyK, List.flatMap_cons, List.length_append, List.length_cons] at ih ⊢
    rw [ih]; simp [le4]; omega
theorem keyR_succ (l : List Rg) (k : Nat) (hk : k < l.length) : keyR (l.take (k + 1)) = keyR (l.take k) ++ (le4 (wU (l.getD k (0, 0)).1) ++ le4 (wU (l.getD k (0, 0)).2)) := by
  unfold keyR
  rw [List.take_add_one, List.getElem?_eq_getElem hk, List.flatMap_append, List.getD_eq_getElem?_getD, List.getElem?_eq_getElem hk]
  simp
theorem keyK_succ (l : List Int) (k : Nat) (hk : k < l.length) : keyK (l.take (k + 1)) = keyK (l.take k) ++ le4 (wU (l.getD k 0)) := by
  unfold keyK
  rw [List.take_add_one, List.getElem?_eq_getElem hk, List.flatMap_append, List.getD_eq_getElem?_getD, List.getElem?_eq_getElem hk]
  simp

/-- A row of bytes under way: what it is, and what has stayed. -/
structure KSt (B : Nat) (O : Nat → Prop) (w W : World) (g cap n : Nat) (L : List Int) : Prop where
  own : W.ownsRow B 5 1 (.slice (some ⟨g, 0, none⟩) n cap) n (byteV L)
  off : Off O w W
  gv : O g ∨ w.heap.size ≤ g
  base : B ≤ W.heap.size
  len : n = L.length
theorem kst_off {B : Nat} {O : Nat → Prop} {w W W' : World} {g cap n : Nat} {L : List Int} (h : KSt B O w W g cap n L) (hb : Below W.heap.size W W') : KSt B O w W' g cap n L :=
  ⟨own_off (O := fun _ => False) h.own (off_below hb) (fun _ _ h => h), off_t h.off (off_below hb), h.gv, Nat.le_trans h.base hb.size, h.len⟩
theorem kst_num {B : Nat} {O : Nat → Prop} {w W : World} {g cap n : Nat} {L : List Int} (h : KSt B O w W g cap n L) (hL : L.length ≤ 1073741824) (x : Int) :
    Calls Tryz.prog 68 #[.slice (some ⟨g, 0, none⟩) n cap, .int .u32 x] W fun e W' => ∃ g' cap', e = .returned (.slice (some ⟨g', 0, none⟩) (n + 4) cap') ∧ KSt B O w W' g' cap' (n + 4) (L ++ le4 x) ∧ ∀ (b : Nat) (cs : Array Value) (t : TypeId), t ≠ 5 → W.heap[b]? = some (.cells cs t (0, 0)) → W'.heap[b]? = some (.cells cs t (0, 0)) := by
  have hlen := h.len
  subst hlen
  refine (appNum_any B _ L hL x W h.base h.own).mono ?_
  rintro e W' ⟨g', cap', rfl, hown, ho, hg⟩
  have hO : ∀ k, (Value.slice (some ⟨g, 0, none⟩) L.length cap).ownBlock = some k → O k ∨ w.heap.size ≤ k := fun k hk => by
    simp only [Value.ownBlock, Option.some.injEq] at hk
    subst hk
    exact h.gv
  refine ⟨g', cap', rfl, ⟨hown, off_t' h.off ho hO, ?_, Nat.le_trans h.base ho.size, by simp [le4]⟩, fun b cs t ht hb => (ho.block b (lt_of_some hb) (fun e => row_not hb h.own (fun e => ht e.symm) e)).trans hb⟩
  rcases hg with hg | hg
  · exact hO g' hg
  · exact .inr (Nat.le_trans h.off.size hg)

set_option maxHeartbeats 4000000 in
set_option maxRecDepth 100000 in
theorem appKey_any (B : Nat) (v : Value) (w : World) (hB : B ≤ w.heap.size) (h : w.ownsRow B 5 1 v 0 []) (nb : Nat) (kind : Int) (sa ka : Option Addr) (sc kc : Nat) (set : List Rg) (kids : List Int) (u3 u4 u5 : Value) (hs : set.length ≤ 4096) (hk : kids.length ≤ 4096) (hn : w.heap[nb]? = some (.cells #[.int .i64 kind, .slice sa set.length sc, .slice ka kids.length kc, u3, u4, u5] 65 (0, 0))) (hsr : RRow w sa set) (hkr : NRow w ka kids) (hns : ∀ x, sa = some x → v.ownBlock ≠ some x.block) (hnk : ∀ x, ka = some x → v.ownBlock ≠ some x.block) :
    Calls Tryz.prog 42 #[.pointer (some ⟨nb, 0, none⟩), v] w fun e w' => ∃ g cap, e = .returned (.slice (some ⟨g, 0, none⟩) (1 + 8 * set.length + 4 * kids.length) cap) ∧ KSt B (fun k => v.ownBlock = some k) w w' g cap (1 + 8 * set.length + 4 * kids.length) (keyN kind set kids) := by
  obtain ⟨i0, hi, hz0, hz1, hz2⟩ := info_parts hbyte
  obtain ⟨va, vc, rfl⟩ := own_form h
  have hnn := row_not hn h (by decide)
  have c0 := cell_block hn 0 _ rfl
  have lN := lt_of_some hn
  have H := hide h; have Hn := hide hn; have Hsr := hide hsr; have Hkr := hide hkr; have Hns := hide hns; have Hnk := hide hnk; have Hnn := hide hnn
  clear h hn hsr hkr hns hnk hnn
  go_enter Tryz.func42, Tryz.ntmps42
  go_wp2_with (at_builtin; refine wpList_append_lies _ rfl _ _ 58 rfl B 5 i0 (.int .u8 0) 1 1 Tryz.underlying58 hi hz0 hz1 hz2 rfl (by decide) _ _ _ rfl ((unhide H).alloc _) ⟨w.heap.size, 0, none⟩ 1 1 (byteV [kind % 256]) rfl rfl ?n1 (byteV_one _) (by decide) (by decide) (by decide) (by simp; omega) (w.heap.size + 1) (by simp) ?_)
  case n1 =>
    have h := World.news_of_block (MapKept.heap_alloc w (.cells #[.int .u8 (kind % 256)] 5)).1
    simpa [byteV] using h
  intro g2 cap2 W2 hown2 hg2 hgv2 hgl2
  have ho2 : Off (fun k => (Value.slice va 0 vc).ownBlock = some k) w W2 := off_grown (off_alloc (off_refl _ _) _) hg2 (fun k hk => .inl hk)
  have hn2 : W2.heap[nb]? = _ := (ho2.block nb lN (fun e => (unhide Hnn) e)).trans (unhide Hn)
  have d1 := cell_block hn2 1 _ rfl
  have hk2 : KSt B (fun k => (Value.slice va 0 vc).ownBlock = some k) w W2 g2 cap2 1 ([kind % 256] ++ keyR (set.take 0)) := ⟨by simpa [keyR] using hown2, ho2, hgv2.imp id (fun h => by omega), Nat.le_trans hB ho2.size, rfl⟩
  have Hk2 := hide hk2; have Hn2 := hide hn2
  clear hown2 hg2 hgv2 ho2 hn2 H hgl2 hk2
  go_wp2
  go_loopw [22, 1] (fun x v1 wr => ∃ k g cap : Nat, x = .int .i64 k ∧ k ≤ set.length ∧ v1 = .slice (some ⟨g, 0, none⟩) (1 + 8 * k) cap ∧ KSt B (fun k => (Value.slice va 0 vc).ownBlock = some k) w wr g cap (1 + 8 * k) ([kind % 256] ++ keyR (set.take k))) (fun x _ _ => set.length - (intOf x).toNat)
  case atStart => exact ⟨0, g2, cap2, rfl, Nat.zero_le _, rfl, unhide Hk2⟩
  case round =>
    obtain ⟨k, g, cap, rfl, hkl, rfl, hst⟩ := hrel
    clear Hk2
    by_cases hlt : k < set.length
    · have hlt' : (k : Int) < set.length := by omega
      rcases unhide Hsr with h | ⟨gs, off, rfl, hgl, hc⟩
      · subst h; simp at hlt
      obtain ⟨d0, d1'⟩ := hc k hlt
      have hne : ¬ (Value.slice va 0 vc).ownBlock = some gs := unhide Hns _ rfl
      have e0 := (off_cell hst.off (p := ⟨gs, off + k * 2, none⟩) hgl hne).trans d0
      have e1 := (off_cell hst.off (p := ⟨gs, off + k * 2 + 1, none⟩) hgl hne).trans d1'
      have HS := hide (keyR_succ set k hlt)
      have hkr := keyR_len (set.take k)
      rw [List.length_take, Nat.min_eq_left (by omega)] at hkr
      clear d0 d1' hc
      generalize set.getD k (0, 0) = b at *
      obtain ⟨lo, hi'⟩ := b
      simp only at e0 e1 HS
      have hst1 : KSt B (fun k => (Value.slice va 0 vc).ownBlock = some k) w (wr.alloc (.cells #[.int .i32 lo, .int .i32 hi'] 45)).drew g cap (1 + 8 * k) ([kind % 256] ++ keyR (set.take k)) := kst_off hst (((Below.refl _ _).alloc (Nat.le_refl _) _).drew)
      have hx : (wr.alloc (.cells #[.int .i32 lo, .int .i32 hi'] 45)).drew.heap[wr.heap.size]? = some (.cells #[.int .i32 lo, .int .i32 hi'] 45 (0, 0)) := (MapKept.heap_alloc wr _).1
      have z0 := cell_block hx 0 _ rfl
      have z1 := cell_block hx 1 _ rfl
      have H1 := hide (kst_num hst1 (by simp; omega) (wU lo))
      have H2 := hide (fun W9 g9 cap9 (h9 : KSt B (fun k => (Value.slice va 0 vc).ownBlock = some k) w W9 g9 cap9 (1 + 8 * k + 4) (([kind % 256] ++ keyR (set.take k)) ++ le4 (wU lo))) => kst_num h9 (by simp [le4]; omega) (wU hi'))
      have Hx := hide hx
      clear hst hst1 hx
      generalize hul : wU lo = ul at *
      generalize huh : wU hi' = uh at *
      have hcl : IntKind.u32.wrap lo = ul := hul
      have hch : IntKind.u32.wrap hi' = uh := huh
      go_wp2
      go_region_held3 (fun w' : World => w'.cell? ⟨wr.heap.size, 0, none⟩ = some (.int .i32 lo) ∧ w'.cell? ⟨wr.heap.size, 1, none⟩ = some (.int .i32 hi'))
        (first | exact ⟨z0, z1⟩ | go_keep)
        ((first | (go_at_call 68; refine (unhide H1).mono ?_; rintro e W9 ⟨g9, cap9, rfl, hk9, hp9⟩; have hx9 := hp9 _ _ _ (by decide) (unhide Hx); have z0 := cell_block hx9 0 _ rfl; have z1 := cell_block hx9 1 _ rfl; have H3 := hide (unhide H2 W9 g9 cap9 hk9); have Hx := hide hx9; clear H1 hk9 hp9 hx9) | (go_at_call 68; refine (unhide H3).mono ?_; rintro e W9 ⟨g9, cap9, rfl, hk9, hp9⟩; have hx9 := hp9 _ _ _ (by decide) (unhide Hx); have z0 := cell_block hx9 0 _ rfl; have z1 := cell_block hx9 1 _ rfl; have Hk9 := hide hk9; clear H3 hk9 hp9 hx9)))
      all_goals
        go_wp2
        go_roundw
        case rel =>
          refine ⟨k + 1, g9, cap9, by go_num, by omega, by rw [show 1 + 8 * (k + 1) = 1 + 8 * k + 4 + 4 by omega], ?_⟩
          have h9 := unhide Hk9
          rw [show 1 + 8 * (k + 1) = 1 + 8 * k + 4 + 4 by omega, unhide HS, ← List.append_assoc, ← List.append_assoc]
          exact h9
        case measure => simp [intOf]; omega
    · obtain rfl : k = set.length := by omega
      have hlt' : ¬ ((set.length : Int) < set.length) := by omega
      rw [List.take_length] at hst
      have hn3 : wr.heap[nb]? = _ := (hst.off.block nb lN (fun e => (unhide Hnn) e)).trans (unhide Hn)
      have d2 := cell_block hn3 2 _ rfl
      have hkrl := keyR_len set
      have Hst := hide hst
      clear hst hn3 c0 d1
      generalize hKR : keyR set = KR at *
      go_wp2
      go_loopw [41, 1] (fun x v1 wr => ∃ k g cap : Nat, x = .int .i64 k ∧ k ≤ kids.length ∧ v1 = .slice (some ⟨g, 0, none⟩) (1 + 8 * set.length + 4 * k) cap ∧ KSt B (fun k => (Value.slice va 0 vc).ownBlock = some k) w wr g cap (1 + 8 * set.length + 4 * k) ([kind % 256] ++ KR ++ keyK (kids.take k))) (fun x _ _ => kids.length - (intOf x).toNat)
      case atStart => exact ⟨0, g, cap, rfl, Nat.zero_le _, rfl, by simpa [keyK] using unhide Hst⟩
      case round =>
        obtain ⟨k, g3, cap3, rfl, hkl3, rfl, hst⟩ := hrel
        clear Hst
        by_cases hlt : k < kids.length
        · have hlt2 : (k : Int) < kids.length := by omega
          rcases unhide Hkr with h | ⟨gs, off, rfl, hgl, hc⟩
          · subst h; simp at hlt
          have d0 := hc k hlt
          have hne : ¬ (Value.slice va 0 vc).ownBlock = some gs := unhide Hnk _ rfl
          have e0 := (off_cell hst.off (p := ⟨gs, off + k, none⟩) hgl hne).trans d0
          have HS := hide (keyK_succ kids k hlt)
          have hkk := keyK_len (kids.take k)
          rw [List.length_take, Nat.min_eq_left (by omega)] at hkk
          clear d0 hc
          generalize kids.getD k 0 = y at *
          have H1 := hide (kst_num hst (by simp; omega) (wU y))
          clear hst
          generalize huy : wU y = uy at *
          have hcy : IntKind.u32.wrap y = uy := huy
          go_wp2_with fail
          refine (unhide H1).mono ?_
          rintro e W9 ⟨g9, cap9, rfl, hk9, -⟩
          have Hk9 := hide hk9
          clear hk9 H1
          go_wp2
          go_roundw
          case rel =>
            refine ⟨k + 1, g9, cap9, by go_num, by omega, by rw [show 1 + 8 * set.length + 4 * (k + 1) = 1 + 8 * set.length + 4 * k + 4 by omega], ?_⟩
            have h9 := unhide Hk9
            rw [show 1 + 8 * set.length + 4 * (k + 1) = 1 + 8 * set.length + 4 * k + 4 by omega, unhide HS, ← List.append_assoc]
            exact h9
          case measure => simp [intOf]; omega
        · obtain rfl : k = kids.length := by omega
          have hlt2 : ¬ ((kids.length : Int) < kids.length) := by omega
          rw [List.take_length] at hst
          have Hst := hide hst
          clear hst
          go_wp2
          go_ret
          refine ⟨g3, cap3, rfl, ?_⟩
          unfold keyN
          rw [hKR]
          exact unhide Hst
end Go.Proofs.YtkimhfajfbcdmaaGreatDoor

/- Pools: how many parts and levels a node has. -/
namespace Go.Proofs.YtkimhfajfbcdmaaGreatDoor
open Go.RowKit Go.Maps

/-- A node of a pool. -/
structure Nd where
  kind : Int
  sa : Option Addr
  sc : Nat
  set : List Rg
  ka : Option Addr
  kc : Nat
  kids : List Int
  parts : Int
  levels : Int
  nul : Bool
def nd0 : Nd := ⟨0, none, 0, [], none, 0, [], 0, 0, false⟩
def cellsN (d : Nd) : List Value := [.int .i64 d.kind, .slice d.sa d.set.length d.sc, .slice d.ka d.kids.length d.kc, .int .i64 d.parts, .int .i64 d.levels, .bool d.nul]
def flatN (l : List Nd) : List Value := l.flatMap cellsN
theorem flatN_length (l : List Nd) : (flatN l).length = l.length * 6 := by
  induction l with
  | nil => rfl
  | cons d l ih => simp only [flatN, List.flatMap_cons, List.length_append, List.length_cons] at ih ⊢; rw [ih]; simp [cellsN]; omega
theorem flatN_at (l : List Nd) : ∀ (k j : Nat), k < l.length → j < 6 → (flatN l)[k * 6 + j]? = (cellsN (l.getD k nd0))[j]? := by
  induction l with
  | nil => intro k j h; simp at h
  | cons d l ih =>
    intro k j h hj
    unfold flatN
    rw [List.flatMap_cons]
    cases k with
    | zero => rw [List.getElem?_append_left (by simp [cellsN]; omega)]; simp
    | succ k =>
      rw [List.getElem?_append_right (by simp [cellsN]; omega), show (k + 1) * 6 + j - (cellsN d).length = k * 6 + j by simp [cellsN]; omega]
      have := ih k j (by simpa using h) hj
      unfold flatN at this
      rw [this]
      simp
/-- A row of nodes lies there. -/
def NdRow (w : World) (g : Nat) (l : List Nd) : Prop := ∀ k, k < l.length → ∀ j, j < 6 → w.cell? ⟨g, k * 6 + j, none⟩ = (cellsN (l.getD k nd0))[j]?
theorem ndRow_own {w : World} {B g c : Nat} {l : List Nd} (h : w.ownsRow B 65 6 (.slice (some ⟨g, 0, none⟩) l.length c) l.length (flatN l)) : NdRow w g l := fun k hk j hj => by
  have hf := flatN_at l k j hk hj
  have hl := flatN_length l
  rw [own_cell h rfl (k * 6 + j) (by omega), List.getD_eq_getElem?_getD, hf]
  match j, hj with
  | 0, _ | 1, _ | 2, _ | 3, _ | 4, _ | 5, _ => rfl
def ownI (kind : Int) (i : Nat) (kk : Int) : Int := if i = 1 ∧ kind = 3 ∧ kk = 3 then 0 else 1
theorem ownI_01 (kind : Int) (i : Nat) (kk : Int) : 0 ≤ ownI kind i kk ∧ ownI kind i kk ≤ 1 := by unfold ownI; split <;> omega
def maxI (a b : Int) : Int := if a < b then b else a
/-- Parts and levels behind so many kids. -/
def measTo (l : List Nd) (kind : Int) (s : Nat) (kids : List Int) : Nat → Int × Int
  | 0 => (1 + s, 1)
  | k + 1 => ((measTo l kind s kids k).1 + ((l.getD (kids.getD k 0).toNat nd0).parts - 1 + ownI kind k (l.getD (kids.getD k 0).toNat nd0).kind), maxI (measTo l kind s kids k).2 ((l.getD (kids.getD k 0).toNat nd0).levels + ownI kind k (l.getD (kids.getD k 0).toNat nd0).kind))
/-- Nodes as they are in a pool. -/
def NdFit (l : List Nd) : Prop := ∀ d ∈ l, (1 ≤ d.parts ∧ d.parts ≤ 4097) ∧ (1 ≤ d.levels ∧ d.levels ≤ 65)
theorem measTo_le {l : List Nd} (hf : NdFit l) (kind : Int) (s : Nat) (kids : List Int) : ∀ k, k ≤ kids.length → (∀ j, j < k → (kids.getD j 0).toNat < l.length) → (0 ≤ (measTo l kind s kids k).1 ∧ (measTo l kind s kids k).1 ≤ 1 + s + 4097 * k) ∧ 1 ≤ (measTo l kind s kids k).2 ∧ (measTo l kind s kids k).2 ≤ 66 := by
  intro k
  induction k with
  | zero => intro _ _; simp only [measTo]; omega
  | succ k ih =>
    intro hk hj
    obtain ⟨h1, h2⟩ := ih (by omega) (fun j hjk => hj j (by omega))
    have hm : l.getD (kids.getD k 0).toNat nd0 ∈ l := by rw [List.getD_eq_getElem?_getD (l := l), List.getElem?_eq_getElem (hj k (by omega))]; exact List.getElem_mem _
    have hd := hf _ hm
    have ho := ownI_01 kind k (l.getD (kids.getD k 0).toNat nd0).kind
    simp only [measTo, maxI]
    split <;> omega

set_option maxHeartbeats 4000000 in
set_option maxRecDepth 100000 in
theorem measure_any (pb nb g nc : Nat) (l : List Nd) (hf : NdFit l) (p1 p2 p3 p4 p5 : Value) (d : Nd) (hs : d.set.length ≤ 4096) (hk : d.kids.length ≤ 4096) (hkv : ∀ j, j < d.kids.length → 0 ≤ d.kids.getD j 0 ∧ (d.kids.getD j 0).toNat < l.length) (w : World) (hp : w.heap[pb]? = some (.cells #[.slice (some ⟨g, 0, none⟩) l.length nc, p1, p2, p3, p4, p5] 61 (0, 0))) (hn : w.heap[nb]? = some (.cells #[.int .i64 d.kind, .slice d.sa d.set.length d.sc, .slice d.ka d.kids.length d.kc, .int .i64 d.parts, .int .i64 d.levels, .bool d.nul] 65 (0, 0))) (hl : NdRow w g l) (hg : g < w.heap.size) (hgn : g ≠ nb) (hkr : NRow w d.ka d.kids) (hkn : ∀ x, d.ka = some x → x.block ≠ nb) :
    Calls Tryz.prog 43 #[.pointer (some ⟨pb, 0, none⟩), .pointer (some ⟨nb, 0, none⟩)] w fun e w' => e = .returned (.tuple #[]) ∧ Off (fun k => k = nb) w w' ∧ w'.heap[nb]? = some (.cells #[.int .i64 d.kind, .slice d.sa d.set.length d.sc, .slice d.ka d.kids.length d.kc, .int .i64 (min (measTo l d.kind d.set.length d.kids d.kids.length).1 4097), .int .i64 (min (measTo l d.kind d.set.length d.kids d.kids.length).2 65), .bool d.nul] 65 (0, 0)) := by
  have hpn : pb ≠ nb := fun e => by rw [e, hn] at hp; simp at hp
  have n1 := cell_block hn 1 _ rfl
  have n3 := cell_block hn 3 _ rfl
  have n4 := cell_block hn 4 _ rfl
  have f3 := frozen_block hn 3
  have f4 := frozen_block hn 4
  have hn2 : ((w.setCell ⟨nb, 3, none⟩ (.int .i64 (1 + (d.set.length : Int)))).setCell ⟨nb, 4, none⟩ (.int .i64 1)).heap[nb]? = some (.cells #[.int .i64 d.kind, .slice d.sa d.set.length d.sc, .slice d.ka d.kids.length d.kc, .int .i64 (measTo l d.kind d.set.length d.kids 0).1, .int .i64 (measTo l d.kind d.set.length d.kids 0).2, .bool d.nul] 65 (0, 0)) := by
    have := block_set (i := 4) (block_set (i := 3) hn (.int .i64 (1 + (d.set.length : Int)))) (.int .i64 1)
    simpa [measTo] using this
  have ho2 : Off (fun k => k = nb) w ((w.setCell ⟨nb, 3, none⟩ (.int .i64 (1 + (d.set.length : Int)))).setCell ⟨nb, 4, none⟩ (.int .i64 1)) := off_set (O := fun k => k = nb) (off_set (O := fun k => k = nb) (off_refl _ _) (p := ⟨nb, 3, none⟩) (.inl rfl) _) (p := ⟨nb, 4, none⟩) (.inl rfl) _
  have m2 := cell_block hn2 2 _ rfl
  have hw1 : IntKind.i64.wrap (1 + (d.set.length : Int)) = 1 + (d.set.length : Int) := by rw [IntKind.wrap_i64]; omega
  have Hn2 := hide hn2; have Ho2 := hide ho2; have Hp := hide hp; have Hl := hide hl; have Hkr := hide hkr; have Hkn := hide hkn; have Hkv := hide hkv; have Hf := hide hf
  have lP := lt_of_some hp
  clear hn2 ho2 hp hl hkr hkn hkv hf hn
  go_enter Tryz.func43, Tryz.ntmps43
  go_wp2
  go_loopw [25] (fun x wr => ∃ k : Nat, x = .int .i64 k ∧ k ≤ d.kids.length ∧ Off (fun k => k = nb) w wr ∧ wr.heap[nb]? = some (.cells #[.int .i64 d.kind, .slice d.sa d.set.length d.sc, .slice d.ka d.kids.length d.kc, .int .i64 (measTo l d.kind d.set.length d.kids k).1, .int .i64 (measTo l d.kind d.set.length d.kids k).2, .bool d.nul] 65 (0, 0))) (fun x _ => d.kids.length - (intOf x).toNat)
  case atStart => exact ⟨0, rfl, Nat.zero_le _, unhide Ho2, unhide Hn2⟩
  case round =>
    obtain ⟨k, rfl, hkl, ho, hnk⟩ := hrel
    clear Hn2 Ho2 m2 n1 n3 n4 f3 f4
    have hml := measTo_le (unhide Hf) d.kind d.set.length d.kids k hkl (fun j hj => (unhide Hkv j (by omega)).2)
    have q0 := cell_block hnk 0 _ rfl
    have q3 := cell_block hnk 3 _ rfl
    have q4 := cell_block hnk 4 _ rfl
    have e3 := frozen_block hnk 3
    have e4 := frozen_block hnk 4
    by_cases hlt : k < d.kids.length
    · have hlt' : (k : Int) < d.kids.length := by omega
      rcases unhide Hkr with h | ⟨gk, off, hka, hgl, hc⟩
      · rw [h] at hlt; simp at hlt
      have d0 := hc k hlt
      have hne : gk ≠ nb := unhide Hkn _ hka
      have c0 := (off_cell ho (p := ⟨gk, off + k, none⟩) hgl hne).trans d0
      have cp := (off_cell ho (p := ⟨pb, 0, none⟩) lP hpn).trans (cell_block (unhide Hp) 0 _ rfl)
      obtain ⟨hv0, hv1⟩ := unhide Hkv k hlt
      obtain ⟨y, hy⟩ := Int.eq_ofNat_of_zero_le hv0
      rw [hy] at c0 hv1
      have hyl : (y : Int) < l.length := by rw [Int.toNat_natCast] at hv1; omega
      have hyl2 : y < l.length := by omega
      have r0 := (off_cell ho (p := ⟨g, y * 6 + 0, none⟩) hg hgn).trans (unhide Hl y hyl2 0 (by decide))
      have r3 := (off_cell ho (p := ⟨g, y * 6 + 3, none⟩) hg hgn).trans (unhide Hl y hyl2 3 (by decide))
      have r4 := (off_cell ho (p := ⟨g, y * 6 + 4, none⟩) hg hgn).trans (unhide Hl y hyl2 4 (by decide))
      have HM : Hid (measTo l d.kind d.set.length d.kids (k + 1) = ((measTo l d.kind d.set.length d.kids k).1 + ((l.getD y nd0).parts - 1 + ownI d.kind k (l.getD y nd0).kind), maxI (measTo l d.kind d.set.length d.kids k).2 ((l.getD y nd0).levels + ownI d.kind k (l.getD y nd0).kind))) := hide (by
        simp only [measTo, hy, Int.toNat_natCast])
      have hm : l.getD y nd0 ∈ l := by rw [List.getD_eq_getElem?_getD, List.getElem?_eq_getElem hyl2]; exact List.getElem_mem _
      have hfd := unhide Hf _ hm
      simp only [cellsN, Nat.add_zero] at r0 r3 r4
      clear d0 hc hm hv0 hv1
      generalize l.getD y nd0 = z at *
      by_cases hk1 : (k : Int) = 1
      · have hkn : k = 1 := by omega
        clear hk1
        subst hkn
        by_cases hkd : d.kind = 3
        · have hkdb : (d.kind == 3) = true := by simpa using hkd
          by_cases hzk : z.kind = 3
          · have hown : ownI d.kind 1 z.kind = 0 := by simp [ownI, hkd, hzk]
            have hzb : (z.kind == 3) = true := by simpa using hzk
            rw [hown] at HM
            generalize (measTo l d.kind d.set.length d.kids 1).1 = P at *
            generalize (measTo l d.kind d.set.length d.kids 1).2 = Lv at *
            have HM2 : Hid (measTo l d.kind d.set.length d.kids (1 + 1) = (P + (z.parts - 1), if Lv < z.levels then z.levels else Lv)) := hide (by rw [unhide HM]; simp [maxI])
            have w1 : IntKind.i64.wrap (z.parts - 1) = z.parts - 1 := by rw [IntKind.wrap_i64]; omega
            have w2 : IntKind.i64.wrap (z.parts - 1 + 0) = z.parts - 1 + 0 := by rw [IntKind.wrap_i64]; omega
            have w3 : IntKind.i64.wrap (P + (z.parts - 1)) = P + (z.parts - 1) := by rw [IntKind.wrap_i64]; omega
            have w4 : IntKind.i64.wrap (z.levels + 0) = z.levels + 0 := by rw [IntKind.wrap_i64]; omega
            have hn8 : (wr.setCell ⟨nb, 3, none⟩ (.int .i64 (P + (z.parts - 1)))).heap[nb]? = some (.cells #[.int .i64 d.kind, .slice d.sa d.set.length d.sc, .slice d.ka d.kids.length d.kc, .int .i64 (P + (z.parts - 1)), .int .i64 Lv, .bool d.nul] 65 (0, 0)) := by
              have := block_set (i := 3) hnk (.int .i64 (P + (z.parts - 1)))
              simpa using this
            have ho8 : Off (fun k => k = nb) w (wr.setCell ⟨nb, 3, none⟩ (.int .i64 (P + (z.parts - 1)))) := off_set (O := fun k => k = nb) ho (p := ⟨nb, 3, none⟩) (.inl rfl) _
            have r48 := (off_cell ho8 (p := ⟨g, y * 6 + 4, none⟩) hg hgn).trans ((off_cell ho (p := ⟨g, y * 6 + 4, none⟩) hg hgn).symm.trans r4)
            have q48 := cell_block hn8 4 _ rfl
            have e48 := frozen_block hn8 4
            have hn9 : ((wr.setCell ⟨nb, 3, none⟩ (.int .i64 (P + (z.parts - 1)))).setCell ⟨nb, 4, none⟩ (.int .i64 (if Lv < z.levels then z.levels else Lv))).drew.drew.heap[nb]? = some (.cells #[.int .i64 d.kind, .slice d.sa d.set.length d.sc, .slice d.ka d.kids.length d.kc, .int .i64 (P + (z.parts - 1)), .int .i64 (if Lv < z.levels then z.levels else Lv), .bool d.nul] 65 (0, 0)) := by
              have := block_set (i := 4) hn8 (.int .i64 (if Lv < z.levels then z.levels else Lv))
              exact this
            have ho9 : Off (fun k => k = nb) w ((wr.setCell ⟨nb, 3, none⟩ (.int .i64 (P + (z.parts - 1)))).setCell ⟨nb, 4, none⟩ (.int .i64 (if Lv < z.levels then z.levels else Lv))).drew.drew := off_drew (off_drew (off_set (O := fun k => k = nb) ho8 (p := ⟨nb, 4, none⟩) (.inl rfl) _))
            have Hn9 := hide hn9; have Ho9 := hide ho9
            clear hn8 ho8 hn9 ho9 ho hnk HM
            go_wp2
            go_region
            all_goals
              go_wp2
              go_region
              all_goals
                go_wp2
                go_roundw
                case rel => exact ⟨1 + 1, by go_num, by omega, unhide Ho9, by rw [unhide HM2]; exact unhide Hn9⟩
                case measure => simp [intOf]; omega
          · have hown : ownI d.kind 1 z.kind = 1 := by simp [ownI, hzk]
            have hzb : (z.kind == 3) = false := by simpa using hzk
            rw [hown] at HM
            generalize (measTo l d.kind d.set.length d.kids 1).1 = P at *
            generalize (measTo l d.kind d.set.length d.kids 1).2 = Lv at *
            have HM2 : Hid (measTo l d.kind d.set.length d.kids (1 + 1) = (P + z.parts, if Lv < z.levels + 1 then z.levels + 1 else Lv)) := hide (by rw [unhide HM]; simp [maxI])
            have w1 : IntKind.i64.wrap (z.parts - 1) = z.parts - 1 := by rw [IntKind.wrap_i64]; omega
            have w2 : IntKind.i64.wrap (z.parts - 1 + 1) = z.parts - 1 + 1 := by rw [IntKind.wrap_i64]; omega
            have w3 : IntKind.i64.wrap (P + z.parts) = P + z.parts := by rw [IntKind.wrap_i64]; omega
            have w4 : IntKind.i64.wrap (z.levels + 1) = z.levels + 1 := by rw [IntKind.wrap_i64]; omega
            have hn8 : (wr.setCell ⟨nb, 3, none⟩ (.int .i64 (P + z.parts))).heap[nb]? = some (.cells #[.int .i64 d.kind, .slice d.sa d.set.length d.sc, .slice d.ka d.kids.length d.kc, .int .i64 (P + z.parts), .int .i64 Lv, .bool d.nul] 65 (0, 0)) := by
              have := block_set (i := 3) hnk (.int .i64 (P + z.parts))
              simpa using this
            have ho8 : Off (fun k => k = nb) w (wr.setCell ⟨nb, 3, none⟩ (.int .i64 (P + z.parts))) := off_set (O := fun k => k = nb) ho (p := ⟨nb, 3, none⟩) (.inl rfl) _
            have r48 := (off_cell ho8 (p := ⟨g, y * 6 + 4, none⟩) hg hgn).trans ((off_cell ho (p := ⟨g, y * 6 + 4, none⟩) hg hgn).symm.trans r4)
            have q48 := cell_block hn8 4 _ rfl
            have e48 := frozen_block hn8 4
            have hn9 : ((wr.setCell ⟨nb, 3, none⟩ (.int .i64 (P + z.parts))).setCell ⟨nb, 4, none⟩ (.int .i64 (if Lv < z.levels + 1 then z.levels + 1 else Lv))).drew.drew.heap[nb]? = some (.cells #[.int .i64 d.kind, .slice d.sa d.set.length d.sc, .slice d.ka d.kids.length d.kc, .int .i64 (P + z.parts), .int .i64 (if Lv < z.levels + 1 then z.levels + 1 else Lv), .bool d.nul] 65 (0, 0)) := by
              have := block_set (i := 4) hn8 (.int .i64 (if Lv < z.levels + 1 then z.levels + 1 else Lv))
              exact this
            have ho9 : Off (fun k => k = nb) w ((wr.setCell ⟨nb, 3, none⟩ (.int .i64 (P + z.parts))).setCell ⟨nb, 4, none⟩ (.int .i64 (if Lv < z.levels + 1 then z.levels + 1 else Lv))).drew.drew := off_drew (off_drew (off_set (O := fun k => k = nb) ho8 (p := ⟨nb, 4, none⟩) (.inl rfl) _))
            have Hn9 := hide hn9; have Ho9 := hide ho9
            clear hn8 ho8 hn9 ho9 ho hnk HM
            go_wp2
            go_region
            all_goals
              go_wp2
              go_region
              all_goals
                go_wp2
                go_roundw
                case rel => exact ⟨1 + 1, by go_num, by omega, unhide Ho9, by rw [unhide HM2]; exact unhide Hn9⟩
                case measure => simp [intOf]; omega
        · have hown : ownI d.kind 1 z.kind = 1 := by simp [ownI, hkd]
          have hkb : (d.kind == 3) = false := by simpa using hkd
          rw [hown] at HM
          generalize (measTo l d.kind d.set.length d.kids 1).1 = P at *
          generalize (measTo l d.kind d.set.length d.kids 1).2 = Lv at *
          have HM2 : Hid (measTo l d.kind d.set.length d.kids (1 + 1) = (P + z.parts, if Lv < z.levels + 1 then z.levels + 1 else Lv)) := hide (by rw [unhide HM]; simp [maxI])
          have w1 : IntKind.i64.wrap (z.parts - 1) = z.parts - 1 := by rw [IntKind.wrap_i64]; omega
          have w2 : IntKind.i64.wrap (z.parts - 1 + 1) = z.parts - 1 + 1 := by rw [IntKind.wrap_i64]; omega
          have w3 : IntKind.i64.wrap (P + z.parts) = P + z.parts := by rw [IntKind.wrap_i64]; omega
          have w4 : IntKind.i64.wrap (z.levels + 1) = z.levels + 1 := by rw [IntKind.wrap_i64]; omega
          have hn8 : (wr.setCell ⟨nb, 3, none⟩ (.int .i64 (P + z.parts))).heap[nb]? = some (.cells #[.int .i64 d.kind, .slice d.sa d.set.length d.sc, .slice d.ka d.kids.length d.kc, .int .i64 (P + z.parts), .int .i64 Lv, .bool d.nul] 65 (0, 0)) := by
            have := block_set (i := 3) hnk (.int .i64 (P + z.parts))
            simpa using this
          have ho8 : Off (fun k => k = nb) w (wr.setCell ⟨nb, 3, none⟩ (.int .i64 (P + z.parts))) := off_set (O := fun k => k = nb) ho (p := ⟨nb, 3, none⟩) (.inl rfl) _
          have r48 := (off_cell ho8 (p := ⟨g, y * 6 + 4, none⟩) hg hgn).trans ((off_cell ho (p := ⟨g, y * 6 + 4, none⟩) hg hgn).symm.trans r4)
          have q48 := cell_block hn8 4 _ rfl
          have e48 := frozen_block hn8 4
          have hn9 : ((wr.setCell ⟨nb, 3, none⟩ (.int .i64 (P + z.parts))).setCell ⟨nb, 4, none⟩ (.int .i64 (if Lv < z.levels + 1 then z.levels + 1 else Lv))).drew.drew.heap[nb]? = some (.cells #[.int .i64 d.kind, .slice d.sa d.set.length d.sc, .slice d.ka d.kids.length d.kc, .int .i64 (P + z.parts), .int .i64 (if Lv < z.levels + 1 then z.levels + 1 else Lv), .bool d.nul] 65 (0, 0)) := by
            have := block_set (i := 4) hn8 (.int .i64 (if Lv < z.levels + 1 then z.levels + 1 else Lv))
            exact this
          have ho9 : Off (fun k => k = nb) w ((wr.setCell ⟨nb, 3, none⟩ (.int .i64 (P + z.parts))).setCell ⟨nb, 4, none⟩ (.int .i64 (if Lv < z.levels + 1 then z.levels + 1 else Lv))).drew.drew := off_drew (off_drew (off_set (O := fun k => k = nb) ho8 (p := ⟨nb, 4, none⟩) (.inl rfl) _))
          have Hn9 := hide hn9; have Ho9 := hide ho9
          clear hn8 ho8 hn9 ho9 ho hnk HM
          go_wp2
          go_region
          all_goals
            go_wp2
            go_region
            all_goals
              go_wp2
              go_roundw
              case rel => exact ⟨1 + 1, by go_num, by omega, unhide Ho9, by rw [unhide HM2]; exact unhide Hn9⟩
              case measure => simp [intOf]; omega
      · have hown : ownI d.kind k z.kind = 1 := by
          have : ¬ k = 1 := by omega
          simp [ownI, this]
        have hkb : ((k : Int) == 1) = false := by simpa using hk1
        rw [hown] at HM
        generalize (measTo l d.kind d.set.length d.kids k).1 = P at *
        generalize (measTo l d.kind d.set.length d.kids k).2 = Lv at *
        have HM2 : Hid (measTo l d.kind d.set.length d.kids (k + 1) = (P + z.parts, if Lv < z.levels + 1 then z.levels + 1 else Lv)) := hide (by rw [unhide HM]; simp [maxI])
        have w1 : IntKind.i64.wrap (z.parts - 1) = z.parts - 1 := by rw [IntKind.wrap_i64]; omega
        have w2 : IntKind.i64.wrap (z.parts - 1 + 1) = z.parts - 1 + 1 := by rw [IntKind.wrap_i64]; omega
        have w3 : IntKind.i64.wrap (P + z.parts) = P + z.parts := by rw [IntKind.wrap_i64]; omega
        have w4 : IntKind.i64.wrap (z.levels + 1) = z.levels + 1 := by rw [IntKind.wrap_i64]; omega
        have hn8 : (wr.setCell ⟨nb, 3, none⟩ (.int .i64 (P + z.parts))).heap[nb]? = some (.cells #[.int .i64 d.kind, .slice d.sa d.set.length d.sc, .slice d.ka d.kids.length d.kc, .int .i64 (P + z.parts), .int .i64 Lv, .bool d.nul] 65 (0, 0)) := by
          have := block_set (i := 3) hnk (.int .i64 (P + z.parts))
          simpa using this
        have ho8 : Off (fun k => k = nb) w (wr.setCell ⟨nb, 3, none⟩ (.int .i64 (P + z.parts))) := off_set (O := fun k => k = nb) ho (p := ⟨nb, 3, none⟩) (.inl rfl) _
        have r48 := (off_cell ho8 (p := ⟨g, y * 6 + 4, none⟩) hg hgn).trans ((off_cell ho (p := ⟨g, y * 6 + 4, none⟩) hg hgn).symm.trans r4)
        have q48 := cell_block hn8 4 _ rfl
        have e48 := frozen_block hn8 4
        have hn9 : ((wr.setCell ⟨nb, 3, none⟩ (.int .i64 (P + z.parts))).setCell ⟨nb, 4, none⟩ (.int .i64 (if Lv < z.levels + 1 then z.levels + 1 else Lv))).drew.drew.heap[nb]? = some (.cells #[.int .i64 d.kind, .slice d.sa d.set.length d.sc, .slice d.ka d.kids.length d.kc, .int .i64 (P + z.parts), .int .i64 (if Lv < z.levels + 1 then z.levels + 1 else Lv), .bool d.nul] 65 (0, 0)) := by
          have := block_set (i := 4) hn8 (.int .i64 (if Lv < z.levels + 1 then z.levels + 1 else Lv))
          exact this
        have ho9 : Off (fun k => k = nb) w ((wr.setCell ⟨nb, 3, none⟩ (.int .i64 (P + z.parts))).setCell ⟨nb, 4, none⟩ (.int .i64 (if Lv < z.levels + 1 then z.levels + 1 else Lv))).drew.drew := off_drew (off_drew (off_set (O := fun k => k = nb) ho8 (p := ⟨nb, 4, none⟩) (.inl rfl) _))
        have Hn9 := hide hn9; have Ho9 := hide ho9
        clear hn8 ho8 hn9 ho9 ho hnk HM
        go_wp2
        go_region
        all_goals
          go_wp2
          go_region
          all_goals
            go_wp2
            go_roundw
            case rel => exact ⟨k + 1, by go_num, by omega, unhide Ho9, by rw [unhide HM2]; exact unhide Hn9⟩
            case measure => simp [intOf]; omega
    · obtain rfl : k = d.kids.length := by omega
      have hlt' : ¬ ((d.kids.length : Int) < d.kids.length) := by omega
      have hfin : ∀ X Y, Off (fun k => k = nb) w ((wr.setCell ⟨nb, 3, none⟩ X).setCell ⟨nb, 4, none⟩ Y) ∧ ((wr.setCell ⟨nb, 3, none⟩ X).setCell ⟨nb, 4, none⟩ Y).heap[nb]? = some (.cells #[.int .i64 d.kind, .slice d.sa d.set.length d.sc, .slice d.ka d.kids.length d.kc, X, Y, .bool d.nul] 65 (0, 0)) := fun X Y => ⟨off_set (O := fun k => k = nb) (off_set (O := fun k => k = nb) ho (p := ⟨nb, 3, none⟩) (.inl rfl) _) (p := ⟨nb, 4, none⟩) (.inl rfl) _, by
        have := block_set (i := 4) (block_set (i := 3) hnk X) Y
        simpa using this⟩
      have Hfin := hide hfin
      clear ho hnk hfin
      obtain ⟨P, hP0⟩ : ∃ P, P = (measTo l d.kind d.set.length d.kids d.kids.length).1 := ⟨_, rfl⟩
      obtain ⟨Lv, hL0⟩ : ∃ Lv, Lv = (measTo l d.kind d.set.length d.kids d.kids.length).2 := ⟨_, rfl⟩
      rw [← hP0] at q3 hml
      rw [← hL0] at q4 hml
      have HP0 := hide hP0; have HL0 := hide hL0
      clear hP0 hL0
      by_cases hP : 4097 < P
      · by_cases hL : 65 < Lv
        · go_wp2
          go_end0
          exact ⟨rfl, by rw [← unhide HP0, ← unhide HL0, Int.min_eq_right (by omega), Int.min_eq_right (by omega)]; exact unhide Hfin _ _⟩
        · go_wp2
          go_end0
          exact ⟨rfl, by rw [← unhide HP0, ← unhide HL0, Int.min_eq_right (by omega), Int.min_eq_left (by omega)]; exact unhide Hfin _ _⟩
      · by_cases hL : 65 < Lv
        · go_wp2
          go_end0
          exact ⟨rfl, by rw [← unhide HP0, ← unhide HL0, Int.min_eq_left (by omega), Int.min_eq_right (by omega)]; exact unhide Hfin _ _⟩
        · go_wp2
          go_end0
          exact ⟨rfl, by rw [← unhide HP0, ← unhide HL0, Int.min_eq_left (by omega), Int.min_eq_left (by omega)]; exact unhide Hfin _ _⟩
end Go.Proofs.YtkimhfajfbcdmaaGreatDoor

/- Plain mathematics: what is known of a grammar, by definition; counting marks. -/
import Derived.Test.YtagohbpbgjelaaaGreatDoorP0
namespace Go.Proofs.YtagohbpbgjelaaaGreatDoor
open Go.RowKit

abbrev Gm.nk (G : Gm) : Nat := G.kinds.length
abbrev Gm.nr (G : Gm) : Nat := G.rules.length
structure GOk (G : Gm) : Prop where
  k2 : 2 ≤ G.nk
  k3 : G.nk ≤ 1024
  r1 : 1 ≤ G.nr
  r2 : G.nr ≤ 2048
  s0 : 0 ≤ G.start
  s1 : G.start < G.nr
  ps : G.prods.length ≤ 4096
  pl : ∀ p, p ∈ G.prods → 0 ≤ p.left ∧ p.left < G.nr
  pr : ∀ p, p ∈ G.prods → p.right.length ≤ 64
  py : ∀ p, p ∈ G.prods → symsIn (G.nk + G.nr) p.right

theorem mem_getP {l : List Pd} {i : Nat} (h : i < l.length) : l.getD i pd0 ∈ l := by
  rw [List.getD_eq_getElem?_getD, List.getElem?_eq_getElem h]; exact List.getElem_mem h
theorem ex_getP {l : List Pd} {p : Pd} (h : p ∈ l) : ∃ i, i < l.length ∧ l.getD i pd0 = p := by
  obtain ⟨i, hi, rfl⟩ := List.getElem_of_mem h
  exact ⟨i, hi, by rw [List.getD_eq_getElem?_getD, List.getElem?_eq_getElem hi]; rfl⟩

inductive Null (G : Gm) : Nat → Prop
  | mk (p : Pd) (hp : p ∈ G.prods) (h1 : ∀ x, x ∈ p.right → (G.nk : Int) ≤ x) (h2 : ∀ x, x ∈ p.right → Null G (x - G.nk).toNat) : Null G p.left.toNat
open Classical in
noncomputable def nullF (G : Gm) : Nat → Bool := fun r => decide (Null G r)
theorem nullF_is (G : Gm) (r : Nat) : nullF G r = true ↔ Null G r := by unfold nullF; simp
theorem emptyB_iff {nk : Nat} {f : Nat → Bool} {row : List Int} : emptyB nk f row = true ↔ ∀ x, x ∈ row → (nk : Int) ≤ x ∧ f (x - nk).toNat = true := by
  unfold emptyB
  rw [List.all_eq_true]
  constructor
  · intro h x hx
    have := h x hx
    rw [Bool.and_eq_true, decide_eq_true_eq] at this
    exact this
  · intro h x hx
    rw [Bool.and_eq_true, decide_eq_true_eq]
    exact h x hx
def NullSound (G : Gm) (f : Nat → Bool) : Prop := ∀ r, f r = true → Null G r
def nullStep (G : Gm) (f : Nat → Bool) (p : Pd) : Bool := !f p.left.toNat && emptyB G.nk f p.right
def NullShut (G : Gm) (f : Nat → Bool) : Prop := ∀ i, i < G.prods.length → nullStep G f (G.prods.getD i pd0) = false
theorem null_done {G : Gm} {f : Nat → Bool} (h : NullSound G f) (hs : NullShut G f) : f = nullF G := by
  funext r
  rw [Bool.eq_iff_iff, nullF_is]
  refine ⟨h r, fun hn => ?_⟩
  induction hn with
  | mk p hp h1 h2 ih =>
    obtain ⟨i, hi, rfl⟩ := ex_getP hp
    have := hs i hi
    unfold nullStep at this
    rw [Bool.and_eq_false_iff] at this
    rcases this with h | h
    · simpa using h
    · rw [emptyB_iff.2 (fun x hx => ⟨h1 x hx, ih x hx⟩)] at h
      cases h
end Go.Proofs.YtagohbpbgjelaaaGreatDoor

namespace Go.Proofs.YtagohbpbgjelaaaGreatDoor
open Go.RowKit

def bt (s : ByteArray) (i : Nat) : Nat := (s.get! i).toNat
theorem bt_get (s : ByteArray) (i : Nat) (h : i < s.size) : bt s i = (s[i]'h).toNat := by
  have : s.get! i = s[i]'h := by simp [ByteArray.get!, getElem!_pos, h]; rfl
  rw [bt, this]
theorem index_bt (s : ByteArray) (j : Nat) (h : j < s.size) (w : World) : (Instr.index 9 (.string s) (.int .i64 (j : Int))).run Tryz.prog w = .ok (.int .u8 (bt s j : Int)) w := by
  rw [run_index_string w 9 s .i64 (j : Int) Tryz.underlying9, dif_pos (by omega)]
  simp [bt_get s j h]

def letB (c : Nat) : Bool := decide ((65 ≤ c ∧ c ≤ 90) ∨ (97 ≤ c ∧ c ≤ 122) ∨ c = 95)
def digB (c : Nat) : Bool := decide (48 ≤ c ∧ c ≤ 57)
def allTo (s : ByteArray) (k : Nat) : Prop := ∀ i, i < k → letB (bt s i) = true ∨ digB (bt s i) = true
instance (s : ByteArray) (k : Nat) : Decidable (allTo s k) := by unfold allTo; infer_instance
def nameB (s : ByteArray) : Bool := decide (1 ≤ s.size ∧ s.size ≤ 64 ∧ digB (bt s 0) = false ∧ allTo s s.size)

def endS : List UInt8 := [101, 110, 100]
def errS : List UInt8 := [101, 114, 114, 111, 114]
def goodTo (ns : List (List UInt8)) (k : Nat) : Prop := ∀ j, j < k → nameB (bs (ns.getD j [])) = true
instance (ns : List (List UInt8)) (k : Nat) : Decidable (goodTo ns k) := by unfold goodTo; infer_instance
def kindsB (ns : List (List UInt8)) : Bool := decide (2 ≤ ns.length ∧ ns.length ≤ 1024 ∧ ns.getD 0 [] = endS ∧ ns.getD 1 [] = errS ∧ goodTo ns ns.length ∧ ns.Nodup)
theorem kinds_no {ns : List (List UInt8)} (h : ¬ (2 ≤ ns.length ∧ ns.length ≤ 1024 ∧ ns.getD 0 [] = endS ∧ ns.getD 1 [] = errS ∧ goodTo ns ns.length ∧ ns.Nodup)) : kindsB ns = false := decide_eq_false h
theorem nameB_le {s : ByteArray} (h : nameB s = true) : s.size ≤ 64 := (of_decide_eq_true h).2.1

end Go.Proofs.YtagohbpbgjelaaaGreatDoor

namespace Go.Proofs.YtagohbpbgjelaaaGreatDoor
open Go.RowKit

def longTo (ns : List (List UInt8)) (k : Nat) : Prop := ∀ j, j < k → 1 ≤ (ns.getD j []).length ∧ (ns.getD j []).length ≤ 4096
instance (ns : List (List UInt8)) (k : Nat) : Decidable (longTo ns k) := by unfold longTo; infer_instance
def namesB (ns : List (List UInt8)) : Bool := decide (1 ≤ ns.length ∧ ns.length ≤ 2048 ∧ longTo ns ns.length ∧ ns.Nodup)
def lvlB (i : Nat) (p : Int × Int) : Bool := decide ((p.1 = 0 ∧ p.2 = 0) ∨ (1 ≤ p.1 ∧ 1 ≤ p.2 ∧ p.2 ≤ 3 ∧ 2 ≤ i))
def lvlTo (l : List (Int × Int)) (k : Nat) : Prop := ∀ i, i < k → lvlB i (l.getD i (0, 0)) = true
instance (l : List (Int × Int)) (k : Nat) : Decidable (lvlTo l k) := by unfold lvlTo; infer_instance
def levelsB (l : List (Int × Int)) : Bool := decide (lvlTo l l.length)

end Go.Proofs.YtagohbpbgjelaaaGreatDoor

namespace Go.Proofs.YtagohbpbgjelaaaGreatDoor
open Go.RowKit

def okA (k p : Int) (n : List UInt8) (m : Nat) (sy : Int) : Prop := (k = 0 ∧ p = 0 ∧ n = [] ∧ m = 0) ∨ (k = 1 ∧ 0 ≤ p ∧ p < sy ∧ n = [] ∧ m = 0) ∨ (k = 3 ∧ n.length ≤ 4096 ∧ p = 0 ∧ m = 0) ∨ (k = 2 ∧ 1 ≤ n.length ∧ n.length ≤ 32 ∧ p = 0)
instance (k p : Int) (n : List UInt8) (m : Nat) (sy : Int) : Decidable (okA k p n m sy) := by unfold okA; infer_instance
mutual
def partsA : Ac → Int → Int → Int
  | .mk k p n ks, sy, left => if left - 1 < 0 then -1 else if okA k p n ks.length sy then partsL ks sy (left - 1) else -1
def partsL : List Ac → Int → Int → Int
  | [], _, l => l
  | t :: ts, sy, l => if l < 0 then l else partsL ts sy (partsA t sy l)
end
mutual
theorem parts_bd : ∀ (t : Ac) (sy l : Int), 0 ≤ l → -1 ≤ partsA t sy l ∧ partsA t sy l ≤ l - 1
  | .mk k p n ks, sy, l, h => by
    unfold partsA
    split
    · omega
    · split
      · exact partsL_bd ks sy (l - 1) (by omega)
      · omega
theorem partsL_bd : ∀ (ts : List Ac) (sy l : Int), -1 ≤ l → -1 ≤ partsL ts sy l ∧ partsL ts sy l ≤ l
  | [], sy, l, h => by unfold partsL; omega
  | t :: ts, sy, l, h => by
    unfold partsL
    split
    · omega
    · have h1 := parts_bd t sy l (by omega)
      have h2 := partsL_bd ts sy (partsA t sy l) h1.1
      omega
end
theorem partsL_neg (ts : List Ac) (sy l : Int) (h : l < 0) : partsL ts sy l = l := by
  cases ts with
  | nil => rfl
  | cons t ts => unfold partsL; rw [if_pos h]
theorem dropA {ks : List Ac} {i : Nat} (hi : i < ks.length) : ks.drop i = ks.getD i ac0 :: ks.drop (i + 1) := by
  rw [List.drop_eq_getElem_cons hi, List.getD_eq_getElem?_getD, List.getElem?_eq_getElem hi]
  rfl
theorem acTs_get {B : Nat} {w : World} : ∀ (ts : List Ac) (vs : List Value), AcTs B w ts vs → ∀ i, i < ts.length → ∃ u0 u1 u2 u3, vs[i * 4]? = some u0 ∧ vs[i * 4 + 1]? = some u1 ∧ vs[i * 4 + 2]? = some u2 ∧ vs[i * 4 + 3]? = some u3 ∧ AcAt B w (ts.getD i ac0) u0 u1 u2 u3
  | [], _, _, i, hi => by simp at hi
  | t :: ts, vs, h, i, hi => by
    unfold AcTs at h
    obtain ⟨u0, u1, u2, u3, rest, rfl, h1, h2⟩ := h
    cases i with
    | zero => exact ⟨u0, u1, u2, u3, rfl, rfl, rfl, rfl, h1⟩
    | succ i =>
      obtain ⟨x0, x1, x2, x3, e0, e1, e2, e3, hx⟩ := acTs_get ts rest h2 i (by simpa using hi)
      exact ⟨x0, x1, x2, x3, by rw [show (i + 1) * 4 = i * 4 + 1 + 1 + 1 + 1 by omega]; exact e0, by rw [show (i + 1) * 4 + 1 = i * 4 + 1 + 1 + 1 + 1 + 1 by omega]; exact e1, by rw [show (i + 1) * 4 + 2 = i * 4 + 2 + 1 + 1 + 1 + 1 by omega]; exact e2, by rw [show (i + 1) * 4 + 3 = i * 4 + 3 + 1 + 1 + 1 + 1 by omega]; exact e3, hx⟩
end Go.Proofs.YtagohbpbgjelaaaGreatDoor

namespace Go.Proofs.YtagohbpbgjelaaaGreatDoor
open Go.RowKit

def symsTo (n : Nat) (row : List Int) (k : Nat) : Prop := ∀ j, j < k → 1 ≤ row.getD j 0 ∧ row.getD j 0 < n
instance (n : Nat) (row : List Int) (k : Nat) : Decidable (symsTo n row k) := by unfold symsTo; infer_instance
def prodB (nk nr : Nat) (p : Pd) : Bool := decide (0 ≤ p.left ∧ p.left < nr ∧ p.right.length ≤ 64 ∧ 0 ≤ p.level ∧ symsTo (nk + nr) p.right p.right.length ∧ 0 ≤ partsA p.act p.right.length 256)

end Go.Proofs.YtagohbpbgjelaaaGreatDoor

namespace Go.Proofs.YtagohbpbgjelaaaGreatDoor
open Go.RowKit

def wholeB (nk : Nat) (f : Nat → Bool) (row : List Int) : Bool := row.all fun x => decide (x < (nk : Int)) || f (x - nk).toNat
theorem wholeB_iff {nk : Nat} {f : Nat → Bool} {row : List Int} : wholeB nk f row = true ↔ ∀ x, x ∈ row → (nk : Int) ≤ x → f (x - nk).toNat = true := by
  unfold wholeB
  rw [List.all_eq_true]
  constructor
  · intro h x hx hk
    have := h x hx
    rw [Bool.or_eq_true, decide_eq_true_eq] at this
    rcases this with h | h
    · omega
    · exact h
  · intro h x hx
    rw [Bool.or_eq_true, decide_eq_true_eq]
    by_cases e : x < nk
    · exact .inl e
    · exact .inr (h x hx (by omega))
end Go.Proofs.YtagohbpbgjelaaaGreatDoor

namespace Go.Proofs.YtagohbpbgjelaaaGreatDoor
open Go.RowKit

theorem info4 : (Tryz.prog.info? 4).map (fun i => (i.zero, i.size, i.bytes)) = some (some (.bool false), 1, 1) := by kernel_rfl

end Go.Proofs.YtagohbpbgjelaaaGreatDoor

namespace Go.Proofs.YtagohbpbgjelaaaGreatDoor
open Go.RowKit

inductive Prdv (G : Gm) : Nat → Prop
  | mk (p : Pd) (hp : p ∈ G.prods) (h : ∀ x, x ∈ p.right → (G.nk : Int) ≤ x → Prdv G (x - G.nk).toNat) : Prdv G p.left.toNat
open Classical in
noncomputable def prdF (G : Gm) : Nat → Bool := fun r => decide (Prdv G r)
theorem prdF_is (G : Gm) (r : Nat) : prdF G r = true ↔ Prdv G r := by unfold prdF; simp
def PrdSound (G : Gm) (f : Nat → Bool) : Prop := ∀ r, f r = true → Prdv G r
def prdStep (G : Gm) (f : Nat → Bool) (p : Pd) : Bool := !f p.left.toNat && wholeB G.nk f p.right
def PrdShut (G : Gm) (f : Nat → Bool) : Prop := ∀ i, i < G.prods.length → prdStep G f (G.prods.getD i pd0) = false
theorem prd_done {G : Gm} {f : Nat → Bool} (h : PrdSound G f) (hs : PrdShut G f) : f = prdF G := by
  funext r
  rw [Bool.eq_iff_iff, prdF_is]
  refine ⟨h r, fun hn => ?_⟩
  induction hn with
  | mk p hp h1 ih =>
    obtain ⟨i, hi, rfl⟩ := ex_getP hp
    have := hs i hi
    unfold prdStep at this
    rw [Bool.and_eq_false_iff] at this
    rcases this with h | h
    · simpa using h
    · rw [wholeB_iff.2 (fun x hx hk => ih x hx hk)] at h
      cases h

inductive Rchd (G : Gm) (ok : Pd → Bool) : Nat → Prop
  | start : Rchd G ok G.start.toNat
  | step (p : Pd) (hp : p ∈ G.prods) (ho : ok p = true) (h : Rchd G ok p.left.toNat) (x : Int) (hx : x ∈ p.right) (hk : (G.nk : Int) ≤ x) : Rchd G ok (x - G.nk).toNat
open Classical in
noncomputable def rchF (G : Gm) (ok : Pd → Bool) : Nat → Bool := fun r => decide (Rchd G ok r)
theorem rchF_is (G : Gm) (ok : Pd → Bool) (r : Nat) : rchF G ok r = true ↔ Rchd G ok r := by unfold rchF; simp
def RchSound (G : Gm) (ok : Pd → Bool) (f : Nat → Bool) : Prop := f G.start.toNat = true ∧ ∀ r, f r = true → Rchd G ok r
def rchFull (G : Gm) (ok : Pd → Bool) (f : Nat → Bool) (p : Pd) : Prop := f p.left.toNat = true → ok p = true → ∀ x, x ∈ p.right → (G.nk : Int) ≤ x → f (x - G.nk).toNat = true
def RchShut (G : Gm) (ok : Pd → Bool) (f : Nat → Bool) : Prop := ∀ i, i < G.prods.length → rchFull G ok f (G.prods.getD i pd0)
theorem rch_done {G : Gm} {ok : Pd → Bool} {f : Nat → Bool} (h : RchSound G ok f) (hs : RchShut G ok f) : f = rchF G ok := by
  funext r
  rw [Bool.eq_iff_iff, rchF_is]
  refine ⟨h.2 r, fun hn => ?_⟩
  induction hn with
  | start => exact h.1
  | step p hp ho _ x hx hk ih =>
    obtain ⟨i, hi, rfl⟩ := ex_getP hp
    exact hs i hi ih ho x hx hk
end Go.Proofs.YtagohbpbgjelaaaGreatDoor

namespace Go.Proofs.YtagohbpbgjelaaaGreatDoor
open Go.RowKit

def lenR (nk : Nat) (f : Nat → Int) : List Int → Int → Int
  | [], acc => acc
  | x :: xs, acc => if (nk : Int) ≤ x then (if f (x - nk).toNat < 0 then -1 else lenR nk f xs (min (acc + f (x - nk).toNat) 65537)) else lenR nk f xs (min (acc + 1) 65537)
end Go.Proofs.YtagohbpbgjelaaaGreatDoor

namespace Go.Proofs.YtagohbpbgjelaaaGreatDoor
open Go.RowKit

theorem lenR_bd {nk : Nat} {f : Nat → Int} : ∀ (row : List Int) (acc : Int), 0 ≤ acc → acc ≤ 65537 → -1 ≤ lenR nk f row acc ∧ lenR nk f row acc ≤ 65537
  | [], acc, h0, h1 => by unfold lenR; omega
  | x :: xs, acc, h0, h1 => by
    unfold lenR
    split
    · split
      · omega
      · exact lenR_bd xs _ (by omega) (by omega)
    · exact lenR_bd xs _ (by omega) (by omega)
theorem lenR_all {nk : Nat} {f : Nat → Int} : ∀ (row : List Int) (acc : Int), 0 ≤ acc → 0 ≤ lenR nk f row acc → ∀ x, x ∈ row → (nk : Int) ≤ x → 0 ≤ f (x - nk).toNat
  | [], _, _, _, x, hx, _ => by simp at hx
  | y :: ys, acc, h0, h, x, hx, hk => by
    unfold lenR at h
    rw [List.mem_cons] at hx
    split at h
    · split at h
      · omega
      · rcases hx with rfl | hx
        · omega
        · exact lenR_all ys _ (by omega) h x hx hk
    · rcases hx with rfl | hx
      · omega
      · exact lenR_all ys _ (by omega) h x hx hk
theorem lenR_mono {nk : Nat} {f g : Nat → Int} : ∀ (row : List Int) (a b : Int), 0 ≤ a → a ≤ b → (∀ x, x ∈ row → (nk : Int) ≤ x → 0 ≤ f (x - nk).toNat ∧ f (x - nk).toNat ≤ g (x - nk).toNat) → 0 ≤ lenR nk f row a ∧ lenR nk f row a ≤ lenR nk g row b
  | [], a, b, h0, h1, _ => by unfold lenR; omega
  | x :: xs, a, b, h0, h1, h => by
    have hr := fun y hy => h y (List.mem_cons_of_mem _ hy)
    unfold lenR
    by_cases hk : (nk : Int) ≤ x
    · have := h x (by simp) hk
      rw [if_pos hk, if_pos hk, if_neg (by omega), if_neg (by omega)]
      exact lenR_mono xs _ _ (by omega) (by omega) hr
    · rw [if_neg hk, if_neg hk]
      exact lenR_mono xs _ _ (by omega) (by omega) hr
inductive Lng (G : Gm) : Nat → Int → Prop
  | mk (p : Pd) (hp : p ∈ G.prods) (g : Nat → Int) (hg : ∀ x, x ∈ p.right → (G.nk : Int) ≤ x → Lng G (x - G.nk).toNat (g (x - G.nk).toNat)) (h0 : 0 ≤ lenR G.nk g p.right 0) : Lng G p.left.toNat (lenR G.nk g p.right 0)
def LngSound (G : Gm) (f : Nat → Int) : Prop := ∀ r, f r = -1 ∨ (0 ≤ f r ∧ f r ≤ 65537 ∧ Lng G r (f r))
def lngStep (G : Gm) (f : Nat → Int) (p : Pd) : Prop := 0 ≤ lenR G.nk f p.right 0 ∧ (f p.left.toNat < 0 ∨ lenR G.nk f p.right 0 < f p.left.toNat)
instance (G : Gm) (f : Nat → Int) (p : Pd) : Decidable (lngStep G f p) := by unfold lngStep; infer_instance
def LngShut (G : Gm) (f : Nat → Int) : Prop := ∀ i, i < G.prods.length → ¬ lngStep G f (G.prods.getD i pd0)
def LeastIs (G : Gm) (f : Nat → Int) : Prop := LngSound G f ∧ ∀ r n, Lng G r n → 0 ≤ f r ∧ f r ≤ n
theorem lng_done {G : Gm} {f : Nat → Int} (h : LngSound G f) (hs : LngShut G f) : LeastIs G f := by
  refine ⟨h, fun r n hn => ?_⟩
  induction hn with
  | mk p hp g hg h0 ih =>
    have hm := lenR_mono (nk := G.nk) (f := f) (g := g) p.right 0 0 (Int.le_refl _) (Int.le_refl _) (fun x hx hk => ih x hx hk)
    obtain ⟨i, hi, rfl⟩ := ex_getP hp
    have := hs i hi
    unfold lngStep at this
    omega
theorem least_uniq {G : Gm} {f g : Nat → Int} (hf : LeastIs G f) (hg : LeastIs G g) : f = g := by
  funext r
  rcases hf.1 r with h1 | ⟨h1, -, h2⟩ <;> rcases hg.1 r with h3 | ⟨h3, -, h4⟩
  · omega
  · have := hf.2 r _ h4; omega
  · have := hg.2 r _ h2; omega
  · have := hf.2 r _ h4; have := hg.2 r _ h2; omega
def wt (v : Int) : Nat := if v < 0 then 65538 else v.toNat
def numW (w : World) (b : Nat) : Nat → Int := fun r => match w.cell? ⟨b, r, none⟩ with | some v => intOf v | none => 0
theorem numW_is {w : World} {b t n : Nat} {f : Nat → Int} (h : w.rowIs b t n (fun r => .int .i64 (f r))) (r : Nat) (hr : r < n) : numW w b r = f r := by
  unfold numW
  have := h.cell hr
  rw [this]
  rfl
end Go.Proofs.YtagohbpbgjelaaaGreatDoor

namespace Go.Proofs.YtagohbpbgjelaaaGreatDoor
open Go.RowKit

def okP (G : Gm) (f was : Nat → Int) (p : Pd) : Bool := wholeB G.nk (fun r => decide (0 ≤ was r)) p.right && decide (lenR G.nk f p.right 0 = f p.left.toNat)
theorem lng_bd {G : Gm} {r : Nat} {n : Int} (h : Lng G r n) : 0 ≤ n ∧ n ≤ 65537 := by
  cases h with
  | mk p hp g hg h0 => exact ⟨h0, (lenR_bd p.right 0 (Int.le_refl _) (by omega)).2⟩
end Go.Proofs.YtagohbpbgjelaaaGreatDoor

namespace Go.Proofs.YtagohbpbgjelaaaGreatDoor
open Go.RowKit
mutual
def acShort : Ac → Prop
  | .mk _ _ _ ks => ks.length ≤ 281474976710656 ∧ acShortL ks
def acShortL : List Ac → Prop
  | [] => True
  | t :: ts => acShort t ∧ acShortL ts
end
theorem acShortL_get : ∀ (ks : List Ac) (i : Nat), i < ks.length → acShortL ks → acShort (ks.getD i ac0)
  | [], i, h, _ => by simp at h
  | t :: ts, 0, _, h => by unfold acShortL at h; exact h.1
  | t :: ts, i + 1, h, hs => by
    unfold acShortL at hs
    exact acShortL_get ts i (by simpa using h) hs.2
theorem acShortL_of : ∀ (ks : List Ac), (∀ t, t ∈ ks → acShort t) → acShortL ks
  | [], _ => by unfold acShortL; trivial
  | t :: ts, h => by
    unfold acShortL
    exact ⟨h t (by simp), acShortL_of ts (fun x hx => h x (List.mem_cons_of_mem _ hx))⟩
end Go.Proofs.YtagohbpbgjelaaaGreatDoor

namespace Go.Proofs.YtagohbpbgjelaaaGreatDoor
open Go.RowKit

mutual
def acSz : Ac → Nat
  | .mk _ _ _ ks => acSzL ks + 1
def acSzL : List Ac → Nat
  | [] => 0
  | t :: ts => acSz t + acSzL ts
end
theorem acSz_pos (t : Ac) : 1 ≤ acSz t := by cases t; unfold acSz; omega
theorem acSzL_get : ∀ (ks : List Ac) (i : Nat), i < ks.length → acSz (ks.getD i ac0) ≤ acSzL ks
  | [], i, h => by simp at h
  | t :: ts, 0, _ => by unfold acSzL; simp
  | t :: ts, i + 1, h => by
    have := acSzL_get ts i (by simpa using h)
    unfold acSzL
    simp at this ⊢
    omega
mutual
theorem acAt_upB {B B' : Nat} {w : World} (hB : B ≤ B') : ∀ (t : Ac) (v0 v1 v2 v3 : Value), AcAt B w t v0 v1 v2 v3 → AcAt B' w t v0 v1 v2 v3
  | .mk k p n ks, v0, v1, v2, v3, h => by
    unfold AcAt at h ⊢
    obtain ⟨h0, h1, h2, a, c, vs, h3, hts, hc⟩ := h
    refine ⟨h0, h1, h2, a, c, vs, h3, acTs_upB hB ks vs hts, ?_⟩
    rcases hc with h | ⟨b, off, h, hlt, hcs⟩
    · exact .inl h
    · exact .inr ⟨b, off, h, by omega, hcs⟩
theorem acTs_upB {B B' : Nat} {w : World} (hB : B ≤ B') : ∀ (ts : List Ac) (vs : List Value), AcTs B w ts vs → AcTs B' w ts vs
  | [], vs, h => by unfold AcTs at h ⊢; exact h
  | t :: ts, vs, h => by
    unfold AcTs at h ⊢
    obtain ⟨u0, u1, u2, u3, rest, rfl, h1, h2⟩ := h
    exact ⟨u0, u1, u2, u3, rest, rfl, acAt_upB hB t _ _ _ _ h1, acTs_upB hB ts rest h2⟩
end
theorem acAt_up {w w' : World} (hb : Below w.heap.size w w') {t : Ac} {v0 v1 v2 v3 : Value} (h : AcAt w.heap.size w t v0 v1 v2 v3) : AcAt w'.heap.size w' t v0 v1 v2 v3 :=
  acAt_upB hb.size _ _ _ _ _ (acAt_kept hb _ _ _ _ _ h)
theorem boxAA (w : World) (v0 v1 v2 v3 u0 u1 u2 u3 : Value) (t s : TypeId) : ∃ w1, w1 = (w.alloc (.cells #[v0, v1, v2, v3] t)).alloc (.cells #[u0, u1, u2, u3] s) ∧ w1.cell? ⟨w.heap.size, 0, none⟩ = some v0 ∧ w1.cell? ⟨w.heap.size, 1, none⟩ = some v1 ∧ w1.cell? ⟨w.heap.size, 2, none⟩ = some v2 ∧ w1.cell? ⟨w.heap.size, 3, none⟩ = some v3 ∧ w1.cell? ⟨w.heap.size + 1, 0, none⟩ = some u0 ∧ w1.cell? ⟨w.heap.size + 1, 1, none⟩ = some u1 ∧ w1.cell? ⟨w.heap.size + 1, 2, none⟩ = some u2 ∧ w1.cell? ⟨w.heap.size + 1, 3, none⟩ = some u3 ∧ w1.heap.size = w.heap.size + 2 ∧ Below w.heap.size w w1 := by
  have h0 : (w.alloc (.cells #[v0, v1, v2, v3] t)).heap.size = w.heap.size + 1 := by simp
  have h1 : ((w.alloc (.cells #[v0, v1, v2, v3] t)).alloc (.cells #[u0, u1, u2, u3] s)).heap[w.heap.size]? = some (.cells #[v0, v1, v2, v3] t) := (Below.heap_alloc _ _ _ (by omega)).trans (Go.Deep.blk_alloc_new _ _)
  have h2 : ((w.alloc (.cells #[v0, v1, v2, v3] t)).alloc (.cells #[u0, u1, u2, u3] s)).heap[w.heap.size + 1]? = some (.cells #[u0, u1, u2, u3] s) := by rw [← h0]; exact Go.Deep.blk_alloc_new _ _
  refine ⟨_, rfl, ?_, ?_, ?_, ?_, ?_, ?_, ?_, ?_, by simp, ((Below.refl _ _).alloc (Nat.le_refl _) _).alloc (by omega) _⟩ <;> (unfold World.cell?; first | (rw [h1]; rfl) | (rw [h2]; rfl))

set_option maxHeartbeats 2000000 in
set_option maxRecDepth 100000 in
theorem rSameAct_eq (N : Nat) : ∀ (t : Ac) (w : World) (v0 v1 v2 v3 u0 u1 u2 u3 : Value), acSz t ≤ N → acShort t → AcAt w.heap.size w t v0 v1 v2 v3 → AcAt w.heap.size w t u0 u1 u2 u3 →
    Calls Tryz.prog 64 #[.agg #[v0, v1, v2, v3], .agg #[u0, u1, u2, u3]] w fun e w' => e = .returned (.bool true) ∧ Below w.heap.size w w' := by
  induction N with
  | zero => intro t _ _ _ _ _ _ _ _ _ h; have := acSz_pos t; omega
  | succ N ih =>
    rintro ⟨k, p, n, ks⟩ w v0 v1 v2 v3 u0 u1 u2 u3 hs hsh hA hC
    unfold AcAt at hA hC
    obtain ⟨rfl, rfl, rfl, ka, kc, vs, rfl, hts, hkc⟩ := hA
    obtain ⟨rfl, rfl, rfl, la, lc, us, rfl, hus, hlc⟩ := hC
    have hsz : acSzL ks ≤ N := by unfold acSz at hs; omega
    unfold acShort at hsh
    have hlen := hsh.1
    have Hsh := hide hsh.2
    clear hsh
    obtain ⟨w1, hw1, c0, c1, c2, c3, d0, d1, d2, d3, hs1, hb1⟩ := boxAA w (.int .i64 k) (.int .i64 p) (.string (bs n)) (.slice ka ks.length kc) (.int .i64 k) (.int .i64 p) (.string (bs n)) (.slice la ks.length lc) 87 87
    have Hih := hide ih; have Hts := hide hts; have Hkc := hide hkc; have Hus := hide hus; have Hlc := hide hlc; have Hb1 := hide hb1
    clear ih hts hkc hus hlc hb1 hs
    have hnot := run_not
    generalize bs n = s at *
    go_enter Tryz.func64, Tryz.ntmps64
    go_wp2
    rw [← hw1]
    clear hw1
    have Hz3 := hide c3; have Hy3 := hide d3; have Hb2 := hide (unhide Hb1)
    have hs2 := hs1
    clear c0 c1 c2 c3 d0 d1 d2 d3 Hb1 hs1
    go_loopw [5] (fun x wr => ∃ i : Nat, x = .int .i64 i ∧ i ≤ ks.length ∧ Below w1.heap.size w1 wr) (fun x _ => ks.length - (intOf x).toNat)
    case atStart => exact ⟨0, rfl, Nat.zero_le _, Below.refl _ _⟩
    case round =>
      obtain ⟨i, rfl, hi, hb⟩ := hrel
      have z3 := (hb.cell (p := ⟨w.heap.size, 3, none⟩) (by show w.heap.size < w1.heap.size; omega)).trans (unhide Hz3)
      have y3 := (hb.cell (p := ⟨w.heap.size + 1, 3, none⟩) (by show w.heap.size + 1 < w1.heap.size; omega)).trans (unhide Hy3)
      have hb2 := (unhide Hb2).trans (below_le hb (by omega))
      have Hb := hide hb; have HbW := hide hb2
      clear hb hb2
      by_cases hlt : i < ks.length
      · have hlt' : (i : Int) < ks.length := by omega
        obtain ⟨u0, u1, u2, u3, e0, e1, e2, e3, hu⟩ := acTs_get ks vs (unhide Hts) i hlt
        obtain ⟨x0, x1, x2, x3, f0, f1, f2, f3, hx⟩ := acTs_get ks us (unhide Hus) i hlt
        rcases unhide Hkc with h | ⟨b, off, rfl, hbB, hcs⟩
        · rw [h] at hlt; simp at hlt
        rcases unhide Hlc with h | ⟨b', off', rfl, hbB', hcs'⟩
        · rw [h] at hlt; simp at hlt
        have hbW := (unhide HbW)
        have c0 := (hbW.cell (p := ⟨b, off + i * 4, none⟩) hbB).trans (hcs _ _ e0)
        have c1 := (hbW.cell (p := ⟨b, off + i * 4 + 1, none⟩) hbB).trans (hcs _ _ e1)
        have c2 := (hbW.cell (p := ⟨b, off + i * 4 + 2, none⟩) hbB).trans (hcs _ _ e2)
        have c3 := (hbW.cell (p := ⟨b, off + i * 4 + 3, none⟩) hbB).trans (hcs _ _ e3)
        have d0 := (hbW.cell (p := ⟨b', off' + i * 4, none⟩) hbB').trans (hcs' _ _ f0)
        have d1 := (hbW.cell (p := ⟨b', off' + i * 4 + 1, none⟩) hbB').trans (hcs' _ _ f1)
        have d2 := (hbW.cell (p := ⟨b', off' + i * 4 + 2, none⟩) hbB').trans (hcs' _ _ f2)
        have d3 := (hbW.cell (p := ⟨b', off' + i * 4 + 3, none⟩) hbB').trans (hcs' _ _ f3)
        have HC : Hid (∀ W : World, Below w.heap.size w W → Calls Tryz.prog 64 #[.agg #[u0, u1, u2, u3], .agg #[x0, x1, x2, x3]] W fun e w' => e = .returned (.bool true) ∧ Below W.heap.size W w') := hide (fun W hW => by
          have hU := acAt_up hW hu
          have hX := acAt_up hW hx
          exact unhide Hih (ks.getD i ac0) W _ _ _ _ _ _ _ _ (by have := acSzL_get ks i hlt; omega) (acShortL_get ks i hlt (unhide Hsh)) hU hX)
        obtain ⟨y0, y1, y2, ya, m3, mc, rfl, rfl, rfl, rfl⟩ := acAt_form hu
        obtain ⟨t0, t1, t2, ta, k3, kd, rfl, rfl, rfl, rfl⟩ := acAt_form hx
        clear hu hx hbW e0 e1 e2 e3 f0 f1 f2 f3 hcs hcs'
        have HS : Hid (∀ W : World, Below wr.heap.size wr W → W.cell? ⟨w.heap.size, 3, none⟩ = some (.slice (some ⟨b, off, none⟩) ks.length kc) ∧ W.cell? ⟨w.heap.size + 1, 3, none⟩ = some (.slice (some ⟨b', off', none⟩) ks.length lc) ∧ W.cell? ⟨b, off + i * 4, none⟩ = some (.int .i64 y0) ∧ W.cell? ⟨b, off + i * 4 + 1, none⟩ = some (.int .i64 y1) ∧ W.cell? ⟨b, off + i * 4 + 2, none⟩ = some (.string y2) ∧ W.cell? ⟨b, off + i * 4 + 3, none⟩ = some (.slice ya m3 mc) ∧ W.cell? ⟨b', off' + i * 4, none⟩ = some (.int .i64 t0) ∧ W.cell? ⟨b', off' + i * 4 + 1, none⟩ = some (.int .i64 t1) ∧ W.cell? ⟨b', off' + i * 4 + 2, none⟩ = some (.string t2) ∧ W.cell? ⟨b', off' + i * 4 + 3, none⟩ = some (.slice ta k3 kd)) := hide (fun W hW => by
          have hl := (unhide Hb).size
          have hl2 := (unhide HbW).size
          exact ⟨(hW.cell (p := ⟨w.heap.size, 3, none⟩) (by show w.heap.size < wr.heap.size; omega)).trans z3, (hW.cell (p := ⟨w.heap.size + 1, 3, none⟩) (by show w.heap.size + 1 < wr.heap.size; omega)).trans y3, (hW.cell (p := ⟨b, off + i * 4, none⟩) (by show b < wr.heap.size; omega)).trans c0, (hW.cell (p := ⟨b, off + i * 4 + 1, none⟩) (by show b < wr.heap.size; omega)).trans c1, (hW.cell (p := ⟨b, off + i * 4 + 2, none⟩) (by show b < wr.heap.size; omega)).trans c2, (hW.cell (p := ⟨b, off + i * 4 + 3, none⟩) (by show b < wr.heap.size; omega)).trans c3, (hW.cell (p := ⟨b', off' + i * 4, none⟩) (by show b' < wr.heap.size; omega)).trans d0, (hW.cell (p := ⟨b', off' + i * 4 + 1, none⟩) (by show b' < wr.heap.size; omega)).trans d1, (hW.cell (p := ⟨b', off' + i * 4 + 2, none⟩) (by show b' < wr.heap.size; omega)).trans d2, (hW.cell (p := ⟨b', off' + i * 4 + 3, none⟩) (by show b' < wr.heap.size; omega)).trans d3⟩)
        have hS : Below wr.heap.size wr wr.drew := (Below.refl _ _).drew
        go_wp2
        clear z3 y3 c0 c1 c2 c3 d0 d1 d2 d3
        go_region_held3 (fun W : World => W.cell? ⟨w.heap.size, 3, none⟩ = some (.slice (some ⟨b, off, none⟩) ks.length kc) ∧ W.cell? ⟨w.heap.size + 1, 3, none⟩ = some (.slice (some ⟨b', off', none⟩) ks.length lc) ∧ W.cell? ⟨b, off + i * 4, none⟩ = some (.int .i64 y0) ∧ W.cell? ⟨b, off + i * 4 + 1, none⟩ = some (.int .i64 y1) ∧ W.cell? ⟨b, off + i * 4 + 2, none⟩ = some (.string y2) ∧ W.cell? ⟨b, off + i * 4 + 3, none⟩ = some (.slice ya m3 mc) ∧ W.cell? ⟨b', off' + i * 4, none⟩ = some (.int .i64 t0) ∧ W.cell? ⟨b', off' + i * 4 + 1, none⟩ = some (.int .i64 t1) ∧ W.cell? ⟨b', off' + i * 4 + 2, none⟩ = some (.string t2) ∧ W.cell? ⟨b', off' + i * 4 + 3, none⟩ = some (.slice ta k3 kd))
          (first | exact unhide HS _ hS | fail)
          (first
            | (go_at_call 64; refine (unhide HC _ ((unhide HbW).trans (below_le hS (unhide HbW).size))).mono ?_; rintro e W3 ⟨rfl, hb3⟩; have hS := hS.trans (below_le hb3 hS.size); clear hb3)
            | fail)
        all_goals
          go_wp2
          go_roundw
          case rel => exact ⟨i + 1, by go_num, by omega, (unhide Hb).trans (below_le hS (unhide Hb).size)⟩
          case measure => simp [intOf]; omega
      · obtain rfl : i = ks.length := by omega
        go_wp2
        go_ret
        exact ⟨rfl, unhide HbW⟩
end Go.Proofs.YtagohbpbgjelaaaGreatDoor

namespace Go.Proofs.YtagohbpbgjelaaaGreatDoor
open Go.RowKit

def precB (x y : Int) : Bool := decide ((y = 0 ∧ x = 0) ∨ (1 ≤ y ∧ y ≤ 3 ∧ 0 < x))
set_option maxRecDepth 100000 in
theorem prec_any (x y : Int) (w : World) : Calls Tryz.prog 116 #[.agg #[.int .i64 x, .int .i64 y]] w fun e w' => e = .returned (.bool (precB x y)) ∧ Below w.heap.size w w' := by
  have Hb := hide ((Below.refl w.heap.size w).alloc (Nat.le_refl _) (.cells #[.int .i64 x, .int .i64 y] 98))
  have hnot := run_not
  go_enter Tryz.func116, Tryz.ntmps116
  go_wp2
  all_goals go_ret
  all_goals refine ⟨ret_bool ?_, unhide Hb⟩
  all_goals (unfold precB; rw [Bool.eq_iff_iff]; simp at *; omega)
theorem isRule_any (ka pa ra qa : Option Addr) (nk kc pn pc nr rc qn qc : Nat) (st x : Int) (w : World) : Calls Tryz.prog 65 #[.agg #[.slice ka nk kc, .slice pa pn pc, .slice ra nr rc, .slice qa qn qc, .int .i64 st], .int .i64 x] w fun e w' => e = .returned (.bool (decide (0 ≤ x ∧ x < nr))) ∧ Below w.heap.size w w' := by
  have Hb := hide ((Below.refl w.heap.size w).alloc (Nat.le_refl _) (.cells #[.slice ka nk kc, .slice pa pn pc, .slice ra nr rc, .slice qa qn qc, .int .i64 st] 26))
  have hnot := run_not
  go_enter Tryz.func65, Tryz.ntmps65
  go_wp2
  all_goals go_ret
  all_goals refine ⟨ret_bool ?_, unhide Hb⟩
  all_goals (rw [Bool.eq_iff_iff]; simp at *; omega)
set_option maxHeartbeats 1000000 in
set_option maxRecDepth 100000 in
theorem precs_any (ka pa ra qa : Option Addr) (nk kc pc nr rc qn qc : Nat) (st : Int) (l : List (Int × Int)) (hnk : nk ≤ 281474976710656) (B : Nat) (w : World) (hB : B ≤ w.heap.size) (hrow : LRow B w pa l) :
    Calls Tryz.prog 73 #[.agg #[.slice ka nk kc, .slice pa l.length pc, .slice ra nr rc, .slice qa qn qc, .int .i64 st]] w fun e w' => e = .returned (.bool (decide (l.length = nk) && levelsB l)) ∧ Below w.heap.size w w' := by
  obtain ⟨g0, g1, g2, g3, g4, hs1, hb1⟩ := boxG w (.slice ka nk kc) (.slice pa l.length pc) (.slice ra nr rc) (.slice qa qn qc) (.int .i64 st) 26
  have hnot := run_not
  by_cases hl : l.length = nk
  · subst hl
    have hne : ((l.length : Int) != l.length) = false := by simp
    have Hyes : Hid (lvlTo l l.length → levelsB l = true) := hide fun h => decide_eq_true h
    have Hno : Hid (¬ lvlTo l l.length → levelsB l = false) := hide fun h => decide_eq_false h
    have hR : (decide (l.length = l.length) && levelsB l) = levelsB l := by simp
    rw [hR]
    clear hR
    generalize levelsB l = R at *
    have Hrow := hide (lrow_kept (below_le hb1 hB) hrow)
    have Hb1 := hide hb1
    clear hrow hb1
    go_enter Tryz.func73, Tryz.ntmps73
    go_wp2
    generalize w.alloc (.cells #[.slice ka l.length kc, .slice pa l.length pc, .slice ra nr rc, .slice qa qn qc, .int .i64 st] 26) = w1 at *
    have hw1 : w1.heap.size = w.heap.size + 1 := hs1
    go_loopw [15] (fun x wr => ∃ k : Nat, x = .int .i64 k ∧ k ≤ l.length ∧ lvlTo l k ∧ Below w1.heap.size w1 wr) (fun x _ => l.length - (intOf x).toNat)
    case atStart => exact ⟨0, rfl, Nat.zero_le _, (fun i hi => absurd hi (Nat.not_lt_zero _)), Below.refl _ _⟩
    case round =>
      obtain ⟨k, rfl, hk, hgood, hbel⟩ := hrel
      have Hg := hide hgood; have Hbel := hide hbel
      have hszr := hbel.size
      clear hgood hbel g0 g1 g2 g3 g4
      by_cases hlt : k < l.length
      · have hlt' : (k : Int) < l.length := by omega
        obtain ⟨b, off, rfl, hb, c0, c1⟩ := lrow_at (lrow_kept (below_le (unhide Hbel) (by omega)) (unhide Hrow)) hlt
        have Hs := hide (fun (h : lvlB k (l.getD k (0, 0)) = true) => show lvlTo l (k + 1) from fun i hi => by
          by_cases e : i = k
          · subst e; exact h
          · exact unhide Hg i (by omega))
        have Hn := hide (fun (h : lvlB k (l.getD k (0, 0)) = false) => unhide Hno (fun hd => by rw [hd k hlt] at h; cases h))
        generalize l.getD k (0, 0) = p at *
        obtain ⟨x, y⟩ := p
        simp only at c0 c1
        have Hs2 := hide (fun (h : (x = 0 ∧ y = 0) ∨ (1 ≤ x ∧ 1 ≤ y ∧ y ≤ 3 ∧ 2 ≤ k)) => unhide Hs (decide_eq_true h))
        have Hn2 := hide (fun (h : ¬ ((x = 0 ∧ y = 0) ∨ (1 ≤ x ∧ 1 ≤ y ∧ y ≤ 3 ∧ 2 ≤ k))) => unhide Hn (decide_eq_false h))
        clear Hs Hn
        go_wp2_with fail
        refine (prec_any x y _).mono ?_
        rintro e w3 ⟨rfl, hb3⟩
        have hb2 : Below wr.heap.size wr (wr.alloc (.cells #[.int .i64 x, .int .i64 y] 98)) := (Below.refl _ _).alloc (Nat.le_refl _) _
        have hb4 := hb2.trans (below_le hb3 (by simp))
        have d0 : w3.cell? ⟨wr.heap.size, 0, none⟩ = some (.int .i64 x) := (hb3.cell (p := ⟨wr.heap.size, 0, none⟩) (by simp)).trans (by unfold World.cell?; rw [Go.Deep.blk_alloc_new]; rfl)
        have Hb3 := hide ((unhide Hbel).trans (below_le hb4 (by omega)))
        have Hb5 := hide ((unhide Hb1).trans (below_le (unhide Hb3) (by omega)))
        clear hb3 hb2 hb4
        cases hpr : precB x y
        · have h1 := of_decide_eq_false hpr
          go_wp2
          go_ret
          rw [unhide Hn2 (by omega)]
          exact ⟨rfl, unhide Hb5⟩
        · have h1 := of_decide_eq_true hpr
          go_wp2
          all_goals first
            | (go_ret; rw [unhide Hn2 (by first | omega | (simp at *; omega))]; exact ⟨rfl, unhide Hb5⟩)
            | (go_roundw
               case rel => exact ⟨k + 1, by go_num, by omega, unhide Hs2 (by first | omega | (simp at *; omega)), unhide Hb3⟩
               case measure => simp [intOf]; omega)
      · obtain rfl : k = l.length := by omega
        have Hr : Hid (R = true) := hide (unhide Hyes (unhide Hg))
        go_wp2
        go_ret
        rw [unhide Hr]
        exact ⟨rfl, (unhide Hb1).trans (below_le (unhide Hbel) (by omega))⟩
  · have hne : ((l.length : Int) != nk) = true := by simp; omega
    have hR : (decide (l.length = nk) && levelsB l) = false := by simp [hl]
    rw [hR]
    clear hR
    go_enter Tryz.func73, Tryz.ntmps73
    go_wp2
    go_ret
    exact ⟨rfl, hb1⟩
end Go.Proofs.YtagohbpbgjelaaaGreatDoor

namespace Go.Proofs.YtagohbpbgjelaaaGreatDoor
open Go.RowKit

set_option maxHeartbeats 1000000 in
set_option maxRecDepth 100000 in
theorem areSymbols_any (ka pa ra qa : Option Addr) (nk kc pn pc nr rc qn qc : Nat) (st : Int) (hn : nk + nr ≤ 281474976710656) (ro : Option Addr) (rowc : Nat) (row : List Int) (hl : row.length ≤ 281474976710656) (B : Nat) (w : World) (hB : B ≤ w.heap.size) (hrow : NRow B w ro row) :
    Calls Tryz.prog 45 #[.agg #[.slice ka nk kc, .slice pa pn pc, .slice ra nr rc, .slice qa qn qc, .int .i64 st], .slice ro row.length rowc] w fun e w' => e = .returned (.bool (decide (symsTo (nk + nr) row row.length))) ∧ Below w.heap.size w w' := by
  obtain ⟨g0, g1, g2, g3, g4, hs1, hb1⟩ := boxG w (.slice ka nk kc) (.slice pa pn pc) (.slice ra nr rc) (.slice qa qn qc) (.int .i64 st) 26
  have hnot := run_not
  have Hyes : Hid (symsTo (nk + nr) row row.length → decide (symsTo (nk + nr) row row.length) = true) := hide fun h => decide_eq_true h
  have Hno : Hid (¬ symsTo (nk + nr) row row.length → decide (symsTo (nk + nr) row row.length) = false) := hide fun h => decide_eq_false h
  generalize decide (symsTo (nk + nr) row row.length) = R at *
  have Hrow := hide (nrow_kept (below_le hb1 hB) hrow)
  have Hb1 := hide hb1
  have Hg := hide (And.intro g0 g2)
  clear hrow hb1 g0 g1 g2 g3 g4
  have hwn : IntKind.i64.wrap ((nk : Int) + nr) = nk + nr := by rw [IntKind.wrap_i64]; omega
  go_enter Tryz.func45, Tryz.ntmps45
  go_wp2
  generalize w.alloc (.cells #[.slice ka nk kc, .slice pa pn pc, .slice ra nr rc, .slice qa qn qc, .int .i64 st] 26) = w1 at *
  have hw1 : w1.heap.size = w.heap.size + 1 := hs1
  go_loopw [9] (fun x wr => ∃ k : Nat, x = .int .i64 k ∧ k ≤ row.length ∧ symsTo (nk + nr) row k ∧ Below w1.heap.size w1 wr) (fun x _ => row.length - (intOf x).toNat)
  case atStart => exact ⟨0, rfl, Nat.zero_le _, (fun i hi => absurd hi (Nat.not_lt_zero _)), Below.refl _ _⟩
  case round =>
    obtain ⟨k, rfl, hk, hgood, hbel⟩ := hrel
    have g0 := (hbel.cell (p := ⟨w.heap.size, 0, none⟩) (by show w.heap.size < _; omega)).trans (unhide Hg).1
    have g2 := (hbel.cell (p := ⟨w.heap.size, 2, none⟩) (by show w.heap.size < _; omega)).trans (unhide Hg).2
    have Hin := hide hgood; have Hbel := hide hbel
    have hszr := hbel.size
    have Hb5 := hide ((unhide Hb1).trans (below_le hbel (by omega)))
    clear hgood hbel
    by_cases hlt : k < row.length
    · have hlt' : (k : Int) < row.length := by omega
      obtain ⟨b, off, rfl, hb, c0⟩ := nrow_at (nrow_kept (below_le (unhide Hbel) (by omega)) (unhide Hrow)) hlt
      have Hs := hide (fun (h : 1 ≤ row.getD k 0 ∧ row.getD k 0 < (nk + nr : Nat)) => show symsTo (nk + nr) row (k + 1) from fun i hi => by
        by_cases e : i = k
        · subst e; exact h
        · exact unhide Hin i (by omega))
      have Hn := hide (fun (h : ¬ (1 ≤ row.getD k 0 ∧ row.getD k 0 < (nk + nr : Nat))) => unhide Hno (fun hd => h (hd k hlt)))
      generalize row.getD k 0 = x at *
      go_wp2
      all_goals first
        | (go_ret; rw [unhide Hn (by first | omega | (simp at *; omega))]; exact ⟨rfl, unhide Hb5⟩)
        | (go_roundw
           case rel => exact ⟨k + 1, by go_num, by omega, unhide Hs (by first | omega | (simp at *; omega)), unhide Hbel⟩
           case measure => simp [intOf]; omega)
    · obtain rfl : k = row.length := by omega
      have Hr : Hid (R = true) := hide (unhide Hyes (unhide Hin))
      go_wp2
      go_ret
      rw [unhide Hr]
      exact ⟨rfl, unhide Hb5⟩
end Go.Proofs.YtagohbpbgjelaaaGreatDoor

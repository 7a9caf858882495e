/- Plain mathematics: productive, reached. -/
import Derived.Test.YtagohbpbgjelaaaGreatDoorM6
namespace Go.Proofs.YtagohbpbgjelaaaGreatDoor
open Go.RowKit

inductive Prdv (G:Gm):Nat → Prop
 | mk (p:Pd) (hp:p ∈ G.prods) (h:∀ x,x ∈ p.right → (G.nk:Int) ≤ x → Prdv G (x - G.nk).toNat):Prdv G p.left.toNat
open Classical in
noncomputable def prdF (G:Gm):Nat → Bool:=fun r => decide (Prdv G r)
theorem prdF_is (G:Gm) (r:Nat):prdF G r = true ↔ Prdv G r:=by unfold prdF; simp
def PrdSound (G:Gm) (f:Nat → Bool):Prop:=∀ r,f r = true → Prdv G r
def prdStep (G:Gm) (f:Nat → Bool) (p:Pd):Bool:=!f p.left.toNat && wholeB G.nk f p.right
def PrdShut (G:Gm) (f:Nat → Bool):Prop:=∀ i,i < G.prods.length → prdStep G f (G.prods.getD i pd0) = false
theorem prd_done {G:Gm} {f:Nat → Bool} (h:PrdSound G f) (hs:PrdShut G f):f = prdF G:=by
 funext r
 rw [Bool.eq_iff_iff,prdF_is]
 refine ⟨h r,fun hn => ?_⟩
 induction hn with
 | mk p hp h1 ih =>
   obtain ⟨i,hi,rfl⟩:=ex_getP hp
   have:=hs i hi
   unfold prdStep at this
   rw [Bool.and_eq_false_iff] at this
   rcases this with h | h
   · simpa using h
   · rw [wholeB_iff.2 (fun x hx hk => ih x hx hk)] at h
     cases h

/-- Reached by productions of a kind. -/
inductive Rchd (G:Gm) (ok:Pd → Bool):Nat → Prop
 | start:Rchd G ok G.start.toNat
 | step (p:Pd) (hp:p ∈ G.prods) (ho:ok p = true) (h:Rchd G ok p.left.toNat) (x:Int) (hx:x ∈ p.right) (hk:(G.nk:Int) ≤ x):Rchd G ok (x - G.nk).toNat
open Classical in
noncomputable def rchF (G:Gm) (ok:Pd → Bool):Nat → Bool:=fun r => decide (Rchd G ok r)
theorem rchF_is (G:Gm) (ok:Pd → Bool) (r:Nat):rchF G ok r = true ↔ Rchd G ok r:=by unfold rchF; simp
def RchSound (G:Gm) (ok:Pd → Bool) (f:Nat → Bool):Prop:=f G.start.toNat = true ∧ ∀ r,f r = true → Rchd G ok r
/-- Nothing new comes of that production. -/
def rchFull (G:Gm) (ok:Pd → Bool) (f:Nat → Bool) (p:Pd):Prop:=f p.left.toNat = true → ok p = true → ∀ x,x ∈ p.right → (G.nk:Int) ≤ x → f (x - G.nk).toNat = true
def RchShut (G:Gm) (ok:Pd → Bool) (f:Nat → Bool):Prop:=∀ i,i < G.prods.length → rchFull G ok f (G.prods.getD i pd0)
theorem rch_done {G:Gm} {ok:Pd → Bool} {f:Nat → Bool} (h:RchSound G ok f) (hs:RchShut G ok f):f = rchF G ok:=by
 funext r
 rw [Bool.eq_iff_iff,rchF_is]
 refine ⟨h.2 r,fun hn => ?_⟩
 induction hn with
 | start => exact h.1
 | step p hp ho _ x hx hk ih =>
   obtain ⟨i,hi,rfl⟩:=ex_getP hp
   exact hs i hi ih ho x hx hk
end Go.Proofs.YtagohbpbgjelaaaGreatDoor

/- Plain mathematics: which productions are chosen for the shortest rows. -/
namespace Go.Proofs.YtagohbpbgjelaaaGreatDoor
open Go.RowKit

/-- May a production be chosen, by those that have been? -/
def okP (G:Gm) (f was:Nat → Int) (p:Pd):Bool:=wholeB G.nk (fun r => decide (0 ≤ was r)) p.right && decide (lenR G.nk f p.right 0 = f p.left.toNat)
def chTo (G:Gm) (f was:Nat → Int):Nat → (Nat → Int)
 | 0 => was
 | k + 1 => if chTo G f was k (G.prods.getD k pd0).left.toNat < 0 ∧ okP G f was (G.prods.getD k pd0) = true then updI (chTo G f was k) (G.prods.getD k pd0).left.toNat k else chTo G f was k
def chR (G:Gm) (f was:Nat → Int):Nat → Int:=chTo G f was G.prods.length
def chS (G:Gm) (f:Nat → Int):Nat → (Nat → Int)
 | 0 => fun _ => -1
 | n + 1 => chR G f (chS G f n)
def ChosenIs (G:Gm) (f c:Nat → Int):Prop:=∃ n,c = chS G f n ∧ chR G f c = c
theorem chS_fix {G:Gm} {f:Nat → Int} {n:Nat} (h:chR G f (chS G f n) = chS G f n):∀ d,chS G f (n + d) = chS G f n
 | 0 => rfl
 | d + 1 => by
   show chR G f (chS G f (n + d)) = _
   rw [chS_fix h d,h]
theorem chosen_uniq {G:Gm} {f c c':Nat → Int} (h:ChosenIs G f c) (h':ChosenIs G f c'):c = c':=by
 obtain ⟨n,rfl,hf⟩:=h
 obtain ⟨m,rfl,hf'⟩:=h'
 rcases Nat.le_total n m with hl | hl
 · obtain ⟨d,rfl⟩:∃ d,m = n + d:=⟨m - n,by omega⟩
   exact (chS_fix hf d).symm
 · obtain ⟨d,rfl⟩:∃ d,n = m + d:=⟨n - m,by omega⟩
   exact chS_fix hf' d
theorem chTo_step {G:Gm} {f was:Nat → Int} {k r:Nat} (h:0 ≤ chTo G f was k r):chTo G f was (k + 1) r = chTo G f was k r:=by
 conv => lhs; unfold chTo
 split
 · rename_i hs
   unfold updI
   by_cases e:r = (G.prods.getD k pd0).left.toNat
   · rw [← e] at hs; omega
   · rw [if_neg e]
 · rfl
theorem chTo_le {G:Gm} {f was:Nat → Int} {k r:Nat} (h:0 ≤ chTo G f was k r):∀ d,chTo G f was (k + d) r = chTo G f was k r
 | 0 => rfl
 | d + 1 => by
   have:=chTo_le h d
   rw [← Nat.add_assoc,chTo_step (by omega),this]
theorem chTo_was {G:Gm} {f was:Nat → Int} {r:Nat} (h:0 ≤ was r) (k:Nat):chTo G f was k r = was r:=by
 have:=chTo_le (G:=G) (f:=f) (was:=was) (k:=0) (r:=r) h k
 rw [Nat.zero_add] at this
 exact this
theorem chTo_what {G : Gm} {f was : Nat → Int} {r : Nat} : ∀ k, 0 ≤ chTo G f was k r → (0 ≤ was r ∧ chTo G f was k r = was r) ∨ ∃ i, i < k ∧ chTo G f was k r = i ∧ (G.prods.getD i pd0).left.toNat = r ∧ okP G f was (G.prods.getD i pd0) = true
 | 0,h => .inl ⟨h,rfl⟩
 | k + 1, h => by
   by_cases h0:0 ≤ chTo G f was k r
   · rw [chTo_step h0]
     rcases chTo_what k h0 with h1 | ⟨i,hi,h1⟩
     · exact .inl h1
     · exact .inr ⟨i,by omega,h1⟩
   · right
     unfold chTo at h ⊢
     split at h
     · rename_i hs
       rw [if_pos hs]
       unfold updI at h ⊢
       by_cases e:r = (G.prods.getD k pd0).left.toNat
       · exact ⟨k,by omega,by rw [if_pos e],e.symm,hs.2⟩
       · rw [if_neg e] at h; exact absurd h h0
     · exact absurd h h0
theorem chS_mono {G:Gm} {f:Nat → Int} {n r:Nat} (h:0 ≤ chS G f n r):∀ d,chS G f (n + d) r = chS G f n r
 | 0 => rfl
 | d + 1 => by
   have:=chS_mono h d
   show chTo G f (chS G f (n + d)) G.prods.length r = _
   rw [chTo_was (by omega),this]
theorem chS_what {G:Gm} {f:Nat → Int} {r:Nat}:∀ n,0 ≤ chS G f n r → ∃ m,m < n ∧ ∃ i,i < G.prods.length ∧ chS G f n r = i ∧ (G.prods.getD i pd0).left.toNat = r ∧ okP G f (chS G f m) (G.prods.getD i pd0) = true
 | 0,h => by simp [chS] at h
 | n + 1, h => by
   rcases chTo_what G.prods.length h with ⟨h1,h2⟩ | ⟨i,hi,h1,h2,h3⟩
   · obtain ⟨m,hm,i,hi,h3,h4⟩:=chS_what n h1
     exact ⟨m,by omega,i,hi,h2.trans h3,h4⟩
   · exact ⟨n,by omega,i,hi,h1,h2,h3⟩
theorem chosen_shut {G : Gm} {f c : Nat → Int} (h : chR G f c = c) {i : Nat} (hi : i < G.prods.length) (ho : okP G f c (G.prods.getD i pd0) = true) : 0 ≤ c (G.prods.getD i pd0).left.toNat := by
 rcases Int.lt_or_le (c (G.prods.getD i pd0).left.toNat) 0 with hn | hn
 · exfalso
   have h1:0 ≤ chTo G f c (i + 1) (G.prods.getD i pd0).left.toNat:=by
     by_cases h0:0 ≤ chTo G f c i (G.prods.getD i pd0).left.toNat
     · rw [chTo_step h0]; exact h0
     · unfold chTo
       rw [if_pos ⟨by omega,ho⟩]
       unfold updI
       rw [if_pos rfl]
       omega
   have h2:=chTo_le h1 (G.prods.length - (i + 1))
   rw [show i + 1 + (G.prods.length - (i + 1)) = G.prods.length by omega] at h2
   have h3:chTo G f c G.prods.length (G.prods.getD i pd0).left.toNat = c (G.prods.getD i pd0).left.toNat:=congrFun h _
   omega
 · exact hn
theorem lenR_ge {nk : Nat} {f : Nat → Int} : ∀ (row : List Int) (acc : Int), 0 ≤ acc → acc ≤ 65537 → 0 ≤ lenR nk f row acc → acc ≤ lenR nk f row acc
 | [],acc,_,_,_ => by unfold lenR; omega
 | x :: xs, acc, h0, h1, h => by
   unfold lenR at h ⊢
   split at h
   · rename_i hk
     rw [if_pos hk]
     split at h
     · omega
     · rename_i hf
       rw [if_neg hf]
       have:=lenR_ge xs (min (acc + f (x - nk).toNat) 65537) (by omega) (by omega) h
       omega
   · rename_i hk
     rw [if_neg hk]
     have:=lenR_ge xs (min (acc + 1) 65537) (by omega) (by omega) h
     omega
theorem lenR_each {nk : Nat} {f : Nat → Int} : ∀ (row : List Int) (acc : Int), 0 ≤ acc → acc ≤ 65537 → 0 ≤ lenR nk f row acc → ∀ x, x ∈ row → (nk : Int) ≤ x → min (f (x - nk).toNat) 65537 ≤ lenR nk f row acc
 | [],_,_,_,_,x,hx,_ => by simp at hx
 | y :: ys, acc, h0, h1, h, x, hx, hk => by
   unfold lenR at h ⊢
   rw [List.mem_cons] at hx
   split at h
   · rename_i hky
     rw [if_pos hky]
     split at h
     · omega
     · rename_i hf
       rw [if_neg hf]
       rcases hx with rfl | hx
       · have:=lenR_ge ys (min (acc + f (x - nk).toNat) 65537) (by omega) (by omega) h
         omega
       · exact lenR_each ys _ (by omega) (by omega) h x hx hk
   · rename_i hky
     rw [if_neg hky]
     rcases hx with rfl | hx
     · omega
     · exact lenR_each ys _ (by omega) (by omega) h x hx hk
theorem lng_bd {G:Gm} {r:Nat} {n:Int} (h:Lng G r n):0 ≤ n ∧ n ≤ 65537:=by
 cases h with
 | mk p hp g hg h0 => exact ⟨h0,(lenR_bd p.right 0 (Int.le_refl _) (by omega)).2⟩
theorem chosen_one {G:Gm} {f c:Nat → Int} (hf:LeastIs G f) (hc:chR G f c = c) {r:Nat} {n:Int} (h:Lng G r n):n = f r → (∀ r',0 ≤ f r' → f r' < n → 0 ≤ c r') → 0 ≤ c r:=by
 induction h with
 | mk p hp g hg h0 ih =>
   intro hn hlt
   have hm:=lenR_mono (nk:=G.nk) (f:=f) (g:=g) p.right 0 0 (Int.le_refl _) (Int.le_refl _) (fun x hx hk => hf.2 _ _ (hg x hx hk))
   have hL:Lng G p.left.toNat (lenR G.nk f p.right 0):=.mk p hp f (fun x hx hk => by
     have h1:=hf.2 _ _ (hg x hx hk)
     rcases hf.1 (x - G.nk).toNat with h2 | h2
     · omega
     · exact h2.2.2) hm.1
   have hle:=hf.2 _ _ hL
   obtain ⟨i,hi,rfl⟩:=ex_getP hp
   refine chosen_shut hc hi ?_
   unfold okP
   rw [Bool.and_eq_true,decide_eq_true_eq]
   refine ⟨wholeB_iff.2 (fun x hx hk => ?_),by omega⟩
   rw [decide_eq_true_eq]
   have h1:=hf.2 _ _ (hg x hx hk)
   have h2:=lenR_each (nk:=G.nk) (f:=g) _ 0 (Int.le_refl _) (by omega) h0 x hx hk
   have h3:=lng_bd (hg x hx hk)
   by_cases he:f (x - G.nk).toNat < lenR G.nk g (G.prods.getD i pd0).right 0
   · exact hlt _ h1.1 he
   · exact ih x hx hk (by omega) (fun r' h4 h5 => hlt r' h4 (by omega))
theorem chosen_all {G:Gm} {f c:Nat → Int} (hf:LeastIs G f) (hc:chR G f c = c):∀ (n:Nat) (r:Nat),f r = n → 0 ≤ c r:=by
 intro n
 induction n using Nat.strongRecOn with
 | _ n ih =>
   intro r hr
   rcases hf.1 r with h | h
   · omega
   · exact chosen_one hf hc h.2.2 rfl (fun r' h1 h2 => ih (f r').toNat (by omega) r' (by omega))
end Go.Proofs.YtagohbpbgjelaaaGreatDoor

/- Plain mathematics: the shortest rows themselves. -/
namespace Go.Proofs.YtagohbpbgjelaaaGreatDoor
open Go.RowKit

/-- A symbol's row, by what is chosen. -/
def splF (G:Gm) (f c:Nat → Int):Nat → Int → List Int
 | 0,_ => []
 | n + 1,x => if x < G.nk then [x] else if f (x - G.nk).toNat = 0 then [] else ((G.prods.getD (c (x - G.nk).toNat).toNat pd0).right.map (splF G f c n)).flatten
def HasC (G:Gm) (f:Nat → Int) (n:Nat) (x:Int):Prop:=x < G.nk ∨ 0 ≤ chS G f n (x - G.nk).toNat
/-- What is chosen agrees with all rounds. -/
def AgreeC (G:Gm) (f c:Nat → Int):Prop:=∀ n r,0 ≤ chS G f n r → c r = chS G f n r
theorem agree_of {G:Gm} {f c:Nat → Int} (h:ChosenIs G f c):AgreeC G f c:=by
 obtain ⟨N,rfl,hf⟩:=h
 intro n r hr
 rcases Nat.le_total n N with hl | hl
 · obtain ⟨d,rfl⟩:∃ d,N = n + d:=⟨N - n,by omega⟩
   exact chS_mono hr d
 · obtain ⟨d,rfl⟩:∃ d,n = N + d:=⟨n - N,by omega⟩
   rw [chS_fix hf d]
theorem has_mono {G:Gm} {f:Nat → Int} {n m:Nat} {x:Int} (h:HasC G f n x) (hl:n ≤ m):HasC G f m x:=by
 rcases h with h | h
 · exact .inl h
 · obtain ⟨d,rfl⟩:∃ d,m = n + d:=⟨m - n,by omega⟩
   exact .inr (by rw [chS_mono h d]; exact h)
/-- The production that is chosen, and what it is. -/
theorem has_prod {G:Gm} {f c:Nat → Int} (hc:AgreeC G f c) {n:Nat} {r:Nat} (h:0 ≤ chS G f (n + 1) r):∃ i,i < G.prods.length ∧ c r = i ∧ (G.prods.getD i pd0).left.toNat = r ∧ lenR G.nk f (G.prods.getD i pd0).right 0 = f r ∧ ∀ y,y ∈ (G.prods.getD i pd0).right → HasC G f n y:=by
 obtain ⟨m,hm,i,hi,h1,h2,h3⟩:=chS_what (n + 1) h
 unfold okP at h3
 rw [Bool.and_eq_true,decide_eq_true_eq,wholeB_iff,h2] at h3
 refine ⟨i,hi,(hc _ _ h).trans h1,h2,h3.2,fun y hy => ?_⟩
 rcases Int.lt_or_le y G.nk with hk | hk
 · exact .inl hk
 · have:=h3.1 y hy hk
   rw [decide_eq_true_eq] at this
   exact has_mono (.inr this) (by omega)
theorem splF_kind {G:Gm} {f c:Nat → Int} {x:Int} (h:x < G.nk) (n:Nat):splF G f c (n + 1) x = [x]:=by unfold splF; rw [if_pos h]
theorem splF_zero {G:Gm} {f c:Nat → Int} {x:Int} (h:¬ x < G.nk) (h0:f (x - G.nk).toNat = 0) (n:Nat):splF G f c (n + 1) x = []:=by unfold splF; rw [if_neg h,if_pos h0]
theorem splF_step {G:Gm} {f c:Nat → Int} {x:Int} (h:¬ x < G.nk) (h0:¬ f (x - G.nk).toNat = 0) (n:Nat):splF G f c (n + 1) x = ((G.prods.getD (c (x - G.nk).toNat).toNat pd0).right.map (splF G f c n)).flatten:=by
 conv => lhs; unfold splF
 rw [if_neg h,if_neg h0]
theorem splF_fuel {G : Gm} {f c : Nat → Int} (hc : AgreeC G f c) : ∀ (n : Nat) (x : Int), HasC G f n x → ∀ m, n ≤ m → splF G f c (m + 1) x = splF G f c (n + 1) x
 | 0, x, h, m, hm => by
   rcases h with h | h
   · rw [splF_kind h,splF_kind h]
   · simp [chS] at h
 | n + 1, x, h, m, hm => by
   by_cases hk:x < G.nk
   · rw [splF_kind hk,splF_kind hk]
   · by_cases h0:f (x - G.nk).toNat = 0
     · rw [splF_zero hk h0,splF_zero hk h0]
     · rw [splF_step hk h0,splF_step hk h0]
       rcases h with h | h
       · exact absurd h hk
       obtain ⟨i,hi,h1,h2,h3,h4⟩:=has_prod hc h
       rw [h1,Int.toNat_natCast]
       congr 1
       apply List.map_congr_left
       intro y hy
       obtain ⟨m',rfl⟩:∃ m',m = m' + 1:=⟨m - 1,by omega⟩
       rw [splF_fuel hc n y (h4 y hy) m' (by omega)]
theorem chS_pos {G:Gm} {f:Nat → Int}:∀ (n r:Nat),0 ≤ chS G f n r → 0 ≤ f r
 | 0,r,h => by simp [chS] at h
 | n + 1, r, h => by
   obtain ⟨m,hm,i,hi,h1,h2,h3⟩:=chS_what (n + 1) h
   unfold okP at h3
   rw [Bool.and_eq_true,decide_eq_true_eq,wholeB_iff,h2] at h3
   rw [← h3.2]
   exact (lenR_mono (nk:=G.nk) (f:=f) (g:=f) (G.prods.getD i pd0).right 0 0 (Int.le_refl _) (Int.le_refl _) (fun x hx hk => by
     have:=h3.1 x hx hk
     rw [decide_eq_true_eq] at this
     rcases has_mono (f:=f) (x:=x) (.inr this) (show m ≤ n by omega) with h5 | h5
     · omega
     · exact ⟨chS_pos n _ h5,Int.le_refl _⟩)).1
/-- How long a symbol's row is. -/
def lnX (nk:Nat) (f:Nat → Int) (x:Int):Int:=if (nk:Int) ≤ x then f (x - nk).toNat else 1
theorem lenR_sum {nk : Nat} {f : Nat → Int} : ∀ (row : List Int) (acc : Int), 0 ≤ acc → acc ≤ 65537 → 0 ≤ lenR nk f row acc → lenR nk f row acc ≤ 65536 → lenR nk f row acc = acc + (row.map (lnX nk f)).sum
 | [],acc,_,_,_,_ => by simp [lenR]
 | x :: xs, acc, h0, h1, h2, h3 => by
   rw [List.map_cons,List.sum_cons]
   unfold lenR at h2 h3 ⊢
   by_cases hk:(nk:Int) ≤ x
   · rw [if_pos hk] at h2 h3 ⊢
     have hx:lnX nk f x = f (x - nk).toNat:=by unfold lnX; rw [if_pos hk]
     rw [hx]
     by_cases hf:f (x - nk).toNat < 0
     · rw [if_pos hf] at h2; omega
     · rw [if_neg hf] at h2 h3 ⊢
       have hg:=lenR_ge xs (min (acc + f (x - nk).toNat) 65537) (by omega) (by omega) h2
       have:=lenR_sum xs (min (acc + f (x - nk).toNat) 65537) (by omega) (by omega) h2 h3
       omega
   · rw [if_neg hk] at h2 h3 ⊢
     have hx:lnX nk f x = 1:=by unfold lnX; rw [if_neg hk]
     rw [hx]
     have hg:=lenR_ge xs (min (acc + 1) 65537) (by omega) (by omega) h2
     have:=lenR_sum xs (min (acc + 1) 65537) (by omega) (by omega) h2 h3
     omega
theorem flat_len {α:Type} (g:Int → List α) (u:Int → Int):∀ (row:List Int),(∀ x,x ∈ row → ((g x).length:Int) = u x) → (((row.map g).flatten.length:Nat):Int) = (row.map u).sum
 | [],_ => rfl
 | x :: xs, h => by
   have h1:=h x (by simp)
   have h2:=flat_len g u xs (fun y hy => h y (List.mem_cons_of_mem _ hy))
   rw [List.map_cons,List.flatten_cons,List.length_append,List.map_cons,List.sum_cons]
   omega
theorem splF_len {G : Gm} {f c : Nat → Int} (hc : AgreeC G f c) : ∀ (n : Nat) (x : Int), HasC G f n x → lnX G.nk f x ≤ 65536 → ((splF G f c (n + 1) x).length : Int) = lnX G.nk f x
 | 0, x, h, _ => by
   rcases h with h | h
   · rw [splF_kind h]; unfold lnX; rw [if_neg (by omega)]; rfl
   · simp [chS] at h
 | n + 1, x, h, hb => by
   by_cases hk:x < G.nk
   · rw [splF_kind hk]; unfold lnX; rw [if_neg (by omega)]; rfl
   · have hx:lnX G.nk f x = f (x - G.nk).toNat:=by unfold lnX; rw [if_pos (by omega)]
     rw [hx] at hb ⊢
     by_cases h0:f (x - G.nk).toNat = 0
     · rw [splF_zero hk h0,h0]; rfl
     · rw [splF_step hk h0]
       rcases h with h | h
       · exact absurd h hk
       obtain ⟨i,hi,h1,h2,h3,h4⟩:=has_prod hc h
       rw [h1,Int.toNat_natCast]
       have hge:0 ≤ lenR G.nk f (G.prods.getD i pd0).right 0:=by
         rw [h3]; exact chS_pos _ _ h
       have hs:=lenR_sum (nk:=G.nk) (f:=f) (G.prods.getD i pd0).right 0 (Int.le_refl _) (by omega) hge (by omega)
       rw [flat_len _ (lnX G.nk f) _ (fun y hy => ?_)]
       · omega
       · refine splF_len hc n y (h4 y hy) ?_
         by_cases hy1:(G.nk:Int) ≤ y
         · have:=lenR_each (nk:=G.nk) (f:=f) (G.prods.getD i pd0).right 0 (Int.le_refl _) (by omega) hge y hy hy1
           unfold lnX
           rw [if_pos hy1]
           omega
         · unfold lnX; rw [if_neg hy1]; omega
end Go.Proofs.YtagohbpbgjelaaaGreatDoor

/- The document's prod. -/
namespace Go.Proofs.YtagohbpbgjelaaaGreatDoor
open Go.RowKit

def symsTo (n:Nat) (row:List Int) (k:Nat):Prop:=∀ j,j < k → 1 ≤ row.getD j 0 ∧ row.getD j 0 < n
instance (n:Nat) (row:List Int) (k:Nat):Decidable (symsTo n row k):=by unfold symsTo; infer_instance
def prodB (nk nr:Nat) (p:Pd):Bool:=decide (0 ≤ p.left ∧ p.left < nr ∧ p.right.length ≤ 64 ∧ 0 ≤ p.level ∧ symsTo (nk + nr) p.right p.right.length ∧ 0 ≤ partsA p.act p.right.length 256)

set_option maxHeartbeats 4000000 in
set_option maxRecDepth 100000 in
theorem rProd_any (ka pa ra qa : Option Addr) (nk kc pn pc nr rc qn qc : Nat) (st : Int) (hnk : nk ≤ 1024) (hnr : nr ≤ 2048) (p : Pd) (B : Nat) (w : World) (hB : B ≤ w.heap.size) (rr : Option Addr) (rrc : Nat) (x3 x4 : Int) (x5 : ByteArray) (x6 : Option Addr) (n6 c6 : Nat) (hrr : NRow B w rr p.right) (hac : AcAt B w p.act (.int .i64 x3) (.int .i64 x4) (.string x5) (.slice x6 n6 c6)) (hrl : p.right.length ≤ 281474976710656) :
   Calls Tryz.prog 54 #[.agg #[.slice ka nk kc,.slice pa pn pc,.slice ra nr rc,.slice qa qn qc,.int .i64 st],.agg #[.int .i64 p.left,.slice rr p.right.length rrc,.int .i64 p.level,.int .i64 x3,.int .i64 x4,.string x5,.slice x6 n6 c6]] w fun e w' => e = .returned (.bool (prodB nk nr p)) ∧ Below w.heap.size w w':=by
 obtain ⟨pl,prt,plv,pac⟩:=p
 simp only at hrr hac hrl ⊢
 have Hyes:=hide (fun (h:(0 ≤ pl ∧ pl < nr ∧ prt.length ≤ 64 ∧ 0 ≤ plv) ∧ symsTo (nk + nr) prt prt.length ∧ 0 ≤ partsA pac prt.length 256) => show prodB nk nr ⟨pl,prt,plv,pac⟩ = true from decide_eq_true ⟨h.1.1,h.1.2.1,h.1.2.2.1,h.1.2.2.2,h.2⟩)
 have Hno:=hide (fun (h:¬ ((0 ≤ pl ∧ pl < nr ∧ prt.length ≤ 64 ∧ 0 ≤ plv) ∧ symsTo (nk + nr) prt prt.length ∧ 0 ≤ partsA pac prt.length 256)) => show prodB nk nr ⟨pl,prt,plv,pac⟩ = false from decide_eq_false (fun k => h ⟨⟨k.1,k.2.1,k.2.2.1,k.2.2.2.1⟩,k.2.2.2.2⟩))
 generalize prodB nk nr ⟨pl,prt,plv,pac⟩ = R at *
 obtain ⟨g0,-,g2,-,-,hwg,hbg⟩:=boxG w (.slice ka nk kc) (.slice pa pn pc) (.slice ra nr rc) (.slice qa qn qc) (.int .i64 st) 26
 obtain ⟨p0,p1,p2,p3,p4,p5,p6,hwp,hbp⟩:=boxP (w.alloc (.cells #[.slice ka nk kc,.slice pa pn pc,.slice ra nr rc,.slice qa qn qc,.int .i64 st] 26)) (.int .i64 pl) (.slice rr prt.length rrc) (.int .i64 plv) (.int .i64 x3) (.int .i64 x4) (.string x5) (.slice x6 n6 c6) 89
 rw [hwg] at p0 p1 p2 p3 p4 p5 p6 hwp hbp
 have Hb1:=hide (hbg.trans (below_le hbp (by omega)))
 have G0:=hide ((hbp.cell (p:=⟨w.heap.size,0,none⟩) (Nat.lt_succ_self _)).trans g0)
 have G2:=hide ((hbp.cell (p:=⟨w.heap.size,2,none⟩) (Nat.lt_succ_self _)).trans g2)
 have P0:=hide p0; have P1:=hide p1; have P2:=hide p2; have P3:=hide p3; have P4:=hide p4; have P5:=hide p5; have P6:=hide p6
 have Hrr:=hide hrr; have Hac:=hide hac
 clear hrr hac g0 g2 hbg hbp p0 p1 p2 p3 p4 p5 p6
 by_cases hh:0 ≤ pl ∧ pl < nr ∧ prt.length ≤ 64 ∧ 0 ≤ plv
 · have Hh := hide hh
   have h1:¬ pl < 0:=by omega
   have h2:¬ (nr:Int) ≤ pl:=by omega
   have h3:¬ (64:Int) < prt.length:=by omega
   have h4:¬ plv < 0:=by omega
   clear hh
   go_enter Tryz.func54,Tryz.ntmps54
   go_wp2
   generalize (w.alloc (.cells #[.slice ka nk kc,.slice pa pn pc,.slice ra nr rc,.slice qa qn qc,.int .i64 st] 26)).alloc (.cells #[.int .i64 pl,.slice rr prt.length rrc,.int .i64 plv,.int .i64 x3,.int .i64 x4,.string x5,.slice x6 n6 c6] 89) = w2 at *
   go_loopw [5] (fun x W => ∃ i:Nat,x = .int .i64 i ∧ i ≤ prt.length ∧ symsTo (nk + nr) prt i ∧ Below w2.heap.size w2 W) (fun x _ => prt.length - (intOf x).toNat)
   case atStart => exact ⟨0,rfl,Nat.zero_le _,fun j hj => absurd hj (Nat.not_lt_zero _),Below.refl _ _⟩
   case round =>
     obtain ⟨i,rfl,hi,hsy,hb⟩:=hrel
     have hk1:=fun (a:Nat) (j:Nat) (v:Value) (ha:a < w2.heap.size) (h:w2.cell? ⟨a,j,none⟩ = some v) => (hb.cell (p:=⟨a,j,none⟩) ha).trans h
     have g0:=hk1 _ _ _ (by omega) (unhide G0)
     have g2:=hk1 _ _ _ (by omega) (unhide G2)
     have p1:=hk1 _ _ _ (by omega) (unhide P1)
     have hb2:=(unhide Hb1).trans (below_le hb (by omega))
     have Hb2:=hide hb2; have Hsy:=hide hsy; have Hb:=hide hb
     clear hk1 hb2 hsy
     by_cases hlt:i < prt.length
     · have hlt':(i:Int) < prt.length:=by omega
       clear hb
       obtain ⟨xb,xo,rfl,hxb,cx⟩:=nrow_at (nrow_kept (below_le (unhide Hb2) hB) (unhide Hrr)) hlt
       have Hs:=hide (fun (h:1 ≤ prt.getD i 0 ∧ prt.getD i 0 < (nk + nr:Nat)) => show symsTo (nk + nr) prt (i + 1) from fun j hj => by
         by_cases e:j = i
         · subst e; exact h
         · exact unhide Hsy j (by omega))
       have Hn:=hide (fun (h:¬ (1 ≤ prt.getD i 0 ∧ prt.getD i 0 < (nk + nr:Nat))) => unhide Hno (fun k => h (k.2.1 i hlt)))
       generalize prt.getD i 0 = x at *
       have hww:IntKind.i64.wrap ((nk:Int) + nr) = (nk:Int) + nr:=by rw [IntKind.wrap_i64]; omega
       by_cases hx1:x < 1
       · have Hr:=hide (unhide Hn (by omega))
         go_wp2
         go_quiet (fail)
         go_wp2
         go_ret
         rw [unhide Hr]
         exact ⟨rfl,below_drewN (unhide Hb2) _⟩
       · by_cases hx2:(nk:Int) + nr ≤ x
         · have Hr:=hide (unhide Hn (by omega))
           go_wp2
           go_quiet (fail)
           go_wp2
           go_ret
           rw [unhide Hr]
           exact ⟨rfl,below_drewN (unhide Hb2) _⟩
         · have Hs2:=hide (unhide Hs (by omega))
           have hx3:decide ((nk:Int) + nr ≤ x) = false:=by rw [decide_eq_false_iff_not]; exact hx2
           go_wp2
           go_quiet (fail)
           go_wp2
           go_roundw
           case rel => exact ⟨i + 1,by go_num,by omega,unhide Hs2,below_drewN (unhide Hb) _⟩
           case measure => simp [intOf]; omega
     · obtain rfl:i = prt.length:=by omega
       have hk1:=fun (a:Nat) (j:Nat) (v:Value) (ha:a < w2.heap.size) (h:w2.cell? ⟨a,j,none⟩ = some v) => (hb.cell (p:=⟨a,j,none⟩) ha).trans h
       have p3:=hk1 _ _ _ (by omega) (unhide P3)
       have p4:=hk1 _ _ _ (by omega) (unhide P4)
       have p5:=hk1 _ _ _ (by omega) (unhide P5)
       have p6:=hk1 _ _ _ (by omega) (unhide P6)
       have hszW:=hb.size
       clear hk1 hb
       have HC:=hide (rParts_any B prt.length 256 (Nat.le_refl _) pac 256 wr _ _ _ _ (by omega) (acAt_kept (below_le (unhide Hb2) hB) _ _ _ _ _ (unhide Hac)) (by omega) (by omega))
       have hbd:=parts_bd pac prt.length 256 (by omega)
       have HR:Hid (R = decide (0 ≤ partsA pac prt.length 256)):=hide (by
         by_cases h:0 ≤ partsA pac prt.length 256
         · rw [decide_eq_true h]; exact unhide Hyes ⟨unhide Hh,unhide Hsy,h⟩
         · rw [decide_eq_false h]; exact unhide Hno (fun k => h k.2.2))
       generalize partsA pac prt.length 256 = V at *
       go_wp2_with fail
       refine (unhide HC).mono ?_
       rintro e w3 ⟨rfl,hb3⟩
       have Hb3:=hide ((unhide Hb2).trans (below_le hb3 (unhide Hb2).size))
       clear hb3
       go_wp2
       go_ret
       rw [unhide HR]
       exact ⟨rfl,unhide Hb3⟩
 · have Hr:=hide (unhide Hno (fun h => hh h.1))
   clear Hno Hyes
   have Hx:=hide hh
   clear hh
   go_enter Tryz.func54,Tryz.ntmps54
   go_wp2
   all_goals first
     | (go_ret; rw [unhide Hr]; exact ⟨rfl,((Below.refl _ _).alloc (Nat.le_refl _) _).alloc (by simp) _⟩)
     | (exfalso; have h1:=unhide Hx; first | omega | (simp at *; omega))
end Go.Proofs.YtagohbpbgjelaaaGreatDoor

/- The code's symbols, actions, productions. -/
namespace Go.Proofs.YtagohbpbgjelaaaGreatDoor
open Go.RowKit

set_option maxHeartbeats 1000000 in
set_option maxRecDepth 100000 in
theorem areSymbols_any (ka pa ra qa : Option Addr) (nk kc pn pc nr rc qn qc : Nat) (st : Int) (hn : nk + nr ≤ 281474976710656) (ro : Option Addr) (rowc : Nat) (row : List Int) (hl : row.length ≤ 281474976710656) (B : Nat) (w : World) (hB : B ≤ w.heap.size) (hrow : NRow B w ro row) :
   Calls Tryz.prog 45 #[.agg #[.slice ka nk kc,.slice pa pn pc,.slice ra nr rc,.slice qa qn qc,.int .i64 st],.slice ro row.length rowc] w fun e w' => e = .returned (.bool (decide (symsTo (nk + nr) row row.length))) ∧ Below w.heap.size w w':=by
 obtain ⟨g0,g1,g2,g3,g4,hs1,hb1⟩:=boxG w (.slice ka nk kc) (.slice pa pn pc) (.slice ra nr rc) (.slice qa qn qc) (.int .i64 st) 26
 have hnot:=run_not
 have Hyes:Hid (symsTo (nk + nr) row row.length → decide (symsTo (nk + nr) row row.length) = true):=hide fun h => decide_eq_true h
 have Hno:Hid (¬ symsTo (nk + nr) row row.length → decide (symsTo (nk + nr) row row.length) = false):=hide fun h => decide_eq_false h
 generalize decide (symsTo (nk + nr) row row.length) = R at *
 have Hrow:=hide (nrow_kept (below_le hb1 hB) hrow)
 have Hb1:=hide hb1
 have Hg:=hide (And.intro g0 g2)
 clear hrow hb1 g0 g1 g2 g3 g4
 have hwn:IntKind.i64.wrap ((nk:Int) + nr) = nk + nr:=by rw [IntKind.wrap_i64]; omega
 go_enter Tryz.func45,Tryz.ntmps45
 go_wp2
 generalize w.alloc (.cells #[.slice ka nk kc,.slice pa pn pc,.slice ra nr rc,.slice qa qn qc,.int .i64 st] 26) = w1 at *
 have hw1:w1.heap.size = w.heap.size + 1:=hs1
 go_loopw [9] (fun x wr => ∃ k:Nat,x = .int .i64 k ∧ k ≤ row.length ∧ symsTo (nk + nr) row k ∧ Below w1.heap.size w1 wr) (fun x _ => row.length - (intOf x).toNat)
 case atStart => exact ⟨0,rfl,Nat.zero_le _,(fun i hi => absurd hi (Nat.not_lt_zero _)),Below.refl _ _⟩
 case round =>
   obtain ⟨k,rfl,hk,hgood,hbel⟩:=hrel
   have g0:=(hbel.cell (p:=⟨w.heap.size,0,none⟩) (by show w.heap.size < _; omega)).trans (unhide Hg).1
   have g2:=(hbel.cell (p:=⟨w.heap.size,2,none⟩) (by show w.heap.size < _; omega)).trans (unhide Hg).2
   have Hin:=hide hgood; have Hbel:=hide hbel
   have hszr:=hbel.size
   have Hb5:=hide ((unhide Hb1).trans (below_le hbel (by omega)))
   clear hgood hbel
   by_cases hlt:k < row.length
   · have hlt' : (k : Int) < row.length := by omega
     obtain ⟨b,off,rfl,hb,c0⟩:=nrow_at (nrow_kept (below_le (unhide Hbel) (by omega)) (unhide Hrow)) hlt
     have Hs:=hide (fun (h:1 ≤ row.getD k 0 ∧ row.getD k 0 < (nk + nr:Nat)) => show symsTo (nk + nr) row (k + 1) from fun i hi => by
       by_cases e:i = k
       · subst e; exact h
       · exact unhide Hin i (by omega))
     have Hn:=hide (fun (h:¬ (1 ≤ row.getD k 0 ∧ row.getD k 0 < (nk + nr:Nat))) => unhide Hno (fun hd => h (hd k hlt)))
     generalize row.getD k 0 = x at *
     go_wp2
     all_goals first
       | (go_ret; rw [unhide Hn (by first | omega | (simp at *; omega))]; exact ⟨rfl,unhide Hb5⟩)
       | (go_roundw
          case rel => exact ⟨k + 1,by go_num,by omega,unhide Hs (by first | omega | (simp at *; omega)),unhide Hbel⟩
          case measure => simp [intOf]; omega)
   · obtain rfl:k = row.length:=by omega
     have Hr:Hid (R = true):=hide (unhide Hyes (unhide Hin))
     go_wp2
     go_ret
     rw [unhide Hr]
     exact ⟨rfl,unhide Hb5⟩
end Go.Proofs.YtagohbpbgjelaaaGreatDoor

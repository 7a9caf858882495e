/- Plain mathematics: shortest rows. -/
import Derived.Test.YtagohbpbgjelaaaGreatDoorP0
namespace Go.Proofs.YtagohbpbgjelaaaGreatDoor
open Go.RowKit

theorem lenR_bd {nk:Nat} {f:Nat → Int}:∀ (row:List Int) (acc:Int),0 ≤ acc → acc ≤ 65537 → -1 ≤ lenR nk f row acc ∧ lenR nk f row acc ≤ 65537
 | [],acc,h0,h1 => by unfold lenR; omega
 | x :: xs, acc, h0, h1 => by
   unfold lenR
   split
   · split
     · omega
     · exact lenR_bd xs _ (by omega) (by omega)
   · exact lenR_bd xs _ (by omega) (by omega)
theorem lenR_all {nk : Nat} {f : Nat → Int} : ∀ (row : List Int) (acc : Int), 0 ≤ acc → 0 ≤ lenR nk f row acc → ∀ x, x ∈ row → (nk : Int) ≤ x → 0 ≤ f (x - nk).toNat
 | [],_,_,_,x,hx,_ => by simp at hx
 | y :: ys, acc, h0, h, x, hx, hk => by
   unfold lenR at h
   rw [List.mem_cons] at hx
   split at h
   · split at h
     · omega
     · rcases hx with rfl | hx
       · omega
       · exact lenR_all ys _ (by omega) h x hx hk
   · rcases hx with rfl | hx
     · omega
     · exact lenR_all ys _ (by omega) h x hx hk
theorem lenR_mono {nk:Nat} {f g:Nat → Int}:∀ (row:List Int) (a b:Int),0 ≤ a → a ≤ b → (∀ x,x ∈ row → (nk:Int) ≤ x → 0 ≤ f (x - nk).toNat ∧ f (x - nk).toNat ≤ g (x - nk).toNat) → 0 ≤ lenR nk f row a ∧ lenR nk f row a ≤ lenR nk g row b
 | [],a,b,h0,h1,_ => by unfold lenR; omega
 | x :: xs, a, b, h0, h1, h => by
   have hr:=fun y hy => h y (List.mem_cons_of_mem _ hy)
   unfold lenR
   by_cases hk:(nk:Int) ≤ x
   · have:=h x (by simp) hk
     rw [if_pos hk,if_pos hk,if_neg (by omega),if_neg (by omega)]
     exact lenR_mono xs _ _ (by omega) (by omega) hr
   · rw [if_neg hk,if_neg hk]
     exact lenR_mono xs _ _ (by omega) (by omega) hr
/-- A rule makes a row of kinds of that length (cut). -/
inductive Lng (G:Gm):Nat → Int → Prop
 | mk (p:Pd) (hp:p ∈ G.prods) (g:Nat → Int) (hg:∀ x,x ∈ p.right → (G.nk:Int) ≤ x → Lng G (x - G.nk).toNat (g (x - G.nk).toNat)) (h0:0 ≤ lenR G.nk g p.right 0):Lng G p.left.toNat (lenR G.nk g p.right 0)
def LngSound (G:Gm) (f:Nat → Int):Prop:=∀ r,f r = -1 ∨ (0 ≤ f r ∧ f r ≤ 65537 ∧ Lng G r (f r))
def lngStep (G:Gm) (f:Nat → Int) (p:Pd):Prop:=0 ≤ lenR G.nk f p.right 0 ∧ (f p.left.toNat < 0 ∨ lenR G.nk f p.right 0 < f p.left.toNat)
instance (G:Gm) (f:Nat → Int) (p:Pd):Decidable (lngStep G f p):=by unfold lngStep; infer_instance
def LngShut (G:Gm) (f:Nat → Int):Prop:=∀ i,i < G.prods.length → ¬ lngStep G f (G.prods.getD i pd0)
/-- f tells the shortest rows' lengths. -/
def LeastIs (G:Gm) (f:Nat → Int):Prop:=LngSound G f ∧ ∀ r n,Lng G r n → 0 ≤ f r ∧ f r ≤ n
theorem lng_done {G:Gm} {f:Nat → Int} (h:LngSound G f) (hs:LngShut G f):LeastIs G f:=by
 refine ⟨h,fun r n hn => ?_⟩
 induction hn with
 | mk p hp g hg h0 ih =>
   have hm:=lenR_mono (nk:=G.nk) (f:=f) (g:=g) p.right 0 0 (Int.le_refl _) (Int.le_refl _) (fun x hx hk => ih x hx hk)
   obtain ⟨i,hi,rfl⟩:=ex_getP hp
   have:=hs i hi
   unfold lngStep at this
   omega
theorem least_uniq {G:Gm} {f g:Nat → Int} (hf:LeastIs G f) (hg:LeastIs G g):f = g:=by
 funext r
 rcases hf.1 r with h1 | ⟨h1,-,h2⟩ <;> rcases hg.1 r with h3 | ⟨h3,-,h4⟩
 · omega
 · have:=hf.2 r _ h4; omega
 · have:=hg.2 r _ h2; omega
 · have:=hf.2 r _ h4; have:=hg.2 r _ h2; omega
def updI (f:Nat → Int) (i:Nat) (v:Int):Nat → Int:=fun j => if j = i then v else f j
theorem lng_upd {G:Gm} {f:Nat → Int} {i:Nat} (h:LngSound G f) (hi:i < G.prods.length) (hs:lngStep G f (G.prods.getD i pd0)):LngSound G (updI f (G.prods.getD i pd0).left.toNat (lenR G.nk f (G.prods.getD i pd0).right 0)):=by
 intro r
 unfold updI
 by_cases e:r = (G.prods.getD i pd0).left.toNat
 · rw [if_pos e]
   right
   have hb:=lenR_bd (nk:=G.nk) (f:=f) (G.prods.getD i pd0).right 0 (Int.le_refl _) (by omega)
   refine ⟨hs.1,hb.2,?_⟩
   rw [e]
   refine .mk _ (mem_getP hi) f (fun x hx hk => ?_) hs.1
   have:=lenR_all (nk:=G.nk) (f:=f) (G.prods.getD i pd0).right 0 (Int.le_refl _) hs.1 x hx hk
   rcases h (x - G.nk).toNat with h1 | h1
   · omega
   · exact h1.2.2
 · rw [if_neg e]; exact h r
/-! ### What the loop counts down -/
def wt (v:Int):Nat:=if v < 0 then 65538 else v.toNat
def cntI (f:Nat → Int):Nat → Nat
 | 0 => 0
 | n + 1 => cntI f n + wt (f n)
theorem cntI_congr {f g:Nat → Int}:∀ n,(∀ i,i < n → f i = g i) → cntI f n = cntI g n
 | 0,_ => rfl
 | n + 1,h => by unfold cntI; rw [cntI_congr n (fun i hi => h i (by omega)),h n (by omega)]
theorem cntI_upd {f:Nat → Int} {i:Nat} {v:Int} (h0:0 ≤ v) (h1:v ≤ 65537) (h:f i < 0 ∨ v < f i):∀ n,i < n → cntI (updI f i v) n < cntI f n
 | 0,hi => by omega
 | n + 1, hi => by
   unfold cntI
   by_cases e:i = n
   · subst e
     have:cntI (updI f i v) i = cntI f i:=cntI_congr i (fun j hj => by unfold updI; rw [if_neg (by omega)])
     have h2:updI f i v i = v:=by simp [updI]
     rw [this,h2]
     unfold wt
     rw [if_neg (by omega)]
     split <;> omega
   · have:=cntI_upd h0 h1 h n (by omega)
     have h2:updI f i v n = f n:=by unfold updI; rw [if_neg (fun h => e h.symm)]
     rw [h2]; omega
/-- .. read of a row in memory. -/
def numW (w:World) (b:Nat):Nat → Int:=fun r => match w.cell? ⟨b,r,none⟩ with | some v => intOf v | none => 0
theorem numW_is {w:World} {b t n:Nat} {f:Nat → Int} (h:w.rowIs b t n (fun r => .int .i64 (f r))) (r:Nat) (hr:r < n):numW w b r = f r:=by
 unfold numW
 have:=h.cell hr
 rw [this]
 rfl
theorem cntIW_is {w:World} {b t n:Nat} {f:Nat → Int} (h:w.rowIs b t n (fun r => .int .i64 (f r))):cntI (numW w b) n = cntI f n:=cntI_congr n (fun r hr => numW_is h r hr)
theorem rowIs_updI {w:World} {b t n:Nat} {f:Nat → Int} (h:w.rowIs b t n (fun r => .int .i64 (f r))) (i:Nat) (v:Int):(w.setCell ⟨b,i,none⟩ (.int .i64 v)).rowIs b t n (fun r => .int .i64 (updI f i v r)) :=
 (h.set i (.int .i64 v)).congr (fun j _ => by unfold updI; split <;> rfl)
end Go.Proofs.YtagohbpbgjelaaaGreatDoor

/- The document's whole. -/
namespace Go.Proofs.YtagohbpbgjelaaaGreatDoor
open Go.RowKit

/-- Have all rules of a row a mark? -/
def wholeB (nk:Nat) (f:Nat → Bool) (row:List Int):Bool:=row.all fun x => decide (x < (nk:Int)) || f (x - nk).toNat
theorem wholeB_iff {nk:Nat} {f:Nat → Bool} {row:List Int}:wholeB nk f row = true ↔ ∀ x,x ∈ row → (nk:Int) ≤ x → f (x - nk).toNat = true:=by
 unfold wholeB
 rw [List.all_eq_true]
 constructor
 · intro h x hx hk
   have:=h x hx
   rw [Bool.or_eq_true,decide_eq_true_eq] at this
   rcases this with h | h
   · omega
   · exact h
 · intro h x hx
   rw [Bool.or_eq_true,decide_eq_true_eq]
   by_cases e:x < nk
   · exact .inl e
   · exact .inr (h x hx (by omega))
theorem wholeB_take {nk:Nat} {f:Nat → Bool} {row:List Int} {k:Nat} (h:k < row.length) (h1:wholeB nk f (row.take k) = true) (h3:(nk:Int) ≤ row.getD k 0 → f (row.getD k 0 - nk).toNat = true):wholeB nk f (row.take (k + 1)) = true:=by
 rw [wholeB_iff] at *
 rw [take_snoc row k 0 h]
 intro x hx
 rcases List.mem_append.1 hx with h | h
 · exact h1 x h
 · rw [List.mem_singleton] at h
   subst h
   exact h3
theorem wholeB_no {nk:Nat} {f:Nat → Bool} {row:List Int} {k:Nat} (h:k < row.length) (h1:(nk:Int) ≤ row.getD k 0) (h2:f (row.getD k 0 - nk).toNat = false):wholeB nk f row = false:=by
 rw [Bool.eq_false_iff]
 intro h'
 rw [wholeB_iff] at h'
 rw [h' _ (mem_getD h) h1] at h2
 cases h2

end Go.Proofs.YtagohbpbgjelaaaGreatDoor

/- The document's Nullable. -/
namespace Go.Proofs.YtagohbpbgjelaaaGreatDoor
open Go.RowKit

theorem info4:(Tryz.prog.info? 4).map (fun i => (i.zero,i.size,i.bytes)) = some (some (.bool false),1,1):=by kernel_rfl

end Go.Proofs.YtagohbpbgjelaaaGreatDoor

/- The document's ranked, Symbol. -/
namespace Go.Proofs.YtagohbpbgjelaaaGreatDoor
open Go.RowKit

/-- Cells from a block's first on hold these numbers. -/
def CellsI (w:World) (b n:Nat) (f:Nat → Int):Prop:=b < w.heap.size ∧ ∀ r,r < n → w.cell? ⟨b,r,none⟩ = some (.int .i64 (f r))
theorem cellsI_below {w w':World} {b n:Nat} {f:Nat → Int} (h:CellsI w b n f) (hb:Below w.heap.size w w'):CellsI w' b n f:=⟨Nat.lt_of_lt_of_le h.1 hb.size,fun r hr => (hb.cell (p:=⟨b,r,none⟩) h.1).trans (h.2 r hr)⟩

set_option maxHeartbeats 1000000 in
set_option maxRecDepth 100000 in
theorem rRanked_any (ka pa ra qa : Option Addr) (nk kc pn pc nr rc qn qc : Nat) (st : Int) (nb nc : Nat) (f : Nat → Int) (ro : Option Addr) (rowc : Nat) (row : List Int) (B : Nat) (w : World)
   (hB:B ≤ w.heap.size) (hnr:nr ≤ 2048) (hrl:row.length ≤ 281474976710656) (hrow:NRow B w ro row) (hs:symsIn (nk + nr) row) (hn:CellsI w nb nr f) :
   Calls Tryz.prog 113 #[.agg #[.slice ka nk kc,.slice pa pn pc,.slice ra nr rc,.slice qa qn qc,.int .i64 st],.slice (some ⟨nb,0,none⟩) nr nc,.slice ro row.length rowc] w fun e w' => e = .returned (.bool (wholeB nk (fun r => decide (0 ≤ f r)) row)) ∧ Below w.heap.size w w':=by
 have Hrow:=hide hrow; have Hs:=hide hs; have Hn:=hide hn
 clear hrow hs hn
 generalize hR:wholeB nk (fun r => decide (0 ≤ f r)) row = R
 have HR:=hide hR
 clear hR
 obtain ⟨g0,-,-,-,-,hw1,hb1⟩:=boxG w (.slice ka nk kc) (.slice pa pn pc) (.slice ra nr rc) (.slice qa qn qc) (.int .i64 st) 26
 have hnot:=run_not
 go_enter Tryz.func113,Tryz.ntmps113
 go_wp2
 generalize w.alloc (.cells #[.slice ka nk kc,.slice pa pn pc,.slice ra nr rc,.slice qa qn qc,.int .i64 st] 26) = w1 at *
 have Hg0:=hide g0; have Hb1:=hide hb1
 clear g0 hb1
 go_loopw [7] (fun x wr => ∃ k:Nat,x = .int .i64 k ∧ k ≤ row.length ∧ wholeB nk (fun r => decide (0 ≤ f r)) (row.take k) = true ∧ Below w1.heap.size w1 wr) (fun x _ => row.length - (intOf x).toNat)
 case atStart => exact ⟨0,rfl,Nat.zero_le _,rfl,Below.refl _ _⟩
 case round =>
   obtain ⟨k,rfl,hk,hem,hb⟩:=hrel
   have hb2:=(unhide Hb1).trans (below_le hb (by omega))
   have Hem:=hide hem; have Hb2:=hide hb2
   have g0:=(hb.cell (p:=⟨w.heap.size,0,none⟩) (by show w.heap.size < w1.heap.size; omega)).trans (unhide Hg0)
   have Hb:=hide hb
   clear hem hb hb2
   by_cases hlt:k < row.length
   · have hlt':(k:Int) < row.length:=by omega
     obtain ⟨b,off,rfl,hbB,hc⟩:=nrow_at (nrow_kept (below_le (unhide Hb2) hB) (unhide Hrow)) hlt
     have hr:=unhide Hs _ (mem_getD hlt)
     have Hlow:=hide (fun h1 h2 => (unhide HR).symm.trans (wholeB_no (f:=fun r => decide (0 ≤ f r)) (nk:=nk) hlt h1 h2))
     have Hup:=hide (fun h3 => wholeB_take (f:=fun r => decide (0 ≤ f r)) (nk:=nk) hlt (unhide Hem) h3)
     generalize row.getD k 0 = x at *
     by_cases hx:x < nk
     · have Hup2:=hide (unhide Hup (fun h => by omega))
       have hx2:decide ((nk:Int) ≤ x) = false:=by rw [decide_eq_false_iff_not]; omega
       go_wp2
       go_quiet (fail)
       go_wp2
       go_roundw
       case rel => exact ⟨k + 1,by go_num,by omega,unhide Hup2,below_drewN (unhide Hb) _⟩
       case measure => simp [intOf]; omega
     · obtain ⟨r,hxr⟩:∃ r:Nat,x - (nk:Int) = r:=⟨(x - nk).toNat,by omega⟩
       have hrr:r < nr:=by omega
       have hrr':(r:Int) < nr:=by omega
       have hwr:=wN r (by omega)
       rw [hxr,Int.toNat_natCast] at Hlow Hup
       have cn:wr.cell? ⟨nb,r,none⟩ = some (.int .i64 (f r)):=((unhide Hb2).cell (p:=⟨nb,r,none⟩) (unhide Hn).1).trans ((unhide Hn).2 _ hrr)
       generalize hz:f r = z at *
       by_cases hz0:z < 0
       · have hnr2:decide (0 ≤ z) = false:=by rw [decide_eq_false_iff_not]; omega
         have Hlow2:=hide (unhide Hlow (by omega) hnr2)
         clear hnr2 hz
         go_wp2
         go_quiet (fail)
         go_wp2
         go_ret
         rw [unhide Hlow2]
         exact ⟨rfl,below_drewN (unhide Hb2) _⟩
       · have hnr2:decide (0 ≤ z) = true:=by rw [decide_eq_true_eq]; omega
         have Hup2:=hide (unhide Hup (fun _ => hnr2))
         clear hnr2 hz
         go_wp2
         go_quiet (fail)
         go_wp2
         go_roundw
         case rel => exact ⟨k + 1,by go_num,by omega,unhide Hup2,below_drewN (unhide Hb) _⟩
         case measure => simp [intOf]; omega
   · obtain rfl:k = row.length:=by omega
     go_wp2
     go_ret
     rw [List.take_length] at Hem
     rw [← unhide HR,unhide Hem]
     exact ⟨rfl,unhide Hb2⟩

end Go.Proofs.YtagohbpbgjelaaaGreatDoor

/- The document's names, levels. -/
namespace Go.Proofs.YtagohbpbgjelaaaGreatDoor
open Go.RowKit

def longTo (ns:List (List UInt8)) (k:Nat):Prop:=∀ j,j < k → 1 ≤ (ns.getD j []).length ∧ (ns.getD j []).length ≤ 4096
instance (ns:List (List UInt8)) (k:Nat):Decidable (longTo ns k):=by unfold longTo; infer_instance
def namesB (ns:List (List UInt8)):Bool:=decide (1 ≤ ns.length ∧ ns.length ≤ 2048 ∧ longTo ns ns.length ∧ ns.Nodup)
theorem names_no {ns:List (List UInt8)} (h:¬ (1 ≤ ns.length ∧ ns.length ≤ 2048 ∧ longTo ns ns.length ∧ ns.Nodup)):namesB ns = false:=decide_eq_false h

set_option maxHeartbeats 4000000 in
set_option maxRecDepth 100000 in
theorem rNames_any (a : Option Addr) (cap : Nat) (ns : List (List UInt8)) (B : Nat) (w : World) (hB : B ≤ w.heap.size) (hrow : SRow B w a ns) :
   Calls Tryz.prog 53 #[.slice a ns.length cap] w fun e w' => e = .returned (.bool (namesB ns)) ∧ Below w.heap.size w w':=by
 by_cases h0:ns.length < 1
 · rw [show namesB ns = false from names_no (by omega)]
   have h0':(ns.length:Int) < 1:=by omega
   go_enter Tryz.func53,Tryz.ntmps53
   go_wp2
   go_ret
   exact ⟨rfl,Below.refl _ _⟩
 have h0':¬ (ns.length:Int) < 1:=by omega
 by_cases h1:2048 < ns.length
 · rw [show namesB ns = false from names_no (by omega)]
   have h1':(2048:Int) < ns.length:=by omega
   go_enter Tryz.func53,Tryz.ntmps53
   go_wp2
   go_ret
   exact ⟨rfl,Below.refl _ _⟩
 have h1':¬ (2048:Int) < ns.length:=by omega
 obtain ⟨b,off,rfl,hb,hc⟩:=srow_all hrow hB (k:=0) (by omega)
 have Hyes:Hid (longTo ns ns.length ∧ distTo ns ns.length → namesB ns = true):=hide fun h => decide_eq_true ⟨by omega,by omega,h.1,dist_nodup h.2⟩
 have Hno:Hid (¬ (longTo ns ns.length ∧ distTo ns ns.length) → namesB ns = false):=hide fun h => names_no (fun k => h ⟨k.2.2.1,nodup_dist k.2.2.2⟩)
 have Hc:=hide hc
 generalize namesB ns = R at *
 clear hrow hc
 go_enter Tryz.func53,Tryz.ntmps53
 go_wp2
 go_loopw [3] (fun x wr => ∃ k:Nat,x = .int .i64 k ∧ k ≤ ns.length ∧ longTo ns k ∧ distTo ns k ∧ Below w.heap.size w wr) (fun x _ => ns.length - (intOf x).toNat)
 case atStart => exact ⟨0,rfl,Nat.zero_le _,(fun i hi => absurd hi (Nat.not_lt_zero _)),(fun i hi => absurd hi (Nat.not_lt_zero _)),Below.refl _ _⟩
 case round =>
   obtain ⟨k,rfl,hk,hgood,hdist,hbel⟩:=hrel
   have Hg:=hide hgood; have Hd:=hide hdist; have Hbel:=hide hbel
   clear hgood hdist hbel
   by_cases hlt:k < ns.length
   · have hlt' : (k : Int) < ns.length := by omega
     have ck:=((unhide Hbel).cell (p:=⟨b,off + k,none⟩) hb).trans (unhide Hc k hlt)
     have hsz:((bs (ns.getD k [])).size:Int) = ((ns.getD k []).length:Int):=rfl
     by_cases hn:1 ≤ (ns.getD k []).length ∧ (ns.getD k []).length ≤ 4096
     · have Hg':Hid (longTo ns (k + 1)):=hide (by
         intro i hi
         by_cases e:i = k
         · subst e; exact hn
         · exact unhide Hg i (by omega))
       have hs1:¬ ((bs (ns.getD k [])).size:Int) < 1:=by rw [hsz]; omega
       have hs2:¬ (4096:Int) < (bs (ns.getD k [])).size:=by rw [hsz]; omega
       clear hn hsz
       generalize bs (ns.getD k []) = s at *
       go_wp2
       go_loopw [4] (fun y W => ∃ i:Nat,y = .int .i64 i ∧ i ≤ k ∧ apartTo ns k i ∧ Below w.heap.size w W) (fun y _ => k - (intOf y).toNat)
       case atStart => exact ⟨0,rfl,Nat.zero_le _,(fun i hi => absurd hi (Nat.not_lt_zero _)),unhide Hbel⟩
       case round =>
         obtain ⟨i,rfl,hi,hap,hbel2⟩:=hrel
         have Hap:=hide hap; have Hb2:=hide hbel2
         clear hap hbel2 ck
         by_cases hil:i < k
         · have hil':(i:Int) < k:=by omega
           have hin:(i:Int) < ns.length:=by omega
           have ck:=((unhide Hb2).cell (p:=⟨b,off + k,none⟩) hb).trans (unhide Hc k hlt)
           have ci:=((unhide Hb2).cell (p:=⟨b,off + i,none⟩) hb).trans (unhide Hc i (by omega))
           by_cases he:ns.getD i [] = ns.getD k []
           · have Hr:Hid (R = false):=hide (unhide Hno (fun h => h.2 k hlt i hil he))
             rw [he] at ci
             clear he
             generalize bs (ns.getD k []) = s2 at *
             go_wp2
             go_quiet (fail)
             go_wp2
             go_ret
             rw [unhide Hr]
             exact ⟨rfl,below_drewN (unhide Hb2) _⟩
           · have Ha':Hid (apartTo ns k (i + 1)):=hide (by
               intro j hj
               by_cases e:j = i
               · subst e; exact he
               · exact unhide Hap j (by omega))
             have hne:=bs_ne he
             clear he
             generalize bs (ns.getD k []) = s2 at *
             generalize bs (ns.getD i []) = s3 at *
             go_wp2
             go_quiet (fail)
             go_wp2
             go_roundw
             case rel => exact ⟨i + 1,by go_num,by omega,unhide Ha',below_drewN (unhide Hb2) _⟩
             case measure => simp [intOf]; omega
         · obtain rfl:i = k:=by omega
           have Hd':Hid (distTo ns (i + 1)):=hide (by
             intro j hj
             by_cases e:j = i
             · subst e; exact unhide Hap
             · exact unhide Hd j (by omega))
           go_wp2
           go_roundw
           case rel => exact ⟨i + 1,by go_num,by omega,unhide Hg',unhide Hd',unhide Hb2⟩
           case measure => simp [intOf]; omega
     · have Hr:Hid (R = false):=hide (unhide Hno (fun h => hn (h.1 k hlt)))
       by_cases hn1:(ns.getD k []).length < 1
       · have hs1:((bs (ns.getD k [])).size:Int) < 1:=by rw [hsz]; omega
         clear hn hsz hn1
         generalize bs (ns.getD k []) = s at *
         go_wp2
         go_ret
         rw [unhide Hr]
         exact ⟨rfl,unhide Hbel⟩
       · have hs1:¬ ((bs (ns.getD k [])).size:Int) < 1:=by rw [hsz]; omega
         have hs2:(4096:Int) < (bs (ns.getD k [])).size:=by rw [hsz]; omega
         clear hn hsz hn1
         generalize bs (ns.getD k []) = s at *
         go_wp2
         go_ret
         rw [unhide Hr]
         exact ⟨rfl,unhide Hbel⟩
   · obtain rfl:k = ns.length:=by omega
     have Hr:Hid (R = true):=hide (unhide Hyes ⟨unhide Hg,unhide Hd⟩)
     go_wp2
     go_ret
     rw [unhide Hr]
     exact ⟨rfl,unhide Hbel⟩

def lvlB (i:Nat) (p:Int × Int):Bool:=decide ((p.1 = 0 ∧ p.2 = 0) ∨ (1 ≤ p.1 ∧ 1 ≤ p.2 ∧ p.2 ≤ 3 ∧ 2 ≤ i))
def lvlTo (l:List (Int × Int)) (k:Nat):Prop:=∀ i,i < k → lvlB i (l.getD i (0,0)) = true
instance (l:List (Int × Int)) (k:Nat):Decidable (lvlTo l k):=by unfold lvlTo; infer_instance
def levelsB (l:List (Int × Int)):Bool:=decide (lvlTo l l.length)

set_option maxHeartbeats 4000000 in
set_option maxRecDepth 100000 in
theorem rLevels_any (a : Option Addr) (cap : Nat) (l : List (Int × Int)) (hl : l.length ≤ 281474976710656) (B : Nat) (w : World) (hB : B ≤ w.heap.size) (hrow : LRow B w a l) :
   Calls Tryz.prog 52 #[.slice a l.length cap] w fun e w' => e = .returned (.bool (levelsB l)) ∧ Below w.heap.size w w':=by
 have Hyes:Hid (lvlTo l l.length → levelsB l = true):=hide fun h => decide_eq_true h
 have Hno:Hid (¬ lvlTo l l.length → levelsB l = false):=hide fun h => decide_eq_false h
 generalize levelsB l = R at *
 have Hrow:=hide hrow
 clear hrow
 have hnot:=run_not
 go_enter Tryz.func52,Tryz.ntmps52
 go_wp2
 go_loopw [3] (fun x wr => ∃ k:Nat,x = .int .i64 k ∧ k ≤ l.length ∧ lvlTo l k ∧ Below w.heap.size w wr) (fun x _ => l.length - (intOf x).toNat)
 case atStart => exact ⟨0,rfl,Nat.zero_le _,(fun i hi => absurd hi (Nat.not_lt_zero _)),Below.refl _ _⟩
 case round =>
   obtain ⟨k,rfl,hk,hgood,hbel⟩:=hrel
   have Hg:=hide hgood; have Hbel:=hide hbel
   clear hgood hbel
   by_cases hlt:k < l.length
   · have hlt' : (k : Int) < l.length := by omega
     obtain ⟨b,off,rfl,hb,c0,c1⟩:=lrow_at (lrow_kept (below_le (unhide Hbel) hB) (unhide Hrow)) hlt
     have Hs:=hide (fun (h:lvlB k (l.getD k (0,0)) = true) => show lvlTo l (k + 1) from fun i hi => by
       by_cases e:i = k
       · subst e; exact h
       · exact unhide Hg i (by omega))
     have Hn:=hide (fun (h:lvlB k (l.getD k (0,0)) = false) => unhide Hno (fun hd => by rw [hd k hlt] at h; cases h))
     generalize l.getD k (0,0) = p at *
     obtain ⟨x,y⟩:=p
     simp only at c0 c1
     have Hs2:=hide (fun (h:(x = 0 ∧ y = 0) ∨ (1 ≤ x ∧ 1 ≤ y ∧ y ≤ 3 ∧ 2 ≤ k)) => unhide Hs (decide_eq_true h))
     have Hn2:=hide (fun (h:¬ ((x = 0 ∧ y = 0) ∨ (1 ≤ x ∧ 1 ≤ y ∧ y ≤ 3 ∧ 2 ≤ k))) => unhide Hn (decide_eq_false h))
     clear Hs Hn
     go_wp2
     all_goals first
       | (go_ret; rw [unhide Hn2 (by first | omega | (simp at *; omega))]; exact ⟨rfl,unhide Hbel⟩)
       | (go_roundw
          case rel => exact ⟨k + 1,by go_num,by omega,unhide Hs2 (by first | omega | (simp at *; omega)),unhide Hbel⟩
          case measure => simp [intOf]; omega)
   · obtain rfl:k = l.length:=by omega
     have Hr:Hid (R = true):=hide (unhide Hyes (unhide Hg))
     go_wp2
     go_ret
     rw [unhide Hr]
     exact ⟨rfl,unhide Hbel⟩
end Go.Proofs.YtagohbpbgjelaaaGreatDoor

/- The document's parts. -/
namespace Go.Proofs.YtagohbpbgjelaaaGreatDoor
open Go.RowKit

/-- May an action be, its kids aside? -/
def okA (k p:Int) (n:List UInt8) (m:Nat) (sy:Int):Prop:=(k = 0 ∧ p = 0 ∧ n = [] ∧ m = 0) ∨ (k = 1 ∧ 0 ≤ p ∧ p < sy ∧ n = [] ∧ m = 0) ∨ (k = 3 ∧ n.length ≤ 4096 ∧ p = 0 ∧ m = 0) ∨ (k = 2 ∧ 1 ≤ n.length ∧ n.length ≤ 32 ∧ p = 0)
instance (k p:Int) (n:List UInt8) (m:Nat) (sy:Int):Decidable (okA k p n m sy):=by unfold okA; infer_instance
mutual
/-- How many parts are left. -/
def partsA:Ac → Int → Int → Int
 | .mk k p n ks,sy,left => if left - 1 < 0 then -1 else if okA k p n ks.length sy then partsL ks sy (left - 1) else -1
def partsL:List Ac → Int → Int → Int
 | [],_,l => l
 | t :: ts,sy,l => if l < 0 then l else partsL ts sy (partsA t sy l)
end
mutual
theorem parts_bd:∀ (t:Ac) (sy l:Int),0 ≤ l → -1 ≤ partsA t sy l ∧ partsA t sy l ≤ l - 1
 | .mk k p n ks, sy, l, h => by
   unfold partsA
   split
   · omega
   · split
     · exact partsL_bd ks sy (l - 1) (by omega)
     · omega
theorem partsL_bd:∀ (ts:List Ac) (sy l:Int),-1 ≤ l → -1 ≤ partsL ts sy l ∧ partsL ts sy l ≤ l
 | [],sy,l,h => by unfold partsL; omega
 | t :: ts, sy, l, h => by
   unfold partsL
   split
   · omega
   · have h1:=parts_bd t sy l (by omega)
     have h2:=partsL_bd ts sy (partsA t sy l) h1.1
     omega
end
theorem partsL_neg (ts:List Ac) (sy l:Int) (h:l < 0):partsL ts sy l = l:=by
 cases ts with
 | nil => rfl
 | cons t ts => unfold partsL; rw [if_pos h]
theorem dropA {ks:List Ac} {i:Nat} (hi:i < ks.length):ks.drop i = ks.getD i ac0 :: ks.drop (i + 1):=by
 rw [List.drop_eq_getElem_cons hi,List.getD_eq_getElem?_getD,List.getElem?_eq_getElem hi]
 rfl
theorem acTs_get {B:Nat} {w:World}:∀ (ts:List Ac) (vs:List Value),AcTs B w ts vs → ∀ i,i < ts.length → ∃ u0 u1 u2 u3,vs[i * 4]? = some u0 ∧ vs[i * 4 + 1]? = some u1 ∧ vs[i * 4 + 2]? = some u2 ∧ vs[i * 4 + 3]? = some u3 ∧ AcAt B w (ts.getD i ac0) u0 u1 u2 u3
 | [],_,_,i,hi => by simp at hi
 | t :: ts, vs, h, i, hi => by
   unfold AcTs at h
   obtain ⟨u0,u1,u2,u3,rest,rfl,h1,h2⟩:=h
   cases i with
   | zero => exact ⟨u0,u1,u2,u3,rfl,rfl,rfl,rfl,h1⟩
   | succ i =>
     obtain ⟨x0,x1,x2,x3,e0,e1,e2,e3,hx⟩:=acTs_get ts rest h2 i (by simpa using hi)
     exact ⟨x0,x1,x2,x3,by rw [show (i + 1) * 4 = i * 4 + 1 + 1 + 1 + 1 by omega]; exact e0,by rw [show (i + 1) * 4 + 1 = i * 4 + 1 + 1 + 1 + 1 + 1 by omega]; exact e1,by rw [show (i + 1) * 4 + 2 = i * 4 + 2 + 1 + 1 + 1 + 1 by omega]; exact e2,by rw [show (i + 1) * 4 + 3 = i * 4 + 3 + 1 + 1 + 1 + 1 by omega]; exact e3,hx⟩
theorem boxA (w:World) (v0 v1 v2 v3:Value) (t:TypeId):(w.alloc (.cells #[v0,v1,v2,v3] t)).cell? ⟨w.heap.size,3,none⟩ = some v3 ∧ (w.alloc (.cells #[v0,v1,v2,v3] t)).heap.size = w.heap.size + 1 ∧ Below w.heap.size w (w.alloc (.cells #[v0,v1,v2,v3] t)):=by
 refine ⟨?_,by simp,(Below.refl _ _).alloc (Nat.le_refl _) _⟩
 unfold World.cell?; rw [Go.Deep.blk_alloc_new]; rfl
theorem bs_nil:((bs []).toList == []) = true:=by rw [bs_toList]; rfl
theorem bs_cons {n:List UInt8} (h:n ≠ []):((bs n).toList == []) = false:=by rw [bs_toList,beq_eq_false_iff_ne]; exact h

set_option maxHeartbeats 4000000 in
set_option maxRecDepth 100000 in
theorem rParts_any (B : Nat) (sy : Int) (N : Nat) : N ≤ 256 → ∀ (t : Ac) (left : Int) (w : World) (v0 v1 v2 v3 : Value), B ≤ w.heap.size → AcAt B w t v0 v1 v2 v3 → 0 ≤ left → left ≤ N →
   Calls Tryz.prog 97 #[.agg #[v0,v1,v2,v3],.int .i64 sy,.int .i64 left] w fun e w' => e = .returned (.int .i64 (partsA t sy left)) ∧ Below w.heap.size w w':=by
 induction N with
 | zero =>
   rintro - ⟨k,p,n,ks⟩ left w v0 v1 v2 v3 hB hA h0 h1
   unfold AcAt at hA
   obtain ⟨rfl,rfl,rfl,ka,kc,vs,rfl,-,-⟩:=hA
   obtain rfl:left = 0:=by omega
   have HX:Hid (partsA (.mk k p n ks) sy 0 = -1):=hide (by unfold partsA; rfl)
   go_enter Tryz.func97,Tryz.ntmps97
   go_wp2
   go_ret
   rw [unhide HX]
   exact ⟨rfl,(Below.refl _ _).alloc (Nat.le_refl _) _⟩
 | succ N ih =>
   rintro hN ⟨k,p,n,ks⟩ left w v0 v1 v2 v3 hB hA h0 h1
   have ih:=ih (by omega)
   unfold AcAt at hA
   obtain ⟨rfl,rfl,rfl,ka,kc,vs,rfl,hts,hkc⟩:=hA
   by_cases hl:left - 1 < 0
   · obtain rfl:left = 0:=by omega
     have HX:Hid (partsA (.mk k p n ks) sy 0 = -1):=hide (by unfold partsA; rfl)
     go_enter Tryz.func97,Tryz.ntmps97
     go_wp2
     go_ret
     rw [unhide HX]
     exact ⟨rfl,(Below.refl _ _).alloc (Nat.le_refl _) _⟩
   obtain ⟨l1,hl1⟩:∃ l1:Int,left - 1 = l1:=⟨_,rfl⟩
   have hw1:IntKind.i64.wrap l1 = l1:=by rw [IntKind.wrap_i64]; omega
   have hl1n:¬ l1 < 0:=by omega
   have hl1N:l1 ≤ N:=by omega
   have hnot:=run_not
   obtain ⟨z3,hw3,hb1⟩:=boxA w (.int .i64 k) (.int .i64 p) (.string (bs n)) (.slice ka ks.length kc) 87
   have Hz3:=hide z3; have Hb1:=hide hb1
   have Hih:=hide ih; have Hts:=hide hts; have Hkc:=hide hkc
   have hszn:((bs n).size:Int) = (n.length:Int):=rfl
   clear ih hts hkc z3 hb1
   by_cases hok:okA k p n ks.length sy
   · have HX : Hid (partsL ks sy l1 = partsA (.mk k p n ks) sy left) := hide (by unfold partsA; rw [if_neg (by omega), if_pos hok, hl1])
     rcases hok with ⟨rfl,rfl,rfl,hm⟩ | ⟨rfl,hp0,hp1,rfl,hm⟩ | ⟨rfl,hn,rfl,hm⟩ | ⟨rfl,hn1,hn2,rfl⟩
     · obtain rfl:ks = []:=List.eq_nil_of_length_eq_zero hm
       simp only [List.length_nil] at Hz3 Hb1 hw3
       clear hm
       have hs:=bs_nil
       generalize bs [] = s at *
       clear hszn
       go_enter Tryz.func97,Tryz.ntmps97
       go_wp2
       go_loopw [2,8] (fun lv x W => lv = .int .i64 l1 ∧ x = .int .i64 0 ∧ Below w.heap.size w W ∧ W.cell? ⟨w.heap.size,3,none⟩ = some (.slice ka 0 kc)) (fun _ _ _ => 0)
       case atStart => exact ⟨rfl,rfl,unhide Hb1,unhide Hz3⟩
       case round =>
         obtain ⟨rfl,rfl,hb,z3⟩:=hrel
         go_wp2
         go_ret
         rw [← unhide HX]
         exact ⟨rfl,hb⟩
     · obtain rfl:ks = []:=List.eq_nil_of_length_eq_zero hm
       simp only [List.length_nil] at Hz3 Hb1 hw3
       clear hm
       have hs:=bs_nil
       generalize bs [] = s at *
       clear hszn
       have hp0':¬ p < 0:=by omega
       have hp1':¬ sy ≤ p:=by omega
       cases hpz:(p == 0)
       · go_enter Tryz.func97,Tryz.ntmps97
         go_wp2
         go_loopw [2,8] (fun lv x W => lv = .int .i64 l1 ∧ x = .int .i64 0 ∧ Below w.heap.size w W ∧ W.cell? ⟨w.heap.size,3,none⟩ = some (.slice ka 0 kc)) (fun _ _ _ => 0)
         case atStart => exact ⟨rfl,rfl,unhide Hb1,unhide Hz3⟩
         case round =>
           obtain ⟨rfl,rfl,hb,z3⟩:=hrel
           go_wp2
           go_ret
           rw [← unhide HX]
           exact ⟨rfl,hb⟩
       · obtain rfl:p = 0:=by simpa using hpz
         go_enter Tryz.func97,Tryz.ntmps97
         go_wp2
         go_loopw [2,8] (fun lv x W => lv = .int .i64 l1 ∧ x = .int .i64 0 ∧ Below w.heap.size w W ∧ W.cell? ⟨w.heap.size,3,none⟩ = some (.slice ka 0 kc)) (fun _ _ _ => 0)
         case atStart => exact ⟨rfl,rfl,unhide Hb1,unhide Hz3⟩
         case round =>
           obtain ⟨rfl,rfl,hb,z3⟩:=hrel
           go_wp2
           go_ret
           rw [← unhide HX]
           exact ⟨rfl,hb⟩
     · obtain rfl:ks = []:=List.eq_nil_of_length_eq_zero hm
       simp only [List.length_nil] at Hz3 Hb1 hw3
       clear hm
       have hn':¬ (4096:Int) < (bs n).size:=by rw [hszn]; omega
       by_cases hne:n = []
       · subst hne
         have hs:=bs_nil
         generalize bs [] = s at *
         clear hszn hn
         go_enter Tryz.func97,Tryz.ntmps97
         go_wp2
         go_loopw [2,8] (fun lv x W => lv = .int .i64 l1 ∧ x = .int .i64 0 ∧ Below w.heap.size w W ∧ W.cell? ⟨w.heap.size,3,none⟩ = some (.slice ka 0 kc)) (fun _ _ _ => 0)
         case atStart => exact ⟨rfl,rfl,unhide Hb1,unhide Hz3⟩
         case round =>
           obtain ⟨rfl,rfl,hb,z3⟩:=hrel
           go_wp2
           go_ret
           rw [← unhide HX]
           exact ⟨rfl,hb⟩
       · have hs:=bs_cons hne
         clear hne
         generalize bs n = s at *
         clear hszn hn
         go_enter Tryz.func97,Tryz.ntmps97
         go_wp2
         go_loopw [2,8] (fun lv x W => lv = .int .i64 l1 ∧ x = .int .i64 0 ∧ Below w.heap.size w W ∧ W.cell? ⟨w.heap.size,3,none⟩ = some (.slice ka 0 kc)) (fun _ _ _ => 0)
         case atStart => exact ⟨rfl,rfl,unhide Hb1,unhide Hz3⟩
         case round =>
           obtain ⟨rfl,rfl,hb,z3⟩:=hrel
           go_wp2
           go_ret
           rw [← unhide HX]
           exact ⟨rfl,hb⟩
     · have hn1':¬ ((bs n).size:Int) < 1:=by rw [hszn]; omega
       have hn2':¬ (32:Int) < (bs n).size:=by rw [hszn]; omega
       have hs:=bs_cons (n:=n) (fun h => by rw [h] at hn1; simp at hn1)
       generalize bs n = s at *
       clear hszn
       go_enter Tryz.func97,Tryz.ntmps97
       go_wp2
       generalize w.alloc (.cells #[.int .i64 2,.int .i64 0,.string s,.slice ka ks.length kc] 87) = w1 at *
       go_loopw [2,8] (fun lv x W => ∃ (i:Nat) (q:Int),lv = .int .i64 q ∧ x = .int .i64 i ∧ i ≤ ks.length ∧ -1 ≤ q ∧ q ≤ l1 ∧ (i:Int) + q ≤ l1 ∧ partsL (ks.drop i) sy q = partsL ks sy l1 ∧ Below w1.heap.size w1 W) (fun _ x _ => ks.length - (intOf x).toNat)
       case atStart => exact ⟨0,l1,rfl,rfl,Nat.zero_le _,by omega,Int.le_refl _,by omega,rfl,Below.refl _ _⟩
       case round =>
         obtain ⟨i,q,rfl,rfl,hi,hq0,hq1,hq2,hrl,hb⟩:=hrel
         have z3:=(hb.cell (p:=⟨w.heap.size,3,none⟩) (by show w.heap.size < w1.heap.size; omega)).trans (unhide Hz3)
         have hb2:=(unhide Hb1).trans (below_le hb (by omega))
         have Hb:=hide hb; have Hb2:=hide hb2; have Hrl:=hide hrl
         clear hb hb2 hrl
         by_cases hlt:i < ks.length
         · have hlt':(i:Int) < ks.length:=by omega
           by_cases hneg:q < 0
           · have hnd:decide (0 ≤ q) = false:=by rw [decide_eq_false_iff_not]; omega
             have Hr:Hid (q = partsL ks sy l1):=hide (by rw [← unhide Hrl]; exact (partsL_neg _ _ _ hneg).symm)
             go_wp2
             go_ret
             rw [← unhide HX,← unhide Hr]
             exact ⟨rfl,unhide Hb2⟩
           · have hnd:decide (0 ≤ q) = true:=by rw [decide_eq_true_eq]; omega
             obtain ⟨u0,u1,u2,u3,e0,e1,e2,e3,hu⟩:=acTs_get ks vs (unhide Hts) i hlt
             rcases unhide Hkc with h | ⟨b,off,rfl,hbB,hcs⟩
             · rw [h] at hlt; simp at hlt
             have hbW:=(unhide Hb2)
             have c0:=(hbW.cell (p:=⟨b,off + i * 4,none⟩) (by show b < w.heap.size; omega)).trans (hcs _ _ e0)
             have c1:=(hbW.cell (p:=⟨b,off + i * 4 + 1,none⟩) (by show b < w.heap.size; omega)).trans (hcs _ _ e1)
             have c2:=(hbW.cell (p:=⟨b,off + i * 4 + 2,none⟩) (by show b < w.heap.size; omega)).trans (hcs _ _ e2)
             have c3:=(hbW.cell (p:=⟨b,off + i * 4 + 3,none⟩) (by show b < w.heap.size; omega)).trans (hcs _ _ e3)
             have hu2:=acAt_kept (below_le hbW hB) _ _ _ _ _ hu
             obtain ⟨y0,y1,y2,y3,m3,d3,rfl,rfl,rfl,rfl⟩:=acAt_form hu2
             have hszW:=(unhide Hb2).size
             have HC:=hide (unhide Hih (ks.getD i ac0) q wr _ _ _ _ (by omega) hu2 (by omega) (by omega))
             have hbd:=parts_bd (ks.getD i ac0) sy q (by omega)
             rw [dropA hlt,partsL,if_neg hneg] at Hrl
             generalize partsA (ks.getD i ac0) sy q = q2 at *
             clear hu hu2 hbW e0 e1 e2 e3 hcs
             go_wp2_with fail
             refine (unhide HC).mono ?_
             rintro e3 w3 ⟨rfl,hb3⟩
             have Hb3:=hide ((unhide Hb).trans (below_le hb3 (unhide Hb).size))
             clear hb3
             go_wp2
             go_roundw
             case rel => exact ⟨i + 1,q2,rfl,by go_num,by omega,hbd.1,by omega,by omega,unhide Hrl,unhide Hb3⟩
             case measure => simp [intOf]; omega
         · obtain rfl:i = ks.length:=by omega
           have Hr:Hid (q = partsL ks sy l1):=hide (by rw [← unhide Hrl,List.drop_length]; rfl)
           go_wp2
           go_ret
           rw [← unhide HX,← unhide Hr]
           exact ⟨rfl,unhide Hb2⟩
   · have HX:Hid (partsA (.mk k p n ks) sy left = -1):=hide (by unfold partsA; rw [if_neg (by omega),if_neg hok])
     generalize partsA (.mk k p n ks) sy left = R at *
     have hsz:=hszn
     have Hok:Hid (∀ m:Nat,(bs n).size = m → ¬ okA k p n ks.length sy):=hide (fun _ _ => hok)
     have Hb2:=hide ((Below.refl w.heap.size w).alloc (Nat.le_refl _) (.cells #[.int .i64 k,.int .i64 p,.string (bs n),.slice ka ks.length kc] 87))
     have Hne:Hid (((bs n).toList == []) = true ↔ n = []):=hide (by rw [bs_toList]; simp)
     have hex:(k = 0 ∧ ¬ (p = 0 ∧ n = [] ∧ ks.length = 0)) ∨ (k = 1 ∧ ¬ (0 ≤ p ∧ p < sy ∧ n = [] ∧ ks.length = 0)) ∨ (k = 3 ∧ ¬ (n.length ≤ 4096 ∧ p = 0 ∧ ks.length = 0)) ∨ (k = 2 ∧ ¬ (1 ≤ n.length ∧ n.length ≤ 32 ∧ p = 0)) ∨ (k ≠ 0 ∧ k ≠ 1 ∧ k ≠ 2 ∧ k ≠ 3):=by
       unfold okA at hok
       by_cases h0:k = 0
       · subst h0; left; exact ⟨rfl,fun h => hok (.inl ⟨rfl,h⟩)⟩
       by_cases h1:k = 1
       · subst h1; right; left; exact ⟨rfl,fun h => hok (.inr (.inl ⟨rfl,h⟩))⟩
       by_cases h3:k = 3
       · subst h3; right; right; left; exact ⟨rfl,fun h => hok (.inr (.inr (.inl ⟨rfl,h⟩)))⟩
       by_cases h2:k = 2
       · subst h2; right; right; right; left; exact ⟨rfl,fun h => hok (.inr (.inr (.inr ⟨rfl,h⟩)))⟩
       exact .inr (.inr (.inr (.inr ⟨h0,h1,h2,h3⟩)))
     clear hok Hok Hz3 Hb1 hw3 hl1N Hih Hts Hkc
     have hln:(n.length = 0) ↔ n = []:=List.length_eq_zero_iff
     rcases hex with ⟨rfl,hx⟩ | ⟨rfl,hx⟩ | ⟨rfl,hx⟩ | ⟨rfl,hx⟩ | ⟨hk0,hk1,hk2,hk3⟩
     · cases hs:((bs n).toList == [])
       · have hne:¬ n = []:=fun h => by rw [(unhide Hne).2 h] at hs; cases hs
         have Hx:Hid (True):=hide (trivial)
         clear hx Hne hln hne hszn hsz
         generalize ks.length = m at *
         generalize bs n = s at *
         go_enter Tryz.func97,Tryz.ntmps97
         go_wp2
         all_goals first
           | (go_ret; rw [unhide HX]; exact ⟨rfl,(Below.refl _ _).alloc (Nat.le_refl _) _⟩)
           | (exfalso; have h1:=unhide Hx; first | omega | (simp at *; omega))
       · have hne:n = []:=(unhide Hne).1 hs
         have Hx:Hid (¬ (p = 0 ∧ ks.length = 0)):=hide (fun h => hx ⟨h.1,hne,h.2⟩)
         clear hx Hne hln hne hszn hsz
         generalize ks.length = m at *
         generalize bs n = s at *
         go_enter Tryz.func97,Tryz.ntmps97
         go_wp2
         all_goals first
           | (go_ret; rw [unhide HX]; exact ⟨rfl,(Below.refl _ _).alloc (Nat.le_refl _) _⟩)
           | (exfalso; have h1:=unhide Hx; first | omega | (simp at *; omega))
     · cases hs:((bs n).toList == [])
       · have hne:¬ n = []:=fun h => by rw [(unhide Hne).2 h] at hs; cases hs
         have Hx:Hid (True):=hide (trivial)
         clear hx Hne hln hne hszn hsz
         generalize ks.length = m at *
         generalize bs n = s at *
         go_enter Tryz.func97,Tryz.ntmps97
         go_wp2
         all_goals first
           | (go_ret; rw [unhide HX]; exact ⟨rfl,(Below.refl _ _).alloc (Nat.le_refl _) _⟩)
           | (exfalso; have h1:=unhide Hx; first | omega | (simp at *; omega))
       · have hne:n = []:=(unhide Hne).1 hs
         have Hx:Hid (¬ (0 ≤ p ∧ p < sy ∧ ks.length = 0)):=hide (fun h => hx ⟨h.1,h.2.1,hne,h.2.2⟩)
         clear hx Hne hln hne hszn hsz
         generalize ks.length = m at *
         generalize bs n = s at *
         go_enter Tryz.func97,Tryz.ntmps97
         go_wp2
         all_goals first
           | (go_ret; rw [unhide HX]; exact ⟨rfl,(Below.refl _ _).alloc (Nat.le_refl _) _⟩)
           | (exfalso; have h1:=unhide Hx; first | omega | (simp at *; omega))
     · cases hs:((bs n).toList == [])
       · have hne:¬ n = []:=fun h => by rw [(unhide Hne).2 h] at hs; cases hs
         have Hx:Hid (¬ ((bs n).size ≤ 4096 ∧ p = 0 ∧ ks.length = 0)):=hide (hx)
         clear hx Hne hln hne hszn hsz
         generalize ks.length = m at *
         generalize bs n = s at *
         go_enter Tryz.func97,Tryz.ntmps97
         go_wp2
         all_goals first
           | (go_ret; rw [unhide HX]; exact ⟨rfl,(Below.refl _ _).alloc (Nat.le_refl _) _⟩)
           | (exfalso; have h1:=unhide Hx; first | omega | (simp at *; omega))
       · have hne:n = []:=(unhide Hne).1 hs
         have Hx:Hid (¬ ((bs n).size ≤ 4096 ∧ p = 0 ∧ ks.length = 0)):=hide (hx)
         clear hx Hne hln hne hszn hsz
         generalize ks.length = m at *
         generalize bs n = s at *
         go_enter Tryz.func97,Tryz.ntmps97
         go_wp2
         all_goals first
           | (go_ret; rw [unhide HX]; exact ⟨rfl,(Below.refl _ _).alloc (Nat.le_refl _) _⟩)
           | (exfalso; have h1:=unhide Hx; first | omega | (simp at *; omega))
     · cases hs:((bs n).toList == [])
       · have hne:¬ n = []:=fun h => by rw [(unhide Hne).2 h] at hs; cases hs
         have Hx:Hid (¬ (1 ≤ (bs n).size ∧ (bs n).size ≤ 32 ∧ p = 0)):=hide (hx)
         clear hx Hne hln hne hszn hsz
         generalize ks.length = m at *
         generalize bs n = s at *
         go_enter Tryz.func97,Tryz.ntmps97
         go_wp2
         all_goals first
           | (go_ret; rw [unhide HX]; exact ⟨rfl,(Below.refl _ _).alloc (Nat.le_refl _) _⟩)
           | (exfalso; have h1:=unhide Hx; first | omega | (simp at *; omega))
       · have hne:n = []:=(unhide Hne).1 hs
         have Hx:Hid (¬ (1 ≤ (bs n).size ∧ (bs n).size ≤ 32 ∧ p = 0)):=hide (hx)
         clear hx Hne hln hne hszn hsz
         generalize ks.length = m at *
         generalize bs n = s at *
         go_enter Tryz.func97,Tryz.ntmps97
         go_wp2
         all_goals first
           | (go_ret; rw [unhide HX]; exact ⟨rfl,(Below.refl _ _).alloc (Nat.le_refl _) _⟩)
           | (exfalso; have h1:=unhide Hx; first | omega | (simp at *; omega))
     · have e0:(k == 0) = false:=by rw [beq_eq_false_iff_ne]; exact hk0
       have e1:(k == 1) = false:=by rw [beq_eq_false_iff_ne]; exact hk1
       have e2:(k == 2) = false:=by rw [beq_eq_false_iff_ne]; exact hk2
       have e3:(k == 3) = false:=by rw [beq_eq_false_iff_ne]; exact hk3
       clear hk0 hk1 hk2 hk3 Hne hszn hsz hln
       generalize bs n = s at *
       go_enter Tryz.func97,Tryz.ntmps97
       go_wp2
       all_goals (go_ret; rw [unhide HX]; exact ⟨rfl,(Below.refl _ _).alloc (Nat.le_refl _) _⟩)
end Go.Proofs.YtagohbpbgjelaaaGreatDoor

/- Actions whose rows of kids are no longer than a machine bears. -/
namespace Go.Proofs.YtagohbpbgjelaaaGreatDoor
open Go.RowKit
mutual
def acShort:Ac → Prop
 | .mk _ _ _ ks => ks.length ≤ 281474976710656 ∧ acShortL ks
def acShortL:List Ac → Prop
 | [] => True
 | t :: ts => acShort t ∧ acShortL ts
end
theorem acShortL_of:∀ (ks:List Ac),(∀ t,t ∈ ks → acShort t) → acShortL ks
 | [],_ => by unfold acShortL; trivial
 | t :: ts, h => by
   unfold acShortL
   exact ⟨h t (by simp),acShortL_of ts (fun x hx => h x (List.mem_cons_of_mem _ hx))⟩
end Go.Proofs.YtagohbpbgjelaaaGreatDoor

/- The document's sameAct, where both are the same. -/
namespace Go.Proofs.YtagohbpbgjelaaaGreatDoor
open Go.RowKit

mutual
theorem acAt_upB {B B':Nat} {w:World} (hB:B ≤ B'):∀ (t:Ac) (v0 v1 v2 v3:Value),AcAt B w t v0 v1 v2 v3 → AcAt B' w t v0 v1 v2 v3
 | .mk k p n ks, v0, v1, v2, v3, h => by
   unfold AcAt at h ⊢
   obtain ⟨h0,h1,h2,a,c,vs,h3,hts,hc⟩:=h
   refine ⟨h0,h1,h2,a,c,vs,h3,acTs_upB hB ks vs hts,?_⟩
   rcases hc with h | ⟨b,off,h,hlt,hcs⟩
   · exact .inl h
   · exact .inr ⟨b,off,h,by omega,hcs⟩
theorem acTs_upB {B B':Nat} {w:World} (hB:B ≤ B'):∀ (ts:List Ac) (vs:List Value),AcTs B w ts vs → AcTs B' w ts vs
 | [],vs,h => by unfold AcTs at h ⊢; exact h
 | t :: ts, vs, h => by
   unfold AcTs at h ⊢
   obtain ⟨u0,u1,u2,u3,rest,rfl,h1,h2⟩:=h
   exact ⟨u0,u1,u2,u3,rest,rfl,acAt_upB hB t _ _ _ _ h1,acTs_upB hB ts rest h2⟩
end
end Go.Proofs.YtagohbpbgjelaaaGreatDoor

/- The code's precs, rules' numbers, symbols. -/
namespace Go.Proofs.YtagohbpbgjelaaaGreatDoor
open Go.RowKit

def precB (x y:Int):Bool:=decide ((y = 0 ∧ x = 0) ∨ (1 ≤ y ∧ y ≤ 3 ∧ 0 < x))
set_option maxRecDepth 100000 in
theorem prec_any (x y:Int) (w:World):Calls Tryz.prog 116 #[.agg #[.int .i64 x,.int .i64 y]] w fun e w' => e = .returned (.bool (precB x y)) ∧ Below w.heap.size w w':=by
 have Hb:=hide ((Below.refl w.heap.size w).alloc (Nat.le_refl _) (.cells #[.int .i64 x,.int .i64 y] 98))
 have hnot:=run_not
 go_enter Tryz.func116,Tryz.ntmps116
 go_wp2
 all_goals go_ret
 all_goals refine ⟨ret_bool ?_,unhide Hb⟩
 all_goals (unfold precB; rw [Bool.eq_iff_iff]; simp at *; omega)
theorem isRule_any (ka pa ra qa:Option Addr) (nk kc pn pc nr rc qn qc:Nat) (st x:Int) (w:World):Calls Tryz.prog 65 #[.agg #[.slice ka nk kc,.slice pa pn pc,.slice ra nr rc,.slice qa qn qc,.int .i64 st],.int .i64 x] w fun e w' => e = .returned (.bool (decide (0 ≤ x ∧ x < nr))) ∧ Below w.heap.size w w':=by
 have Hb:=hide ((Below.refl w.heap.size w).alloc (Nat.le_refl _) (.cells #[.slice ka nk kc,.slice pa pn pc,.slice ra nr rc,.slice qa qn qc,.int .i64 st] 26))
 have hnot:=run_not
 go_enter Tryz.func65,Tryz.ntmps65
 go_wp2
 all_goals go_ret
 all_goals refine ⟨ret_bool ?_,unhide Hb⟩
 all_goals (rw [Bool.eq_iff_iff]; simp at *; omega)
set_option maxHeartbeats 1000000 in
set_option maxRecDepth 100000 in
theorem precs_any (ka pa ra qa : Option Addr) (nk kc pc nr rc qn qc : Nat) (st : Int) (l : List (Int × Int)) (hnk : nk ≤ 281474976710656) (B : Nat) (w : World) (hB : B ≤ w.heap.size) (hrow : LRow B w pa l) :
   Calls Tryz.prog 73 #[.agg #[.slice ka nk kc,.slice pa l.length pc,.slice ra nr rc,.slice qa qn qc,.int .i64 st]] w fun e w' => e = .returned (.bool (decide (l.length = nk) && levelsB l)) ∧ Below w.heap.size w w':=by
 obtain ⟨g0,g1,g2,g3,g4,hs1,hb1⟩:=boxG w (.slice ka nk kc) (.slice pa l.length pc) (.slice ra nr rc) (.slice qa qn qc) (.int .i64 st) 26
 have hnot:=run_not
 by_cases hl:l.length = nk
 · subst hl
   have hne:((l.length:Int) != l.length) = false:=by simp
   have Hyes:Hid (lvlTo l l.length → levelsB l = true):=hide fun h => decide_eq_true h
   have Hno:Hid (¬ lvlTo l l.length → levelsB l = false):=hide fun h => decide_eq_false h
   have hR:(decide (l.length = l.length) && levelsB l) = levelsB l:=by simp
   rw [hR]
   clear hR
   generalize levelsB l = R at *
   have Hrow:=hide (lrow_kept (below_le hb1 hB) hrow)
   have Hb1:=hide hb1
   clear hrow hb1
   go_enter Tryz.func73,Tryz.ntmps73
   go_wp2
   generalize w.alloc (.cells #[.slice ka l.length kc,.slice pa l.length pc,.slice ra nr rc,.slice qa qn qc,.int .i64 st] 26) = w1 at *
   have hw1:w1.heap.size = w.heap.size + 1:=hs1
   go_loopw [15] (fun x wr => ∃ k:Nat,x = .int .i64 k ∧ k ≤ l.length ∧ lvlTo l k ∧ Below w1.heap.size w1 wr) (fun x _ => l.length - (intOf x).toNat)
   case atStart => exact ⟨0,rfl,Nat.zero_le _,(fun i hi => absurd hi (Nat.not_lt_zero _)),Below.refl _ _⟩
   case round =>
     obtain ⟨k,rfl,hk,hgood,hbel⟩:=hrel
     have Hg:=hide hgood; have Hbel:=hide hbel
     have hszr:=hbel.size
     clear hgood hbel g0 g1 g2 g3 g4
     by_cases hlt:k < l.length
     · have hlt':(k:Int) < l.length:=by omega
       obtain ⟨b,off,rfl,hb,c0,c1⟩:=lrow_at (lrow_kept (below_le (unhide Hbel) (by omega)) (unhide Hrow)) hlt
       have Hs:=hide (fun (h:lvlB k (l.getD k (0,0)) = true) => show lvlTo l (k + 1) from fun i hi => by
         by_cases e:i = k
         · subst e; exact h
         · exact unhide Hg i (by omega))
       have Hn:=hide (fun (h:lvlB k (l.getD k (0,0)) = false) => unhide Hno (fun hd => by rw [hd k hlt] at h; cases h))
       generalize l.getD k (0,0) = p at *
       obtain ⟨x,y⟩:=p
       simp only at c0 c1
       have Hs2:=hide (fun (h:(x = 0 ∧ y = 0) ∨ (1 ≤ x ∧ 1 ≤ y ∧ y ≤ 3 ∧ 2 ≤ k)) => unhide Hs (decide_eq_true h))
       have Hn2:=hide (fun (h:¬ ((x = 0 ∧ y = 0) ∨ (1 ≤ x ∧ 1 ≤ y ∧ y ≤ 3 ∧ 2 ≤ k))) => unhide Hn (decide_eq_false h))
       clear Hs Hn
       go_wp2_with fail
       refine (prec_any x y _).mono ?_
       rintro e w3 ⟨rfl,hb3⟩
       have hb2:Below wr.heap.size wr (wr.alloc (.cells #[.int .i64 x,.int .i64 y] 98)):=(Below.refl _ _).alloc (Nat.le_refl _) _
       have hb4:=hb2.trans (below_le hb3 (by simp))
       have d0:w3.cell? ⟨wr.heap.size,0,none⟩ = some (.int .i64 x):=(hb3.cell (p:=⟨wr.heap.size,0,none⟩) (by simp)).trans (by unfold World.cell?; rw [Go.Deep.blk_alloc_new]; rfl)
       have Hb3:=hide ((unhide Hbel).trans (below_le hb4 (by omega)))
       have Hb5:=hide ((unhide Hb1).trans (below_le (unhide Hb3) (by omega)))
       clear hb3 hb2 hb4
       cases hpr:precB x y
       · have h1:=of_decide_eq_false hpr
         go_wp2
         go_ret
         rw [unhide Hn2 (by omega)]
         exact ⟨rfl,unhide Hb5⟩
       · have h1 := of_decide_eq_true hpr
         go_wp2
         all_goals first
           | (go_ret; rw [unhide Hn2 (by first | omega | (simp at *; omega))]; exact ⟨rfl,unhide Hb5⟩)
           | (go_roundw
              case rel => exact ⟨k + 1,by go_num,by omega,unhide Hs2 (by first | omega | (simp at *; omega)),unhide Hb3⟩
              case measure => simp [intOf]; omega)
     · obtain rfl:k = l.length:=by omega
       have Hr:Hid (R = true):=hide (unhide Hyes (unhide Hg))
       go_wp2
       go_ret
       rw [unhide Hr]
       exact ⟨rfl,(unhide Hb1).trans (below_le (unhide Hbel) (by omega))⟩
 · have hne:((l.length:Int) != nk) = true:=by simp; omega
   have hR:(decide (l.length = nk) && levelsB l) = false:=by simp [hl]
   rw [hR]
   clear hR
   go_enter Tryz.func73,Tryz.ntmps73
   go_wp2
   go_ret
   exact ⟨rfl,hb1⟩
end Go.Proofs.YtagohbpbgjelaaaGreatDoor

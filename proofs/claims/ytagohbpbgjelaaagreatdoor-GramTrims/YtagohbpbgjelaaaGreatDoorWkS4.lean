/- Sets: Has, lay. -/
import Derived.Test.YtagohbpbgjelaaaGreatDoorWkS3
import Derived.RegionTactic
namespace Go.Proofs.YtagohbpbgjelaaaGreatDoor.Wk
open Go.RowKit Go.Maps

def hasB (bl:List Blk) (n:Int):Bool:=bits .and .u64 (zbP bl (n / 64)) (zh5 n) != 0
set_option maxRecDepth 100000 in
theorem zf1 {bl:List Blk} (h:zct bl) (i:Nat) (y:Int):zct (bl.set i ((bl.getD i (0,0)).1,y)):=by
 unfold zct at *
 rw[List.pairwise_iff_getElem] at *
 intro a b ha hb hab
 simp only[List.length_set] at ha hb
 have key:∀ k (hk:k<bl.length),((bl.set i ((bl.getD i (0,0)).1,y))[k]'(by simpa using hk)).1=bl[k].1:=by
  intro k hk
  rw[List.getElem_set]
  split
  ·rename_i e;subst e;rw[zbo _ _ hk]
  ·rfl
 rw[key a ha,key b hb]
 exact h a b ha hb hab
set_option maxRecDepth 100000 in
theorem ziM (bl:List Blk) (i:Nat) (hi:i<bl.length) (y:Int):zaQ (bl.set i ((bl.getD i (0,0)).1,y))=(zaQ bl).set (i * 2+1) (.int .u64 y):=by
 induction bl generalizing i with
 | nil=>simp at hi
 | cons b bl ih =>
   cases i with
   | zero=>rfl
   | succ i =>
     rw[List.set_cons_succ,zbX,zbX,show (i+1) * 2+1=(i * 2+1)+1+1 by omega,List.set_cons_succ,List.set_cons_succ]
     have:=ih i (by simpa using hi)
     simp only[List.getD_cons_succ]
     rw[this]

set_option maxRecDepth 100000 in
theorem zeI {w:World} {B:Nat} {e:TypeId} {size:Nat} {v:Value} {n:Nat} {xs:List Value} (h:w.ownsRow B e size v n xs) (q:Nat):(w.drewN q).ownsRow B e size v n xs:=h
set_option maxRecDepth 100000 in
theorem zbn {O:Nat→Prop} {a w:World} (h:Off O a w) (q:Nat):Off O a (w.drewN q):=⟨h.os,h.tape,h.output,h.size,h.block⟩
set_option maxHeartbeats 8000000 in
set_option maxRecDepth 100000 in
theorem ziF (B:Nat) (O:Nat→Prop) (bl:List Blk) (n t x k:Int) (hat:zgm bl t=true) (hn:0≤n∧n≤1099511627776) (hk:0≤k∧k≤64)
 (hones:∀ w,Calls Tryz.prog 145 #[.int .u64 (bits .andNot .u64 x (bl.getD (loc bl t) (0,0)).2)] w fun e w'=>e=.returned (.int .i64 k)∧w'=w) (w:World) (h:SetIs w B O bl n) :
 Calls Tryz.prog 121 #[.pointer (some ⟨B,0,none⟩),.agg #[.int .i64 t,.int .u64 x]] w fun e w'=>e=.returned (.int .i64 k)∧Off O w w' ∧
  SetIs w' B O (bl.set (loc bl t) ((bl.getD (loc bl t) (0,0)).1,bits .or .u64 (bl.getD (loc bl t) (0,0)).2 x)) (n+k):=by
 have hl:=zni hat
 have hb0:Below w.heap.size w (w.alloc (.cells #[.int .i64 t,.int .u64 x] 129)):=(Below.refl _ _).alloc (Nat.le_refl _) _
 have HF:=zaa (zh1 B O bl n t _ (zcm h hb0))
 rw[hat] at HF
 have HC:Hid (∀ w',Below w.heap.size w w'→∃ g c,w'.heap[B]? = some (.cells #[.slice (some ⟨g,0,none⟩) bl.length c,.int .i64 n] 126 (0,0))∧w'.ownsRow 0 129 2 (.slice (some ⟨g,0,none⟩) bl.length c) bl.length (zaQ bl)∧O g∧g≠B∧g<w.heap.size∧w'.cell? ⟨g,loc bl t * 2+1,none⟩=some (.int .u64 (bl.getD (loc bl t) (0,0)).2)):=zaa (fun w' hb=>by
  obtain⟨sv,hB,hr,hs⟩:=(zcm h hb).lies
  obtain⟨a,c,rfl⟩:=zad hr
  have n1:=zbr hB hr (by decide)
  rcases zeg hr with h0 | ⟨g,rfl,hgl,hc⟩
  ·subst h0;simp at hl
  ·exact⟨g,c,hB,hr,hs g rfl,fun e=>n1 (by rw[e];rfl),h.lt g (hs g rfl),(hc _ hl).2⟩)
 have HB:=zaa h.own;have HL:=zaa h.lt;have HU:=zaa (zf1 h.up (loc bl t) (bits .or .u64 (bl.getD (loc bl t) (0,0)).2 x));have HS:=zaa h.short
 have HX:=zaa (ziM bl (loc bl t) hl (bits .or .u64 (bl.getD (loc bl t) (0,0)).2 x))
 have hlt:=h.lt B h.own
 have hl':(loc bl t:Int)<bl.length:=by omega
 have HO:=zaa hones
 have hbl:=h.short
 clear h hat hones hb0
 generalize bl.set (loc bl t) ((bl.getD (loc bl t) (0,0)).1,bits .or .u64 (bl.getD (loc bl t) (0,0)).2 x)=bl' at *
 generalize (bl.getD (loc bl t) (0,0)).2=y at *
 generalize loc bl t=i at *
 go_enter Tryz.func121,Tryz.ntmps121
 go_wp2_with (go_at_call 143;refine(uh HF).mono ?_;rintro e w1 ⟨rfl,hb⟩)
 have hbw:Below w.heap.size w w1:=((Below.refl _ _).alloc (Nat.le_refl _) _).trans (hb.mono (by simp))
 have cx:w1.cell? ⟨w.heap.size,1,none⟩=some (.int .u64 x):=(hb.cell (p:=⟨w.heap.size,1,none⟩) (by simp)).trans (World.cell?_alloc_mark w #[.int .i64 t,.int .u64 x] 129 (0,0) 1)
 obtain⟨g,c,hB1,hr1,hOg,hgB,hgl,cg⟩:=uh HC w1 hbw
 have c0:=cell_block hB1 0 _ rfl
 have c1:=cell_block hB1 1 _ rfl
 have f1:=frozen_block hB1 1
 have fg:w1.frozen? ⟨g,i * 2+1,none⟩=false:=hr1.frozenAt _
 have HB1:=zaa hB1;have Hr1:=zaa hr1;have Hbw:=zaa hbw
 clear hB1 hr1 hb hbw HC
 go_quiet ((go_at_call 145;exact Calls.quiet_of_same (uh HO _)))
 go_wp2
 go_region
 go_wp2
 go_ret
 have s1:=(zeI (uh Hr1) (nq+1)).stored (i * 2+1) (.int .u64 (bits .or .u64 y x))
 have hB2:((w1.drewN (nq+1)).setCell ⟨g,i * 2+1,none⟩ (.int .u64 (bits .or .u64 y x))).heap[B]? = some (.cells #[.slice (some ⟨g,0,none⟩) bl.length c,.int .i64 n] 126 (0,0)):=(Below.heap_setCell (w1.drewN (nq+1)) ⟨g,i * 2+1,none⟩ _ B (fun e=>hgB e.symm)).trans (uh HB1)
 have ho:Off O w (((w1.drewN (nq+1)).setCell ⟨g,i * 2+1,none⟩ (.int .u64 (bits .or .u64 y x))).setCell ⟨B,1,none⟩ (.int .i64 (n+k))) :=
  off_set (off_set (zbn (zbx (uh Hbw)) _) (p:=⟨g,i * 2+1,none⟩) (.inl hOg) _) (p:=⟨B,1,none⟩) (.inl (uh HB)) _
 refine⟨rfl,ho,uh HB,fun k hk=>Nat.lt_of_lt_of_le (uh HL k hk) ho.size,uh HU,?_,.slice (some ⟨g,0,none⟩) bl.length c,block_set hB2 _,?_,?_⟩
 ·have:=congrArg List.length (uh HX)
  rw[zaX,List.length_set,zaX] at this
  omega
 ·have hl:=congrArg List.length (uh HX)
  rw[zaX,List.length_set,zaX] at hl
  rw[uh HX,show bl'.length=bl.length by omega]
  exact own_off (O:=fun k=>k=B) s1.1 (off_set (O:=fun k=>k=B) (off_refl _ _) (p:=⟨B,1,none⟩) (.inl rfl) _) (fun k hk e=>by simp only[Value.ownBlock,Option.some.injEq] at hk;omega)
 ·intro k hk
  simp only[Value.ownBlock,Option.some.injEq] at hk
  exact hk▸hOg
end Go.Proofs.YtagohbpbgjelaaaGreatDoor.Wk

namespace Go.Proofs.YtagohbpbgjelaaaGreatDoor.Wk
open Go.RowKit Go.Maps

def o1 (x:Int):Int:=IntKind.u64.wrap (bits .and .u64 (x / 2) 6148914691236517205+bits .and .u64 x 6148914691236517205)
def o2 (x:Int):Int:=IntKind.u64.wrap (bits .and .u64 (x / 4) 3689348814741910323+bits .and .u64 x 3689348814741910323)
def o3 (x:Int):Int:=bits .and .u64 (IntKind.u64.wrap (x / 16+x)) 1085102592571150095
def o4 (x:Int):Int:=IntKind.u64.wrap (x+x / 256)
def o5 (x:Int):Int:=IntKind.u64.wrap (x+x / 65536)
def o6 (x:Int):Int:=IntKind.u64.wrap (x+x / 4294967296)
def o7 (x:Int):Int:=bits .and .i64 (wrap64 x) 127
def zjv (x:Int):Int:=o7 (o6 (o5 (o4 (o3 (o2 (o1 x))))))

set_option maxHeartbeats 4000000 in
set_option maxRecDepth 100000 in
theorem zhC (x:Int) (w:World) :
 Calls Tryz.prog 145 #[.int .u64 x] w fun e w'=>e=.returned (.int .i64 (zjv x))∧w'=w:=by
 go_enter Tryz.func145,Tryz.ntmps145
 go_wp2
 go_ret
 exact⟨rfl,rfl⟩
set_option maxRecDepth 100000 in
theorem zmS:zjv 0=0:=by decide +kernel
set_option maxRecDepth 100000 in
theorem zoZ:∀ j:Fin 64,zjv ((2 ^ j.val:Nat):Int)=1:=by decide +kernel

set_option maxRecDepth 100000 in
theorem hblk:(Tryz.prog.info? 129).map (fun i=>(i.zero,i.size,i.bytes))=some (some (.agg #[.int .i64 0,.int .u64 0]),2,16):=by kernel_rfl
end Go.Proofs.YtagohbpbgjelaaaGreatDoor.Wk

/- Going over a row of numbers from its end. -/
import Derived.Test.YtagohbpbgjelaaaGreatDoorFI
import Derived.Test.YtagohbpbgjelaaaGreatDoorGW
import Derived.RangeFuncNested
import Derived.RangeFuncBound
import Derived.RangeFuncCalls
import Derived.RangeFuncLeaves
import Derived.Shelf.Abstract
import Derived.Shelf.RegionOpen
import Derived.OwnWalkIn
import Derived.TacticsInMore
import Derived.LoopNIn
import Derived.LoopIn
namespace Go.Proofs.YtagohbpbgjelaaaGreatDoor
open Go.RowKit Go.Shelf

attribute [local go_sem] Oper.semAt_some

def zgG (C:Nat→Prop) (W W':World):Prop:=W.heap.size≤W'.heap.size∧∀ p v,C p.block→W.cell? p=some v→W'.cell? p=some v
theorem zg3 (C:Nat→Prop) (W:World):zgG C W W:=⟨Nat.le_refl _,fun _ _ _ h=>h⟩
theorem zno {C:Nat→Prop} {X Y Z:World} (h:zgG C X Y) (k:zgG C Y Z):zgG C X Z:=⟨Nat.le_trans h.1 k.1,fun p v ho hv=>k.2 p v ho (h.2 p v ho hv)⟩
def zb7 (l:List Int):List (Int × Int):=((List.range l.length).map fun(i:Nat)=>((i:Int),l.getD i 0)).reverse
def ziZ (l:List Int) (k:Nat):List (Int × Int):=(zb7 l).take k
theorem zcX (l:List Int):(zb7 l).length=l.length:=by simp[zb7]
theorem zgz (l:List Int) (k:Nat) (hk:k<l.length):ziZ l (k+1)=ziZ l k ++ [(((l.length - 1 - k:Nat):Int),l.getD (l.length - 1 - k) 0)]:=by
 unfold ziZ
 rw[List.take_add_one,List.getElem?_eq_getElem (by rw[zcX];exact hk)]
 unfold zb7
 rw[List.getElem_reverse]
 simp
set_option maxRecDepth 100000 in
set_option maxHeartbeats 4000000 in
theorem zrH {α:Type} (val:α→Int × Int) (bl:List α) (F:Fence) (n:Nat) (h150:F.fn 150) (hro:F.round=none) (hn:1≤n) (l0 Bs:Nat) (a:Option Addr) (cap:Nat) (C:Nat→Prop) (l:List Int) (hbl:bl.map val=zb7 l) (hlen:l.length≤1500000000000) (J Jx:List α→World→Prop)
 (hY:∀ pre x W,J pre W→pre.length<l.length→YieldAt F (n - 1) Tryz.prog l0 #[.int .i64 (val x).1,.int .i64 (val x).2] W fun e W' =>
  (e=.returned (.bool true)∧J (pre ++ [x]) W'∧zgG C W W')∨(e=.returned (.bool false)∧Jx (pre ++ [x]) W'))
 (W:World) (hCB:C Bs) (hBs:W.cell? ⟨Bs,0,none⟩=some (.slice a l.length cap))
 (hc:l=[]∨∃ b off,a=some ⟨b,off,none⟩∧C b∧∀ j,j<l.length→W.cell? ⟨b,off+j,none⟩=some (.int .i64 (l.getD j 0))) (h0:J [] W) :
 CallsIn F n Tryz.prog 150 #[.func (.yield l0) #[] #[],.pointer (some ⟨Bs,0,none⟩)] W fun e W'=>(∃ v,e=.returned v) ∧
  ((∃ ys,ys=bl∧J ys W')∨(∃ pre,pre <+: bl∧Jx pre W')):=by
 have hbll:bl.length=l.length:=by rw[← zcX l,← hbl,List.length_map]
 refine callsIn_of_wp Tryz.func150 rfl h150 ?_ hro
 simp only[Tryz.ntmps150,List.size_toArray,List.length_cons,List.length_nil,Nat.reduceAdd,Nat.reduceSub,Array.replicate_succ,Array.replicate_zero,List.push_toArray,List.append_toArray,List.nil_append,List.cons_append]
 gi_wp2
 gi_loopw [3] (fun iv wr=>∃ k:Nat,k≤l.length∧iv=.int .i64 ((l.length:Int) - 1 - k)∧J (bl.take k) wr∧zgG C W wr) (fun iv _=>(intOf iv+1).toNat)
 case atStart=>exact⟨0,Nat.zero_le _,by simp,by simpa using h0,zg3 _ _⟩
 case round =>
  obtain⟨k,hk,rfl,hJs,hkp⟩:=hrel
  by_cases hlt:k<l.length
  ·rcases hc with h | ⟨b,off,rfl,hCb,hcs⟩
   ·rw[h] at hlt;simp at hlt
   obtain⟨m,hm⟩:∃ m:Nat,(l.length:Int) - 1 - k=m:=⟨l.length - 1 - k,by omega⟩
   have hml:m<l.length:=by omega
   have hmi:(m:Int)<l.length:=by omega
   have hm0:(0:Int)≤m:=by omega
   have c0:=hkp.2 _ _ hCB hBs
   have c1:=hkp.2 ⟨b,off+m,none⟩ _ hCb (hcs m hml)
   obtain⟨x,hx⟩:∃ x,bl[k]? = some x:=⟨bl[k]'(by omega),List.getElem?_eq_getElem _⟩
   have hvx:val x=((m:Int),l.getD m 0):=by
    have h1:(bl.map val)[k]? = some (val x):=by rw[List.getElem?_map,hx];rfl
    have h2:=zgz l k hlt
    rw[hbl] at h1
    unfold ziZ at h2
    rw[List.take_add_one,h1,show l.length - 1 - k=m by omega] at h2
    simpa using h2
   have HS:Hid (bl.take (k+1)=bl.take k ++ [x]):=zaa (by rw[List.take_add_one,hx];rfl)
   have hpl:(bl.take k).length<l.length:=by rw[List.length_take];omega
   have HP2:Hid (bl.take (k+1) <+: bl):=zaa (List.take_prefix _ _)
   rw[hm]
   obtain⟨fn,tmps,assign,body,hy,hR⟩:=hY (bl.take k) x wr hJs hpl
   rw[hvx] at hy
   simp only at hy hR
   have Hkp:=zaa hkp
   have Hm:=zaa hm
   clear hJs hpl hkp hm hvx hx
   generalize l.getD m 0=y at *
   gi_wp2
   refine hR.mono ?_
   rintro e W3 (⟨rfl,hJ3,hk3⟩ | ⟨rfl,hJx3⟩)
   ·gi_wp2
    go_roundw
    case rel=>exact⟨k+1,by omega,by have:=uh Hm;congr 1;omega,by rw[uh HS];exact hJ3,zno (uh Hkp) hk3⟩
    case measure=>simp[intOf]
   ·gi_wp2
    refine bodyPost_ret (results_none rfl _ _ _) rfl ?_
    exact⟨⟨_,rfl⟩,.inr ⟨_,uh HP2,by rw[uh HS];exact hJx3⟩⟩
  ·obtain rfl:k=l.length:=by omega
   have hneg:¬ (0:Int)≤(l.length:Int) - 1 - l.length:=by omega
   have hJ2:J bl wr:=by
    have:bl.take l.length=bl:=by rw[← hbll];exact List.take_length
    rw[this] at hJs
    exact hJs
   have hv:(l.length:Int) - 1 - l.length = -1:=by omega
   rw[hv]
   have HJ2:=zaa hJ2
   clear hJs hkp hneg hJ2 hv
   gi_wp2
   go_end0
   exact⟨⟨_,rfl⟩,.inl ⟨_,rfl,uh HJ2⟩⟩
theorem zq8 {C:Nat→Prop} {w:World} (W:World) (l:Nat) (o o':Obj) (_:w.heap.size≤l) (h:W.heap[l]? = some o) (hc:o.isCells=false) (_:o.isWalk=false):zgG C W (W.putObj l o') :=
 ⟨(grownBy_putObj' W l o').size, fun p v _ hv => by
   have hne:p.block≠l:=fun e=>by
     simp only[World.cell?] at hv
     rw[e,h] at hv
     cases o <;> simp[Obj.isCells] at hc hv
   have hb:=(grownBy_putObj' W l o').block p.block (World.block_lt_of_cell? W p hv) (fun e=>hne (by cases e;rfl))
   simp only[World.cell?] at hv ⊢
   rw[hb];exact hv⟩
theorem zn6 (l:List Int):(zb7 l).map Prod.snd=l.reverse:=by
 unfold zb7
 rw[List.map_reverse,List.map_map]
 congr 1
 refine List.ext_getElem? fun i=>?_
 rw[List.getElem?_map]
 by_cases h:i<l.length
 ·rw[List.getElem?_range h,List.getElem?_eq_getElem h]
  simp[List.getD_eq_getElem?_getD,List.getElem?_eq_getElem h]
 ·rw[List.getElem?_eq_none (by simpa using h),List.getElem?_eq_none (by simpa using h)]
  rfl
set_option maxHeartbeats 1000000 in
set_option maxRecDepth 100000 in
theorem ziY (a:Option Addr) (n c:Nat) (w:World) :
 Calls Tryz.prog 127 #[.slice a n c] w fun e w'=>e=.returned (.func (.func 150) #[] #[.pointer (some ⟨w.heap.size,0,none⟩)])∧w'=w.alloc (.cells #[.slice a n c] 27):=by
 have hmf:∀ (fn:Fn) (first cap:Array Value) (w:World),(Instr.makeFunc fn first cap).run Tryz.prog w=.ok (.func fn first cap) w:=fun _ _ _ _=>rfl
 go_enter Tryz.func127,Tryz.ntmps127
 go_wp2
 go_ret
 exact⟨rfl,rfl⟩
end Go.Proofs.YtagohbpbgjelaaaGreatDoor

import Derived.Test.YtieciibnajeibaaGreatDoorFI
import Derived.Test.YtieciibnajeibaaGreatDoorGW
import Derived.Shelf.RegionOpen
import Derived.OwnWalkIn
import Derived.LoopNIn
import Derived.LoopIn
set_option maxHeartbeats 8000000
set_option maxRecDepth 100000
namespace Go.Proofs.YtieciibnajeibaaGreatDoor
open Go.RowKit Go.Shelf
attribute [local go_sem] Oper.semAt_some
def zdE(C:Nat->Prop)(W W':World):Prop:=W.heap.size<=W'.heap.size/\∀ p v,C p.block->W.cell? p=some v->W'.cell? p=some v
theorem zfQ(C:Nat->Prop)(W:World):zdE C W W:=⟨zsG _,λ_ _ _ h=>h⟩
variable{C:Nat->Prop}
theorem zfP{X Y Z:World}(h:zdE C X Y)(k:zdE C Y Z):zdE C X Z:=⟨zsy h.1 k.1,λp v ho hv=>k.2 p v ho (h.2 p v ho hv)⟩
def zbn(l:List Int):List (Int × Int):=((List.range l.length).map λ(i:Nat)=>((i:Int),l.getD i 0)).reverse
def zij(l:List Int)(k:Nat):List (Int × Int):=(zbn l).take k
theorem zci(l:List Int):(zbn l).length=l.length:=by simp[zbn]
theorem zeV(l:List Int)(k:Nat)(hk:k<l.length):zij l (k+1)=zij l k ++ [(((l.length - 1 - k:Nat):Int),l.getD (l.length - 1 - k) 0)]:=by
 unfold zij;rw[zsU,zsF (by rw[zci];exact hk)];unfold zbn;rw[List.getElem_reverse];simp
theorem zxf{α:Type}(val:α->Int × Int)(bl:List α)(F:Fence)(n:Nat)(h226:F.fn 226)(hro:F.round=none)(hn:1<=n)(l0 Bs:Nat)(a:Option Addr)(cap:Nat)(C:Nat->Prop)(l:List Int)(hbl:bl.map val=zbn l)(hlen:l.length<=1500000000000)(J Jx:List α->World->Prop)
 (hY:∀ pre x W,J pre W->pre.length<l.length->YieldAt F (n - 1) Tryz.prog l0 #[.int .i64 (val x).1,.int .i64 (val x).2] W λe W' =>
  (e=.returned (.bool true)/\J (pre ++ [x]) W'/\zdE C W W')\/(e=.returned (.bool false)/\Jx (pre ++ [x]) W'))
 (W:World) (hCB:C Bs) (hBs:W.cell? ⟨Bs,0,none⟩=some (.slice a l.length cap))
 (hc:l=[]\/∃ b off,a=some ⟨b,off,none⟩/\C b/\∀ j,j<l.length->W.cell? ⟨b,off+j,none⟩=some (.int .i64 (l.getD j 0))) (h0:J [] W) :
 CallsIn F n Tryz.prog 226 #[.func (.yield l0) #[] #[],.pointer (some ⟨Bs,0,none⟩)] W λe W'=>(∃ v,e=.returned v) /\
  ((∃ ys,ys=bl/\J ys W')\/(∃ pre,pre <+: bl/\Jx pre W')):=by
 have hbll:bl.length=l.length:=by rw[<- zci l,<- hbl,List.length_map]
 refine callsIn_of_wp Tryz.func226 rfl h226 ?_ hro;simp only[Tryz.ntmps226,List.size_toArray,List.length_cons,List.length_nil,Nat.reduceAdd,Nat.reduceSub,Array.replicate_succ,Array.replicate_zero,List.push_toArray,List.append_toArray,List.nil_append,List.cons_append]
 gi_wp2
 gi_loopw [3] (λiv wr=>∃ k:Nat,k<=l.length/\iv=.int .i64 ((l.length:Int) - 1 - k)/\J (bl.take k) wr/\zdE C W wr) (λiv _=>(intOf iv+1).toNat)
 case atStart=>exact⟨0,zsK _,by simp,by simpa using h0,zfQ _ _⟩
 case round =>
  obtain⟨k,hk,rfl,hJs,hkp⟩:=hrel;by_cases hlt:k<l.length
  ·rcases hc with h | ⟨b,off,rfl,hCb,hcs⟩
   ·rw[h] at hlt;simp at hlt
   obtain⟨m,hm⟩:∃ m:Nat,(l.length:Int) - 1 - k=m:=⟨l.length - 1 - k,by omega⟩;have hml:m<l.length:=by omega
   have hmi:(m:Int)<l.length:=by omega
   have hm0:(0:Int)<=m:=by omega
   have c0:=hkp.2 _ _ hCB hBs;have c1:=hkp.2 ⟨b,off+m,none⟩ _ hCb (hcs m hml);obtain⟨x,hx⟩:∃ x,bl[k]? = some x:=⟨bl[k]'(by omega),zsF _⟩;have hvx:val x=((m:Int),l.getD m 0):=by
    have h1:(bl.map val)[k]? = some (val x):=by rw[List.getElem?_map,hx];rfl
    have h2:=zeV l k hlt;rw[hbl] at h1;unfold zij at h2;rw[zsU,h1,show l.length - 1 - k=m by omega] at h2;simpa using h2
   have HS:Hid (bl.take (k+1)=bl.take k ++ [x]):=zaa (by rw[zsU,hx];rfl);have hpl:(bl.take k).length<l.length:=by rw[zsV];omega
   have HP2:Hid (bl.take (k+1) <+: bl):=zaa (List.take_prefix _ _);rw[hm];obtain⟨fn,tmps,assign,body,hy,hR⟩:=hY (bl.take k) x wr hJs hpl;rw[hvx] at hy;simp only at hy hR;have Hkp:=zaa hkp;have Hm:=zaa hm;clear hJs hpl hkp hm hvx hx;generalize l.getD m 0=y at *
   gi_wp2
   refine hR.mono ?_;rintro e W3 (⟨rfl,hJ3,hk3⟩ | ⟨rfl,hJx3⟩)
   ·gi_wp2
    go_roundw
    case rel=>exact⟨k+1,by omega,by have:=uh Hm;congr 1;omega,by rw[uh HS];exact hJ3,zfP (uh Hkp) hk3⟩
    case measure=>simp[intOf]
   ·gi_wp2
    refine bodyPost_ret (results_none rfl _ _ _) rfl ?_;exact⟨⟨_,rfl⟩,.inr ⟨_,uh HP2,by rw[uh HS];exact hJx3⟩⟩
  ·obtain rfl:k=l.length:=by omega
   have hneg:¬ (0:Int)<=(l.length:Int) - 1 - l.length:=by omega
   have hJ2:J bl wr:=by
    have:bl.take l.length=bl:=by rw[<- hbll];exact zsN
    rw[this] at hJs;exact hJs
   have hv:(l.length:Int) - 1 - l.length = -1:=by omega
   rw[hv];have HJ2:=zaa hJ2;clear hJs hkp hneg hJ2 hv
   gi_wp2
   go_end0
   exact⟨⟨_,rfl⟩,.inl ⟨_,rfl,uh HJ2⟩⟩
theorem zlw{w:World}(W:World)(l:Nat)(o o':Obj)(_:w.heap.size<=l)(h:W.heap[l]? = some o)(hc:o.isCells=false)(_:o.isWalk=false):zdE C W (W.putObj l o') :=
 ⟨(grownBy_putObj' W l o').size, λp v _ hv => by
   have hne:p.block≠l:=λe=>by
     simp only[World.cell?] at hv;rw[e,h] at hv
     cases o <;> simp[Obj.isCells] at hc hv
   have hb:=(grownBy_putObj' W l o').block p.block (zsQ W p hv) (λe=>hne (by cases e;rfl));simp only[World.cell?] at hv ⊢
   rw[hb];exact hv⟩
theorem zro(l:List Int):(zbn l).map Prod.snd=l.reverse:=by
 unfold zbn;rw[List.map_reverse,List.map_map]
 congr 1
 refine List.ext_getElem? λi=>?_;rw[List.getElem?_map];by_cases h:i<l.length
 ·rw[List.getElem?_range h,zsF h];simp[List.getD_eq_getElem?_getD,List.getElem?_eq_getElem h]
 ·rw[List.getElem?_eq_none (by simpa using h),List.getElem?_eq_none (by simpa using h)];rfl
theorem zf8(a:Option Addr)(n c:Nat)(w:World) :
 Calls Tryz.prog 200 #[.slice a n c] w λe w'=>e=.returned (.func (.func 226) #[] #[.pointer (some ⟨w.heap.size,0,none⟩)])/\w'=w.alloc (.cells #[.slice a n c] 50):=by
 have hmf:∀ (fn:Fn) (first cap:Array Value) (w:World),(Instr.makeFunc fn first cap).run Tryz.prog w=.ok (.func fn first cap) w:=λ_ _ _ _=>rfl;go_enter Tryz.func200,Tryz.ntmps200;go_wp2;go_ret;exact⟨rfl,rfl⟩
end Go.Proofs.YtieciibnajeibaaGreatDoor

import Derived.Test.YtieciibnajeibaaGreatDoorO1
import Derived.Test.YtieciibnajeibaaGreatDoorB1
set_option maxHeartbeats 8000000
set_option maxRecDepth 100000
namespace Go.Proofs.YtieciibnajeibaaGreatDoor
open Go.ChangeShapes Go.WideShapes Go.ChangeAt Go.RowKit
theorem zwY:Tryz.prog.cellsOf 26=5:=by kernel_rfl
theorem zw1:Tryz.prog.cellsOf 22=1:=by kernel_rfl
theorem zw0:Tryz.prog.cellsOf 23=1:=by kernel_rfl
theorem zwZ:Tryz.prog.cellsOf 24=1:=by kernel_rfl
theorem array5{α:Type}{a:Array α}(h:a.size=5):∃ x0 x1 x2 x3 x4,a=#[x0,x1,x2,x3,x4]:=by
 obtain⟨l⟩:=a
 match l,h with
 | [x0,x1,x2,x3,x4],_=>exact⟨x0,x1,x2,x3,x4,rfl⟩
def acG(G:Gm):Prop:=∀ p,p ∈ G.prods->zdw p.act
def lenG(G:Gm):Prop:=G.kinds.length<=281474976710656/\G.precs.length<=281474976710656/\G.rules.length<=281474976710656/\G.prods.length<=281474976710656
def bytG(G:Gm):Prop:=G.prods.length * 96<=140737488355328/\G.rules.length * 16<=140737488355328/\∀ p,p ∈ G.prods->p.right.length * 8<=140737488355328
theorem zkV{H:Type}{ts:List TypeId}{ds:List (DataW H)}(h:(DataW.weightsEach Tryz.prog ts ds).all (·<=reachBytes)=true){j:Nat}{t:TypeId}{d:DataW H}(ht:ts[j]? = some t)(hd:ds[j]? = some d):WOk d t:=by
 intro n hn;have:=List.all_eq_true.1 h n (DataW.weights_mem_each ht hd n hn);simpa using this
theorem znI{H:Type}{enc:TypeId × Value->H}{W:World}{r:Reach}{b0:Nat}{v:Value}{d:DataW H}{p:List MemPlace}(ht:Tb W.heap.size W)(hv:Value.okWide Tryz.prog W r b0 26 v)(h:DataW.Trod enc Tryz.prog W 0 (λ_=>true) true 26 v d p)(hw:WOk d 26) :
 ∃ (G:Gm) (ka pa ra qa:Option Addr) (kc pc rc qc:Nat),v=gV G ka pa ra qa kc pc rc qc/\GIn W.heap.size W G ka pa ra qa/\smG G/\acG G/\lenG G/\bytG G:=by
 obtain⟨cs,rfl,hsz⟩:=okWide_struct Tryz.underlying26 hv;obtain⟨c0,c1,c2,c3,c4,rfl⟩:=array5 (hsz.trans zwY);obtain⟨fuel,hf⟩:=h;obtain⟨xs,m,-,hy,hlen,hxl,hf'⟩:=DataW.trod_struct Tryz.underlying26 hf;have hx5:xs.length=5:=by simpa using hxl
 have g0:DataW.trod enc Tryz.prog W 0 (λ_=>true) true m 22 (List.take (Tryz.prog.cellsOf 22) [c0,c1,c2,c3,c4])=xs[0]?:=hf' 0 _ rfl;have g1:DataW.trod enc Tryz.prog W 0 (λ_=>true) true m 23 (List.take (Tryz.prog.cellsOf 23) [c1,c2,c3,c4])=xs[1]?:=hf' 1 _ rfl;have g2:DataW.trod enc Tryz.prog W 0 (λ_=>true) true m 22 (List.take (Tryz.prog.cellsOf 22) [c2,c3,c4])=xs[2]?:=hf' 2 _ rfl;have g3:DataW.trod enc Tryz.prog W 0 (λ_=>true) true m 24 (List.take (Tryz.prog.cellsOf 24) [c3,c4])=xs[3]?:=hf' 3 _ rfl;have g4:DataW.trod enc Tryz.prog W 0 (λ_=>true) true m 3 (List.take (Tryz.prog.cellsOf 3) [c4])=xs[4]?:=hf' 4 _ rfl;rw[zw1,zsF (by omega)] at g0 g2;rw[zw0,zsF (by omega)] at g1;rw[zwZ,zsF (by omega)] at g3;rw[zfZ,zsF (by omega)] at g4;have hd:d=.agg (xs.map (·.1)):=(Prod.mk.inj hy).1;have hwj:∀ j (hj:j<5) (u:TypeId),([22,23,22,24,3]:List TypeId)[j]? = some u->WOk (xs[j]'(by omega)).1 u:=λj hj u hu=>by
  rw[hd] at hw;refine zkW Tryz.underlying26 hw (j:=j) hu ?_;rw[List.getElem?_map,zsF (by omega)];rfl
 obtain⟨ka,kc,kl,e0,hk,-,hkb⟩:=zjY g0 (hwj 0 (by omega) 22 rfl);obtain⟨pa,pc,pl,e1,hp,-,hpb⟩:=zpA g1 (hwj 1 (by omega) 23 rfl);obtain⟨ra,rc,rl,e2,hr,-,hrb⟩:=zjY g2 (hwj 2 (by omega) 22 rfl);obtain⟨qa,qc,ql,e3,hq,-,hqb,hqs⟩:=znH g3 (hwj 3 (by omega) 24 rfl);obtain⟨n4,e4,-⟩:=DataW.trod_int Tryz.underlying3 g4;simp at e0 e1 e2 e3 e4;subst e0 e1 e2 e3 e4;unfold reachBytes at hkb hpb hrb hqb;exact⟨⟨kl,pl,rl,ql,n4⟩,ka,pa,ra,qa,kc,pc,rc,qc,rfl,⟨hk,hp,hr,hq,ht⟩,λp hp=>by have:=(hqs p hp).1;omega,λp hp=>(hqs p hp).2,⟨by show kl.length<=_;omega,by show pl.length<=_;omega,by show rl.length<=_;omega,by show ql.length<=_;omega⟩,by show ql.length * 96<=_;omega,by show rl.length * 16<=_;omega,λp hp=>by have:=(hqs p hp).1;omega⟩
end Go.Proofs.YtieciibnajeibaaGreatDoor

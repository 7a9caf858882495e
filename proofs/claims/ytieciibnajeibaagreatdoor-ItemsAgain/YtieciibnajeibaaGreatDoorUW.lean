import Derived.Test.YtieciibnajeibaaGreatDoorO2
import Derived.Test.YtieciibnajeibaaGreatDoorTie
import Derived.LaidMore
import Derived.Lay
set_option maxHeartbeats 8000000
set_option maxRecDepth 100000
namespace Go.Proofs.YtieciibnajeibaaGreatDoor
open Go.ChangeShapes Go.WideShapes Go.ChangeAt Go.RowKit
theorem zm5:Tryz.prog.cellsOf 57=3:=by kernel_rfl
theorem zt7:Tryz.prog.bytesOf 57=24:=by kernel_rfl
section
variable {H:Type} {enc:TypeId × Value->H} {W:World}
theorem znJ{fuel:Nat}{cs:List Value}{y:DataW H × List MemPlace}(hf:DataW.trod enc Tryz.prog W 0 (λ_=>true) true fuel 27 cs=some y)(hw:WOk y.1 27) :
 ∃ a c,∃ l:List It,cs=[.slice a l.length c]/\zcy W.heap.size W a l/\l.length * 24<=reachBytes/\(a=none->c=0):=by
 obtain⟨a,len,cap,q,hcs,hl,hb,hrest⟩:=zee (α:=It) (n:=3) Tryz.underlying27 (λx cs'=>cs'=[.int .i64 x.1,.int .i64 x.2.1,.int .i64 x.2.2]) zm5 (by decide) hf hw (λk cs' y' _ h _=>by
  obtain⟨xs,m,-,-,hlen,hxl,hf'⟩:=DataW.trod_struct Tryz.underlying57 h;rw[zm5] at hlen
  match cs',hlen with
  | [v0,v1,v2],_ =>
    have hx3:xs.length=3:=by simpa using hxl
    have g0:DataW.trod enc Tryz.prog W 0 (λ_=>true) true m 3 (List.take (Tryz.prog.cellsOf 3) [v0,v1,v2])=xs[0]?:=hf' 0 _ rfl;have g1:DataW.trod enc Tryz.prog W 0 (λ_=>true) true m 3 (List.take (Tryz.prog.cellsOf 3) [v1,v2])=xs[1]?:=hf' 1 _ rfl;have g2:DataW.trod enc Tryz.prog W 0 (λ_=>true) true m 3 (List.take (Tryz.prog.cellsOf 3) [v2])=xs[2]?:=hf' 2 _ rfl;rw[zfZ,zsF (by omega)] at g0 g1 g2;obtain⟨n0,e0,-⟩:=DataW.trod_int Tryz.underlying3 g0;obtain⟨n1,e1,-⟩:=DataW.trod_int Tryz.underlying3 g1;obtain⟨n2,e2,-⟩:=DataW.trod_int Tryz.underlying3 g2;simp at e0 e1 e2;subst e0 e1 e2
    exact⟨(n0,n1,n2),rfl⟩)
 rw[zt7] at hb;have hnil:a=none->cap=0:=λha=>by
  rcases DataW.trod_slice Tryz.underlying27 hf with ⟨hcs',-⟩ | ⟨a',len',cap',elems,rest,k,rfl,hcs',-⟩
  ·rw[hcs] at hcs';simp at hcs';exact hcs'.2.2
  ·rw[hcs,ha] at hcs';simp at hcs'
 have hll:((List.range len).map q).length=len:=by simp
 refine⟨a,cap,(List.range len).map q,by rw[hll];exact hcs,?_,by rw[hll];exact hb,hnil⟩;rcases hrest with rfl | ⟨b,off,rfl,hblt,he⟩
 ·exact .inl rfl
 ·refine .inr ⟨b,off,rfl,hblt,λj hj=>?_⟩;rw[hll] at hj;obtain⟨cs',-,rfl,hc⟩:=he j hj;have e:((List.range len).map q).getD j it0=q j:=by rw[zsE,List.getElem?_map,List.getElem?_range hj];rfl
  rw[e];exact⟨hc 0 _ rfl,hc 1 _ rfl,hc 2 _ rfl⟩
end
theorem tab_of{W : World}(h : laidMetH Tryz.prog [("math/bits.deBruijn64tab", Rows.laid_math_bits_deBruijn64tab)] W) : Tb W.heap.size W := by
 have key:∀ r,r<64->W.cell? ⟨0,r,none⟩=some (.int .u8 (tzT.getD r 0:Nat)):=by
  intro r hr;rw[MakeChecks.laidMetH_plain _ _ _ (by kernel_rfl)] at h;obtain⟨ps,⟨g,t,cs,fuel,p,q,hg,ht,hv,hd,_,_⟩,_,_⟩:=h;obtain rfl := Option.some.inj ((show Tryz.prog.globalNamed "math/bits.deBruijn64tab" = some 0 by kernel_rfl).symm.trans hg);obtain rfl:=Option.some.inj ((show (Tryz.prog.globals[0]?).map (·.type)=some 295 by kernel_rfl).symm.trans ht);obtain⟨xs,m,_,ex,_,hl,hel⟩:=DataW.trod_array Tryz.underlying295 hd;have c5:Tryz.prog.cellsOf 5=1:=by kernel_rfl
  have hE:=hel r hr;rw[c5,Nat.mul_one,zsF (by omega)] at hE;obtain⟨z,e1,e2,_⟩:=DataW.trod_int Tryz.underlying5 hE;have hlen:tzT.length=64:=by kernel_rfl
  have e3:(xs.map (·.1))=tzT.map λn:Nat=>(.lit (.int .u8 (n:Int)):DataW Unit):=(DataW.agg.inj (Prod.mk.inj ex).1).symm;have e4:(xs.map (·.1))[r]? = (tzT.map λn:Nat=>(DataW.lit (.int .u8 (n:Int)):DataW Unit))[r]?:=by rw[e3]
  rw[List.getElem?_map,List.getElem?_map,zsF (by omega:r<xs.length),zsF (by omega:r<tzT.length),e2] at e4;have hz:z=(tzT.getD r 0:Nat):=by
   simp only[Option.map_some,Option.some.injEq,DataW.lit.injEq,Lit.int.injEq,true_and] at e4;rw[e4,zsE,zsF (by omega:r<tzT.length)];rfl
  rw[World.var?_cell hg hv r,<- hz];have:cs.toList[r]? = some (.int .u8 z):=by
   have h0:((cs.toList.drop r).take 1)[0]? = some (.int .u8 z):=by rw[e1];rfl
   simpa using h0
  simpa using this
 exact⟨zsQ W ⟨0,0,none⟩ (key 0 (by decide)),key⟩
end Go.Proofs.YtieciibnajeibaaGreatDoor

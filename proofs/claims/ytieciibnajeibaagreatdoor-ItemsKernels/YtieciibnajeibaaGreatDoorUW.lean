import Derived.Test.YtieciibnajeibaaGreatDoorO2
import Derived.Test.YtieciibnajeibaaGreatDoorTie
import Derived.LaidMore
import Derived.Lay
set_option maxHeartbeats 8000000
set_option maxRecDepth 100000
namespace Go.Proofs.YtieciibnajeibaaGreatDoor
open Go.ChangeShapes Go.WideShapes Go.ChangeAt Go.RowKit
section
variable {H:Type} {enc:TypeId × Value->H} {W:World}
end
theorem tab_of{W : World}(h : laidMetH Tryz.prog [("math/bits.deBruijn64tab", Rows.laid_math_bits_deBruijn64tab)] W) : Tb W.heap.size W := by
 have key:∀ r,r<64->W.cell? ⟨0,r,none⟩=some (.int .u8 (tzT.getD r 0:Nat)):=by
  intro r hr;rw[MakeChecks.laidMetH_plain _ _ _ (by kernel_rfl)] at h;obtain⟨ps,⟨g,t,cs,fuel,p,q,hg,ht,hv,hd,_,_⟩,_,_⟩:=h;obtain rfl := Option.some.inj ((show Tryz.prog.globalNamed "math/bits.deBruijn64tab" = some 0 by kernel_rfl).symm.trans hg);obtain rfl:=Option.some.inj ((show (Tryz.prog.globals[0]?).map (·.type)=some 295 by kernel_rfl).symm.trans ht);obtain⟨xs,m,_,ex,_,hl,hel⟩:=DataW.trod_array Tryz.underlying295 hd;have c5:Tryz.prog.cellsOf 5=1:=by kernel_rfl
  have hE:=hel r hr;rw[c5,Nat.mul_one,zsF (by omega)] at hE;obtain⟨z,e1,e2,_⟩:=DataW.trod_int Tryz.underlying5 hE;have hlen:tzT.length=64:=by kernel_rfl
  have e3:(xs.map (·.1))=tzT.map λn:Nat=>(.lit (.int .u8 (n:Int)):DataW Unit):=(DataW.agg.inj (Prod.mk.inj ex).1).symm;have e4:(xs.map (·.1))[r]? = (tzT.map λn:Nat=>(DataW.lit (.int .u8 (n:Int)):DataW Unit))[r]?:=by rw[e3]
  rw[List.getElem?_map,List.getElem?_map,zsF (by omega:r<xs.length),zsF (by omega:r<tzT.length),e2] at e4;have hz:z=(tzT.getD r 0:Nat):=by
   simp only[Option.map_some,Option.some.injEq,DataW.lit.injEq,Lit.int.injEq,true_and] at e4;rw[e4,zsE,zsF (by omega:r<tzT.length)];rfl
  rw[World.var?_cell hg hv r,<- hz];have:cs.toList[r]? = some (.int .u8 z):=by
   have h0:((cs.toList.drop r).take 1)[0]? = some (.int .u8 z):=by rw[e1];rfl
   simpa using h0
  simpa using this
 exact⟨zsQ W ⟨0,0,none⟩ (key 0 (by decide)),key⟩
end Go.Proofs.YtieciibnajeibaaGreatDoor

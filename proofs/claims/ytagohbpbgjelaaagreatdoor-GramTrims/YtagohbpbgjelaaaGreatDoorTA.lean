/- The table that the rows list, as it lies; the code's contracts together. -/
import Derived.Test.YtagohbpbgjelaaaGreatDoorTie
import Derived.Test.YtagohbpbgjelaaaGreatDoorJE
import Derived.Test.YtagohbpbgjelaaaGreatDoorJA
import Derived.Test.YtagohbpbgjelaaaGreatDoorA5
import Derived.Test.YtagohbpbgjelaaaGreatDoorIA
import Derived.Test.YtagohbpbgjelaaaGreatDoorH2
import Derived.Test.YtagohbpbgjelaaaGreatDoorHQ
import Derived.LaidMore
import Derived.Lay
namespace Go.Proofs.YtagohbpbgjelaaaGreatDoor
open Go.ChangeShapes Go.WideShapes Go.ChangeAt Go.RowKit

theorem tab_of {W : World} (h : laidMetH Tryz.prog [("math/bits.deBruijn64tab", Rows.laid_math_bits_deBruijn64tab)] W) : Tb W.heap.size W := by
 have key:∀ r,r<64→W.cell? ⟨0,r,none⟩=some (.int .u8 (tzT.getD r 0:Nat)):=by
  intro r hr
  rw[MakeChecks.laidMetH_plain _ _ _ (by kernel_rfl)] at h
  obtain⟨ps,⟨g,t,cs,fuel,p,q,hg,ht,hv,hd,_,_⟩,_,_⟩:=h
  obtain rfl := Option.some.inj ((show Tryz.prog.globalNamed "math/bits.deBruijn64tab" = some 0 by kernel_rfl).symm.trans hg)
  obtain rfl:=Option.some.inj ((show (Tryz.prog.globals[0]?).map (·.type)=some 180 by kernel_rfl).symm.trans ht)
  obtain⟨xs,m,_,ex,_,hl,hel⟩:=DataW.trod_array Tryz.underlying180 hd
  have c5:Tryz.prog.cellsOf 5=1:=by kernel_rfl
  have hE:=hel r hr
  rw[c5,Nat.mul_one,List.getElem?_eq_getElem (by omega)] at hE
  obtain⟨z,e1,e2,_⟩:=DataW.trod_int Tryz.underlying5 hE
  have hlen:tzT.length=64:=by kernel_rfl
  have e3:(xs.map (·.1))=tzT.map fun n:Nat=>(.lit (.int .u8 (n:Int)):DataW Unit):=(DataW.agg.inj (Prod.mk.inj ex).1).symm
  have e4:(xs.map (·.1))[r]? = (tzT.map fun n:Nat=>(DataW.lit (.int .u8 (n:Int)):DataW Unit))[r]?:=by rw[e3]
  rw[List.getElem?_map,List.getElem?_map,List.getElem?_eq_getElem (by omega:r<xs.length),List.getElem?_eq_getElem (by omega:r<tzT.length),e2] at e4
  have hz:z=(tzT.getD r 0:Nat):=by
   simp only[Option.map_some,Option.some.injEq,DataW.lit.injEq,Lit.int.injEq,true_and] at e4
   rw[e4,List.getD_eq_getElem?_getD,List.getElem?_eq_getElem (by omega:r<tzT.length)];rfl
  rw[World.var?_cell hg hv r,← hz]
  have:cs.toList[r]? = some (.int .u8 z):=by
   have h0:((cs.toList.drop r).take 1)[0]? = some (.int .u8 z):=by rw[e1];rfl
   simpa using h0
  simpa using this
 exact⟨World.block_lt_of_cell? W ⟨0,0,none⟩ (key 0 (by decide)),key⟩
end Go.Proofs.YtagohbpbgjelaaaGreatDoor

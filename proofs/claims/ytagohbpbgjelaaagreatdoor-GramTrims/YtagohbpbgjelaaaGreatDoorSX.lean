/- Sort of rows of numbers. -/
import Derived.Test.YtagohbpbgjelaaaGreatDoorSH
import Derived.Test.YtagohbpbgjelaaaGreatDoorA5
import Derived.Test.YtagohbpbgjelaaaGreatDoorWkK1
import Derived.Test.YtagohbpbgjelaaaGreatDoorL2
namespace Go.Proofs.YtagohbpbgjelaaaGreatDoor
open Go.RowKit Go.Sort

set_option maxRecDepth 100000 in
theorem ziL {W:World} {B b cap:Nat} {xs:List Int} (h:W.ownsRow B 3 1 (.slice (some ⟨b,0,none⟩) xs.length cap) xs.length (zal xs)):Holds (Value.int .i64) W b 0 xs.toArray:=fun j hj=>by
 have hj':j<xs.length:=by simpa using hj
 rw[Nat.zero_add]
 refine⟨?_,?_⟩
 ·rw[Wk.own_cell h rfl j (by rw[zbl];exact hj')]
  unfold zal
  simp[List.getD_eq_getElem?_getD,hj']
 ·rcases h.2 with ⟨h1,_⟩ | ⟨g,cap',cur,h1,_,h3,_⟩
  ·cases h1
  ·simp only[Value.slice.injEq,Option.some.injEq,Addr.mk.injEq] at h1
   obtain⟨⟨rfl,-⟩,-⟩:=h1
   exact Wk.frozen_block h3 j
set_option maxRecDepth 100000 in
theorem zoP (W:World) (q b off:Nat) (d:Array Int)   : Wk.Off (fun k=>k=b) W (putRow (Value.int .i64) (Sort.ahead W q) b off d) :=
 ⟨rfl,rfl,rfl,by rw[size_putRow];exact Nat.le_refl _,fun k _ hn=>by
  show (W.heap.modify b _)[k]? = _
  rw[Array.getElem?_modify,if_neg (by omega)]⟩
set_option maxRecDepth 100000 in
theorem zqM {W:World} {B b cap:Nat} {xs:List Int} (h:W.ownsRow B 3 1 (.slice (some ⟨b,0,none⟩) xs.length cap) xs.length (zal xs)) (q:Nat) (l m:List Int) (hl:(l ++ m).length=xs.length) :
 (putRow (Value.int .i64) (Sort.ahead W q) b 0 (l ++ m).toArray).ownsRow B 3 1 (.slice (some ⟨b,0,none⟩) l.length cap) l.length (zal l):=by
 have hH:=ziL h
 rcases h.2 with ⟨h1,_⟩ | ⟨g,cap',cur,h1,hB,h3,hn,hm,hs,_⟩
 ·cases h1
 simp only[Value.slice.injEq,Option.some.injEq,Addr.mk.injEq] at h1
 obtain⟨⟨rfl,-⟩,-,rfl⟩:=h1
 have hl':l.length+m.length=xs.length:=by simpa using hl
 refine⟨by rw[zbl];omega,.inr ⟨b,cap,putCells (Value.int .i64) 0 (l ++ m).toArray cur,rfl,hB,?_,by omega,hm,by simpa [putCells] using hs,?_⟩⟩
 ·show (W.heap.modify b _)[b]? = _
  rw[Array.getElem?_modify,if_pos rfl,h3]
  rfl
 ·refine List.ext_getElem? fun j=>?_
  by_cases hj:j<l.length
  ·rw[List.getElem?_take_of_lt (by omega),Array.getElem?_toList]
   unfold putCells zal
   rw[Array.getElem?_mapIdx,Array.getElem?_eq_getElem (by omega),List.getElem?_map,List.getElem?_eq_getElem hj]
   simp only[Option.map_some]
   rw[if_pos ⟨Nat.zero_le _,by simp;omega⟩]
   simp[List.getElem?_append_left hj,hj]
  ·rw[List.getElem?_eq_none (by simp;omega),List.getElem?_eq_none (by rw[zbl];omega)]

set_option maxRecDepth 100000 in
theorem zoT {W:World} {B n:Nat} {e:TypeId} {size:Nat} {v:Value} {xs:List Value} (h:W.ownsRow B e size v n xs) (os:Array Obj):(grow W os).ownsRow B e size v n xs :=
 Wk.own_off (O:=fun _=>False) h ⟨rfl,rfl,rfl,by rw[size_grow];omega,fun _ hk _=>heap_grow_old W os hk⟩ (fun _ _ h=>h)
set_option maxRecDepth 100000 in
theorem zmr (B:Nat) (a:Option Addr) (c:Nat) (xs:List Int) (hn:xs.length≤281474976710656) (w:World) (h:w.ownsRow B 3 1 (.slice a xs.length c) xs.length (zal xs)) :
 Calls Tryz.prog 125 #[.slice a xs.length c] w fun e w'=>e=.returned (.tuple #[])∧w'.ownsRow B 3 1 (.slice a xs.length c) xs.length (zal (xs.mergeSort fun x y=>decide (x≤y)))∧Below B w w':=by
 by_cases h0:xs.length=0
 ·obtain rfl:xs=[]:=List.length_eq_zero_iff.1 h0
  have hc:=Any.slices_Sort_int_none Tryz.lays189 a c w
  refine hc.mono ?_
  rintro e w' ⟨rfl,rfl⟩
  exact⟨rfl,by simpa using h,Below.refl _ _⟩
 ·obtain⟨g,c',hv,hg,hlt,hle,hmx⟩:=Wk.own_pos h (by omega)
  simp only[Value.slice.injEq] at hv
  obtain⟨rfl,-,rfl⟩:=hv
  have hc:=Any.slices_Sort_int Tryz.lays189 g 0 c xs w (ziL h) hlt (by omega)
  refine hc.mono ?_
  rintro e w' ⟨rfl,q,os,rfl⟩
  have h1:=zqM h q (xs.mergeSort fun x y=>decide (x≤y)) [] (by simp)
  rw[List.append_nil,List.length_mergeSort] at h1
  have hoff:=zoP w q g 0 (xs.mergeSort fun x y=>decide (x≤y)).toArray
  refine⟨rfl,zoT h1 os,?_⟩
  refine⟨rfl,rfl,rfl,by rw[size_grow];exact Nat.le_trans hoff.size (Nat.le_add_right _ _),fun k hk=>?_⟩
  rw[heap_grow_old _ os (by have:=hoff.size;omega)]
  exact hoff.block k (by omega) (by omega)
end Go.Proofs.YtagohbpbgjelaaaGreatDoor

namespace Go.Proofs.YtagohbpbgjelaaaGreatDoor
open Go.RowKit Go.Maps

theorem hbyte5:(Tryz.prog.info? 5).map (fun i=>(i.zero,i.size,i.bytes))=some (some (.int .u8 0),1,1):=by kernel_rfl
theorem znw:(Tryz.prog.info? 140).map (·.size)=some 2:=by kernel_rfl
set_option maxHeartbeats 1000000 in
set_option maxRecDepth 100000 in
theorem znS (b:Nat) (w:World) (h0:w.cell? ⟨b,0,none⟩=some (.pointer (some ⟨b,0,none⟩))) :
 Calls Tryz.prog 131 #[.pointer (some ⟨b,0,none⟩)] w fun e w'=>e=.returned (.tuple #[])∧w'=w:=by
 obtain⟨j,hj,_⟩:=Option.map_eq_some_iff.1 znw
 go_enter Tryz.func131,Tryz.ntmps131
 go_wp2
 rw[Lib.run_neq_ptr_same w _ Tryz.underlying137 hj]
 go_wp2
 go_end0
 exact⟨rfl,rfl⟩
set_option maxHeartbeats 1000000 in
set_option maxRecDepth 100000 in
theorem zlJ (b:Nat) (w:World) (h0:w.cell? ⟨b,0,none⟩=some (.pointer none)) (hsh:w.shape? b=some (140,2)) (hfz:w.frozen? ⟨b,0,none⟩=false) :
 Calls Tryz.prog 131 #[.pointer (some ⟨b,0,none⟩)] w fun e w'=>e=.returned (.tuple #[])∧w'=w.setCell ⟨b,0,none⟩ (.pointer (some ⟨b,0,none⟩)):=by
 obtain⟨j,hj,hjs⟩:=Option.map_eq_some_iff.1 znw
 go_enter Tryz.func131,Tryz.ntmps131
 go_wp2
 rw[Lib.run_to_unsafe w ⟨b,0,none⟩ Tryz.underlying137 Tryz.underlying218 hj (by rw[hjs];decide) hsh (Nat.zero_lt_succ 1)]
 simp only[Result.andThen]
 rw[Oper.upon_value]
 go_wp2
 rw[run_callFunc_extern Tryz.func152 (by kernel_rfl) (by kernel_rfl) (by kernel_rfl) (e:=Extern.AbiNoEscape.same) (by kernel_rfl)]
 rw[Lib.run_noEscape]
 simp only[Result.andThen]
 rw[Oper.upon_value]
 go_wp2
 rw[Lib.run_from_unsafe w ⟨b,0,none⟩ Tryz.underlying218 Tryz.underlying137 hj hsh (by kernel_rfl)]
 simp only[Result.andThen]
 rw[Oper.upon_value]
 go_wp2
 go_end0
 exact⟨rfl,rfl⟩
theorem zpJ (B b:Nat) (bs:List Value) (w:World) (h:Lib.IsBuilder 140 5 B b bs w) :
 Calls Tryz.prog 131 #[.pointer (some ⟨b,0,none⟩)] w fun e w'=>e=.returned (.tuple #[])∧(Lib.BuilderAt 140 5 B b (.pointer (some ⟨b,0,none⟩)) bs w'∧Below B w w'):=by
 rcases h with h | h
 ·refine(zlJ b w h.cell0 h.shape h.frozen0).mono ?_
  rintro e w' ⟨rfl,rfl⟩
  exact⟨rfl,h.used _,(Below.refl B w).setCell (p:=⟨b,0,none⟩) h.1 _⟩
 ·refine(znS b w h.cell0).mono ?_
  rintro e w' ⟨rfl,rfl⟩
  exact⟨rfl,h,Below.refl B _⟩

set_option maxHeartbeats 2000000 in
set_option maxRecDepth 100000 in
theorem zfJ (B b:Nat) (bs:List Value) (s:ByteArray) (w:World) (h:Lib.IsBuilder 140 5 B b bs w) (hlen:bs.length+s.size≤140737488355328) (hBw:B≤w.heap.size) :
 Calls Tryz.prog 103 #[.pointer (some ⟨b,0,none⟩),.string s] w fun e w'=>e=.returned (.tuple #[.int .i64 s.size,.nilIface])∧(Lib.BuilderAt 140 5 B b (.pointer (some ⟨b,0,none⟩)) (bs ++ Lib.strCells s) w'∧Below B w w'):=by
 obtain⟨i0,hi,hz0,hz1,hz2⟩:=zao hbyte5
 go_enter Tryz.func103,Tryz.ntmps103
 go_wp2_with fail
 refine(zpJ B b bs _ h).mono ?_
 rintro e w1 ⟨rfl,h1,hb1⟩
 obtain⟨hB,v,hbk,hown,hne⟩:=h1
 have c1:=Wk.cell_block hbk 1 _ rfl
 go_wp2_with (at_builtin;refine Lib.wpList_append_own_string _ rfl _ _ 138 9 rfl B 5 i0 Tryz.underlying138 Tryz.underlying9 hi hz0 hz1 hz2 _ _ _ rfl hown s rfl ?zc3 ?zc4 ?zc5 ?_)
 case zc3=>unfold maxLen;omega
 case zc4=>omega
 case zc5=>have:=hb1.size;omega
 intro v' w2 hown' hgrow _
 have hlt:=Wk.lt_of_some hbk
 have hb2:w2.heap[b]? = some (.cells #[.pointer (some ⟨b,0,none⟩),v] 140 (0,0)):=by
  rw[hgrow.block b hlt (fun e=>hne e.symm)]
  exact hbk
 have d1:=Wk.cell_block hb2 1 _ rfl
 have f1:=Wk.frozen_block hb2 1
 obtain⟨ao,n',cap,rfl⟩:∃ ao n' cap,v'=.slice ao n' cap:=by
  rcases hown'.2 with ⟨hv,_⟩ | ⟨g,cap,cur,hv,_⟩
  ·exact⟨_,_,_,hv⟩
  ·exact⟨_,_,_,hv⟩
 go_wp2
 go_ret2
 refine⟨rfl,?_,?_⟩
 ·exact Lib.BuilderAt.put (T:=140) (e:=5) hB hb2 (bs':=bs ++ Lib.strCells s) (by simpa [Lib.strCells_length] using hown') (by decide)
 ·exact(hb1.grown hgrow (by have:=hb1.size;omega) (fun k hk=>(hown.lt k hk).1)).setCell (p:=⟨b,1,none⟩) hB _
end Go.Proofs.YtagohbpbgjelaaaGreatDoor

import Derived.Test.YtieciibnajeibaaGreatDoorSH
import Derived.Test.YtieciibnajeibaaGreatDoorB1
import Derived.Test.YtieciibnajeibaaGreatDoorWkK1
set_option maxHeartbeats 8000000
set_option maxRecDepth 100000
namespace Go.Proofs.YtieciibnajeibaaGreatDoor
open Go.RowKit Go.Sort
variable{B b cap:Nat}{W:World}{xs:List Int}
theorem zkk(h:W.ownsRow B 3 1 (.slice (some ⟨b,0,none⟩) xs.length cap) xs.length (zao xs)):Holds (Value.int .i64) W b 0 xs.toArray:=λj hj=>by
 have hj':j<xs.length:=by simpa using hj
 rw[Nat.zero_add];refine⟨?_,?_⟩
 ·rw[Wk.own_cell h rfl j (by rw[zbh];exact hj')];unfold zao;simp[List.getD_eq_getElem?_getD,hj']
 ·rcases h.2 with ⟨h1,_⟩ | ⟨g,cap',cur,h1,_,h3,_⟩
  ·cases h1
  ·simp only[Value.slice.injEq,Option.some.injEq,Addr.mk.injEq] at h1;obtain⟨⟨rfl,-⟩,-⟩:=h1;exact Wk.frozen_block h3 j
theorem zsf(W:World)(q b off:Nat)(d:Array Int)   : Wk.Off (λk=>k=b) W (putRow (Value.int .i64) (Sort.ahead W q) b off d) :=
 ⟨rfl,rfl,rfl,by rw[size_putRow];exact zsG _,λk _ hn=>by
  show (W.heap.modify b _)[k]? = _
  rw[Array.getElem?_modify,if_neg (by omega)]⟩
theorem zvE(h:W.ownsRow B 3 1 (.slice (some ⟨b,0,none⟩) xs.length cap) xs.length (zao xs))(q:Nat)(l m:List Int)(hl:(l ++ m).length=xs.length) :
 (putRow (Value.int .i64) (Sort.ahead W q) b 0 (l ++ m).toArray).ownsRow B 3 1 (.slice (some ⟨b,0,none⟩) l.length cap) l.length (zao l):=by
 have hH:=zkk h;rcases h.2 with ⟨h1,_⟩ | ⟨g,cap',cur,h1,hB,h3,hn,hm,hs,_⟩
 ·cases h1
 simp only[Value.slice.injEq,Option.some.injEq,Addr.mk.injEq] at h1;obtain⟨⟨rfl,-⟩,-,rfl⟩:=h1;have hl':l.length+m.length=xs.length:=by simpa using hl
 refine⟨by rw[zbh];omega,.inr ⟨b,cap,putCells (Value.int .i64) 0 (l ++ m).toArray cur,rfl,hB,?_,by omega,hm,by simpa [putCells] using hs,?_⟩⟩
 ·show (W.heap.modify b _)[b]? = _;rw[Array.getElem?_modify,if_pos rfl,h3];rfl
 ·refine List.ext_getElem? λj=>?_;by_cases hj:j<l.length
  ·rw[List.getElem?_take_of_lt (by omega),Array.getElem?_toList];unfold putCells zao;rw[Array.getElem?_mapIdx,Array.getElem?_eq_getElem (by omega),List.getElem?_map,zsF hj];simp only[Option.map_some];rw[if_pos ⟨zsK _,by simp;omega⟩];simp[List.getElem?_append_left hj,hj]
  ·rw[List.getElem?_eq_none (by simp;omega),List.getElem?_eq_none (by rw[zbh];omega)]
theorem zsr{n:Nat}{e:TypeId}{size:Nat}{v:Value}{xs:List Value}(h:W.ownsRow B e size v n xs)(os:Array Obj):(grow W os).ownsRow B e size v n xs :=
 Wk.own_off (O:=λ_=>False) h ⟨rfl,rfl,rfl,by rw[size_grow];omega,λ_ hk _=>heap_grow_old W os hk⟩ (λ_ _ h=>h)
theorem zo3(B:Nat)(a:Option Addr)(c:Nat)(xs:List Int)(hn:xs.length<=281474976710656)(w:World)(h:w.ownsRow B 3 1 (.slice a xs.length c) xs.length (zao xs)) :
 Calls Tryz.prog 184 #[.slice a xs.length c] w λe w'=>e=.returned (.tuple #[])/\w'.ownsRow B 3 1 (.slice a xs.length c) xs.length (zao (xs.mergeSort λx y=>decide (x<=y)))/\Below B w w':=by
 by_cases h0:xs.length=0
 ·obtain rfl:xs=[]:=List.length_eq_zero_iff.1 h0;have hc:=Any.slices_Sort_int_none Tryz.lays189 a c w;refine hc.mono ?_;rintro e w' ⟨rfl,rfl⟩;exact⟨rfl,by simpa using h,zsY _ _⟩
 ·obtain⟨g,c',hv,hg,hlt,hle,hmx⟩:=Wk.own_pos h (by omega);simp only[Value.slice.injEq] at hv;obtain⟨rfl,-,rfl⟩:=hv;have hc:=Any.slices_Sort_int Tryz.lays189 g 0 c xs w (zkk h) hlt (by omega);refine hc.mono ?_;rintro e w' ⟨rfl,q,os,rfl⟩;have h1:=zvE h q (xs.mergeSort λx y=>decide (x<=y)) [] (by simp);rw[List.append_nil,List.length_mergeSort] at h1;have hoff:=zsf w q g 0 (xs.mergeSort λx y=>decide (x<=y)).toArray;refine⟨rfl,zsr h1 os,?_⟩;refine⟨rfl,rfl,rfl,by rw[size_grow];exact zsy hoff.size (Nat.le_add_right _ _),λk hk=>?_⟩;rw[heap_grow_old _ os (by have:=hoff.size;omega)];exact hoff.block k (by omega) (by omega)
end Go.Proofs.YtieciibnajeibaaGreatDoor
